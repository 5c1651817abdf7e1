/- PL6, PL7 -/
import Derived.Test.YtegpnicajlndlaaQbm
namespace Go.Proofs.Ytegpnicajlndlaa
open Go.RowKit M
set_option linter.unusedSimpArgs false
set_option linter.unusedVariables false
structure MT (W : World) (p : PG) (b : Nat) : Prop where
 ex : ∃ a c, IsS W b 22 [.slice a p.threads.length c] ∧ RowsV W (.slice a p.threads.length c) op5L p.threads
theorem MT.below {W W' : World} {p : PG} {b : Nat} (h : MT W p b) (hB : Below W.heap.size W W') : MT W' p b := by
 obtain ⟨a, c, h1, h2⟩ := h.ex
 exact ⟨a, c, h1.grown hB, h2.below hB⟩
structure MTF (W : World) (B : Nat) (p : PG) (b : Nat) : Prop where
 ex : ∃ a c, b < B ∧ IsS W b 22 [.slice a p.threads.length c] ∧ ∀ V, Below B W V → RowsV V (.slice a p.threads.length c) op5L p.threads
theorem MT.mtf {W : World} {p : PG} {b : Nat} (h : MT W p b) : MTF W W.heap.size p b := by
 obtain ⟨a, c, h1, h2⟩ := h.ex
 exact ⟨a, c, h1.lt, h1, fun V hV => h2.below hV⟩
theorem MTF.on {W W' : World} {B : Nat} {p : PG} {b : Nat} (h : MTF W B p b) (hB : Below B W W') : MTF W' B p b := by
 obtain ⟨a, c, h0, h1, h2⟩ := h.ex
 exact ⟨a, c, h0, (hB.block b h0).trans h1, fun V hV => h2 V (hB.trans hV)⟩
set_option maxRecDepth 100000 in
set_option maxHeartbeats 4000000 in
theorem new1_any (p : PG) (hv : Vld p) (hf : p.Few) (s : ST) (hfit : Fits (shpOf p) s) (b : Nat) (v1 v2 v3 v4 v5 : Value) (w : World) (hM : MT w p b) (hS : STV w s v1 v2 v3 v4 v5) :
    Calls Try.prog 52 #[.agg #[v1, v2, v3, v4, v5, .int .i64 s.lock], .pointer (some ⟨b, 0, none⟩)] w fun e w' => ∃ v, e = .returned v ∧ w'.ownsRow w.heap.size 68 3 v (picksS p.threads s p.threads.length).length ((picksS p.threads s p.threads.length).flatMap pkE) ∧ Below w.heap.size w w' := by
 obtain ⟨a, c, hb, hT⟩ := hM.ex
 have e1 : (shpOf p).ins.length = p.threads.length := (shp_len hv).1
 have hC := fun W (h1 : RowsV W (.slice a p.threads.length c) op5L p.threads) (h2 : STV W s v1 v2 v3 v4 v5) => plainPicks_any p.threads s p.threads.length c a (few_fits hv hfit) (by rw [hfit.pc, e1]) (by rw [hfit.ph, e1]) (by rw [hfit.bf, e1]) rfl hf.tt v1 v2 v3 v4 v5 W h1 h2
 obtain ⟨n, hn⟩ : ∃ n, p.threads.length = n := ⟨_, rfl⟩
 have HT : Hid (RowsV w (.slice a n c) op5L p.threads) := by rw [← hn]; exact hT
 have HS : Hid (STV w s v1 v2 v3 v4 v5) := hS
 have HB : Hid (IsS w b 22 [.slice a n c]) := by rw [← hn]; exact hb
 obtain ⟨lk, hlk⟩ : ∃ k, s.lock = k := ⟨_, rfl⟩
 simp only [hn, hlk] at hC ⊢
 obtain ⟨L, hL⟩ : ∃ l, picksS p.threads s n = l := ⟨_, rfl⟩
 simp only [hL] at hC ⊢
 clear hM hS hT hb hf hv hfit hn hlk e1
 have t1 : True := trivial
 have t3 : True := trivial
 go_enter Try.func52, Try.ntmps52
 go_wp2_with (first
  | (clear t1; refine wpList_boxS rfl 32 _ rfl [v1, v2, v3, v4, v5, .int .i64 lk] rfl ?_; intro W1 b3 F1 C1; have B1 := F_b F1; have yb : W1.cell? ⟨b, 0, none⟩ = some (.slice a n c) := (HB.out.grown B1).cell 0; clear F1)
  | (clear t3; refine wpList_loadW rfl 32 _ rfl rfl C1 _ Try.underlying32 rfl infoSt ?_)
  | (go_at_call 53; refine (hC _ (HT.out.below B1) (HS.out.below B1)).mono ?_; rintro e W2 ⟨v, rfl, O2, B2⟩))
 go_ret
 exact ⟨v, rfl, own_raise O2 B1.size, Below.then B1 B2⟩
set_option maxRecDepth 100000 in
set_option maxHeartbeats 4000000 in
theorem new3_any (p : PG) (hv : Vld p) (hf : p.Few) (s : ST) (hfit : Fits (shpOf p) s) (b : Nat) (v1 v2 v3 v4 v5 : Value) (w : World) (hM : MT w p b) (hS : STV w s v1 v2 v3 v4 v5) :
    Calls Try.prog 56 #[.agg #[v1, v2, v3, v4, v5, .int .i64 s.lock], .pointer (some ⟨b, 0, none⟩)] w fun e w' => e = .returned (.bool (plainB s && doneB p.threads s.pc)) ∧ Below w.heap.size w w' := by
 obtain ⟨a, c, hb, hT⟩ := hM.ex
 have e1 : (shpOf p).ins.length = p.threads.length := (shp_len hv).1
 have hC := fun W (h1 : RowsV W (.slice a p.threads.length c) op5L p.threads) (h2 : STV W s v1 v2 v3 v4 v5) => plainEnds_any p.threads s p.threads.length c a (few_fits hv hfit) (by rw [hfit.pc, e1]) (by rw [hfit.ph, e1]) (by rw [hfit.bf, e1]) rfl hf.tt v1 v2 v3 v4 v5 W h1 h2
 obtain ⟨n, hn⟩ : ∃ n, p.threads.length = n := ⟨_, rfl⟩
 have HT : Hid (RowsV w (.slice a n c) op5L p.threads) := by rw [← hn]; exact hT
 have HS : Hid (STV w s v1 v2 v3 v4 v5) := hS
 have HB : Hid (IsS w b 22 [.slice a n c]) := by rw [← hn]; exact hb
 obtain ⟨lk, hlk⟩ : ∃ k, s.lock = k := ⟨_, rfl⟩
 simp only [hn, hlk] at hC ⊢
 obtain ⟨L, hL⟩ : ∃ l, (plainB s && doneB p.threads s.pc) = l := ⟨_, rfl⟩
 simp only [hL] at hC ⊢
 clear hM hS hT hb hf hv hfit hn hlk e1
 have t1 : True := trivial
 have t3 : True := trivial
 go_enter Try.func56, Try.ntmps56
 go_wp2_with (first
  | (clear t1; refine wpList_boxS rfl 32 _ rfl [v1, v2, v3, v4, v5, .int .i64 lk] rfl ?_; intro W1 b3 F1 C1; have B1 := F_b F1; have yb : W1.cell? ⟨b, 0, none⟩ = some (.slice a n c) := (HB.out.grown B1).cell 0; clear F1)
  | (clear t3; refine wpList_loadW rfl 32 _ rfl rfl C1 _ Try.underlying32 rfl infoSt ?_)
  | (go_at_call 57; refine (hC _ (HT.out.below B1) (HS.out.below B1)).mono ?_; rintro e W2 ⟨rfl, B2⟩))
 go_ret
 exact ⟨rfl, Below.then B1 B2⟩
theorem infoPk3 : (Try.prog.info? 68).map (·.size) = some 3 := by kernel_rfl
theorem SOwn.updS {W W' : World} {B b : Nat} {cs : List Value} {s : ST} {v1 v2 v3 v4 v5 : Value} {vs bs : List Value} (h : SOwn W B s v1 v2 v3 v4 v5 vs bs) (I : IsS W b 32 cs) (U : Upd W W' b) : SOwn W' B s v1 v2 v3 v4 v5 vs bs :=
 ⟨own_upd h.pc I U (by decide), own_upd h.ph I U (by decide), ⟨h.rg.len, own_upd h.rg.out I U (by decide), fun j u xs hu hx => own_upd (h.rg.row j u xs hu hx) I U (by decide), h.rg.apart⟩, own_upd h.mm I U (by decide), h.am, own_upd h.bf I U (by decide), h.bl, fun j u l hu hl => own_upd (h.be j u l hu hl) I U (by decide), h.ba⟩
def StB (w : World) (B : Nat) (v1 v2 v3 v4 v5 : Value) (lk : Int) (vs bs : List Value) (r : Option ST) (e : Ending) (w' : World) : Prop :=
 (r = none → e = .returned (.tuple #[.agg #[v1, v2, v3, v4, v5, .int .i64 lk], .bool false]) ∧ Below B w w') ∧ (∀ s', r = some s' → e = .returned (.tuple #[.agg #[v1, v2, v3, v4, v5, .int .i64 lk], .bool true]) ∧ SOwn w' B s' v1 v2 v3 v4 v5 vs bs ∧ Below B w w')
set_option maxRecDepth 100000 in
set_option maxHeartbeats 4000000 in
theorem new2_any (p : PG) (hv : Vld p) (hf : p.Few) (s : ST) (hfit : Fits (shpOf p) s) (k : Int × Int × Int) (b B : Nat) (v1 v2 v3 v4 v5 : Value) (vs bs : List Value) (w : World) (hB : B ≤ w.heap.size) (hM : MTF w B p b) (hS : SOwn w B s v1 v2 v3 v4 v5 vs bs) (hap : ∀ k, v2.ownBlock = some k → v1.ownBlock ≠ some k) :
    Calls Try.prog 54 #[.agg #[v1, v2, v3, v4, v5, .int .i64 s.lock], .agg (pkL k).toArray, .pointer (some ⟨b, 0, none⟩)] w fun e w' => StB w B v1 v2 v3 v4 v5 s.lock vs bs (stepK p.threads s k) e w' := by
 obtain ⟨a, c, hbB, hb, hT⟩ := hM.ex
 have e1 : (shpOf p).ins.length = p.threads.length := (shp_len hv).1
 obtain ⟨hI, hL⟩ := inv_fits hv hfit
 have hC := fun W (h0 : B ≤ W.heap.size) (h1 : RowsV W (.slice a p.threads.length c) op5L p.threads) (h2 : SOwn W B s v1 v2 v3 v4 v5 vs bs) => plainStep_any p hv hf s (few_fits hv hfit) hI (by rw [hfit.ph, e1]) (by rw [hfit.bf, e1]) k B c a v1 v2 v3 v4 v5 vs bs W h0 h1 h2 hap
 obtain ⟨n, hn⟩ : ∃ n, p.threads.length = n := ⟨_, rfl⟩
 rw [hn] at hb
 have HTB : Hid (∀ W, Below B w W → RowsV W (.slice a n c) op5L p.threads) := by rw [← hn]; exact hT
 have HS : Hid (SOwn w B s v1 v2 v3 v4 v5 vs bs) := hS
 obtain ⟨lk, hlk⟩ : ∃ k, s.lock = k := ⟨_, rfl⟩
 have hone0 := stv_one lk hS.stv
 simp only [hn, hlk] at hC ⊢
 obtain ⟨r, hr0⟩ : ∃ r, stepK p.threads s k = r := ⟨_, rfl⟩
 simp only [hr0] at hC ⊢
 have HQ : Hid ((r = none → ∀ e w', (e = .returned (.tuple #[.agg #[v1, v2, v3, v4, v5, .int .i64 lk], .bool false]) ∧ Below B w w') → StB w B v1 v2 v3 v4 v5 lk vs bs r e w') ∧ (∀ s', r = some s' → ∀ e w', (e = .returned (.tuple #[.agg #[v1, v2, v3, v4, v5, .int .i64 lk], .bool true]) ∧ SOwn w' B s' v1 v2 v3 v4 v5 vs bs ∧ Below B w w') → StB w B v1 v2 v3 v4 v5 lk vs bs r e w')) :=
  ⟨fun h e w' he => ⟨fun _ => he, fun s' h' => by rw [h] at h'; cases h'⟩, fun s' h e w' he => ⟨fun h' => (by rw [h] at h'; cases h'), fun s'' h' => by rw [h] at h'; cases h'; exact he⟩⟩
 generalize StB w B v1 v2 v3 v4 v5 lk vs bs r = QQ at *
 clear hM hS hT hap hf hv hfit hn hlk hr0 hI hL e1
 have t1 : True := trivial
 have t2 : True := trivial
 have t3 : True := trivial
 go_enter Try.func54, Try.ntmps54
 go_wp2_with (first
  | (clear t1; refine wpList_boxS rfl 32 _ rfl [v1, v2, v3, v4, v5, .int .i64 lk] rfl ?_; intro W1 b3 F1 C1; have B1 := F_b F1; have T1 := hb.fresh F1; clear F1)
  | (clear t2; refine wpList_boxS rfl 68 _ rfl (pkL k) rfl ?_; intro W2 b4 F2 K2; have C2 := C1.fresh F2; have T2 := T1.fresh F2; have B2 := F2.trans B1 B1.size; clear F2 C1 T1)
  | (clear t3; refine wpList_allocS rfl 32 rfl zst zeroSt ?_; intro W5 b5 F5 R5; have S5 := C2.fresh F5; have K5 := K2.fresh F5; have T5 := T2.fresh F5; have B50 := F5.trans B2 B2.size; have B5 := B50.mono hB; have hB5 := Nat.le_trans hB B50.size; have hb5B : B ≤ b5 := (by have := F5.at'; have := B2.size; omega); clear F5 C2 K2 T2 B1 B2))
 have S0 := HS.out.below B50
 refine region_invA 5 (fun a0 listed a' w' => ∃ x7 x8 x9 x10 x11 : Value, a' = (((((a0.put (some 7) x7).put (some 8) x8).put (some 9) x9).put (some 10) x10).put (some 11) x11) ∧ Hid (Fz B W5 w') ∧ (listed.getD 4 false = false → SOwn w' B s v1 v2 v3 v4 v5 vs bs) ∧ (listed.getD 0 false = true → x7 = (.agg [v1, v2, v3, v4, v5, .int .i64 lk].toArray)) ∧ (listed.getD 1 false = true → x8 = (.slice a n c)) ∧ (listed.getD 2 false = true → x9 = (.agg [v1, v2, v3, v4, v5, .int .i64 lk].toArray)) ∧ (listed.getD 3 false = true → x10 = (.agg (pkL k).toArray)) ∧ (listed.getD 4 false = true → (r = none → x11 = .bool false) ∧ (∀ s', r = some s' → x11 = .bool true ∧ SOwn w' B s' v1 v2 v3 v4 v5 vs bs))) (by kernel_rfl) (by kernel_rfl) ?i0n ?istepn ?iendn
 case i0n => exact ⟨_, _, _, _, _, by (try simp only [sP]) <;> rfl, Fz.of_below (below_drew bR) hB5, fun _ => S0.below (below_drew bR), fun h => (not_rep h).elim, fun h => (not_rep h).elim, fun h => (not_rep h).elim, fun h => (not_rep h).elim, fun h => (not_rep h).elim⟩
 case istepn =>
  rintro i listed a' w' hi hr ⟨x7, x8, x9, x10, x11, rfl, HBw, hpre, d0, d1, d2, d3, d4⟩
  obtain ⟨hun, oj, hoj, hwt⟩ := mem_ready.1 hr
  simp only [sP]
  have hcase : i = 0 ∨ i = 1 ∨ i = 2 ∨ i = 3 ∨ i = 4 := by omega
  rcases hcase with rfl | rfl | rfl | rfl | rfl
  · have hoj2 := hoj
    obtain rfl := oI hoj
    refine wpOp_value hoj2 rfl (v := (.agg [v1, v2, v3, v4, v5, .int .i64 lk].toArray)) (w' := w') (exec_loadSX rfl rfl (HBw.out.keep _ _ _ (by decide) (by decide) S5) Try.underlying32 rfl infoSt) ?_
    exact ⟨(.agg [v1, v2, v3, v4, v5, .int .i64 lk].toArray), x8, x9, x10, x11, by (try simp only [sP]) <;> rfl, HBw, fun h => hpre (keepG (by decide) h), fun _ => rfl, d1 ∘ kq, d2 ∘ kq, d3 ∘ kq, d4 ∘ kq⟩
  · have hoj2 := hoj
    obtain rfl := oI hoj
    refine wpOp_cell hoj2 rfl 22 _ rfl rfl (v := (.slice a n c)) (by have h : w'.cell? ⟨b, 0, none⟩ = some (.slice a n c) := (HBw.out.keep _ _ _ (by decide) (by decide) T5).cell 0; simp [go_sem, h]) ?_
    exact ⟨x7, (.slice a n c), x9, x10, x11, by (try simp only [sP]) <;> rfl, HBw, fun h => hpre (keepG (by decide) h), d0 ∘ kq, fun _ => rfl, d2 ∘ kq, d3 ∘ kq, d4 ∘ kq⟩
  · have hoj2 := hoj
    obtain rfl := oI hoj
    refine wpOp_value hoj2 rfl (v := (.agg [v1, v2, v3, v4, v5, .int .i64 lk].toArray)) (w' := w') (exec_loadSX rfl rfl (HBw.out.keep _ _ _ (by decide) (by decide) S5) Try.underlying32 rfl infoSt) ?_
    exact ⟨x7, x8, (.agg [v1, v2, v3, v4, v5, .int .i64 lk].toArray), x10, x11, by (try simp only [sP]) <;> rfl, HBw, fun h => hpre (keepG (by decide) h), d0 ∘ kq, d1 ∘ kq, fun _ => rfl, d3 ∘ kq, d4 ∘ kq⟩
  · have hoj2 := hoj
    obtain rfl := oI hoj
    refine wpOp_value hoj2 rfl (v := (.agg (pkL k).toArray)) (w' := w') (exec_loadSX rfl rfl (HBw.out.keep _ _ _ (by decide) (by decide) K5) Try.underlying68 rfl infoPk3) ?_
    exact ⟨x7, x8, x9, (.agg (pkL k).toArray), x11, by (try simp only [sP]) <;> rfl, HBw, fun h => hpre (keepG (by decide) h), d0 ∘ kq, d1 ∘ kq, d2 ∘ kq, fun _ => rfl, d4 ∘ kq⟩
  · have hoj2 := hoj
    obtain rfl := oI hoj
    have e1 := d1 (hwt ⟨1, .data⟩ (by simp) rfl)
    have e2 := d2 (hwt ⟨2, .data⟩ (by simp) rfl)
    have e3 := d3 (hwt ⟨3, .data⟩ (by simp) rfl)
    subst e1 e2 e3
    have hpre0 := hpre (getD_both hun)
    refine wpOp_call hoj2 rfl (f := 55) (args := #[(.slice a n c), (.agg [v1, v2, v3, v4, v5, .int .i64 lk].toArray), (.agg (pkL k).toArray)]) (by first | rfl | (go_simp; done) | (simp [execOp, go_sem]; done)) ?_
    refine (hC w' (Nat.le_trans hB5 HBw.out.bel.size) (HTB.out w' (B5.trans HBw.out.bel)) hpre0).mono ?_
    rintro e w9 HA
    cases hr : r with
    | none =>
     obtain ⟨rfl, B9⟩ := HA.1 hr
     refine ⟨_, rfl, ?_⟩
     have O4 : Fz B w' w9 := Fz.of_below B9 (Nat.le_trans hB5 HBw.out.bel.size)
     exact ⟨x7, (.slice a n c), (.agg [v1, v2, v3, v4, v5, .int .i64 lk].toArray), (.agg (pkL k).toArray), (.bool false), by (try simp only [sP]) <;> rfl, HBw.out.trans O4, fun h => absurd h (by rw [nowU hun]; simp), d0 ∘ kq, d1 ∘ kq, d2 ∘ kq, d3 ∘ kq, fun _ => ⟨fun _ => rfl, fun s' h => by cases h⟩⟩
    | some s' =>
     obtain ⟨rfl, S9, O4⟩ := HA.2 s' hr
     refine ⟨_, rfl, ?_⟩
     exact ⟨x7, (.slice a n c), (.agg [v1, v2, v3, v4, v5, .int .i64 lk].toArray), (.agg (pkL k).toArray), (.bool true), by (try simp only [sP]) <;> rfl, HBw.out.trans O4, fun h => absurd h (by rw [nowU hun]; simp), d0 ∘ kq, d1 ∘ kq, d2 ∘ kq, d3 ∘ kq, fun _ => ⟨fun h => (by cases h), fun s'' h => (by cases h; exact ⟨rfl, S9⟩)⟩⟩
 case iendn =>
  rintro a' w' ⟨x7, x8, x9, x10, x11, rfl, HBw, hpre, d0, d1, d2, d3, d4⟩
  replace d0 := d0 rfl
  replace d1 := d1 rfl
  replace d2 := d2 rfl
  replace d3 := d3 rfl
  replace d4 := d4 rfl
  clear hpre
  simp only [sP]
  simp only [List.drop_succ_cons, List.drop_zero]
  have Fw := HBw.out
  obtain ⟨d4a, d4b⟩ := d4
  subst d0 d1 d2 d3
  clear HBw
  have R6 := Fw.keep _ _ _ (by decide) (by decide) R5
  have hone := hone0
  cases hr : r with
  | none =>
   have e4 := d4a hr
   subst e4
   go_wp2_with (first
    | (refine wpList_storeW rfl 32 _ _ rfl rfl [v1, v2, v3, v4, v5, .int .i64 lk] rfl R6 rfl infoSt hone ?_; intro W8 U8 R8))
   exact ret_ST rfl rfl rfl R8 _ Try.underlying32 rfl infoSt _ rfl (HQ.out.1 hr _ _ ⟨rfl, U8.trans (B5.trans Fw.bel) hb5B⟩)
  | some s' =>
   obtain ⟨e4, S4⟩ := d4b s' hr
   subst e4
   go_wp2_with (first
    | (refine wpList_storeW rfl 32 _ _ rfl rfl [v1, v2, v3, v4, v5, .int .i64 lk] rfl R6 rfl infoSt hone ?_; intro W8 U8 R8))
   exact ret_ST rfl rfl rfl R8 _ Try.underlying32 rfl infoSt _ rfl (HQ.out.2 s' hr _ _ ⟨rfl, S4.updS R6 U8, U8.trans (B5.trans Fw.bel) hb5B⟩)
structure MZ (W : World) (p : PG) (b : Nat) : Prop where
 ex : ∃ a1 c1 a2 c2, IsS W b 105 [.slice a1 p.threads.length c1, .slice a2 p.threads.length c2, .int .i64 (p.locs.length : Int)] ∧ Seg W a1 ((natI (shpOf p).ins).flatMap intE) ∧ Seg W a2 ((natI (shpOf p).rgs).flatMap intE)
theorem MZ.below {W W' : World} {p : PG} {b : Nat} (h : MZ W p b) (hB : Below W.heap.size W W') : MZ W' p b := by
 obtain ⟨a1, c1, a2, c2, h1, h2, h3⟩ := h.ex
 exact ⟨a1, c1, a2, c2, h1.grown hB, h2.below hB, h3.below hB⟩
structure MM (W : World) (p : PG) (bz bp bs be bt : Nat) : Prop where
 z : MZ W p bz
 t : MT W p bt
 fp : IsS W bp 73 [.func (.func 52) #[] #[.pointer (some ⟨bt, 0, none⟩)]]
 fs : IsS W bs 74 [.func (.func 54) #[] #[.pointer (some ⟨bt, 0, none⟩)]]
 fe : IsS W be 75 [.func (.func 56) #[] #[.pointer (some ⟨bt, 0, none⟩)]]
theorem MM.below {W W' : World} {p : PG} {bz bp bs be bt : Nat} (h : MM W p bz bp bs be bt) (hB : Below W.heap.size W W') : MM W' p bz bp bs be bt := ⟨h.z.below hB, h.t.below hB, h.fp.grown hB, h.fs.grown hB, h.fe.grown hB⟩
def RdM (w : World) (r : Option ST) (e : Ending) (w' : World) : Prop :=
 (r = none → e = .returned (.tuple #[.agg zst.toArray, .bool false]) ∧ Below w.heap.size w w') ∧
 (∀ s, r = some s → ∃ v1 v2 v3 v4 v5 vs bs, e = .returned (.tuple #[.agg #[v1, v2, v3, v4, v5, .int .i64 s.lock], .bool true]) ∧ SOwn w' w.heap.size s v1 v2 v3 v4 v5 vs bs ∧ (∀ k, v2.ownBlock = some k → v1.ownBlock ≠ some k) ∧ Below w.heap.size w w')
theorem stateOf2_any (p : PG) (hv : Vld p) (hf : p.Few) (T : ByteArray) (hT : T.size ≤ 1099511627776) (a1 a2 : Option Addr) (c1 c2 : Nat) (w : World) (h1 : Seg w a1 ((natI (shpOf p).ins).flatMap intE)) (h2 : Seg w a2 ((natI (shpOf p).rgs).flatMap intE)) :
    Calls Try.prog 44 #[.agg #[.slice a1 p.threads.length c1, .slice a2 p.threads.length c2, .int .i64 (p.locs.length : Int)], .string T] w fun e w' => RdM w (readS T (shpOf p)) e w' := by
 have hl := shp_len hv
 have hrg : ∀ x ∈ (shpOf p).rgs, x ≤ 1048576 := fun x hx => by
  unfold shpOf at hx
  obtain ⟨l, hm, rfl⟩ := List.mem_map.1 hx
  exact Nat.le_trans (flat_mem hm) hf.rr
 refine (stateOf_any (shpOf p) T p.threads.length p.locs.length a1 a2 c1 c2 hl.1 hl.2 rfl hf.t hf.l hrg hT w h1 h2).mono fun e w' h => ?_
 unfold StRead at h
 cases hrd : readS T (shpOf p) with
 | none => rw [hrd] at h; exact ⟨fun _ => h, fun s hs => by cases hs⟩
 | some s =>
  rw [hrd] at h
  obtain ⟨gp, gh, gr, gm, gb, rows, brows, h1, h2, h3⟩ := h
  refine ⟨fun hs => (by cases hs), fun s' hs => ?_⟩
  cases hs
  exact ⟨_, _, _, _, _, _, _, h1, SOwn.of_stb (few_fits hv (readS_some hrd).1) h2, fun k hk hk' => (by cases hk; exact h2.d1 (oI hk')), h3⟩
noncomputable def picksT (p : PG) (T : ByteArray) : List Nat := match readS T (shpOf p) with | none => [] | some s => picksS p.threads s p.threads.length
noncomputable def stepT (p : PG) (T : ByteArray) (k : Int × Int × Int) : Option ST := match readS T (shpOf p) with | none => none | some s => stepK p.threads s k
noncomputable def endT (p : PG) (T : ByteArray) : Option ST := match readS T (shpOf p) with | none => none | some s => if plainB s && doneB p.threads s.pc then some s else none
theorem zst_one : ∀ v ∈ zst, v.oneCell' = true := by
 intro v hv
 unfold zst at hv
 simp only [List.mem_cons, List.not_mem_nil, or_false] at hv
 rcases hv with rfl | rfl | rfl | rfl | rfl | rfl <;> rfl
theorem wpList_loadF {ops : Array Oper} {rest : List Oper} {op : Oper} {a : Act} {Q : Exit → Act → World → Prop} {w : World} {b t : Nat} {v : Value} (hgd : op.guard = none) (ty : TypeId) (x : Operand) (ho : op.op = .load ty x) (hx : a.eval x = .pointer (some ⟨b, 0, none⟩)) (I : IsS w b t [v])
    (hl : ∀ w, w.cell? ⟨b, 0, none⟩ = some v → (Instr.loadAt ty (.pointer (some ⟨b, 0, none⟩))).run Try.prog w = .ok v w) (h : wpList Try.prog ops Q rest (a.put op.dst v) w) : wpList Try.prog ops Q (op :: rest) a w := by
 refine wpList_plain hgd fun K hK => ?_
 unfold Oper.wp execOp
 simp only [ho, hx, Sem.run_bind, hl w (I.cell 0), Result.andThen_ok, Sem.run_pure]
 exact hK _ _ h
set_option maxRecDepth 100000 in
set_option maxHeartbeats 4000000 in
theorem mach1_any (p : PG) (hv : Vld p) (hf : p.Few) (T : ByteArray) (hT : T.size ≤ 1099511627776) (bz bp bs be bt : Nat) (w : World) (hM : MM w p bz bp bs be bt) :
    Calls Try.prog 65 #[.string T, .pointer (some ⟨bz, 0, none⟩), .pointer (some ⟨bp, 0, none⟩)] w fun e w' => ∃ v, e = .returned v ∧ w'.ownsRow w.heap.size 68 3 v (picksT p T).length ((picksT p T).flatMap pkE) ∧ Below w.heap.size w w' := by
 obtain ⟨a1, c1, a2, c2, Z0, SG1, SG2⟩ := hM.z.ex
 have hSt := fun W h1 h2 => stateOf2_any p hv hf T hT a1 a2 c1 c2 W h1 h2
 cases hrd : readS T (shpOf p) with
 | none =>
  have hpk : picksT p T = [] := by unfold picksT; rw [hrd]
  rw [hpk]
  rw [hrd] at hSt
  have hSt' := fun W h1 h2 => (hSt W h1 h2).mono fun e w' h => h.1 rfl
  clear hSt
  obtain ⟨n, hn⟩ : ∃ n, p.threads.length = n := ⟨_, rfl⟩
  obtain ⟨nl, hnl⟩ : ∃ n, p.locs.length = n := ⟨_, rfl⟩
  have HM : Hid (MM w p bz bp bs be bt) := hM
  have HZ : Hid (IsS w bz 105 [.slice a1 n c1, .slice a2 n c2, .int .i64 (nl : Int)]) := by rw [← hn, ← hnl]; exact Z0
  have HG : Hid (Seg w a1 ((natI (shpOf p).ins).flatMap intE) ∧ Seg w a2 ((natI (shpOf p).rgs).flatMap intE)) := ⟨SG1, SG2⟩
  simp only [hn, hnl] at hSt'
  clear hM hv hf hT Z0 SG1 SG2 hn hnl hrd hpk
  have BZ := Below.refl w.heap.size w
  have tz : True := trivial
  have t2 : True := trivial
  have hz1 : ∀ v ∈ zst, v.oneCell' = true := zst_one
  go_enter Try.func65, Try.ntmps65
  go_wp2_with (first
   | (clear tz; refine wpList_loadW rfl 105 _ rfl rfl (HZ.out.grown BZ) _ Try.underlying105 rfl infoShp ?_)
   | (go_at_call 44; refine (hSt' _ HG.out.1 HG.out.2).mono ?_; rintro e W2 ⟨rfl, B2⟩)
   | (clear t2; refine wpList_allocS rfl 32 rfl zst zeroSt ?_; intro W3 b5 F3 I3; have B3 := F3.trans B2 B2.size; have hb5 : w.heap.size ≤ b5 := Nat.le_trans B2.size (Nat.le_of_eq F3.at'.symm); clear F3)
   | (refine wpList_storeW rfl 32 _ _ rfl rfl zst rfl I3 rfl infoSt hz1 ?_; intro W4 U4 I4; have B4 := U4.trans B3 hb5))
  go_ret
  exact ⟨_, rfl, own_nil _ _ _ _, B4⟩
 | some s =>
  have hfit := (readS_some hrd).1
  have hpk : picksT p T = picksS p.threads s p.threads.length := by unfold picksT; rw [hrd]
  rw [hpk]
  rw [hrd] at hSt
  have hSt' := fun W h1 h2 => (hSt W h1 h2).mono fun e w' h => h.2 s rfl
  clear hSt
  have hN1 := fun W v1 v2 v3 v4 v5 (h1 : MT W p bt) (h2 : STV W s v1 v2 v3 v4 v5) => new1_any p hv hf s hfit bt v1 v2 v3 v4 v5 W h1 h2
  obtain ⟨L, hL⟩ : ∃ l, picksS p.threads s p.threads.length = l := ⟨_, rfl⟩
  have hLl : L.length ≤ 1048576 := by
   rw [← hL]; unfold picksS; split
   · exact Nat.le_trans (pks_len _ _ _) hf.t
   · simp
  rw [hL]
  simp only [hL] at hN1
  obtain ⟨nk, hnk⟩ : ∃ k, L.length = k := ⟨_, rfl⟩
  have hCl := fun W a c h1 h2 => clonePk_any (L.flatMap pkE) nk c a (by rw [pk_len, hnk]) (pk_oneL L) (by rw [← hnk]; exact hLl) W h1 h2
  rw [hnk]
  simp only [hnk] at hN1
  obtain ⟨lk, hlk⟩ : ∃ k, s.lock = k := ⟨_, rfl⟩
  simp only [hlk] at hSt' hN1
  obtain ⟨n, hn⟩ : ∃ n, p.threads.length = n := ⟨_, rfl⟩
  obtain ⟨nl, hnl⟩ : ∃ n, p.locs.length = n := ⟨_, rfl⟩
  have HM : Hid (MM w p bz bp bs be bt) := hM
  have HZ : Hid (IsS w bz 105 [.slice a1 n c1, .slice a2 n c2, .int .i64 (nl : Int)]) := by rw [← hn, ← hnl]; exact Z0
  have HG : Hid (Seg w a1 ((natI (shpOf p).ins).flatMap intE) ∧ Seg w a2 ((natI (shpOf p).rgs).flatMap intE)) := ⟨SG1, SG2⟩
  simp only [hn, hnl] at hSt'
  clear hM hv hf hT Z0 SG1 SG2 hn hnl hrd hpk hfit hL hLl hnk hlk
  have BZ := Below.refl w.heap.size w
  have tz : True := trivial
  have t2 : True := trivial
  have t3 : True := trivial
  have t4 : True := trivial
  have t5 : True := trivial
  go_enter Try.func65, Try.ntmps65
  go_wp2_with (first
   | (clear tz; refine wpList_loadW rfl 105 _ rfl rfl (HZ.out.grown BZ) _ Try.underlying105 rfl infoShp ?_)
   | (go_at_call 44; refine (hSt' _ HG.out.1 HG.out.2).mono ?_; rintro e W2 ⟨v1, v2, v3, v4, v5, vs, bs2, rfl, S2, _, B2⟩; have hone := stv_one lk S2.stv)
   | (clear t2; refine wpList_allocS rfl 32 rfl zst zeroSt ?_; intro W3 b5 F3 I3; have S3 := S2.below (F_b F3); have B3 := F3.trans B2 B2.size; have hb5 : w.heap.size ≤ b5 := Nat.le_trans B2.size (Nat.le_of_eq F3.at'.symm); clear F3)
   | (clear t3; refine wpList_storeW rfl 32 _ _ rfl rfl [v1, v2, v3, v4, v5, .int .i64 lk] rfl I3 rfl infoSt hone ?_; intro W4 U4 I4; have S4 := S3.updS I3 U4; have B4 := U4.trans B3 hb5; have M4 := HM.out.below B4; clear U4 I3 S3)
   | (clear t4; refine wpList_loadF rfl _ _ rfl rfl M4.fp (fun w h => by simp [go_sem, h]) ?_)
   | (clear t5; refine wpList_loadW rfl 32 _ rfl rfl I4 _ Try.underlying32 rfl infoSt ?_)
   | (go_at_call 52; refine (hN1 _ _ _ _ _ _ M4.t S4.stv).mono ?_; rintro e W5 ⟨v, rfl, O5, B5⟩; obtain ⟨av, cv, ev, sv, nv⟩ := own_row O5; subst ev)
   | (go_at_call 66; refine (hCl _ av cv sv nv).mono ?_; rintro e W6 ⟨u, rfl, O6, B6⟩))
  go_ret
  exact ⟨_, rfl, own_raise O6 (Below.then B4 B5).size, Below.then (Below.then B4 B5) B6⟩
end Go.Proofs.Ytegpnicajlndlaa

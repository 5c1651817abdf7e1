/- PL3, PL4, PL5 -/
import Derived.Test.YtegpnicajlndlaaQbl
namespace Go.Proofs.Ytegpnicajlndlaa
open Go.RowKit M
set_option linter.unusedSimpArgs false
set_option linter.unusedVariables false
def pkL (k : Int × Int × Int) : List Value := [.int .i64 k.1, .int .i64 k.2.1, .int .i64 k.2.2]
def stepK (ths : List (List Op5)) (s : ST) (k : Int × Int × Int) : Option ST :=
 if plainB s = true ∧ k.2.1 = 1 ∧ k.2.2 = 0 then (stepS ths s.pc s.regs s.mem k.1).map (fun t => ⟨t.1, s.ph, t.2.1, t.2.2, s.buf, s.lock⟩) else none
structure Fz (B : Nat) (w W : World) : Prop where
 bel : Below B w W
 keep : ∀ b t cs, t ≠ 2 → t ≠ 3 → IsS w b t cs → IsS W b t cs
theorem Fz.of_below {B : Nat} {w W : World} (h : Below w.heap.size w W) (hB : B ≤ w.heap.size) : Fz B w W := ⟨h.mono hB, fun b t cs _ _ I => I.grown h⟩
theorem Fz.trans {B : Nat} {w W W' : World} (h : Fz B w W) (h' : Fz B W W') : Fz B w W' := ⟨h.bel.trans h'.bel, fun b t cs h2 h3 I => h'.keep b t cs h2 h3 (h.keep b t cs h2 h3 I)⟩
def StA (w : World) (B : Nat) (v1 v2 v3 v4 v5 : Value) (vs bs : List Value) (r : Option ST) (e : Ending) (w' : World) : Prop :=
 (r = none → e = .returned (.bool false) ∧ Below w.heap.size w w') ∧ (∀ s', r = some s' → e = .returned (.bool true) ∧ SOwn w' B s' v1 v2 v3 v4 v5 vs bs ∧ Fz B w w')
theorem SOwn.sto {W : World} {B : Nat} {s : ST} {v1 v2 v3 v4 v5 : Value} {vs bs : List Value} (h : SOwn W B s v1 v2 v3 v4 v5 vs bs) : StO W B v1 v3 v4 vs s.pc s.regs s.mem := ⟨h.pc, h.rg, h.mm, h.am⟩
theorem fr_isS {w W : World} {us : List Value} {b t : Nat} {cs : List Value} (F : Fr w W us) (I : IsS w b t cs) (hu : ∀ u ∈ us, u.ownBlock ≠ some b) : IsS W b t cs := (F.block b I.lt fun u hu' => hu u hu').trans I
theorem SOwn.turned {w W : World} {B : Nat} {s : ST} {v1 v2 v3 v4 v5 : Value} {vs bs : List Value} {t : List Int × List (List Int) × List Int} (h : SOwn w B s v1 v2 v3 v4 v5 vs bs) (hap : ∀ k, v2.ownBlock = some k → v1.ownBlock ≠ some k) (F : Fr w W (vs ++ [v4, v1])) (hS : StO W B v1 v3 v4 vs t.1 t.2.1 t.2.2) : SOwn W B ⟨t.1, s.ph, t.2.1, t.2.2, s.buf, s.lock⟩ v1 v2 v3 v4 v5 vs bs := by
 have hvs : ∀ u ∈ vs, ∃ xs : List Value, ∃ n, w.ownsRow B 2 1 u n xs := fun u hu => by
  obtain ⟨j, hj⟩ := List.mem_iff_getElem?.1 hu
  have hjl : j < s.regs.length := by rw [← h.rg.len]; exact (List.getElem?_eq_some_iff.1 hj).1
  exact ⟨_, _, h.rg.row j u _ hj (List.getElem?_eq_getElem hjl)⟩
 have far : ∀ {t z n : Nat} {v : Value} {xs : List Value}, w.ownsRow B t z v n xs → t ≠ 2 → t ≠ 3 → W.ownsRow B t z v n xs := fun ho h2 h3 => F.own ho fun k hk u hu => by
  rcases List.mem_append.1 hu with hu | hu
  · obtain ⟨xs, n, o⟩ := hvs u hu
    exact own_diff ho o h2 hk
  · simp only [List.mem_cons, List.not_mem_nil, or_false] at hu
    rcases hu with rfl | rfl
    · exact own_diff ho h.mm h2 hk
    · exact own_diff ho h.pc h3 hk
 refine ⟨hS.pc, ?_, hS.rg, hS.mm, hS.am, far h.bf (by decide) (by decide), h.bl, fun j u l hu hl => far (h.be j u l hu hl) (by decide) (by decide), h.ba⟩
 refine F.own h.ph fun k hk u hu => ?_
 rcases List.mem_append.1 hu with hu | hu
 · obtain ⟨xs, n, o⟩ := hvs u hu
   exact own_diff h.ph o (by decide) hk
 · simp only [List.mem_cons, List.not_mem_nil, or_false] at hu
   rcases hu with rfl | rfl
   · exact own_diff h.ph h.mm (by decide) hk
   · exact hap k hk
theorem SOwn.fz {w W : World} {B : Nat} {s : ST} {v1 v2 v3 v4 v5 : Value} {vs bs : List Value} (h : SOwn w B s v1 v2 v3 v4 v5 vs bs) (F : Fr w W (vs ++ [v4, v1])) (hB : B ≤ w.heap.size) : Fz B w W := by
 have hvs : ∀ u ∈ vs, ∃ xs : List Value, ∃ n, w.ownsRow B 2 1 u n xs := fun u hu => by
  obtain ⟨j, hj⟩ := List.mem_iff_getElem?.1 hu
  have hjl : j < s.regs.length := by rw [← h.rg.len]; exact (List.getElem?_eq_some_iff.1 hj).1
  exact ⟨_, _, h.rg.row j u _ hj (List.getElem?_eq_getElem hjl)⟩
 refine ⟨F.below bR hB fun u hu k hk => ?_, fun b t cs h2 h3 I => fr_isS F I fun u hu => ?_⟩
 · rcases List.mem_append.1 hu with hu | hu
   · obtain ⟨xs, n, o⟩ := hvs u hu
     exact (own_lt o hk).1
   · simp only [List.mem_cons, List.not_mem_nil, or_false] at hu
     rcases hu with rfl | rfl
     · exact (own_lt h.mm hk).1
     · exact (own_lt h.pc hk).1
 · rcases List.mem_append.1 hu with hu | hu
   · obtain ⟨xs, n, o⟩ := hvs u hu
     exact isS_own_ne o I (Ne.symm h2)
   · simp only [List.mem_cons, List.not_mem_nil, or_false] at hu
     rcases hu with rfl | rfl
     · exact isS_own_ne h.mm I (Ne.symm h2)
     · exact isS_own_ne h.pc I (Ne.symm h3)
theorem pk3 {v0 v1 v2 : Value} {W : World} {b t : Nat} (h : IsS W b t [v0, v1, v2]) : W.cell? ⟨b, 0, none⟩ = some v0 ∧ W.cell? ⟨b, 1, none⟩ = some v1 ∧ W.cell? ⟨b, 2, none⟩ = some v2 := ⟨h.cell 0, h.cell 1, h.cell 2⟩
set_option maxRecDepth 100000 in
set_option maxHeartbeats 4000000 in
theorem plainStep_any (p : PG) (hv : Vld p) (hf : p.Few) (s : ST) (hfs : s.Few) (hI : Inv p s.pc s.regs s.mem) (hph : s.ph.length = p.threads.length) (hbf : s.buf.length = p.threads.length) (k : Int × Int × Int) (B ct : Nat) (at0 : Option Addr) (v1 v2 v3 v4 v5 : Value) (vs bs : List Value) (w : World) (hB : B ≤ w.heap.size)
    (hT : RowsV w (.slice at0 p.threads.length ct) op5L p.threads) (hS : SOwn w B s v1 v2 v3 v4 v5 vs bs) (hap : ∀ k, v2.ownBlock = some k → v1.ownBlock ≠ some k) :
    Calls Try.prog 55 #[.slice at0 p.threads.length ct, .agg #[v1, v2, v3, v4, v5, .int .i64 s.lock], .agg (pkL k).toArray] w fun e w' => StA w B v1 v2 v3 v4 v5 vs bs (stepK p.threads s k) e w' := by
 obtain ⟨n, hn⟩ : ∃ n, p.threads.length = n := ⟨_, rfl⟩
 have hpl : s.pc.length = n := by rw [hI.pl, hn]
 have hPl := fun W (h : STV W s v1 v2 v3 v4 v5) => plain_any s n hfs hpl (by rw [hph, hn]) (by rw [hbf, hn]) v1 v2 v3 v4 v5 W h
 have hTn := fun W (hst : stepS p.threads s.pc s.regs s.mem k.1 = none) (h1 : RowsV W (.slice at0 p.threads.length ct) op5L p.threads) (h2 : W.ownsRow B 3 1 v1 s.pc.length (s.pc.flatMap intE)) => turn_none p hf s.pc s.regs s.mem hI k.1 B ct at0 v1 v2 v3 v4 v5 (.int .i64 s.lock) W hst h1 h2
 have hTs := fun W t (hst : stepS p.threads s.pc s.regs s.mem k.1 = some t) (h1 : RowsV W (.slice at0 p.threads.length ct) op5L p.threads) (h2 : StO W B v1 v3 v4 vs s.pc s.regs s.mem) => turn_some p hv hf s.pc s.regs s.mem hI k.1 B ct at0 v1 v2 v3 v4 v5 (.int .i64 s.lock) vs W t hst h1 h2
 rw [hn] at hTn hTs hT ⊢
 have HS : Hid (SOwn w B s v1 v2 v3 v4 v5 vs bs) := hS
 have HT : Hid (RowsV w (.slice at0 n ct) op5L p.threads) := hT
 have HAP : Hid (∀ k, v2.ownBlock = some k → v1.ownBlock ≠ some k) := hap
 obtain ⟨lk, hlk⟩ : ∃ k, s.lock = k := ⟨_, rfl⟩
 simp only [hlk] at hPl hTn hTs ⊢
 have HLK : Hid (s.lock = lk) := hlk
 obtain ⟨pb, hpb⟩ : ∃ b, plainB s = b := ⟨_, rfl⟩
 simp only [hpb] at hPl
 obtain ⟨i, kd, lc⟩ := k
 obtain ⟨st, hst⟩ : ∃ x, stepS p.threads s.pc s.regs s.mem i = x := ⟨_, rfl⟩
 have HQ : Hid ((¬ (pb = true ∧ kd = 1 ∧ lc = 0) ∨ st = none → ∀ e w', (e = .returned (.bool false) ∧ Below w.heap.size w w') → StA w B v1 v2 v3 v4 v5 vs bs (stepK p.threads s (i, kd, lc)) e w') ∧ (∀ t, pb = true → kd = 1 → lc = 0 → st = some t → ∀ e w', (e = .returned (.bool true) ∧ SOwn w' B ⟨t.1, s.ph, t.2.1, t.2.2, s.buf, s.lock⟩ v1 v2 v3 v4 v5 vs bs ∧ Fz B w w') → StA w B v1 v2 v3 v4 v5 vs bs (stepK p.threads s (i, kd, lc)) e w')) := by
  refine ⟨fun h e w' he => ?_, fun t h1 h2 h3 h4 e w' he => ?_⟩
  · have : stepK p.threads s (i, kd, lc) = none := by
     unfold stepK
     rcases h with h | h
     · rw [if_neg (by rw [hpb]; exact h)]
     · split
       · simp [hst, h]
       · rfl
    rw [this]
    exact ⟨fun _ => he, fun s' h => by cases h⟩
  · have : stepK p.threads s (i, kd, lc) = some ⟨t.1, s.ph, t.2.1, t.2.2, s.buf, s.lock⟩ := by
     unfold stepK
     rw [if_pos ⟨by rw [hpb, h1], h2, h3⟩]
     simp [hst, h4]
    rw [this]
    exact ⟨fun h => (by cases h), fun s' h => by cases h; exact he⟩
 simp only [hst] at hTn hTs
 generalize StA w B v1 v2 v3 v4 v5 vs bs (stepK p.threads s (i, kd, lc)) = QQ at *
 unfold pkL
 simp only []
 clear hS hT hap hf hv hfs hph hbf hn hpl hlk hst hI hpb
 have t1 : True := trivial
 have t2 : True := trivial
 have t3 : True := trivial
 have t4 : True := trivial
 cases pb with
 | false =>
  go_enter Try.func55, Try.ntmps55
  go_wp2_with (first
   | (clear t1; refine wpList_boxS rfl 32 _ rfl [v1, v2, v3, v4, v5, .int .i64 lk] rfl ?_; intro W1 b4 F1 C1; have B1 := F_b F1; clear F1)
   | (clear t2; refine wpList_boxS rfl 68 _ rfl [.int .i64 i, .int .i64 kd, .int .i64 lc] rfl ?_; intro W2 b5 F2 D2; have C2 := C1.fresh F2; have B2 := F2.trans B1 B1.size; clear F2 C1)
   | (clear t3; refine wpList_loadW rfl 32 _ rfl rfl C2 _ Try.underlying32 rfl infoSt ?_)
   | (go_at_call 100; refine (hPl _ (HS.out.stv.below B2)).mono ?_; rintro e W3 ⟨rfl, B3⟩; clear hPl))
  exact HQ.out.1 (.inl (by simp)) _ _ ⟨rfl, Below.then B2 B3⟩
 | true =>
  by_cases hk1 : kd = 1
  · subst hk1
    by_cases hl0 : lc = 0
    · subst hl0
      cases st with
      | none =>
       go_enter Try.func55, Try.ntmps55
       go_wp2_with (first
        | (clear t1; refine wpList_boxS rfl 32 _ rfl [v1, v2, v3, v4, v5, .int .i64 lk] rfl ?_; intro W1 b4 F1 C1; have B1 := F_b F1; clear F1)
        | (clear t2; refine wpList_boxS rfl 68 _ rfl [.int .i64 i, .int .i64 1, .int .i64 0] rfl ?_; intro W2 b5 F2 D2; have C2 := C1.fresh F2; have B2 := F2.trans B1 B1.size; clear F2 C1)
        | (clear t3; refine wpList_loadW rfl 32 _ rfl rfl C2 _ Try.underlying32 rfl infoSt ?_)
        | (go_at_call 100; refine (hPl _ (HS.out.stv.below B2)).mono ?_; rintro e W3 ⟨rfl, B3x⟩; have C3 := C2.grown B3x; have B3 := Below.then B2 B3x; obtain ⟨z0, z1, z2⟩ := pk3 (D2.grown B3x); clear hPl)
        | (clear t4; refine wpList_loadGW rfl 32 _ rfl rfl C3 _ Try.underlying32 rfl infoSt ?_)
        | (go_at_call 75; refine (hTn _ (by simp) (HT.out.below B3) (own_below HS.out.pc B3)).mono ?_; rintro e W4 ⟨rfl, B4⟩))
       exact HQ.out.1 (.inr (by simp)) _ _ ⟨rfl, Below.then B3 B4⟩
      | some t =>
       go_enter Try.func55, Try.ntmps55
       go_wp2_with (first
        | (clear t1; refine wpList_boxS rfl 32 _ rfl [v1, v2, v3, v4, v5, .int .i64 lk] rfl ?_; intro W1 b4 F1 C1; have B1 := F_b F1; clear F1)
        | (clear t2; refine wpList_boxS rfl 68 _ rfl [.int .i64 i, .int .i64 1, .int .i64 0] rfl ?_; intro W2 b5 F2 D2; have C2 := C1.fresh F2; have B2 := F2.trans B1 B1.size; clear F2 C1)
        | (clear t3; refine wpList_loadW rfl 32 _ rfl rfl C2 _ Try.underlying32 rfl infoSt ?_)
        | (go_at_call 100; refine (hPl _ (HS.out.stv.below B2)).mono ?_; rintro e W3 ⟨rfl, B3x⟩; have C3 := C2.grown B3x; have B3 := Below.then B2 B3x; obtain ⟨z0, z1, z2⟩ := pk3 (D2.grown B3x); clear hPl)
        | (clear t4; refine wpList_loadGW rfl 32 _ rfl rfl C3 _ Try.underlying32 rfl infoSt ?_)
        | (go_at_call 75; refine (hTs _ t (by simp) (HT.out.below B3) (HS.out.below B3).sto).mono ?_; rintro e W4 ⟨rfl, S4, F4⟩))
       exact HQ.out.2 t (by simp) (by simp) (by simp) (by simp) _ _ ⟨rfl, (HS.out.below B3).turned HAP.out F4 S4, (Fz.of_below B3 hB).trans ((HS.out.below B3).fz F4 (Nat.le_trans hB B3.size))⟩
    · have hl0' : (lc == 0) = false := by simp [hl0]
      go_enter Try.func55, Try.ntmps55
      go_wp2_with (first
       | (clear t1; refine wpList_boxS rfl 32 _ rfl [v1, v2, v3, v4, v5, .int .i64 lk] rfl ?_; intro W1 b4 F1 C1; have B1 := F_b F1; clear F1)
       | (clear t2; refine wpList_boxS rfl 68 _ rfl [.int .i64 i, .int .i64 1, .int .i64 lc] rfl ?_; intro W2 b5 F2 D2; have C2 := C1.fresh F2; have B2 := F2.trans B1 B1.size; clear F2 C1)
       | (clear t3; refine wpList_loadW rfl 32 _ rfl rfl C2 _ Try.underlying32 rfl infoSt ?_)
       | (go_at_call 100; refine (hPl _ (HS.out.stv.below B2)).mono ?_; rintro e W3 ⟨rfl, B3x⟩; have B3 := Below.then B2 B3x; obtain ⟨z0, z1, z2⟩ := pk3 (D2.grown B3x); clear hPl))
      exact HQ.out.1 (.inl (by simp [hl0])) _ _ ⟨rfl, B3⟩
  · have hk1' : (kd == 1) = false := by simp [hk1]
    go_enter Try.func55, Try.ntmps55
    go_wp2_with (first
     | (clear t1; refine wpList_boxS rfl 32 _ rfl [v1, v2, v3, v4, v5, .int .i64 lk] rfl ?_; intro W1 b4 F1 C1; have B1 := F_b F1; clear F1)
     | (clear t2; refine wpList_boxS rfl 68 _ rfl [.int .i64 i, .int .i64 kd, .int .i64 lc] rfl ?_; intro W2 b5 F2 D2; have C2 := C1.fresh F2; have B2 := F2.trans B1 B1.size; clear F2 C1)
     | (clear t3; refine wpList_loadW rfl 32 _ rfl rfl C2 _ Try.underlying32 rfl infoSt ?_)
     | (go_at_call 100; refine (hPl _ (HS.out.stv.below B2)).mono ?_; rintro e W3 ⟨rfl, B3x⟩; have B3 := Below.then B2 B3x; obtain ⟨z0, z1, z2⟩ := pk3 (D2.grown B3x); clear hPl))
    exact HQ.out.1 (.inl (by simp [hk1])) _ _ ⟨rfl, B3⟩
theorem op_oneL (l : List Op5) : ∀ v ∈ l.flatMap op5L, v.oneCell' = true := fun v hv => by
 obtain ⟨o, _, ho⟩ := List.mem_flatMap.1 hv
 exact op_one o v ho
theorem pk_oneL (l : List Nat) : ∀ v ∈ l.flatMap pkE, v.oneCell' = true := fun v hv => by
 obtain ⟨o, _, ho⟩ := List.mem_flatMap.1 hv
 simp only [pkE, List.mem_cons, List.not_mem_nil, or_false] at ho
 rcases ho with rfl | rfl | rfl <;> rfl
theorem infoOps1 : (Try.prog.info? 61).map (·.size) = some 1 := by kernel_rfl
set_option maxRecDepth 100000 in
set_option maxHeartbeats 2000000 in
theorem clonePk_any (cs : List Value) (n c : Nat) (a : Option Addr) (hl : cs.length = n * 3) (h1 : ∀ x ∈ cs, x.oneCell' = true) (hn : n ≤ 1048576) (w : World) (hS : Seg w a cs) (hz : a = none → c = 0) :
    Calls Try.prog 66 #[.slice a n c] w fun e w' => ∃ v, e = .returned v ∧ w'.ownsRow w.heap.size 68 3 v n cs ∧ Below w.heap.size w w' := by
 have HL : Hid (cs.length = n * 3) := hl
 have H1 : Hid (∀ x ∈ cs, x.oneCell' = true) := h1
 cases a with
 | none =>
  have h0 := seg_none hS
  subst h0
  have e1 : n = 0 := by simp at hl; omega
  subst e1
  have e2 := hz rfl
  subst e2
  clear hS hz hl h1
  have hq : ∀ w, (binOp .eql 52 (.slice none 0 0) (.slice none 0 0)).run Try.prog w = .ok (.bool true) w := fun w => Lib.run_eql_slice_nil w _ _ none 0 0 0 0 Try.underlying52
  go_enter Try.func66, Try.ntmps66
  go_wp2
  go_ret
  exact ⟨_, rfl, own_nil _ _ _ _, Below.refl _ _⟩
 | some ad =>
  have HRV : Hid (RowV w (.slice (some ad) n c) n cs) := ⟨some ad, c, rfl, hS, hz⟩
  clear hS hz hl h1
  have t1 : True := trivial
  have t2 : True := trivial
  have hq : ∀ w, (binOp .eql 52 (.slice (some ad) n c) (.slice none 0 0)).run Try.prog w = .ok (.bool false) w := fun w => Lib.run_eql_slice_nil w _ _ (some ad) n c 0 0 Try.underlying52
  go_enter Try.func66, Try.ntmps66
  go_wp2_with (first
   | (clear t1; refine wpList_build0E ePk rfl rfl ?_; intro W1 b1 F1 O1; have B1 := F1.trans (Below.refl _ w) (Nat.le_refl _); clear F1)
   | (clear t2; at_builtin; refine wpList_appM ePk rfl _ _ rfl w.heap.size _ 0 [] rfl O1 _ n cs rfl (HRV.out.below B1) HL.out H1.out (by omega) B1.size ?_; intro v2 W2 O2 G2; have B2 := grown_below B1 B1.size O1 G2; rw [Nat.zero_add, List.nil_append] at O2))
  go_ret
  exact ⟨_, rfl, O2, B2⟩
set_option maxRecDepth 100000 in
set_option maxHeartbeats 2000000 in
theorem cloneOp_any (cs : List Value) (n c : Nat) (a : Option Addr) (hl : cs.length = n * 5) (h1 : ∀ x ∈ cs, x.oneCell' = true) (hn : n ≤ 1048576) (w : World) (hS : Seg w a cs) (hz : a = none → c = 0) :
    Calls Try.prog 99 #[.slice a n c] w fun e w' => ∃ v, e = .returned v ∧ w'.ownsRow w.heap.size 63 5 v n cs ∧ Below w.heap.size w w' := by
 have HL : Hid (cs.length = n * 5) := hl
 have H1 : Hid (∀ x ∈ cs, x.oneCell' = true) := h1
 cases a with
 | none =>
  have h0 := seg_none hS
  subst h0
  have e1 : n = 0 := by simp at hl; omega
  subst e1
  have e2 := hz rfl
  subst e2
  clear hS hz hl h1
  have hq : ∀ w, (binOp .eql 61 (.slice none 0 0) (.slice none 0 0)).run Try.prog w = .ok (.bool true) w := fun w => Lib.run_eql_slice_nil w _ _ none 0 0 0 0 Try.underlying61
  go_enter Try.func99, Try.ntmps99
  go_wp2
  go_ret
  exact ⟨_, rfl, own_nil _ _ _ _, Below.refl _ _⟩
 | some ad =>
  have HRV : Hid (RowV w (.slice (some ad) n c) n cs) := ⟨some ad, c, rfl, hS, hz⟩
  clear hS hz hl h1
  have t1 : True := trivial
  have t2 : True := trivial
  have hq : ∀ w, (binOp .eql 61 (.slice (some ad) n c) (.slice none 0 0)).run Try.prog w = .ok (.bool false) w := fun w => Lib.run_eql_slice_nil w _ _ (some ad) n c 0 0 Try.underlying61
  go_enter Try.func99, Try.ntmps99
  go_wp2_with (first
   | (clear t1; refine wpList_build0E eOp rfl rfl ?_; intro W1 b1 F1 O1; have B1 := F1.trans (Below.refl _ w) (Nat.le_refl _); clear F1)
   | (clear t2; at_builtin; refine wpList_appM eOp rfl _ _ rfl w.heap.size _ 0 [] rfl O1 _ n cs rfl (HRV.out.below B1) HL.out H1.out (by omega) B1.size ?_; intro v2 W2 O2 G2; have B2 := grown_below B1 B1.size O1 G2; rw [Nat.zero_add, List.nil_append] at O2))
  go_ret
  exact ⟨_, rfl, O2, B2⟩
set_option maxRecDepth 100000 in
set_option maxHeartbeats 4000000 in
theorem clonesOp_any (ri : List (List Op5)) (hi : ri.length ≤ 1048576) (hii : ri.flatten.length ≤ 1048576) (ai : Option Addr) (ci : Nat) (w : World) (hR : RowsV w (.slice ai ri.length ci) op5L ri) :
    Calls Try.prog 51 #[.slice ai ri.length ci] w fun en w' => ∃ v, en = .returned v ∧ OwnRows w' w.heap.size 61 63 5 v op5L ri ∧ Below w.heap.size w w' := by
 have HI : Hid (RowsV w (.slice ai ri.length ci) op5L ri) := hR
 have HII : Hid (ri.flatten.length ≤ 1048576) := hii
 obtain ⟨ni, hni⟩ : ∃ n, ri.length = n := ⟨_, rfl⟩
 have HNI : Hid (ri.length = ni) := hni
 rw [hni] at HI hi ⊢
 clear hR hii hni
 have t1 : True := trivial
 go_enter Try.func51, Try.ntmps51
 go_wp2_with (first
  | (clear t1; refine wpList_make1 eOps rfl rfl _ _ rfl ni hi rfl rfl ?_; intro W1 g F1 I1; have B1 := F1.trans (Below.refl _ w) (Nat.le_refl _); have hg : w.heap.size ≤ g := Nat.le_of_eq F1.at'.symm; clear F1))
 have HI1 : Hid (IsS W1 g 61 (List.replicate ni (.slice none 0 0))) := I1
 clear I1
 go_loopw [10] (fun i wr => ∃ (k : Nat) (vs : List Value), k ≤ ni ∧ i = .int .i64 (k : Int) ∧ Hid (vs.length = k) ∧ Hid (IsS wr g 61 (vs ++ List.replicate (ni - k) (.slice none 0 0))) ∧ Hid (∀ (j : Nat) u xs, vs[j]? = some u → ri[j]? = some xs → wr.ownsRow w.heap.size 63 5 u xs.length (xs.flatMap op5L)) ∧ Below w.heap.size w wr) (fun i _ => ni - (intOf i).toNat)
 case atStart => exact ⟨0, [], Nat.zero_le _, rfl, rfl, by rw [List.nil_append]; exact HI1, fun j u xs h => by simp at h, B1⟩
 case round =>
  obtain ⟨k, vs, hk, rfl, HV, HG, HO, HB⟩ := hrel
  by_cases hlt : k < ni
  · have hki : (k : Int) < ni := by omega
    obtain ⟨q, hq⟩ : ∃ q, ri[k]? = some q := ⟨_, List.getElem?_eq_getElem (by rw [HNI.out]; exact hlt)⟩
    obtain ⟨bi, oi, ai', ci', rfl, hbi, hci, hsegi, hnil⟩ := (HI.out.below HB).at k q hq
    have hql : q.length ≤ 1048576 := flat_row HII.out hq
    have hcl := cloneOp_any (q.flatMap op5L) q.length ci' ai' (op_len q) (op_oneL q) hql wr hsegi hnil
    obtain ⟨qn, hqn⟩ : ∃ n, q.length = n := ⟨_, rfl⟩
    have HQN : Hid (q.length = qn) := hqn
    have HQ : Hid (ri[k]? = some q) := hq
    rw [hqn] at hci hql hcl
    clear hq hsegi hnil hqn
    go_wp2_with (first
     | (go_at_call 99; refine hcl.mono ?_; rintro e W2 ⟨v2, rfl, O2, B2⟩; have G2 := HG.out.grown B2; clear hci)
     | (refine wpList_store1 rfl 61 _ _ rfl rfl v2 rfl G2 (by rw [List.length_append, HV.out, List.length_replicate]; omega) infoOps1 (own_cell O2) ?_; intro W3 U3 G3))
    have hset : (vs ++ List.replicate (ni - k) (Value.slice none 0 0)).set k v2 = (vs ++ [v2]) ++ List.replicate (ni - (k + 1)) (Value.slice none 0 0) := by
     have hv := HV.out
     rw [show ni - k = (ni - (k + 1)) + 1 by omega, List.replicate_succ, List.set_append_right _ _ (by omega), hv, Nat.sub_self]
     simp
    go_roundw
    case rel =>
     refine ⟨k + 1, vs ++ [v2], by omega, by go_num, by show _ = _; simp [HV.out], by show IsS _ _ _ _; rw [← hset]; exact G3, fun j u xs hu hx => ?_, U3.trans (Below.then HB B2) hg⟩
     by_cases hj : j < vs.length
     · rw [List.getElem?_append_left hj] at hu
       have h1 := own_below (HO.out j u xs hu hx) B2
       exact own_upd h1 G2 U3 (by decide)
     · have hl := (List.getElem?_eq_some_iff.1 hu).1
       rw [List.length_append, List.length_singleton] at hl
       have ej : j = k := by have := HV.out; omega
       rw [List.getElem?_append_right (by omega), show j - vs.length = 0 by have := HV.out; omega] at hu
       simp at hu
       subst hu
       rw [ej, HQ.out] at hx
       cases hx
       have h1 := own_raise O2 HB.size
       rw [HQN.out]
       exact own_upd h1 G2 U3 (by decide)
    case measure => simp [intOf]; omega
  · have ek : k = ni := by omega
    subst ek
    have hki : ¬ ((k : Int) < k) := by omega
    have hG := HG.out
    rw [Nat.sub_self, List.replicate_zero, List.append_nil] at hG
    have HG' : Hid (IsS wr g 61 vs) := hG
    clear HG hG
    go_wp2
    go_ret
    refine ⟨_, rfl, ⟨vs, by rw [HNI.out]; exact HV.out, ?_, HO.out⟩, HB⟩
    rw [HNI.out]
    exact own_cls hg HG'.out (by rw [List.take_of_length_le (by rw [HV.out]; exact Nat.le_refl _)]) (Nat.le_refl _) (by unfold maxLen; omega) HV.out
structure PWid (p : PG) : Prop where
 im : ∀ l ∈ p.threads, ∀ o ∈ l, I64 o.imm
 ri : ∀ l ∈ p.regInit, ∀ v ∈ l, I64 v
 li : ∀ v ∈ p.locInit, I64 v
theorem i64_0 : I64 0 := ⟨by decide, by decide⟩
theorem i64_m1 : I64 (-1) := ⟨by decide, by decide⟩
theorem i64_wrap (x : Int) : I64 (wrap64 x) := by unfold wrap64 I64; omega
theorem i64_getD {l : List Int} (h : ∀ v ∈ l, I64 v) (i : Nat) : I64 (l.getD i 0) := by
 rw [List.getD_eq_getElem?_getD]
 cases hx : l[i]? with
 | none => exact i64_0
 | some x => exact h x (List.mem_of_getElem? hx)
theorem i64_set {l : List Int} (h : ∀ v ∈ l, I64 v) {i : Nat} {x : Int} (hx : I64 x) : ∀ v ∈ l.set i x, I64 v := fun v hv => by
 rcases List.mem_or_eq_of_mem_set hv with h1 | h1
 · exact h v h1
 · rw [h1]; exact hx
theorem wid_doR {o : Op5} {r m : List Int} (ho : I64 o.imm) (hr : ∀ v ∈ r, I64 v) (hm : ∀ v ∈ m, I64 v) : ∀ v ∈ doR o r m, I64 v := by
 unfold doR
 (repeat' split) <;> first | exact hr | exact i64_set hr ho | exact i64_set hr (i64_getD hr _) | exact i64_set hr (i64_getD hm _)
theorem wid_doM {o : Op5} {r m : List Int} (ho : I64 o.imm) (hr : ∀ v ∈ r, I64 v) (hm : ∀ v ∈ m, I64 v) : ∀ v ∈ doM o r m, I64 v := by
 unfold doM
 (repeat' split) <;> first | exact hm | exact i64_set hm ho | exact i64_set hm (i64_getD hr _) | exact i64_set hm (i64_wrap _)
theorem getD_map_len {α : Type} (l : List (List α)) (i : Nat) : (l.map List.length).getD i 0 = (l.getD i []).length := by
 rw [List.getD_eq_getElem?_getD, List.getD_eq_getElem?_getD, List.getElem?_map]
 cases l[i]? <;> rfl
theorem inv_fits {p : PG} {s : ST} (hv : Vld p) (h : Fits (shpOf p) s) : Inv p s.pc s.regs s.mem ∧ LeI p.threads s.pc := by
 have hl := shp_len hv
 have e1 : (shpOf p).ins.length = p.threads.length := hl.1
 refine ⟨⟨by rw [h.pc, e1], fun i x hx => ?_, by rw [h.rg, e1], fun i r q hr hq => ?_, h.mm⟩, fun i x th hx hth => ?_⟩
 · have hi : i < (shpOf p).ins.length := by rw [← h.pc]; exact (List.getElem?_eq_some_iff.1 hx).1
   have := (h.th i hi).2.1.1
   rw [List.getD_eq_getElem?_getD, hx] at this
   exact this
 · have hi : i < (shpOf p).ins.length := by rw [← h.rg]; exact (List.getElem?_eq_some_iff.1 hq).1
   have := (h.th i hi).1
   rw [List.getD_eq_getElem?_getD, hq] at this
   have e2 : (shpOf p).rgs.getD i 0 = (p.regs.getD i []).length := getD_map_len p.regs i
   rw [e2, List.getD_eq_getElem?_getD, hr] at this
   exact this
 · have hi : i < (shpOf p).ins.length := by rw [← h.pc]; exact (List.getElem?_eq_some_iff.1 hx).1
   have := (h.th i hi).2.1.2
   rw [List.getD_eq_getElem?_getD, hx] at this
   have e2 : (shpOf p).ins.getD i 0 = (p.threads.getD i []).length := getD_map_len p.threads i
   rw [e2, List.getD_eq_getElem?_getD, hth] at this
   exact this
theorem fits_inv {p : PG} {s : ST} {pc : List Int} {regs : List (List Int)} {mem : List Int} (hv : Vld p) (h : Fits (shpOf p) s) (hI : Inv p pc regs mem) (hL : LeI p.threads pc) : Fits (shpOf p) ⟨pc, s.ph, regs, mem, s.buf, s.lock⟩ := by
 have e1 : (shpOf p).ins.length = p.threads.length := (shp_len hv).1
 refine ⟨by show pc.length = _; rw [hI.pl, e1], h.ph, by show regs.length = _; rw [hI.rl, e1], h.bf, hI.ml, fun i hi => ⟨?_, ?_, (h.th i hi).2.2⟩, h.lk⟩
 · have e2 : (shpOf p).rgs.getD i 0 = (p.regs.getD i []).length := getD_map_len p.regs i
   have i1 : i < regs.length := by rw [hI.rl, ← e1]; exact hi
   have i2 : i < p.regs.length := by rw [hv.rl, ← e1]; exact hi
   rw [e2]
   show (regs.getD i []).length = _
   rw [List.getD_eq_getElem?_getD, List.getElem?_eq_getElem i1, List.getD_eq_getElem?_getD, List.getElem?_eq_getElem i2]
   exact hI.rs i _ _ (List.getElem?_eq_getElem i2) (List.getElem?_eq_getElem i1)
 · have e2 : (shpOf p).ins.getD i 0 = (p.threads.getD i []).length := getD_map_len p.threads i
   have i1 : i < pc.length := by rw [hI.pl, ← e1]; exact hi
   have i2 : i < p.threads.length := by rw [← e1]; exact hi
   rw [e2]
   show 0 ≤ pc.getD i 0 ∧ pc.getD i 0 ≤ _
   rw [List.getD_eq_getElem?_getD, List.getElem?_eq_getElem i1, List.getD_eq_getElem?_getD, List.getElem?_eq_getElem i2]
   exact ⟨hI.ps i _ (List.getElem?_eq_getElem i1), hL i _ _ (List.getElem?_eq_getElem i1) (List.getElem?_eq_getElem i2)⟩
theorem stepK_some {p : PG} {s s' : ST} {k : Int × Int × Int} (h : stepK p.threads s k = some s') : plainB s = true ∧ k.2.1 = 1 ∧ k.2.2 = 0 ∧ ∃ t, stepS p.threads s.pc s.regs s.mem k.1 = some t ∧ s' = ⟨t.1, s.ph, t.2.1, t.2.2, s.buf, s.lock⟩ := by
 unfold stepK at h
 split at h
 · rename_i hc
   obtain ⟨t, ht, e⟩ := Option.map_eq_some_iff.1 h
   exact ⟨hc.1, hc.2.1, hc.2.2, t, ht, e.symm⟩
 · cases h
theorem step_keeps {p : PG} {s s' : ST} {k : Int × Int × Int} (hv : Vld p) (hp : PWid p) (hfl : p.Few) (h : Fits (shpOf p) s) (hw : Wid s) (hk : stepK p.threads s k = some s') : Fits (shpOf p) s' ∧ Wid s' ∧ s'.lock = s.lock ∧ plainB s' = true := by
 obtain ⟨hpl, _, _, t, ht, rfl⟩ := stepK_some hk
 obtain ⟨hI, hL⟩ := inv_fits hv h
 have hI' := inv_step hv hI ht
 have hL' := le_step hv hI hL ht
 refine ⟨fits_inv hv h hI' hL', ?_, rfl, ?_⟩
 · obtain ⟨j, qn, th, o, rj, e, hth, hpc, ho, hrj, hoi, rfl⟩ := step_some hv hI ht
   have hoI : I64 o.imm := hp.im th (List.mem_of_getElem? hth) o (List.mem_of_getElem? ho)
   have hrI : ∀ v ∈ rj, I64 v := hw.rg rj (List.mem_of_getElem? hrj)
   refine ⟨fun v hv' => ?_, hw.ph, fun l hl v hv' => ?_, wid_doM hoI hrI hw.mm, hw.bf, hw.lk⟩
   · rcases List.mem_or_eq_of_mem_set hv' with h1 | h1
     · exact hw.pc v h1
     · have := (List.getElem?_eq_some_iff.1 ho).1
       have := row_few hth hfl.tt
       rw [h1]
       exact ⟨by omega, by omega⟩
   · rcases List.mem_or_eq_of_mem_set hl with h1 | h1
     · exact hw.rg l h1 v hv'
     · rw [h1] at hv'
       exact wid_doR hoI hrI hw.mm v hv'
 · unfold plainB at hpl ⊢
   have e : t.1.length = s.pc.length := by rw [hI'.pl, hI.pl]
   show ((List.range t.1.length).all _ && _) = true
   rw [e]
   exact hpl
theorem fits_start {p : PG} (hv : Vld p) (hp : PWid p) : Fits (shpOf p) ⟨List.replicate p.threads.length 0, List.replicate p.threads.length 0, p.regInit, p.locInit, List.replicate p.threads.length [], -1⟩ ∧ Wid ⟨List.replicate p.threads.length 0, List.replicate p.threads.length 0, p.regInit, p.locInit, List.replicate p.threads.length [], -1⟩ ∧ plainB ⟨List.replicate p.threads.length 0, List.replicate p.threads.length 0, p.regInit, p.locInit, List.replicate p.threads.length [], -1⟩ = true := by
 have e1 : (shpOf p).ins.length = p.threads.length := (shp_len hv).1
 have g0 : ∀ i, (List.replicate p.threads.length (0 : Int)).getD i 0 = 0 := fun i => by
  rw [List.getD_eq_getElem?_getD, List.getElem?_replicate]; split <;> rfl
 have g1 : ∀ i, (List.replicate p.threads.length ([] : List (Int × Int))).getD i [] = [] := fun i => by
  rw [List.getD_eq_getElem?_getD, List.getElem?_replicate]; split <;> rfl
 refine ⟨⟨by rw [e1]; simp, by rw [e1]; simp, by rw [e1]; exact hv.il, by rw [e1]; simp, hv.ll, fun i hi => ⟨?_, ?_, ?_, ?_⟩, ?_⟩, ⟨fun v h => ?_, fun v h => ?_, hp.ri, hp.li, fun l h => ?_, i64_m1⟩, ?_⟩
 · have e2 : (shpOf p).rgs.getD i 0 = (p.regs.getD i []).length := getD_map_len p.regs i
   have i1 : i < p.regInit.length := by rw [hv.il, ← e1]; exact hi
   have i2 : i < p.regs.length := by rw [hv.rl, ← e1]; exact hi
   rw [e2]
   show (p.regInit.getD i []).length = _
   rw [List.getD_eq_getElem?_getD, List.getElem?_eq_getElem i1, List.getD_eq_getElem?_getD, List.getElem?_eq_getElem i2]
   exact hv.rows i _ _ (List.getElem?_eq_getElem i2) (List.getElem?_eq_getElem i1)
 · show 0 ≤ (List.replicate p.threads.length (0 : Int)).getD i 0 ∧ _
   rw [g0]; exact ⟨by omega, Int.natCast_nonneg _⟩
 · show 0 ≤ (List.replicate p.threads.length (0 : Int)).getD i 0 ∧ _
   rw [g0]; exact ⟨by omega, by omega⟩
 · show bufOk _ ((List.replicate p.threads.length ([] : List (Int × Int))).getD i [])
   rw [g1]; exact ⟨by simp, by simp⟩
 · show (-1 : Int) ≤ -1 ∧ (-1 : Int) ≤ _
   have := hv.n0
   exact ⟨by omega, by omega⟩
 · have := List.eq_of_mem_replicate h; subst this; exact i64_0
 · have := List.eq_of_mem_replicate h; subst this; exact i64_0
 · have := List.eq_of_mem_replicate h; subst this; exact ⟨by simp, by simp⟩
 · rw [plain_end fun i hi => by unfold idleB; rw [g0, g1]; rfl]; rfl
end Go.Proofs.Ytegpnicajlndlaa

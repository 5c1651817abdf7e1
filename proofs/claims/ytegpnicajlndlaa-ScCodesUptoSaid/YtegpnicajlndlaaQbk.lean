/- Several texts in one: CC1, RE1. -/
import Derived.Test.YtegpnicajlndlaaQbj
import Derived.Test.YtegpnicajlndlaaQaz
import Derived.Test.YtegpnicajlndlaaQaq
/- Code: the text of a state. -/

namespace Go.Proofs.Ytegpnicajlndlaa
open Go.RowKit M
set_option linter.unusedSimpArgs false
set_option linter.unusedVariables false

/-- What Code answers: the text, and the error. -/
noncomputable def codeT (p : PG) (s : ST) : List UInt8 := if validV p = 0 ∧ fitsB (shpOf p) s = true then textS s else []
noncomputable def codeN (p : PG) (s : ST) : Int := if validV p = 0 then (if fitsB (shpOf p) s = true then 0 else 5) else validV p
theorem own_segX {w : World} {B t s n m c : Nat} {a : Option Addr} {xs : List Value} (h : w.ownsRow B t s (.slice a m c) n xs) : Seg w a xs := by
  obtain ⟨a', c', e, hs, _⟩ := own_row h
  cases e
  exact hs
theorem own_formX {w : World} {B t s n : Nat} {v : Value} {xs : List Value} (h : w.ownsRow B t s v n xs) : ∃ a c, v = .slice a n c := by
  obtain ⟨a', c', e, hs, _⟩ := own_row h
  exact ⟨a', c', e⟩
theorem shp_len {p : PG} (h : Vld p) : (shpOf p).ins.length = p.threads.length ∧ (shpOf p).rgs.length = p.threads.length := by unfold shpOf; simp [h.rl]
set_option maxRecDepth 100000 in
set_option maxHeartbeats 8000000 in
theorem code_any (p : PG) (hf : p.Few) (s : ST) (hs : s.Few) (hw : Wid s) (vt vr vl vi vj vpc vph vrg vmm vbf : Value) (w : World) (hp : PGV w vt vr vl vi vj p) (hS : STV w s vpc vph vrg vmm vbf) :
    Calls Try.prog 11 #[.agg #[vt, vr, vl, vi, vj], .agg #[vpc, vph, vrg, vmm, vbf, .int .i64 s.lock]] w fun e w' => e = .returned (.tuple #[.string ⟨(codeT p s).toArray⟩, .int .i64 (codeN p s)]) ∧ Below w.heap.size w w' := by
  have hVal := fun W (h : PGV W vt vr vl vi vj p) => valid_any p hf vt vr vl vi vj W h
  have HP : Hid (PGV w vt vr vl vi vj p) := hp
  have HS : Hid (STV w s vpc vph vrg vmm vbf) := hS
  have hone : ∀ v ∈ [vpc, vph, vrg, vmm, vbf, .int .i64 s.lock], v.oneCell' = true := stc_oneX (rowV_oneX hS.pc) (rowV_oneX hS.ph) (by obtain ⟨a, c, e⟩ := hS.rg.form; rw [e]; rfl) (rowV_oneX hS.mm) (by obtain ⟨a, c, e⟩ := hS.bf.form; rw [e]; rfl)
  have t1 : True := trivial
  have t2 : True := trivial
  have t3 : True := trivial
  by_cases hv0 : validV p = 0
  · have hv := vld_of hv0
    have hl := shp_len hv
    obtain ⟨n, hn⟩ : ∃ n, p.threads.length = n := ⟨_, rfl⟩
    obtain ⟨nl, hnl⟩ : ∃ n, p.locs.length = n := ⟨_, rfl⟩
    have hn20 : n ≤ 1048576 := by rw [← hn]; exact hf.t
    have hl20 : nl ≤ 1048576 := by rw [← hnl]; exact hf.l
    have hShp := fun W (h : PGV W vt vr vl vi vj p) => shapeOf_any p n nl hf hv hn hnl vt vr vl vi vj W h
    rw [hn] at hl
    have hFit := fun W a1 a2 c1 c2 (h : STV W s vpc vph vrg vmm vbf) h1 h2 => fits_any (shpOf p) s n nl a1 a2 c1 c2 vpc vph vrg vmm vbf W hl.1 hn20 hl20 hl.2 hnl hs h1 h2 h
    have hText := fun (hft : Fits (shpOf p) s) W (h : STV W s vpc vph vrg vmm vbf) => textOf_any s n (by rw [hft.pc, hl.1]) hs hw ⟨by rw [hft.ph, hl.1], by rw [hft.rg, hl.1], by rw [hft.bf, hl.1]⟩ vpc vph vrg vmm vbf W h
    obtain ⟨fb, hfb⟩ : ∃ b, b = fitsB (shpOf p) s := ⟨_, rfl⟩
    have HFB : Hid (fb = true → Fits (shpOf p) s) := fun e => (fitsB_iff _ _).1 (by rw [← hfb]; exact e)
    have HCT : Hid ((fb = true → codeT p s = textS s) ∧ (fb = true → codeN p s = 0) ∧ (fb = false → codeT p s = []) ∧ (fb = false → codeN p s = 5)) := by
      refine ⟨fun e => ?_, fun e => ?_, fun e => ?_, fun e => ?_⟩
      · unfold codeT; rw [if_pos ⟨hv0, by rw [← hfb]; exact e⟩]
      · unfold codeN; rw [if_pos hv0, if_pos (by rw [← hfb]; exact e)]
      · unfold codeT; rw [if_neg (by rw [← hfb, e]; simp)]
      · unfold codeN; rw [if_pos hv0, if_neg (by rw [← hfb, e]; simp)]
    rw [hv0] at hVal
    simp only [← hfb] at hFit
    obtain ⟨z, hz⟩ : ∃ z, z = shpOf p := ⟨_, rfl⟩
    rw [← hz] at hFit hShp hText HFB
    obtain ⟨lk, hlk⟩ : ∃ k, s.lock = k := ⟨_, rfl⟩
    simp only [hlk] at hFit hText hone ⊢
    clear hp hS hv hv0 hf hs hw hn hnl hfb hz hl hlk
    go_enter Try.func11, Try.ntmps11
    go_wp2_with (first
      | (clear t1; refine wpList_boxS rfl 28 _ rfl [vt, vr, vl, vi, vj] rfl ?_; intro W0 b2 F0 C0; have B0 := F_b F0; clear F0)
      | (clear t2; refine wpList_boxS rfl 32 _ rfl [vpc, vph, vrg, vmm, vbf, .int .i64 lk] rfl ?_; intro W0b b3 F1 C1; have C1b := C0.fresh F1; have B0b := F1.trans B0 B0.size; clear F1 C0)
      | (clear t3; refine wpList_loadW rfl 28 _ rfl rfl C1b _ Try.underlying28 rfl infoPg ?_)
      | (go_at_call 36; refine (hVal _ (HP.out.below B0b)).mono ?_; rintro e W1 ⟨rfl, B1x⟩; have C2 := C1b.grown B1x; have C3 := C1.grown B1x; have B1 := Below.then B0b B1x; clear hVal C1 C1b B0 B0b B1x))
    refine region_invA 4 (fun a0 listed a' w' => ∃ x12 x13 x14 x15 : Value, a' = ((((a0.put (some 12) x12).put (some 13) x13).put (some 14) x14).put (some 15) x15) ∧ Hid (Below W1.heap.size W1 w') ∧ (listed.getD 0 false = true → x12 = (.agg [vt, vr, vl, vi, vj].toArray)) ∧ (listed.getD 1 false = true → ∃ u1 u2, x13 = .agg #[u1, u2, .int .i64 (nl : Int)] ∧ w'.ownsRow W1.heap.size 3 1 u1 n ((natI z.ins).flatMap intE) ∧ w'.ownsRow W1.heap.size 3 1 u2 n ((natI z.rgs).flatMap intE)) ∧ (listed.getD 2 false = true → x14 = (.agg [vpc, vph, vrg, vmm, vbf, .int .i64 lk].toArray)) ∧ (listed.getD 3 false = true → x15 = .bool fb)) (by kernel_rfl) (by kernel_rfl) ?i0 ?istep ?iend
    case i0 => exact ⟨_, _, _, _, by first | (simp only [Act.put, List.setIfInBounds_toArray, List.set_cons_succ, List.set_cons_zero]; done) | (simp only [Act.put, List.setIfInBounds_toArray, List.set_cons_succ, List.set_cons_zero]; rfl) | rfl, below_drew (Below.refl _ _), fun h => (not_rep h).elim, fun h => (not_rep h).elim, fun h => (not_rep h).elim, fun h => (not_rep h).elim⟩
    case istep =>
      rintro i listed a' w' hi hr ⟨x12, x13, x14, x15, rfl, HBw, d0, d1, d2, d3⟩
      obtain ⟨hun, oj, hoj, hwt⟩ := mem_ready.1 hr
      simp only [Act.put, List.setIfInBounds_toArray, List.set_cons_succ, List.set_cons_zero]
      have hcase : i = 0 ∨ i = 1 ∨ i = 2 ∨ i = 3 := by omega
      rcases hcase with rfl | rfl | rfl | rfl
      · have hoj2 := hoj
        obtain rfl := Option.some.inj hoj
        refine wpOp_value hoj2 rfl (v := (.agg [vt, vr, vl, vi, vj].toArray)) (w' := w') (exec_loadSX rfl rfl (C2.grown HBw.out) Try.underlying28 rfl infoPg) ?_
        exact ⟨(.agg [vt, vr, vl, vi, vj].toArray), x13, x14, x15, by first | (simp only [Act.put, List.setIfInBounds_toArray, List.set_cons_succ, List.set_cons_zero]; done) | (simp only [Act.put, List.setIfInBounds_toArray, List.set_cons_succ, List.set_cons_zero]; rfl) | rfl, Below.then HBw.out (Below.refl _ _), fun _ => rfl, fun h => (Exists.elim (d1 (keep (by decide) h)) fun u1 h => Exists.elim h fun u2 h => ⟨u1, u2, h.1, own_belowY h.2.1 (Below.refl _ _), own_belowY h.2.2 (Below.refl _ _)⟩), fun h => (d2 (keep (by decide) h)), fun h => (d3 (keep (by decide) h))⟩
      · have hoj2 := hoj
        obtain rfl := Option.some.inj hoj
        have e0 := d0 (hwt ⟨0, .data⟩ (by simp) rfl)
        subst e0
        refine wpOp_call hoj2 rfl (f := 41) (args := #[(.agg [vt, vr, vl, vi, vj].toArray)]) (by first | rfl | (go_simp; done) | (simp [execOp, go_sem]; done)) ?_
        refine (hShp w' (HP.out.below (Below.then B1 HBw.out))).mono ?_
        rintro e w4 ⟨u1, u2, rfl, O1, O2, B4⟩
        refine ⟨_, rfl, ?_⟩
        exact ⟨(.agg [vt, vr, vl, vi, vj].toArray), _, x14, x15, by first | (simp only [Act.put, List.setIfInBounds_toArray, List.set_cons_succ, List.set_cons_zero]; done) | (simp only [Act.put, List.setIfInBounds_toArray, List.set_cons_succ, List.set_cons_zero]; rfl) | rfl, Below.then HBw.out B4, fun h => (d0 (keep (by decide) h)), fun _ => ⟨u1, u2, rfl, own_raise O1 HBw.out.size, own_raise O2 HBw.out.size⟩, fun h => (d2 (keep (by decide) h)), fun h => (d3 (keep (by decide) h))⟩
      · have hoj2 := hoj
        obtain rfl := Option.some.inj hoj
        refine wpOp_value hoj2 rfl (v := (.agg [vpc, vph, vrg, vmm, vbf, .int .i64 lk].toArray)) (w' := w') (exec_loadSX rfl rfl (C3.grown HBw.out) Try.underlying32 rfl infoSt) ?_
        exact ⟨x12, x13, (.agg [vpc, vph, vrg, vmm, vbf, .int .i64 lk].toArray), x15, by first | (simp only [Act.put, List.setIfInBounds_toArray, List.set_cons_succ, List.set_cons_zero]; done) | (simp only [Act.put, List.setIfInBounds_toArray, List.set_cons_succ, List.set_cons_zero]; rfl) | rfl, Below.then HBw.out (Below.refl _ _), fun h => (d0 (keep (by decide) h)), fun h => (Exists.elim (d1 (keep (by decide) h)) fun u1 h => Exists.elim h fun u2 h => ⟨u1, u2, h.1, own_belowY h.2.1 (Below.refl _ _), own_belowY h.2.2 (Below.refl _ _)⟩), fun _ => rfl, fun h => (d3 (keep (by decide) h))⟩
      · have hoj2 := hoj
        obtain rfl := Option.some.inj hoj
        have e1 := d1 (hwt ⟨1, .data⟩ (by simp) rfl)
        have e2 := d2 (hwt ⟨2, .data⟩ (by simp) rfl)
        obtain ⟨u1, u2, rfl, O1, O2⟩ := e1
        subst e2
        obtain ⟨a1, c1, rfl⟩ := own_form O1
        obtain ⟨a2, c2, rfl⟩ := own_form O2
        refine wpOp_call hoj2 rfl (f := 42) (args := #[.agg #[.slice a1 n c1, .slice a2 n c2, .int .i64 (nl : Int)], (.agg [vpc, vph, vrg, vmm, vbf, .int .i64 lk].toArray)]) (by first | rfl | (go_simp; done) | (simp [execOp, go_sem]; done)) ?_
        refine (hFit w' a1 a2 c1 c2 (HS.out.below (Below.then B1 HBw.out)) (own_segX O1) (own_segX O2)).mono ?_
        rintro e w4 ⟨rfl, B4⟩
        refine ⟨_, rfl, ?_⟩
        exact ⟨x12, _, (.agg [vpc, vph, vrg, vmm, vbf, .int .i64 lk].toArray), _, by first | (simp only [Act.put, List.setIfInBounds_toArray, List.set_cons_succ, List.set_cons_zero]; done) | (simp only [Act.put, List.setIfInBounds_toArray, List.set_cons_succ, List.set_cons_zero]; rfl) | rfl, Below.then HBw.out B4, fun h => (d0 (keep (by decide) h)), fun h => (Exists.elim (d1 (keep (by decide) h)) fun u1 h => Exists.elim h fun u2 h => ⟨u1, u2, h.1, own_belowY h.2.1 B4, own_belowY h.2.2 B4⟩), fun h => (d2 (keep (by decide) h)), fun _ => rfl⟩
    case iend =>
      rintro a' w' ⟨x12, x13, x14, x15, rfl, HBw, d0, d1, d2, d3⟩
      replace d0 := d0 rfl
      replace d1 := d1 rfl
      replace d2 := d2 rfl
      replace d3 := d3 rfl
      simp only [Act.put, List.setIfInBounds_toArray, List.set_cons_succ, List.set_cons_zero]
      simp only [List.drop_succ_cons, List.drop_zero]
      obtain ⟨u1, u2, e13, O1, O2⟩ := d1
      subst e13 d0 d2 d3
      have Bw := HBw.out
      clear HBw
      have C3w := C3.grown Bw
      have B1w := Below.then B1 Bw
      have tz : True := trivial
      cases fb with
      | true =>
        have HFT := HFB.out rfl
        have HQ : Hid (codeT p s = textS s ∧ codeN p s = 0) := ⟨HCT.out.1 rfl, HCT.out.2.1 rfl⟩
        clear HCT HFB
        go_wp2_with (first
          | (clear tz; refine wpList_loadW rfl 32 _ rfl rfl C3w _ Try.underlying32 rfl infoSt ?_)
          | (go_at_call 43; refine (hText HFT _ (HS.out.below B1w)).mono ?_; rintro e W7 ⟨rfl, B7⟩))
        go_ret2
        exact ⟨by rw [HQ.out.1, HQ.out.2]; rfl, Below.then B1w B7⟩
      | false =>
        have HQ : Hid (codeT p s = [] ∧ codeN p s = 5) := ⟨HCT.out.2.2.1 rfl, HCT.out.2.2.2 rfl⟩
        clear HCT HFB
        go_wp2_with fail
        go_ret2
        exact ⟨by rw [HQ.out.1, HQ.out.2]; rfl, B1w⟩
  · have HCT : Hid (codeT p s = [] ∧ codeN p s = validV p) := by
      refine ⟨?_, ?_⟩
      · unfold codeT; rw [if_neg (fun h => hv0 h.1)]
      · unfold codeN; rw [if_neg hv0]
    obtain ⟨ev, hev⟩ : ∃ e, e = validV p := ⟨_, rfl⟩
    rw [← hev] at HCT hv0
    simp only [← hev] at hVal
    have hev0 : (ev == 0) = false := by simp [hv0]
    clear hp hS hf hs hw hev
    obtain ⟨lk, hlk⟩ : ∃ k, s.lock = k := ⟨_, rfl⟩
    simp only [hlk] at hone ⊢
    clear hlk
    go_enter Try.func11, Try.ntmps11
    go_wp2_with (first
      | (clear t1; refine wpList_boxS rfl 28 _ rfl [vt, vr, vl, vi, vj] rfl ?_; intro W0 b2 F0 C0; have B0 := F_b F0; clear F0)
      | (clear t2; refine wpList_boxS rfl 32 _ rfl [vpc, vph, vrg, vmm, vbf, .int .i64 lk] rfl ?_; intro W0b b3 F1 C1; have C1b := C0.fresh F1; have B0b := F1.trans B0 B0.size; clear F1 C0)
      | (clear t3; refine wpList_loadW rfl 28 _ rfl rfl C1b _ Try.underlying28 rfl infoPg ?_)
      | (go_at_call 36; refine (hVal _ (HP.out.below B0b)).mono ?_; rintro e W1 ⟨rfl, B1x⟩; have B1 := Below.then B0b B1x; clear hVal C1 C1b B0 B0b B1x))
    go_ret2
    exact ⟨by rw [HCT.out.1, HCT.out.2]; rfl, B1⟩
end Go.Proofs.Ytegpnicajlndlaa
/- Read: the state of a text. -/
namespace Go.Proofs.Ytegpnicajlndlaa
open Go.RowKit M
set_option linter.unusedSimpArgs false
set_option linter.unusedVariables false

theorem STB.below {w W : World} {B : Nat} {s : ST} {gp gh gr gm gb : Nat} {rows : List (Nat × List Int)} {brows : List (Nat × List (Int × Int))} (h : STB w B s gp gh gr gm gb rows brows) (hB : Below w.heap.size w W) : STB W B s gp gh gr gm gb rows brows :=
  ⟨h.pc.grown hB, h.ph.grown hB, h.rg.grown hB, h.mm.grown hB, h.bf.grown hB, h.er, h.eb, fun x hx => (h.rr x hx).grown hB, fun x hx => (h.bb x hx).grown hB, h.d1, h.nr, h.nb, h.low⟩
theorem STB.updS {w W : World} {B c t : Nat} {cs : List Value} {s : ST} {gp gh gr gm gb : Nat} {rows : List (Nat × List Int)} {brows : List (Nat × List (Int × Int))} (h : STB w B s gp gh gr gm gb rows brows) (I : IsS w c t cs) (ht : t ≠ 3 ∧ t ≠ 2 ∧ t ≠ 26 ∧ t ≠ 48 ∧ t ≠ 50) (U : Upd w W c) : STB W B s gp gh gr gm gb rows brows :=
  ⟨isS_updT h.pc I (Ne.symm ht.1) U, isS_updT h.ph I (Ne.symm ht.1) U, isS_updT h.rg I (Ne.symm ht.2.2.1) U, isS_updT h.mm I (Ne.symm ht.2.1) U, isS_updT h.bf I (Ne.symm ht.2.2.2.1) U, h.er, h.eb, fun x hx => isS_updT (h.rr x hx) I (Ne.symm ht.2.1) U, fun x hx => isS_updT (h.bb x hx) I (Ne.symm ht.2.2.2.2) U, h.d1, h.nr, h.nb, h.low⟩
theorem STB.raise {w : World} {B B' : Nat} {s : ST} {gp gh gr gm gb : Nat} {rows : List (Nat × List Int)} {brows : List (Nat × List (Int × Int))} (h : STB w B' s gp gh gr gm gb rows brows) (hB : B ≤ B') : STB w B s gp gh gr gm gb rows brows :=
  ⟨h.pc, h.ph, h.rg, h.mm, h.bf, h.er, h.eb, h.rr, h.bb, h.d1, h.nr, h.nb, Nat.le_trans hB h.low.1, Nat.le_trans hB h.low.2.1, Nat.le_trans hB h.low.2.2.1, Nat.le_trans hB h.low.2.2.2.1, Nat.le_trans hB h.low.2.2.2.2.1, fun x hx => Nat.le_trans hB (h.low.2.2.2.2.2.1 x hx), fun x hx => Nat.le_trans hB (h.low.2.2.2.2.2.2 x hx)⟩
theorem stbV_one (s : ST) (gp gh gr gm gb : Nat) : ∀ v ∈ stbV s gp gh gr gm gb, v.oneCell' = true := by
  intro v hv
  unfold stbV at hv
  simp only [List.mem_cons, List.not_mem_nil, or_false] at hv
  rcases hv with rfl | rfl | rfl | rfl | rfl | rfl <;> rfl
/-- The zero state's cells. -/
def zst : List Value := [.slice none 0 0, .slice none 0 0, .slice none 0 0, .slice none 0 0, .slice none 0 0, .int .i64 0]
/-- What Read answers. -/
def RdA (w : World) (p : PG) (T : ByteArray) (e : Ending) (w' : World) : Prop :=
  (validV p ≠ 0 → e = .returned (.tuple #[.agg zst.toArray, .int .i64 (validV p)]) ∧ Below w.heap.size w w') ∧
  (validV p = 0 → readS T (shpOf p) = none → e = .returned (.tuple #[.agg zst.toArray, .int .i64 5]) ∧ Below w.heap.size w w') ∧
  (validV p = 0 → ∀ s, readS T (shpOf p) = some s → ∃ gp gh gr gm gb rows brows, e = .returned (.tuple #[.agg (stbV s gp gh gr gm gb).toArray, .int .i64 0]) ∧ STB w' w.heap.size s gp gh gr gm gb rows brows ∧ Below w.heap.size w w')
set_option maxRecDepth 100000 in
set_option maxHeartbeats 8000000 in
theorem read_any (p : PG) (hf : p.Few) (T : ByteArray) (hT : T.size ≤ 1099511627776) (vt vr vl vi vj : Value) (w : World) (hp : PGV w vt vr vl vi vj p) :
    Calls Try.prog 13 #[.agg #[vt, vr, vl, vi, vj], .string T] w fun e w' => RdA w p T e w' := by
  have hVal := fun W (h : PGV W vt vr vl vi vj p) => valid_any p hf vt vr vl vi vj W h
  have HP : Hid (PGV w vt vr vl vi vj p) := hp
  have t1 : True := trivial
  have t2 : True := trivial
  have t3 : True := trivial
  have t4 : True := trivial
  have t5 : True := trivial
  have t6 : True := trivial
  have t7 : True := trivial
  have hz1 : ∀ v ∈ zst, v.oneCell' = true := by
    intro v hv
    unfold zst at hv
    simp only [List.mem_cons, List.not_mem_nil, or_false] at hv
    rcases hv with rfl | rfl | rfl | rfl | rfl | rfl <;> rfl
  by_cases hv0 : validV p = 0
  · have hv := vld_of hv0
    have hl := shp_len hv
    obtain ⟨n, hn⟩ : ∃ n, p.threads.length = n := ⟨_, rfl⟩
    obtain ⟨nl, hnl⟩ : ∃ n, p.locs.length = n := ⟨_, rfl⟩
    have hn20 : n ≤ 1048576 := by rw [← hn]; exact hf.t
    have hl20 : nl ≤ 1048576 := by rw [← hnl]; exact hf.l
    have hShp := fun W (h : PGV W vt vr vl vi vj p) => shapeOf_any p n nl hf hv hn hnl vt vr vl vi vj W h
    rw [hn] at hl
    have hrg : ∀ x ∈ (shpOf p).rgs, x ≤ 1048576 := fun x hx => by
      unfold shpOf at hx
      obtain ⟨l, hm, rfl⟩ := List.mem_map.1 hx
      exact Nat.le_trans (flat_mem hm) hf.rr
    have hSt := fun W a1 a2 c1 c2 h1 h2 => stateOf_any (shpOf p) T n nl a1 a2 c1 c2 hl.1 hl.2 hnl hn20 hl20 hrg hT W h1 h2
    rw [hv0] at hVal
    cases hrd : readS T (shpOf p) with
    | none =>
      have HQ : Hid (∀ e w', e = .returned (.tuple #[.agg zst.toArray, .int .i64 5]) ∧ Below w.heap.size w w' → RdA w p T e w') := fun e w' h => ⟨fun hne => absurd hv0 hne, fun _ _ => h, fun _ s hs => (by rw [hrd] at hs; cases hs)⟩
      unfold StRead at hSt
      simp only [hrd] at hSt
      obtain ⟨z, hz⟩ : ∃ z, z = shpOf p := ⟨_, rfl⟩
      rw [← hz] at hSt hShp
      generalize RdA w p T = RR at *
      clear hp hv hv0 hf hn hnl hrg hz hl hrd
      go_enter Try.func13, Try.ntmps13
      go_wp2_with (first
        | (clear t1; refine wpList_boxS rfl 28 _ rfl [vt, vr, vl, vi, vj] rfl ?_; intro W0 b2 F0 C0; have B0 := F_b F0; clear F0)
        | (clear t2; refine wpList_allocS rfl 32 rfl zst zeroSt ?_; intro W1 b4 F1 Z1; have C1 := C0.fresh F1; have B1 := F1.trans B0 B0.size; have hb4 : w.heap.size ≤ b4 := Nat.le_trans B0.size (Nat.le_of_eq F1.at'.symm); clear F1 C0)
        | (clear t3; refine wpList_loadW rfl 28 _ rfl rfl C1 _ Try.underlying28 rfl infoPg ?_)
        | (go_at_call 36; refine (hVal _ (HP.out.below B1)).mono ?_; rintro e W2 ⟨rfl, B2x⟩; have C2 := C1.grown B2x; have Z2 := Z1.grown B2x; have B2 := Below.then B1 B2x; clear hVal C1 Z1 B0 B1 B2x)
        | (clear t4; refine wpList_loadW rfl 28 _ rfl rfl C2 _ Try.underlying28 rfl infoPg ?_)
        | (go_at_call 41; refine (hShp _ (HP.out.below B2)).mono ?_; rintro e W3 ⟨u1, u2, rfl, O1, O2, B3x⟩; obtain ⟨a1, c1, e1⟩ := own_formX O1; obtain ⟨a2, c2, e2⟩ := own_formX O2; subst e1 e2; have Z3 := Z2.grown B3x; have B3 := Below.then B2 B3x; clear hShp)
        | (go_at_call 44; refine (hSt _ a1 a2 c1 c2 (own_segX O1) (own_segX O2)).mono ?_; rintro e W4 ⟨rfl, B4x⟩; have Z4 := Z3.grown B4x; have B4 := Below.then B3 B4x; clear hSt)
        | (clear t5; refine wpList_allocS rfl 32 rfl zst zeroSt ?_; intro W5 b7 F5 I5; have Z5 := Z4.fresh F5; have B5 := F5.trans B4 B4.size; have hb7 : w.heap.size ≤ b7 := Nat.le_trans B4.size (Nat.le_of_eq F5.at'.symm); have n47 : b4 ≠ b7 := (by have := Z4.lt; have := F5.at'; omega); clear F5)
        | (clear t6; refine wpList_storeW rfl 32 _ _ rfl rfl zst rfl I5 rfl infoSt hz1 ?_; intro W6 U6 I6; have Z6 := Z5.upd U6 n47; have B6 := U6.trans B5 hb7; clear U6 I5 I6)
        | (clear t7; refine wpList_valueX rfl (build0_st rfl) ?_)
        | (refine wpList_storeW rfl 32 _ _ rfl rfl zst rfl Z6 rfl infoSt hz1 ?_; intro W7 U7 Z7; have B7 := U7.trans B6 hb4))
      exact ret_ST rfl rfl rfl Z7 _ Try.underlying32 rfl infoSt _ rfl (HQ.out _ _ ⟨rfl, B7⟩)
    | some s =>
      have HQ : Hid (∀ e w' gp gh gr gm gb rows brows, e = .returned (.tuple #[.agg (stbV s gp gh gr gm gb).toArray, .int .i64 0]) ∧ STB w' w.heap.size s gp gh gr gm gb rows brows ∧ Below w.heap.size w w' → RdA w p T e w') := fun e w' gp gh gr gm gb rows brows h => ⟨fun hne => absurd hv0 hne, fun _ hn => (by rw [hrd] at hn; cases hn), fun _ s' hs => by rw [hrd] at hs; cases hs; exact ⟨gp, gh, gr, gm, gb, rows, brows, h⟩⟩
      unfold StRead at hSt
      simp only [hrd] at hSt
      obtain ⟨z, hz⟩ : ∃ z, z = shpOf p := ⟨_, rfl⟩
      rw [← hz] at hSt hShp
      generalize RdA w p T = RR at *
      clear hp hv hv0 hf hn hnl hrg hz hl hrd
      go_enter Try.func13, Try.ntmps13
      go_wp2_with (first
        | (clear t1; refine wpList_boxS rfl 28 _ rfl [vt, vr, vl, vi, vj] rfl ?_; intro W0 b2 F0 C0; have B0 := F_b F0; clear F0)
        | (clear t2; refine wpList_allocS rfl 32 rfl zst zeroSt ?_; intro W1 b4 F1 Z1; have C1 := C0.fresh F1; have B1 := F1.trans B0 B0.size; have hb4 : w.heap.size ≤ b4 := Nat.le_trans B0.size (Nat.le_of_eq F1.at'.symm); clear F1 C0)
        | (clear t3; refine wpList_loadW rfl 28 _ rfl rfl C1 _ Try.underlying28 rfl infoPg ?_)
        | (go_at_call 36; refine (hVal _ (HP.out.below B1)).mono ?_; rintro e W2 ⟨rfl, B2x⟩; have C2 := C1.grown B2x; have Z2 := Z1.grown B2x; have B2 := Below.then B1 B2x; clear hVal C1 Z1 B0 B1 B2x)
        | (clear t4; refine wpList_loadW rfl 28 _ rfl rfl C2 _ Try.underlying28 rfl infoPg ?_)
        | (go_at_call 41; refine (hShp _ (HP.out.below B2)).mono ?_; rintro e W3 ⟨u1, u2, rfl, O1, O2, B3x⟩; obtain ⟨a1, c1, e1⟩ := own_formX O1; obtain ⟨a2, c2, e2⟩ := own_formX O2; subst e1 e2; have Z3 := Z2.grown B3x; have B3 := Below.then B2 B3x; clear hShp)
        | (go_at_call 44; refine (hSt _ a1 a2 c1 c2 (own_segX O1) (own_segX O2)).mono ?_; rintro e W4 ⟨gp, gh, gr, gm, gb, rows, brows, rfl, S4x, B4x⟩; have S4 := S4x.raise B3.size; obtain ⟨SV, hSV⟩ : ∃ x, x = stbV s gp gh gr gm gb := ⟨_, rfl⟩; have HSV : Hid (SV = stbV s gp gh gr gm gb) := hSV; have hSl : SV.length = 6 := (by rw [hSV]; rfl); have hS1 : ∀ v ∈ SV, v.oneCell' = true := (by rw [hSV]; exact stbV_one _ _ _ _ _ _); rw [← hSV]; have Z4 := Z3.grown B4x; have B4 := Below.then B3 B4x; clear hSt hSV S4x)
        | (clear t5; refine wpList_allocS rfl 32 rfl zst zeroSt ?_; intro W5 b7 F5 I5; have S5 := S4.below (F_b F5); have Z5 := Z4.fresh F5; have B5 := F5.trans B4 B4.size; have hb7 : w.heap.size ≤ b7 := Nat.le_trans B4.size (Nat.le_of_eq F5.at'.symm); have n47 : b4 ≠ b7 := (by have := Z4.lt; have := F5.at'; omega); clear F5)
        | (clear t6; refine wpList_storeW rfl 32 _ _ rfl rfl SV rfl I5 (by rw [hSl]; rfl) (by rw [hSl]; exact infoSt) hS1 ?_; intro W6 U6 I6; have S6 := S5.updS I5 (by decide) U6; have Z6 := Z5.upd U6 n47; have B6 := U6.trans B5 hb7; clear U6 I5)
        | (clear t7; refine wpList_loadW rfl 32 _ rfl rfl I6 _ Try.underlying32 rfl (by rw [hSl]; exact infoSt) ?_)
        | (refine wpList_storeW rfl 32 _ _ rfl rfl SV rfl Z6 (by rw [hSl]; rfl) (by rw [hSl]; exact infoSt) hS1 ?_; intro W7 U7 Z7; have S7 := S6.updS Z6 (by decide) U7; have B7 := U7.trans B6 hb4))
      exact ret_ST rfl rfl rfl Z7 _ Try.underlying32 rfl (by rw [hSl]; exact infoSt) _ rfl (HQ.out _ _ gp gh gr gm gb rows brows ⟨by rw [HSV.out]; rfl, S7, B7⟩)
  · have HQ : Hid (∀ e w', e = .returned (.tuple #[.agg zst.toArray, .int .i64 (validV p)]) ∧ Below w.heap.size w w' → RdA w p T e w') := fun e w' h => ⟨fun _ => h, fun h0 => absurd h0 hv0, fun h0 => absurd h0 hv0⟩
    obtain ⟨ev, hev⟩ : ∃ e, e = validV p := ⟨_, rfl⟩
    rw [← hev] at HQ hv0
    simp only [← hev] at hVal
    generalize RdA w p T = RR at *
    clear hp hf hev
    go_enter Try.func13, Try.ntmps13
    go_wp2_with (first
      | (clear t1; refine wpList_boxS rfl 28 _ rfl [vt, vr, vl, vi, vj] rfl ?_; intro W0 b2 F0 C0; have B0 := F_b F0; clear F0)
      | (clear t2; refine wpList_allocS rfl 32 rfl zst zeroSt ?_; intro W1 b4 F1 Z1; have C1 := C0.fresh F1; have B1 := F1.trans B0 B0.size; have hb4 : w.heap.size ≤ b4 := Nat.le_trans B0.size (Nat.le_of_eq F1.at'.symm); clear F1 C0)
      | (clear t3; refine wpList_loadW rfl 28 _ rfl rfl C1 _ Try.underlying28 rfl infoPg ?_)
      | (go_at_call 36; refine (hVal _ (HP.out.below B1)).mono ?_; rintro e W2 ⟨rfl, B2x⟩; have Z2 := Z1.grown B2x; have B2 := Below.then B1 B2x; clear hVal C1 Z1 B0 B1 B2x)
      | (clear t7; refine wpList_valueX rfl (build0_st rfl) ?_)
      | (refine wpList_storeW rfl 32 _ _ rfl rfl zst rfl Z2 rfl infoSt hz1 ?_; intro W7 U7 Z7; have B7 := U7.trans B2 hb4))
    exact ret_ST rfl rfl rfl Z7 _ Try.underlying32 rfl infoSt _ rfl (HQ.out _ _ ⟨rfl, B7⟩)
end Go.Proofs.Ytegpnicajlndlaa

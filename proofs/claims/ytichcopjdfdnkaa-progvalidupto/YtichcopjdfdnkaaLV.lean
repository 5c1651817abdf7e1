/- The law ProgValid. -/
import Derived.Test.YtichcopjdfdnkaaSB
import Derived.Test.YtichcopjdfdnkaaCP
import Derived.Test.YtichcopjdfdnkaaQF
import Derived.Test.YtichcopjdfdnkaaFQ
namespace Go.Proofs.Ytichcopjdfdnkaa
open Go.RowKit M
set_option linter.unusedSimpArgs false
set_option linter.unusedVariables false

/-- A row of names in a block of its own, as far as it has not been turned. -/
def NM (w : World) (a : Option Addr) (lo hi nn : Nat) (ns : List RF) (j : Nat) : Prop := j < nn → ∃ g cs, a = some ⟨g, 0, none⟩ ∧ lo ≤ g ∧ g < hi ∧ IsS w g 59 cs ∧ nn * 2 ≤ cs.length ∧ ∀ i r, j ≤ i → ns[i]? = some r → cs[i * 2]? = some (.int .i64 r.1) ∧ cs[i * 2 + 1]? = some (.string r.2)
theorem nm_own {w : World} {B : Nat} {v : Value} {ns : List RF} (h : NRow w B v ns) : ∃ a c, v = .slice a ns.length c ∧ NM w a B w.heap.size ns.length ns 0 := by
  rcases h.2 with ⟨rfl, h0⟩ | ⟨g, cap, cur, rfl, hg, hh, h1, h2, h3, h4⟩
  · exact ⟨none, 0, by rw [h0], fun hj => absurd hj (by omega)⟩
  · refine ⟨_, cap, rfl, fun _ => ⟨g, cur.toList, rfl, hg, (Array.getElem?_eq_some_iff.1 hh).1, by unfold IsS; rw [hh], ?_, fun i r _ hr => ?_⟩⟩
    · have hl := congrArg List.length h4
      rw [List.length_take, ref_len] at hl
      omega
    · have e0 := ref_at ns i r hr 0 _ rfl
      have e1 := ref_at ns i r hr 1 _ rfl
      rw [← h4, List.getElem?_take] at e0 e1
      rw [Nat.add_zero] at e0
      split at e0
      · split at e1
        · exact ⟨by simpa using e0, by simpa using e1⟩
        · cases e1
      · cases e0
theorem NM.below {w W : World} {a : Option Addr} {lo hi nn j : Nat} {ns : List RF} (h : NM w a lo hi nn ns j) (hB : Below w.heap.size w W) : NM W a lo hi nn ns j := fun hj => by
  obtain ⟨g, cs, h1, h2, h3, h4, h5, h6⟩ := h hj
  exact ⟨g, cs, h1, h2, h3, h4.grown hB, h5, h6⟩
theorem NM.next {w : World} {a : Option Addr} {lo hi nn j : Nat} {ns : List RF} (h : NM w a lo hi nn ns j) : NM w a lo hi nn ns (j + 1) := fun hj => by
  obtain ⟨g, cs, h1, h2, h3, h4, h5, h6⟩ := h (by omega)
  exact ⟨g, cs, h1, h2, h3, h4, h5, fun i r hi hr => h6 i r (by omega) hr⟩
theorem NM.upd {w W : World} {a : Option Addr} {lo hi nn j b : Nat} {ns : List RF} (h : NM w a lo hi nn ns j) (U : Upd w W b) (hb : b < lo) : NM W a lo hi nn ns j := fun hj => by
  obtain ⟨g, cs, h1, h2, h3, h4, h5, h6⟩ := h hj
  exact ⟨g, cs, h1, h2, h3, h4.upd U (by omega), h5, h6⟩
theorem nm_range {w : World} {g : Nat} {cs : List Value} {i : Nat} {r : RF} (h : IsS w g 59 cs) (h0 : cs[i * 2]? = some (.int .i64 r.1)) (h1 : cs[i * 2 + 1]? = some (.string r.2)) : w.rangeAt g (0 + i * 2) (refL r) := fun j v hv => by
  rw [h.cell, Nat.zero_add]
  match j, hv with
  | 0, hv => cases hv; exact h0
  | 1, hv => cases hv; exact h1
theorem pgv_one {w : World} {vt vr vl vi vj : Value} {p : PG} (h : PGV w vt vr vl vi vj p) : ∀ v ∈ [vt, vr, vl, vi, vj], v.oneCell' = true := by
  obtain ⟨a1, c1, rfl⟩ := h.t.form
  obtain ⟨a2, c2, rfl⟩ := h.r.form
  obtain ⟨a3, c3, rfl⟩ := h.i.form
  obtain ⟨a4, c4, rfl, _⟩ := h.l
  obtain ⟨a5, c5, rfl, _⟩ := h.j
  exact one5 rfl rfl rfl rfl rfl
theorem info9' : (Try.prog.info? 9).map (·.size) = some 1 := by kernel_rfl
set_option maxRecDepth 100000 in
set_option maxHeartbeats 8000000 in
theorem lawValid_any (p : PG) (hf : p.Few) (vt vr vl vi vj : Value) (r : RF) (w : World) (hp : PGV w vt vr vl vi vj p) :
    Calls Try.prog 5 #[.agg #[vt, vr, vl, vi, vj], .agg (refL r).toArray] w fun en w' => en = .returned (.bool true) ∧ Below w.heap.size w w' := by
  have HF : Hid p.Few := hf
  have HP : Hid (PGV w vt vr vl vi vj p) := hp
  obtain ⟨ns, hns⟩ : ∃ ns, namesP p = ns := ⟨_, rfl⟩
  have hnm : ns.length ≤ 4194304 := (by
    rw [← hns]
    unfold namesP lcOf
    rw [List.length_append, namesR_len, List.length_map]
    have := hf.rr; have := hf.l; omega)
  have HNS : Hid (namesP p = ns) := hns
  obtain ⟨nn, hnn⟩ : ∃ n, ns.length = n := ⟨_, rfl⟩
  have HN : Hid (ns.length = nn) := hnn
  rw [hnn] at hnm
  clear hp hf hns hnn
  have t1 : True := trivial
  have t2 : True := trivial
  have t3 : True := trivial
  have t4 : True := trivial
  have t5 : True := trivial
  have t6 : True := trivial
  have t7 : True := trivial
  go_enter Try.func5, Try.ntmps5
  go_wp2_with (first
    | (clear t1; refine wpList_boxS rfl 47 _ rfl [vt, vr, vl, vi, vj] rfl ?_; intro W1 b2 F1 C1; have B1 : Below w.heap.size w W1 := F1.trans (Below.refl _ w) (Nat.le_refl _); clear F1)
    | (clear t2; refine wpList_boxS rfl 59 _ rfl (refL r) rfl ?_; intro W2 b3 F2 D2; have B2 : Below w.heap.size w W2 := F2.trans B1 B1.size; have C2 := C1.fresh F2; clear F2 C1)
    | (clear t3; refine wpList_loadW rfl 47 _ rfl rfl C2 _ Try.underlying47 rfl infoPg ?_)
    | (go_at_call 20; refine (copy_any p HF.out vt vr vl vi vj _ (HP.out.below B2)).mono ?_; rintro en W3 ⟨⟨ut, ur, ul, ui, uj, rfl, P3⟩, B3x⟩; have B3 := Below.then B2 B3x; have C3 := C2.grown B3x; have D3 := D2.grown B3x; clear B3x C2 D2)
    | (clear t4; refine wpList_allocS rfl 47 rfl z5 zeroPg ?_; intro W4 b5 F4 E4; have B4 := F4.trans B3 B3.size; have Bx := F4.trans (Below.refl _ W3) (Nat.le_refl _); have C4 := C3.grown Bx; have D4 := D3.grown Bx; have P4 := P3.below Bx; have hb5 : w.heap.size ≤ b5 := Nat.le_trans B3.size (Nat.le_of_eq F4.at'.symm); have l5 : W3.heap.size ≤ b5 := Nat.le_of_eq F4.at'.symm; have n25 : b2 ≠ b5 := (by have := C3.lt; omega); have n35 : b3 ≠ b5 := (by have := D3.lt; omega); clear F4 C3 D3)
    | (clear t5; refine wpList_storeW rfl 47 _ _ rfl rfl [ut, ur, ul, ui, uj] rfl E4 rfl infoPg (pgv_one P4) ?_; intro W5 U5 E5; have B5 := U5.trans B4 hb5; have By := U5.trans Bx l5; have P5 := P3.below By; have C5 := C4.upd U5 n25; have D5 := D4.upd U5 n35; clear U5 E4 C4 D4 P4 Bx By)
    | (clear t6; refine wpList_loadW rfl 47 _ rfl rfl E5 _ Try.underlying47 rfl infoPg ?_)
    | (go_at_call 21; refine (names_any p HF.out ut ur ul ui uj _ P5).mono ?_; rintro en W6 ⟨⟨v6, rfl, O6⟩, B6x⟩; have B6 := Below.then B5 B6x; have C6 := C5.grown B6x; have HB6 : Hid (Below W5.heap.size W5 W6) := B6x)
    | (clear t7; refine wpList_loadW rfl 47 _ rfl rfl C6 _ Try.underlying47 rfl infoPg ?_)
    | (go_at_call 22; refine (rnames_any p HF.out vt vr vl vi vj _ (HP.out.below B6)).mono ?_; rintro en W7 ⟨⟨v7, rfl, O7⟩, B7x⟩; have HB7 : Hid (Below W6.heap.size W6 W7) := B7x; have B7 := Below.then B6 B7x; rw [HNS.out] at O6 O7; obtain ⟨a6, c6, h6, M6x⟩ := nm_own O6; obtain ⟨a7, c7, h7, M7x⟩ := nm_own O7; subst h6; subst h7; rw [HN.out] at M6x M7x ⊢; have M6 : Hid (NM W7 a6 W5.heap.size W6.heap.size nn ns 0) := NM.below M6x B7x; have M7 : Hid (NM W7 a7 W6.heap.size W7.heap.size nn ns 0) := M7x; clear O6 O7 M6x M7x B6x B7x C6))
  go_loopw [8] (fun i wr => ∃ j : Nat, j ≤ nn ∧ i = .int .i64 (j : Int) ∧ Hid (NM wr a6 W5.heap.size W6.heap.size nn ns j) ∧ Hid (NM wr a7 W6.heap.size W7.heap.size nn ns j) ∧ Hid (Below W5.heap.size W5 wr)) (fun i _ => nn - (intOf i).toNat)
  case atStart => exact ⟨0, by omega, rfl, M6, M7, Below.then HB6.out HB7.out⟩
  case round =>
    obtain ⟨j, hj, rfl, N6, N7, HB⟩ := hrel
    by_cases hlt : j < nn
    · have hji : (j : Int) < nn := by omega
      obtain ⟨x, hx⟩ : ∃ x, ns[j]? = some x := ⟨_, List.getElem?_eq_getElem (by rw [HN.out]; exact hlt)⟩
      obtain ⟨g6, cs6, rfl, lo6, hi6, I6, L6, V6⟩ := N6.out hlt
      obtain ⟨g7, cs7, rfl, lo7, hi7, I7, L7, V7⟩ := N7.out hlt
      have R6 := nm_range I6 (V6 j x (Nat.le_refl _) hx).1 (V6 j x (Nat.le_refl _) hx).2
      have R7 := nm_range I7 (V7 j x (Nat.le_refl _) hx).1 (V7 j x (Nat.le_refl _) hx).2
      have HV6 : Hid (∀ i r, j ≤ i → ns[i]? = some r → cs6[i * 2]? = some (.int .i64 r.1) ∧ cs6[i * 2 + 1]? = some (.string r.2)) := V6
      have HN7 := N7
      clear hx V6 V7 N6 N7
      go_wp2_with fail
      refine grow_allW (by kernel_rfl) (by kernel_rfl) ?_
      refine WG.put rfl (v := .slice (some ⟨g6, 0, none⟩) nn c6) (fun w => by first | rfl | (go_simp; done) | (simp [go_sem]; done) | (simp [execOp, go_sem]; done)) ?_
      simp only [Act.put, List.setIfInBounds_toArray, List.set_cons_succ, List.set_cons_zero]
      refine WG.put rfl (v := .int .i64 (j : Int)) (fun w => by first | rfl | (go_simp; done) | (simp [go_sem]; done) | (simp [execOp, go_sem]; done)) ?_
      simp only [Act.put, List.setIfInBounds_toArray, List.set_cons_succ, List.set_cons_zero]
      refine WG.put rfl (v := .pointer (some ⟨g6, 0 + j * 2, none⟩)) (fun w => by first | rfl | (go_simp; done) | (simp [go_sem]; done) | (simp [execOp, go_sem]; done)) ?_
      simp only [Act.put, List.setIfInBounds_toArray, List.set_cons_succ, List.set_cons_zero]
      refine WG.range rfl 59 _ rfl rfl (refL x) I6.lt R6 _ Try.underlying59 rfl infoRef ?_
      simp only [Act.put, List.setIfInBounds_toArray, List.set_cons_succ, List.set_cons_zero]
      refine WG.put rfl (v := .slice (some ⟨g7, 0, none⟩) nn c7) (fun w => by first | rfl | (go_simp; done) | (simp [go_sem]; done) | (simp [execOp, go_sem]; done)) ?_
      simp only [Act.put, List.setIfInBounds_toArray, List.set_cons_succ, List.set_cons_zero]
      refine WG.put rfl (v := .int .i64 (j : Int)) (fun w => by first | rfl | (go_simp; done) | (simp [go_sem]; done) | (simp [execOp, go_sem]; done)) ?_
      simp only [Act.put, List.setIfInBounds_toArray, List.set_cons_succ, List.set_cons_zero]
      refine WG.put rfl (v := .pointer (some ⟨g7, 0 + j * 2, none⟩)) (fun w => by first | rfl | (go_simp; done) | (simp [go_sem]; done) | (simp [execOp, go_sem]; done)) ?_
      simp only [Act.put, List.setIfInBounds_toArray, List.set_cons_succ, List.set_cons_zero]
      refine WG.range rfl 59 _ rfl rfl (refL x) I7.lt R7 _ Try.underlying59 rfl infoRef ?_
      simp only [Act.put, List.setIfInBounds_toArray, List.set_cons_succ, List.set_cons_zero]
      refine WG.put rfl (v := .bool false) (fun w => by simp [execOp, go_sem, refL]) ?_
      simp only [Act.put, List.setIfInBounds_toArray, List.set_cons_succ, List.set_cons_zero]
      refine WG.nil ?_
      intro V1 X1
      have J6 := I6.grown X1
      have G1 := Below.then HB.out X1
      have K7 := HN7.out.below X1
      clear I6 I7 R6 R7 X1 HB HN7
      have s1 : True := trivial
      go_wp2_with (clear s1; refine wpList_store1 (o := j * 2 + 1) rfl 9 _ _ rfl (by first | rfl | (simp; done)) (.string ⟨#[45]⟩) rfl J6 (by omega) info9' rfl ?_; intro V2 U2 J7; have G2 := U2.trans G1 lo6; have K8 := NM.next (K7.upd U2 hi6); have K9 : NM V2 (some ⟨g6, 0, none⟩) W5.heap.size W6.heap.size nn ns (j + 1) := (fun _ => ⟨g6, _, rfl, lo6, hi6, J7, by rw [List.length_set]; exact L6, fun i r hi hr => ⟨by rw [List.getElem?_set_ne (by omega)]; exact (HV6.out i r (by omega) hr).1, by rw [List.getElem?_set_ne (by omega)]; exact (HV6.out i r (by omega) hr).2⟩⟩); clear U2 J6 K7)
      go_roundw
      case rel => exact ⟨j + 1, by omega, by go_num, K9, K8, G2⟩
      case measure => simp [intOf]; omega
    · have hji : ¬ (j : Int) < nn := by omega
      have E8 := E5.grown HB.out
      have D8 := D5.grown HB.out
      have C8 := C5.grown HB.out
      have P8 := P5.below HB.out
      have G8 := Below.then B5 HB.out
      have cI1 := fun W (h : PGV W ut ur ul ui uj p) => index_any p HF.out ut ur ul ui uj r W h
      have cI2 := fun W (h : PGV W vt vr vl vi vj p) => rindex_any p HF.out vt vr vl vi vj r W h
      obtain ⟨q, hq⟩ : ∃ q, idxF (namesP p) r = q := ⟨_, rfl⟩
      rw [hq] at cI1 cI2
      have s1 : True := trivial
      have s2 : True := trivial
      have s3 : True := trivial
      have s4 : True := trivial
      clear hq
      cases q with
      | some m =>
        have cI1' : ∀ W, PGV W ut ur ul ui uj p → Calls Try.prog 23 #[.agg #[ut, ur, ul, ui, uj], .agg (refL r).toArray] W fun en w' => en = .returned (.tuple #[.int .i64 (m : Int), .bool true]) ∧ Below W.heap.size W w' := cI1
        have cI2' : ∀ W, PGV W vt vr vl vi vj p → Calls Try.prog 24 #[.agg #[vt, vr, vl, vi, vj], .agg (refL r).toArray] W fun en w' => en = .returned (.tuple #[.int .i64 (m : Int), .bool true]) ∧ Below W.heap.size W w' := cI2
        go_wp2_with (first
          | (clear s1; refine wpList_loadW rfl 47 _ rfl rfl E8 _ Try.underlying47 rfl infoPg ?_)
          | (clear s2; refine wpList_loadW rfl 59 _ rfl rfl D8 _ Try.underlying59 rfl infoRef ?_)
          | (go_at_call 23; refine (cI1' _ P8).mono ?_; rintro en V1 ⟨rfl, X1⟩; have E8' := E8.grown X1; have D8' := D8.grown X1; have C8' := C8.grown X1; have P8' := P8.below X1; have G1 := Below.then G8 X1; clear X1 cI1' E8 D8 C8 P8)
          | (clear s3; refine wpList_loadW rfl 47 _ rfl rfl C8' _ Try.underlying47 rfl infoPg ?_)
          | (clear s4; refine wpList_loadW rfl 59 _ rfl rfl D8' _ Try.underlying59 rfl infoRef ?_)
          | (go_at_call 24; refine (cI2' _ (HP.out.below G1)).mono ?_; rintro en V2 ⟨rfl, X2⟩; have E9 := E8'.grown X2; have C9 := C8'.grown X2; have P9 := P8'.below X2; have G2 := Below.then G1 X2; have Q9 := HP.out.below G2; clear X2 cI2' E8' D8' C8' P8'))
        refine grow_allW (by kernel_rfl) (by kernel_rfl) ?_
        refine WG.row rfl 47 _ rfl rfl E9 [ut, ur, ul, ui, uj] rfl _ Try.underlying47 rfl infoPg ?_
        simp only [Act.put, List.setIfInBounds_toArray, List.set_cons_succ, List.set_cons_zero]
        refine WG.call rfl (f := 25) (args := #[.agg #[ut, ur, ul, ui, uj]]) (v := .int .i64 (validV p)) (fun W hW => valid_any p HF.out ut ur ul ui uj W (P9.below hW)) (fun w => by first | rfl | (go_simp; done)) ?_
        simp only [Act.put, List.setIfInBounds_toArray, List.set_cons_succ, List.set_cons_zero]
        refine WG.row rfl 47 _ rfl rfl C9 [vt, vr, vl, vi, vj] rfl _ Try.underlying47 rfl infoPg ?_
        simp only [Act.put, List.setIfInBounds_toArray, List.set_cons_succ, List.set_cons_zero]
        refine WG.call rfl (f := 26) (args := #[.agg #[vt, vr, vl, vi, vj]]) (v := .int .i64 (validV p)) (fun W hW => rvalid_any p HF.out vt vr vl vi vj W (Q9.below hW)) (fun w => by first | rfl | (go_simp; done)) ?_
        simp only [Act.put, List.setIfInBounds_toArray, List.set_cons_succ, List.set_cons_zero]
        refine WG.put rfl (v := .bool true) (fun w => by first | rfl | (go_simp; done) | (simp [go_sem]; done) | (simp [execOp, go_sem]; done)) ?_
        simp only [Act.put, List.setIfInBounds_toArray, List.set_cons_succ, List.set_cons_zero]
        refine WG.put rfl (v := .bool true) (fun w => by first | rfl | (go_simp; done) | (simp [go_sem]; done) | (simp [execOp, go_sem]; done)) ?_
        simp only [Act.put, List.setIfInBounds_toArray, List.set_cons_succ, List.set_cons_zero]
        refine WG.row rfl 47 _ rfl rfl E9 [ut, ur, ul, ui, uj] rfl _ Try.underlying47 rfl infoPg ?_
        simp only [Act.put, List.setIfInBounds_toArray, List.set_cons_succ, List.set_cons_zero]
        refine WG.call rfl (f := 27) (args := #[.agg #[ut, ur, ul, ui, uj]]) (v := .int .i64 (eventsV p)) (fun W hW => events_any p HF.out ut ur ul ui uj W (P9.below hW)) (fun w => by first | rfl | (go_simp; done)) ?_
        simp only [Act.put, List.setIfInBounds_toArray, List.set_cons_succ, List.set_cons_zero]
        refine WG.row rfl 47 _ rfl rfl C9 [vt, vr, vl, vi, vj] rfl _ Try.underlying47 rfl infoPg ?_
        simp only [Act.put, List.setIfInBounds_toArray, List.set_cons_succ, List.set_cons_zero]
        refine WG.call rfl (f := 28) (args := #[.agg #[vt, vr, vl, vi, vj]]) (v := .int .i64 (eventsV p)) (fun W hW => revents_any p HF.out vt vr vl vi vj W (Q9.below hW)) (fun w => by first | rfl | (go_simp; done)) ?_
        simp only [Act.put, List.setIfInBounds_toArray, List.set_cons_succ, List.set_cons_zero]
        refine WG.put rfl (v := .bool true) (fun w => by first | rfl | (go_simp; done) | (simp [go_sem]; done) | (simp [execOp, go_sem]; done)) ?_
        simp only [Act.put, List.setIfInBounds_toArray, List.set_cons_succ, List.set_cons_zero]
        refine WG.put rfl (v := .bool true) (fun w => by first | rfl | (go_simp; done) | (simp [go_sem]; done) | (simp [execOp, go_sem]; done)) ?_
        simp only [Act.put, List.setIfInBounds_toArray, List.set_cons_succ, List.set_cons_zero]
        refine WG.put rfl (v := .bool true) (fun w => by first | rfl | (go_simp; done) | (simp [go_sem]; done) | (simp [execOp, go_sem]; done)) ?_
        simp only [Act.put, List.setIfInBounds_toArray, List.set_cons_succ, List.set_cons_zero]
        refine WG.put rfl (v := .int .i64 (m : Int)) (fun w => by first | rfl | (go_simp; done) | (simp [go_sem]; done) | (simp [execOp, go_sem]; done)) ?_
        simp only [Act.put, List.setIfInBounds_toArray, List.set_cons_succ, List.set_cons_zero]
        refine WG.put rfl (v := .int .i64 (m : Int)) (fun w => by first | rfl | (go_simp; done) | (simp [go_sem]; done) | (simp [execOp, go_sem]; done)) ?_
        simp only [Act.put, List.setIfInBounds_toArray, List.set_cons_succ, List.set_cons_zero]
        refine WG.put rfl (v := .bool true) (fun w => by first | rfl | (go_simp; done) | (simp [go_sem]; done) | (simp [execOp, go_sem]; done)) ?_
        simp only [Act.put, List.setIfInBounds_toArray, List.set_cons_succ, List.set_cons_zero]
        refine WG.put rfl (v := .bool true) (fun w => by first | rfl | (go_simp; done) | (simp [go_sem]; done) | (simp [execOp, go_sem]; done)) ?_
        simp only [Act.put, List.setIfInBounds_toArray, List.set_cons_succ, List.set_cons_zero]
        refine WG.put rfl (v := .bool true) (fun w => by first | rfl | (go_simp; done) | (simp [go_sem]; done) | (simp [execOp, go_sem]; done)) ?_
        simp only [Act.put, List.setIfInBounds_toArray, List.set_cons_succ, List.set_cons_zero]
        refine WG.put rfl (v := .bool true) (fun w => by first | rfl | (go_simp; done) | (simp [go_sem]; done) | (simp [execOp, go_sem]; done)) ?_
        simp only [Act.put, List.setIfInBounds_toArray, List.set_cons_succ, List.set_cons_zero]
        refine WG.put rfl (v := .bool true) (fun w => by first | rfl | (go_simp; done) | (simp [go_sem]; done) | (simp [execOp, go_sem]; done)) ?_
        simp only [Act.put, List.setIfInBounds_toArray, List.set_cons_succ, List.set_cons_zero]
        refine WG.put rfl (v := .bool true) (fun w => by first | rfl | (go_simp; done) | (simp [go_sem]; done) | (simp [execOp, go_sem]; done)) ?_
        simp only [Act.put, List.setIfInBounds_toArray, List.set_cons_succ, List.set_cons_zero]
        refine WG.put rfl (v := .bool true) (fun w => by first | rfl | (go_simp; done) | (simp [go_sem]; done) | (simp [execOp, go_sem]; done)) ?_
        simp only [Act.put, List.setIfInBounds_toArray, List.set_cons_succ, List.set_cons_zero]
        refine WG.put rfl (v := .bool true) (fun w => by first | rfl | (go_simp; done) | (simp [go_sem]; done) | (simp [execOp, go_sem]; done)) ?_
        simp only [Act.put, List.setIfInBounds_toArray, List.set_cons_succ, List.set_cons_zero]
        refine WG.row rfl 47 _ rfl rfl E9 [ut, ur, ul, ui, uj] rfl _ Try.underlying47 rfl infoPg ?_
        simp only [Act.put, List.setIfInBounds_toArray, List.set_cons_succ, List.set_cons_zero]
        refine WG.call rfl (f := 29) (args := #[.agg #[ut, ur, ul, ui, uj]]) (v := .agg (finL (firstL p)).toArray) (fun W hW => first_any p HF.out ut ur ul ui uj W (P9.below hW)) (fun w => by first | rfl | (go_simp; done)) ?_
        simp only [Act.put, List.setIfInBounds_toArray, List.set_cons_succ, List.set_cons_zero]
        refine WG.row rfl 47 _ rfl rfl C9 [vt, vr, vl, vi, vj] rfl _ Try.underlying47 rfl infoPg ?_
        simp only [Act.put, List.setIfInBounds_toArray, List.set_cons_succ, List.set_cons_zero]
        refine WG.call rfl (f := 30) (args := #[.agg #[vt, vr, vl, vi, vj]]) (v := .agg (finL (firstL p)).toArray) (fun W hW => rfirst_any p HF.out vt vr vl vi vj W (Q9.below hW)) (fun w => by first | rfl | (go_simp; done)) ?_
        simp only [Act.put, List.setIfInBounds_toArray, List.set_cons_succ, List.set_cons_zero]
        refine WG.put rfl (v := .bool true) (fun w => exec_eqF (take48 _) rfl rfl rfl) ?_
        simp only [Act.put, List.setIfInBounds_toArray, List.set_cons_succ, List.set_cons_zero]
        refine WG.put rfl (v := .bool true) (fun w => by first | rfl | (go_simp; done) | (simp [go_sem]; done) | (simp [execOp, go_sem]; done)) ?_
        simp only [Act.put, List.setIfInBounds_toArray, List.set_cons_succ, List.set_cons_zero]
        refine WG.put rfl (v := .bool true) (fun w => by first | rfl | (go_simp; done) | (simp [go_sem]; done) | (simp [execOp, go_sem]; done)) ?_
        simp only [Act.put, List.setIfInBounds_toArray, List.set_cons_succ, List.set_cons_zero]
        refine WG.row rfl 47 _ rfl rfl E9 [ut, ur, ul, ui, uj] rfl _ Try.underlying47 rfl infoPg ?_
        simp only [Act.put, List.setIfInBounds_toArray, List.set_cons_succ, List.set_cons_zero]
        refine WG.row rfl 47 _ rfl rfl C9 [vt, vr, vl, vi, vj] rfl _ Try.underlying47 rfl infoPg ?_
        simp only [Act.put, List.setIfInBounds_toArray, List.set_cons_succ, List.set_cons_zero]
        refine WG.call rfl (f := 18) (args := #[.agg #[ut, ur, ul, ui, uj], .agg #[vt, vr, vl, vi, vj]]) (v := .bool true) (fun W hW => sameP_any p HF.out ut ur ul ui uj vt vr vl vi vj W (P9.below hW) (Q9.below hW)) (fun w => by first | rfl | (go_simp; done)) ?_
        simp only [Act.put, List.setIfInBounds_toArray, List.set_cons_succ, List.set_cons_zero]
        refine WG.put rfl (v := .bool true) (fun w => by first | rfl | (go_simp; done) | (simp [go_sem]; done) | (simp [execOp, go_sem]; done)) ?_
        simp only [Act.put, List.setIfInBounds_toArray, List.set_cons_succ, List.set_cons_zero]
        refine WG.put rfl (v := .bool true) (fun w => by first | rfl | (go_simp; done) | (simp [go_sem]; done) | (simp [execOp, go_sem]; done)) ?_
        simp only [Act.put, List.setIfInBounds_toArray, List.set_cons_succ, List.set_cons_zero]
        refine WG.nil ?_
        intro V3 X3
        have G3 := Below.then G2 X3
        clear E9 C9 P9 Q9
        go_wp2_with fail
        go_ret
        exact ⟨rfl, G3⟩
      | none =>
        have cI1' : ∀ W, PGV W ut ur ul ui uj p → Calls Try.prog 23 #[.agg #[ut, ur, ul, ui, uj], .agg (refL r).toArray] W fun en w' => en = .returned (.tuple #[.int .i64 0, .bool false]) ∧ Below W.heap.size W w' := cI1
        have cI2' : ∀ W, PGV W vt vr vl vi vj p → Calls Try.prog 24 #[.agg #[vt, vr, vl, vi, vj], .agg (refL r).toArray] W fun en w' => en = .returned (.tuple #[.int .i64 0, .bool false]) ∧ Below W.heap.size W w' := cI2
        go_wp2_with (first
          | (clear s1; refine wpList_loadW rfl 47 _ rfl rfl E8 _ Try.underlying47 rfl infoPg ?_)
          | (clear s2; refine wpList_loadW rfl 59 _ rfl rfl D8 _ Try.underlying59 rfl infoRef ?_)
          | (go_at_call 23; refine (cI1' _ P8).mono ?_; rintro en V1 ⟨rfl, X1⟩; have E8' := E8.grown X1; have D8' := D8.grown X1; have C8' := C8.grown X1; have P8' := P8.below X1; have G1 := Below.then G8 X1; clear X1 cI1' E8 D8 C8 P8)
          | (clear s3; refine wpList_loadW rfl 47 _ rfl rfl C8' _ Try.underlying47 rfl infoPg ?_)
          | (clear s4; refine wpList_loadW rfl 59 _ rfl rfl D8' _ Try.underlying59 rfl infoRef ?_)
          | (go_at_call 24; refine (cI2' _ (HP.out.below G1)).mono ?_; rintro en V2 ⟨rfl, X2⟩; have E9 := E8'.grown X2; have C9 := C8'.grown X2; have P9 := P8'.below X2; have G2 := Below.then G1 X2; have Q9 := HP.out.below G2; clear X2 cI2' E8' D8' C8' P8'))
        refine grow_allW (by kernel_rfl) (by kernel_rfl) ?_
        refine WG.row rfl 47 _ rfl rfl E9 [ut, ur, ul, ui, uj] rfl _ Try.underlying47 rfl infoPg ?_
        simp only [Act.put, List.setIfInBounds_toArray, List.set_cons_succ, List.set_cons_zero]
        refine WG.call rfl (f := 25) (args := #[.agg #[ut, ur, ul, ui, uj]]) (v := .int .i64 (validV p)) (fun W hW => valid_any p HF.out ut ur ul ui uj W (P9.below hW)) (fun w => by first | rfl | (go_simp; done)) ?_
        simp only [Act.put, List.setIfInBounds_toArray, List.set_cons_succ, List.set_cons_zero]
        refine WG.row rfl 47 _ rfl rfl C9 [vt, vr, vl, vi, vj] rfl _ Try.underlying47 rfl infoPg ?_
        simp only [Act.put, List.setIfInBounds_toArray, List.set_cons_succ, List.set_cons_zero]
        refine WG.call rfl (f := 26) (args := #[.agg #[vt, vr, vl, vi, vj]]) (v := .int .i64 (validV p)) (fun W hW => rvalid_any p HF.out vt vr vl vi vj W (Q9.below hW)) (fun w => by first | rfl | (go_simp; done)) ?_
        simp only [Act.put, List.setIfInBounds_toArray, List.set_cons_succ, List.set_cons_zero]
        refine WG.put rfl (v := .bool true) (fun w => by first | rfl | (go_simp; done) | (simp [go_sem]; done) | (simp [execOp, go_sem]; done)) ?_
        simp only [Act.put, List.setIfInBounds_toArray, List.set_cons_succ, List.set_cons_zero]
        refine WG.put rfl (v := .bool true) (fun w => by first | rfl | (go_simp; done) | (simp [go_sem]; done) | (simp [execOp, go_sem]; done)) ?_
        simp only [Act.put, List.setIfInBounds_toArray, List.set_cons_succ, List.set_cons_zero]
        refine WG.row rfl 47 _ rfl rfl E9 [ut, ur, ul, ui, uj] rfl _ Try.underlying47 rfl infoPg ?_
        simp only [Act.put, List.setIfInBounds_toArray, List.set_cons_succ, List.set_cons_zero]
        refine WG.call rfl (f := 27) (args := #[.agg #[ut, ur, ul, ui, uj]]) (v := .int .i64 (eventsV p)) (fun W hW => events_any p HF.out ut ur ul ui uj W (P9.below hW)) (fun w => by first | rfl | (go_simp; done)) ?_
        simp only [Act.put, List.setIfInBounds_toArray, List.set_cons_succ, List.set_cons_zero]
        refine WG.row rfl 47 _ rfl rfl C9 [vt, vr, vl, vi, vj] rfl _ Try.underlying47 rfl infoPg ?_
        simp only [Act.put, List.setIfInBounds_toArray, List.set_cons_succ, List.set_cons_zero]
        refine WG.call rfl (f := 28) (args := #[.agg #[vt, vr, vl, vi, vj]]) (v := .int .i64 (eventsV p)) (fun W hW => revents_any p HF.out vt vr vl vi vj W (Q9.below hW)) (fun w => by first | rfl | (go_simp; done)) ?_
        simp only [Act.put, List.setIfInBounds_toArray, List.set_cons_succ, List.set_cons_zero]
        refine WG.put rfl (v := .bool true) (fun w => by first | rfl | (go_simp; done) | (simp [go_sem]; done) | (simp [execOp, go_sem]; done)) ?_
        simp only [Act.put, List.setIfInBounds_toArray, List.set_cons_succ, List.set_cons_zero]
        refine WG.put rfl (v := .bool true) (fun w => by first | rfl | (go_simp; done) | (simp [go_sem]; done) | (simp [execOp, go_sem]; done)) ?_
        simp only [Act.put, List.setIfInBounds_toArray, List.set_cons_succ, List.set_cons_zero]
        refine WG.put rfl (v := .bool true) (fun w => by first | rfl | (go_simp; done) | (simp [go_sem]; done) | (simp [execOp, go_sem]; done)) ?_
        simp only [Act.put, List.setIfInBounds_toArray, List.set_cons_succ, List.set_cons_zero]
        refine WG.put rfl (v := .int .i64 0) (fun w => by first | rfl | (go_simp; done) | (simp [go_sem]; done) | (simp [execOp, go_sem]; done)) ?_
        simp only [Act.put, List.setIfInBounds_toArray, List.set_cons_succ, List.set_cons_zero]
        refine WG.put rfl (v := .int .i64 0) (fun w => by first | rfl | (go_simp; done) | (simp [go_sem]; done) | (simp [execOp, go_sem]; done)) ?_
        simp only [Act.put, List.setIfInBounds_toArray, List.set_cons_succ, List.set_cons_zero]
        refine WG.put rfl (v := .bool true) (fun w => by first | rfl | (go_simp; done) | (simp [go_sem]; done) | (simp [execOp, go_sem]; done)) ?_
        simp only [Act.put, List.setIfInBounds_toArray, List.set_cons_succ, List.set_cons_zero]
        refine WG.put rfl (v := .bool true) (fun w => by first | rfl | (go_simp; done) | (simp [go_sem]; done) | (simp [execOp, go_sem]; done)) ?_
        simp only [Act.put, List.setIfInBounds_toArray, List.set_cons_succ, List.set_cons_zero]
        refine WG.put rfl (v := .bool true) (fun w => by first | rfl | (go_simp; done) | (simp [go_sem]; done) | (simp [execOp, go_sem]; done)) ?_
        simp only [Act.put, List.setIfInBounds_toArray, List.set_cons_succ, List.set_cons_zero]
        refine WG.put rfl (v := .bool false) (fun w => by first | rfl | (go_simp; done) | (simp [go_sem]; done) | (simp [execOp, go_sem]; done)) ?_
        simp only [Act.put, List.setIfInBounds_toArray, List.set_cons_succ, List.set_cons_zero]
        refine WG.put rfl (v := .bool false) (fun w => by first | rfl | (go_simp; done) | (simp [go_sem]; done) | (simp [execOp, go_sem]; done)) ?_
        simp only [Act.put, List.setIfInBounds_toArray, List.set_cons_succ, List.set_cons_zero]
        refine WG.put rfl (v := .bool true) (fun w => by first | rfl | (go_simp; done) | (simp [go_sem]; done) | (simp [execOp, go_sem]; done)) ?_
        simp only [Act.put, List.setIfInBounds_toArray, List.set_cons_succ, List.set_cons_zero]
        refine WG.put rfl (v := .bool true) (fun w => by first | rfl | (go_simp; done) | (simp [go_sem]; done) | (simp [execOp, go_sem]; done)) ?_
        simp only [Act.put, List.setIfInBounds_toArray, List.set_cons_succ, List.set_cons_zero]
        refine WG.put rfl (v := .bool true) (fun w => by first | rfl | (go_simp; done) | (simp [go_sem]; done) | (simp [execOp, go_sem]; done)) ?_
        simp only [Act.put, List.setIfInBounds_toArray, List.set_cons_succ, List.set_cons_zero]
        refine WG.row rfl 47 _ rfl rfl E9 [ut, ur, ul, ui, uj] rfl _ Try.underlying47 rfl infoPg ?_
        simp only [Act.put, List.setIfInBounds_toArray, List.set_cons_succ, List.set_cons_zero]
        refine WG.call rfl (f := 29) (args := #[.agg #[ut, ur, ul, ui, uj]]) (v := .agg (finL (firstL p)).toArray) (fun W hW => first_any p HF.out ut ur ul ui uj W (P9.below hW)) (fun w => by first | rfl | (go_simp; done)) ?_
        simp only [Act.put, List.setIfInBounds_toArray, List.set_cons_succ, List.set_cons_zero]
        refine WG.row rfl 47 _ rfl rfl C9 [vt, vr, vl, vi, vj] rfl _ Try.underlying47 rfl infoPg ?_
        simp only [Act.put, List.setIfInBounds_toArray, List.set_cons_succ, List.set_cons_zero]
        refine WG.call rfl (f := 30) (args := #[.agg #[vt, vr, vl, vi, vj]]) (v := .agg (finL (firstL p)).toArray) (fun W hW => rfirst_any p HF.out vt vr vl vi vj W (Q9.below hW)) (fun w => by first | rfl | (go_simp; done)) ?_
        simp only [Act.put, List.setIfInBounds_toArray, List.set_cons_succ, List.set_cons_zero]
        refine WG.put rfl (v := .bool true) (fun w => exec_eqF (take48 _) rfl rfl rfl) ?_
        simp only [Act.put, List.setIfInBounds_toArray, List.set_cons_succ, List.set_cons_zero]
        refine WG.put rfl (v := .bool true) (fun w => by first | rfl | (go_simp; done) | (simp [go_sem]; done) | (simp [execOp, go_sem]; done)) ?_
        simp only [Act.put, List.setIfInBounds_toArray, List.set_cons_succ, List.set_cons_zero]
        refine WG.put rfl (v := .bool true) (fun w => by first | rfl | (go_simp; done) | (simp [go_sem]; done) | (simp [execOp, go_sem]; done)) ?_
        simp only [Act.put, List.setIfInBounds_toArray, List.set_cons_succ, List.set_cons_zero]
        refine WG.row rfl 47 _ rfl rfl E9 [ut, ur, ul, ui, uj] rfl _ Try.underlying47 rfl infoPg ?_
        simp only [Act.put, List.setIfInBounds_toArray, List.set_cons_succ, List.set_cons_zero]
        refine WG.row rfl 47 _ rfl rfl C9 [vt, vr, vl, vi, vj] rfl _ Try.underlying47 rfl infoPg ?_
        simp only [Act.put, List.setIfInBounds_toArray, List.set_cons_succ, List.set_cons_zero]
        refine WG.call rfl (f := 18) (args := #[.agg #[ut, ur, ul, ui, uj], .agg #[vt, vr, vl, vi, vj]]) (v := .bool true) (fun W hW => sameP_any p HF.out ut ur ul ui uj vt vr vl vi vj W (P9.below hW) (Q9.below hW)) (fun w => by first | rfl | (go_simp; done)) ?_
        simp only [Act.put, List.setIfInBounds_toArray, List.set_cons_succ, List.set_cons_zero]
        refine WG.put rfl (v := .bool true) (fun w => by first | rfl | (go_simp; done) | (simp [go_sem]; done) | (simp [execOp, go_sem]; done)) ?_
        simp only [Act.put, List.setIfInBounds_toArray, List.set_cons_succ, List.set_cons_zero]
        refine WG.put rfl (v := .bool true) (fun w => by first | rfl | (go_simp; done) | (simp [go_sem]; done) | (simp [execOp, go_sem]; done)) ?_
        simp only [Act.put, List.setIfInBounds_toArray, List.set_cons_succ, List.set_cons_zero]
        refine WG.nil ?_
        intro V3 X3
        have G3 := Below.then G2 X3
        clear E9 C9 P9 Q9
        go_wp2_with fail
        go_ret
        exact ⟨rfl, G3⟩

end Go.Proofs.Ytichcopjdfdnkaa

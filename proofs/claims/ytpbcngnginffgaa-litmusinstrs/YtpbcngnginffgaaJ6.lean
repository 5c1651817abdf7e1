/- The reference's Instruction. -/
import Derived.Test.YtpbcngnginffgaaJ5
namespace Go.Proofs.Ytpbcngnginffgaa
open Go.RowKit Go.Shelf M
set_option linter.unusedSimpArgs false
set_option linter.unusedVariables false

set_option maxRecDepth 100000 in
theorem ret_SS2 {w : World} {b t b' t' : Nat} {cs cs' : List Value} {fn : Func} {p p' : Tmp} {R : Ending → World → Prop} {a : Act} (h : fn.results = #[.cell p t, .cell p' t']) (hp : a.tmps.getD p undef = .pointer (some ⟨b, 0, none⟩)) (hp' : a.tmps.getD p' undef = .pointer (some ⟨b', 0, none⟩))
    (hd : a.defers = []) (hc : IsS w b t cs) (d : TypeDesc) (hu : Try.prog.underlying t = some d) (hr : (match d with | .struct _ => true | .array _ _ => true | _ => false) = true) (hi : (Try.prog.info? t).map (·.size) = some cs.length)
    (hc' : IsS w b' t' cs') (d' : TypeDesc) (hu' : Try.prog.underlying t' = some d') (hr' : (match d' with | .struct _ => true | .array _ _ => true | _ => false) = true) (hi' : (Try.prog.info? t').map (·.size) = some cs'.length) (hR : R (.returned (.tuple #[.agg cs.toArray, .agg cs'.toArray])) w) : bodyPost Try.prog fn R .ret a w := by
  have q : w.heap[b]? = some (.cells cs.toArray t (0, 0)) := hc
  have q' : w.heap[b']? = some (.cells cs'.toArray t' (0, 0)) := hc'
  have e : a.tmps[p]?.getD undef = .pointer (some ⟨b, 0, none⟩) := by simpa using hp
  have e' : a.tmps[p']?.getD undef = .pointer (some ⟨b', 0, none⟩) := by simpa using hp'
  refine ⟨hd, .tuple #[.agg cs.toArray, .agg cs'.toArray], ?_, hR⟩
  simp [results, h, e, e', asAddr, run_loadVar_row w b t t cs.toArray (0, 0) d q hu (by cases d <;> simp_all) (by simpa using hi), run_loadVar_row w b' t' t' cs'.toArray (0, 0) d' q' hu' (by cases d' <;> simp_all) (by simpa using hi')]
set_option maxRecDepth 100000 in
set_option maxHeartbeats 2000000 in
theorem rinst_long (s : ByteArray) (hsz : s.size < 4611686018427387904) (hl : 1048576 < s.size) (w : World) :
    Calls Try.prog 5 #[.string s] w fun en w' => en = .returned (.tuple #[.agg (inL noIn).toArray, .agg (fL (-1, 0, 1)).toArray]) ∧ Below w.heap.size w w' := by
  have cO := fun w => open_long s hsz hl w
  have tk : True := trivial
  have tl : True := trivial
  go_enter Try.func5, Try.ntmps5
  go_wp2_with (first
    | (refine wpList_allocS rfl 23 rfl (inL noIn) Try.zeroValue23 ?_; clear tk; intro W1 b2 F1 N1; have h2 : w.heap.size ≤ b2 := Nat.le_of_eq F1.at'.symm; have B1 := F1.trans (Below.refl _ w) (Nat.le_refl _); clear F1)
    | (refine wpList_allocS rfl 29 rfl (fL (0, 0, 0)) Try.zeroValue29 ?_; clear tl; intro W2 b3 F2 M2; have h3 : w.heap.size ≤ b3 := Nat.le_trans B1.size (Nat.le_of_eq F2.at'.symm); have n23 : b2 ≠ b3 := (by have := N1.lt; have := F2.at'; omega); have N2 := N1.fresh F2; have B2 := F2.trans B1 B1.size; clear F2 N1)
    | (go_at_call 11; refine (cO _).mono ?_; rintro en W3 ⟨rfl, B3x⟩; have N3 := N2.grown B3x; have M3 := M2.grown B3x; have B3 := Below.then B2 B3x; clear cO B3x N2 M2)
    | (refine wpList_allocS rfl 29 rfl (fL (0, 0, 0)) Try.zeroValue29 ?_; intro W4 b5 F4 L4; have h5 : w.heap.size ≤ b5 := Nat.le_trans B3.size (Nat.le_of_eq F4.at'.symm); have n25 : b2 ≠ b5 := (by have := N3.lt; have := F4.at'; omega); have n35 : b3 ≠ b5 := (by have := M3.lt; have := F4.at'; omega); have N4 := N3.fresh F4; have M4 := M3.fresh F4; have B4 := F4.trans B3 B3.size; clear F4 N3 M3)
    | (refine wpList_storeS rfl 29 _ _ rfl rfl (fL (-1, 0, 1)) rfl L4 (by simp [fL]) info30 (fL_one _) ?_; intro W5 U5 L5x; have L5 : IsS W5 b5 29 (fL (-1, 0, 1)) := L5x; have N5 := N4.upd U5 n25; have M5 := M4.upd U5 n35; have B5 := U5.trans B4 h5; have c2 : W5.cell? ⟨b5, 2, none⟩ = some (.int .i64 1) := L5.cell 2; clear U5 L5x L4 N4 M4))
  refine grow_tail 3 (by kernel_rfl) (by kernel_rfl) ?_
  simp only [List.take_succ_cons, List.take_zero, List.drop_succ_cons, List.drop_zero]
  refine wpG_put rfl (v := .agg (inL noIn).toArray) (fun w => by first | rfl | (go_simp; done) | (simp [go_sem, inL, noIn]; done)) ?_
  simp only [Act.put, List.setIfInBounds_toArray, List.set_cons_succ, List.set_cons_zero]
  refine wpG_loadP rfl 29 _ rfl rfl L5 3 (fL (-1, 0, 1)) rfl _ Try.underlying29 rfl info30 ?_
  simp only [Act.put, List.setIfInBounds_toArray, List.set_cons_succ, List.set_cons_zero]
  refine wpG_same rfl 23 _ _ rfl rfl rfl N5 infoI (in_one noIn) ?_
  simp only [Act.put, List.setIfInBounds_toArray, List.set_cons_succ, List.set_cons_zero]
  refine wpG_nil ?_
  intro W6 B6
  have N7 := N5.grown B6
  have M7 := M5.grown B6
  have B7 := Below.then B5 B6
  clear L5 N5 M5 B6 c2
  go_wp2_with (first
    | (refine wpList_storeS rfl 29 _ _ rfl rfl (fL (-1, 0, 1)) rfl M7 (by simp [fL]) info30 (fL_one _) ?_; intro W8 U8 M8x; have M8 : IsS W8 b3 29 (fL (-1, 0, 1)) := M8x; have N8 := N7.upd U8 n23; have B8 := U8.trans B7 h3))
  exact ret_SS2 rfl rfl rfl rfl N8 _ Try.underlying23 rfl infoI M8 _ Try.underlying29 rfl info30 ⟨rfl, B8⟩
/-- What the reference's Instruction answers. -/
def refV (D : TT) : Value := match (wholeR D).F with
  | none => .tuple #[.agg (inL (instrT D ⟨0, none⟩)).toArray, .agg (fL (0, 0, 0)).toArray]
  | some f => .tuple #[.agg (inL noIn).toArray, .agg (fL (fO (some f))).toArray]
theorem inv_instr {D : TT} (hD : WD D) {σ : RS} (h : Inv D σ) : Inv D (instrR D σ) := by
  unfold instrR
  split
  · exact inv_move hD (inv_is hD h _)
  · split
    · exact inv_is hD h _
    · split
      · exact inv_opd hD (inv_is hD h _)
      · split
        · unfold lockR; split
          · exact inv_opd hD (inv_is hD (inv_is hD h _) _)
          · exact inv_opd hD (inv_must hD (inv_is hD h _) _)
        · exact inv_wrong hD h
set_option maxRecDepth 100000 in
set_option maxHeartbeats 4000000 in
theorem rinst_any (D : TT) (hD : WD D) (s : ByteArray) (cO : ∀ w, Calls Try.prog 11 #[.string s] w fun en w' => (∃ br g cap, en = .returned (.tuple #[.pointer (some ⟨br, 0, none⟩), .agg (fL (0, 0, 0)).toArray]) ∧ w.heap.size ≤ br ∧ w.heap.size ≤ g ∧ RR D w' br g cap rest0 ⟨0, none⟩) ∧ Below w.heap.size w w') (w : World) :
    Calls Try.prog 5 #[.string s] w fun en w' => en = .returned (refV D) ∧ Below w.heap.size w w' := by
  have hI0 : Inv D ⟨0, none⟩ := ⟨hD.pos, fun f hf => by cases hf⟩
  have hI1 := inv_instr hD hI0
  have cI := fun br g cap W hR => rinstr_any (br := br) (g := g) (cap := cap) (rest := rest0) hD ⟨0, none⟩ hI0 W hR
  have cN := fun br g cap W hR => rnx_any (br := br) (g := g) (cap := cap) (rest := rest0) hD (instrR D ⟨0, none⟩) hI1 W hR
  have cW := fun br g cap W hR => rwrong_any (br := br) (g := g) (cap := cap) (rest := rest0) hD (instrR D ⟨0, none⟩) hI1 W hR
  have f0 := fld0
  have tk : True := trivial
  have tl : True := trivial
  cases hF : (instrR D ⟨0, none⟩).F with
  | some f =>
    obtain ⟨hz, hz2⟩ := code_some hI1 hF
    have HV : Hid (refV D = .tuple #[.agg (inL noIn).toArray, .agg (fL (fO (RS.F (instrR D ⟨0, none⟩)))).toArray]) := (by
      show _ = _
      unfold refV
      rw [whole_ups (ups_F hF), hF])
    clear hF cN cW
    go_enter Try.func5, Try.ntmps5
    go_wp2_with (first
      | (refine wpList_allocS rfl 23 rfl (inL noIn) Try.zeroValue23 ?_; clear tk; intro W1 b2 F1 N1; have h2 : w.heap.size ≤ b2 := Nat.le_of_eq F1.at'.symm; have B1 := F1.trans (Below.refl _ w) (Nat.le_refl _); clear F1)
      | (refine wpList_allocS rfl 29 rfl (fL (0, 0, 0)) Try.zeroValue29 ?_; clear tl; intro W2 b3 F2 M2; have h3 : w.heap.size ≤ b3 := Nat.le_trans B1.size (Nat.le_of_eq F2.at'.symm); have n23 : b2 ≠ b3 := (by have := N1.lt; have := F2.at'; omega); have N2 := N1.fresh F2; have B2 := F2.trans B1 B1.size; clear F2 N1)
      | (go_at_call 11; refine (cO _).mono ?_; rintro en W3 ⟨⟨br, g, cap, rfl, hbr, hgg, R3⟩, B3x⟩; have hbw : w.heap.size ≤ br := Nat.le_trans B2.size hbr; have nbr : b2 ≠ br ∧ b3 ≠ br ∧ b2 ≠ g ∧ b3 ≠ g := (by have := N2.lt; have := M2.lt; have q1 : W2.heap.size ≤ br := hbr; have q2 : W2.heap.size ≤ g := hgg; omega); have N3 := N2.grown B3x; have M3 := M2.grown B3x; have B3 := Below.then B2 B3x; clear cO B3x N2 M2)
      | (refine wpList_allocS rfl 29 rfl (fL (0, 0, 0)) Try.zeroValue29 ?_; intro W4 b5 F4 L4; have h5 : w.heap.size ≤ b5 := Nat.le_trans B3.size (Nat.le_of_eq F4.at'.symm); have n25 : b2 ≠ b5 := (by have := N3.lt; have := F4.at'; omega); have n35 : b3 ≠ b5 := (by have := M3.lt; have := F4.at'; omega); have nr5 : br ≠ b5 := (by have := R3.cells.lt; have := F4.at'; omega); have ng5 : g ≠ b5 := (by have := R3.lt; have := F4.at'; omega); have R4 := R3.fresh F4; have N4 := N3.fresh F4; have M4 := M3.fresh F4; have B4 := F4.trans B3 B3.size; clear F4 N3 M3 R3)
      | (refine wpList_storeS rfl 29 _ _ rfl rfl (fL (0, 0, 0)) rfl L4 (by simp [fL]) info30 (fL_one _) ?_; intro W5 U5 L5x; have L5 : IsS W5 b5 29 (fL (0, 0, 0)) := L5x; have R5 := R4.upd U5 nr5 ng5; have N5 := N4.upd U5 n25; have M5 := M4.upd U5 n35; have B5 := U5.trans B4 h5; have c2 : W5.cell? ⟨b5, 2, none⟩ = some (.int .i64 0) := L5.cell 2; clear U5 L5x L4 N4 M4 R4)
      | (go_at_call 12; refine (cI _ _ _ _ R5).mono ?_; rintro en W6 ⟨rfl, R6, T6⟩; have N6 := N5.turn T6 nbr.1; have M6 := M5.turn T6 nbr.2.1; have B6 := T6.below B5 (by omega) B5.size; clear cI T6 L5 N5 M5 R5 c2)
      | (refine wpList_allocS rfl 23 rfl (inL noIn) Try.zeroValue23 ?_; intro W7 b6 F7 K7; have h6 : w.heap.size ≤ b6 := Nat.le_trans B6.size (Nat.le_of_eq F7.at'.symm); have n26 : b2 ≠ b6 := (by have := N6.lt; have := F7.at'; omega); have n36 : b3 ≠ b6 := (by have := M6.lt; have := F7.at'; omega); have nr6 : br ≠ b6 := (by have := R6.cells.lt; have := F7.at'; omega); have ng6 : g ≠ b6 := (by have := R6.lt; have := F7.at'; omega); have R7 := R6.fresh F7; have N7 := N6.fresh F7; have M7 := M6.fresh F7; have B7 := F7.trans B6 B6.size; clear F7 N6 M6 R6)
      | (refine wpList_storeS rfl 23 _ _ rfl rfl (inL (instrT D ⟨0, none⟩)) rfl K7 (by simp [inL, noIn]) infoI (in_one _) ?_; intro W8 U8 K8x; have K8 : IsS W8 b6 23 (inL (instrT D ⟨0, none⟩)) := K8x; have R8 := R7.upd U8 nr6 ng6; have N8 := N7.upd U8 n26; have M8 := M7.upd U8 n36; have B8 := U8.trans B7 h6; have z7 : W8.cell? ⟨br, 7, none⟩ = some (.int .i64 (fO (RS.F (instrR D ⟨0, none⟩))).2.2) := R8.cells.cell 7; have z3 : W8.cell? ⟨br, 3, none⟩ = some (.int .i64 (fO D.bad).2.2) := R8.cells.cell 3; clear U8 K8x K7 N7 M7 R7))
    refine grow_tail 6 (by kernel_rfl) (by kernel_rfl) ?_
    simp only [List.take_succ_cons, List.take_zero, List.drop_succ_cons, List.drop_zero]
    refine wpG_put rfl (v := .agg (inL noIn).toArray) (fun w => by first | rfl | (go_simp; done) | (simp [go_sem, inL, noIn]; done)) ?_
    refine wpG_put rfl (v := .pointer (some ⟨br, 0, none⟩)) (fun w => by first | rfl | (go_simp; done)) ?_
    simp only [Act.put, List.setIfInBounds_toArray, List.set_cons_succ, List.set_cons_zero]
    refine wpG_put rfl (v := .pointer (some ⟨br, 0, none⟩)) (fun w => by first | rfl | (go_simp; done)) ?_
    simp only [Act.put, List.setIfInBounds_toArray, List.set_cons_succ, List.set_cons_zero]
    refine wpG_put rfl (v := .pointer (some ⟨br, 5, none⟩)) (fun w => by first | rfl | (go_simp; done)) ?_
    simp only [Act.put, List.setIfInBounds_toArray, List.set_cons_succ, List.set_cons_zero]
    refine wpG_loadP rfl 29 _ rfl rfl R8.cells 3 (fL (fO (RS.F (instrR D ⟨0, none⟩)))) rfl _ Try.underlying29 rfl info30 ?_
    simp only [Act.put, List.setIfInBounds_toArray, List.set_cons_succ, List.set_cons_zero]
    refine wpG_same rfl 23 _ _ rfl rfl rfl N8 infoI (in_one noIn) ?_
    simp only [Act.put, List.setIfInBounds_toArray, List.set_cons_succ, List.set_cons_zero]
    refine wpG_nil ?_
    intro Wa Ba
    have Nb := N8.grown Ba
    have Mb := M8.grown Ba
    have Bb := Below.then B8 Ba
    clear Ba N8 M8
    go_wp2_with (first
      | (refine wpList_storeS rfl 29 _ _ rfl rfl (fL (fO (RS.F (instrR D ⟨0, none⟩)))) rfl Mb (by simp [fL]) info30 (fL_one _) ?_; intro Wc Uc Mcx; have Mc : IsS Wc b3 29 (fL (fO (RS.F (instrR D ⟨0, none⟩)))) := Mcx; have Nc := Nb.upd Uc n23; have Bc := Uc.trans Bb h3))
    exact ret_SS2 rfl rfl rfl rfl Nc _ Try.underlying23 rfl infoI Mc _ Try.underlying29 rfl info30 ⟨(by rw [HV.out]), Bc⟩
  | none =>
    obtain ⟨hz, hz2⟩ := code_none hF
    have hIw := inv_wrong hD hI1
    have hFw : (wrongR D (instrR D ⟨0, none⟩)).F = some (D.wr (instrR D ⟨0, none⟩).k) := by rw [wrongR_none hF]
    obtain ⟨hw1, hw2⟩ := code_some hIw hFw
    have hcase : ((((D.cur (instrR D ⟨0, none⟩).k).kind : Int) != 0) = true ∧ wholeR D = wrongR D (instrR D ⟨0, none⟩)) ∨ ((((D.cur (instrR D ⟨0, none⟩).k).kind : Int) != 0) = false ∧ ((fO D.bad).2.2 != 0) = true ∧ wholeR D = wrongR D (instrR D ⟨0, none⟩)) ∨ ((((D.cur (instrR D ⟨0, none⟩).k).kind : Int) != 0) = false ∧ ((fO D.bad).2.2 != 0) = false ∧ wholeR D = instrR D ⟨0, none⟩) := by
      unfold wholeR
      rw [hF]
      cases hk : ((D.cur (instrR D ⟨0, none⟩).k).kind == 0) with
      | false =>
        left
        refine ⟨?_, by simp⟩
        simp at hk; simp; omega
      | true =>
        right
        have hk' : (((D.cur (instrR D ⟨0, none⟩).k).kind : Int) != 0) = false := (by simp at hk; simp [hk])
        cases hb : D.bad with
        | none => exact .inr ⟨hk', rfl, by simp⟩
        | some b =>
          refine .inl ⟨hk', ?_, by simp⟩
          have := hD.bad b hb
          simp [fO]; omega
    rcases hcase with ⟨hk, hwh⟩ | ⟨hk, hb, hwh⟩ | ⟨hk, hb, hwh⟩
    · have HV : Hid (refV D = .tuple #[.agg (inL noIn).toArray, .agg (fL (fO (RS.F (wrongR D (instrR D ⟨0, none⟩))))).toArray]) := (by
        show _ = _
        unfold refV
        rw [hwh, hFw])
      clear hwh hFw hF
      generalize D.cur (instrR D ⟨0, none⟩).k = t at *
      obtain ⟨kd, tx, vl, ln, cl, pt, fn⟩ := t
      dsimp only at hk
      dsimp only [tokL] at cN
      go_enter Try.func5, Try.ntmps5
      go_wp2_with (first
        | (refine wpList_allocS rfl 23 rfl (inL noIn) Try.zeroValue23 ?_; clear tk; intro W1 b2 F1 N1; have h2 : w.heap.size ≤ b2 := Nat.le_of_eq F1.at'.symm; have B1 := F1.trans (Below.refl _ w) (Nat.le_refl _); clear F1)
        | (refine wpList_allocS rfl 29 rfl (fL (0, 0, 0)) Try.zeroValue29 ?_; clear tl; intro W2 b3 F2 M2; have h3 : w.heap.size ≤ b3 := Nat.le_trans B1.size (Nat.le_of_eq F2.at'.symm); have n23 : b2 ≠ b3 := (by have := N1.lt; have := F2.at'; omega); have N2 := N1.fresh F2; have B2 := F2.trans B1 B1.size; clear F2 N1)
        | (go_at_call 11; refine (cO _).mono ?_; rintro en W3 ⟨⟨br, g, cap, rfl, hbr, hgg, R3⟩, B3x⟩; have hbw : w.heap.size ≤ br := Nat.le_trans B2.size hbr; have nbr : b2 ≠ br ∧ b3 ≠ br ∧ b2 ≠ g ∧ b3 ≠ g := (by have := N2.lt; have := M2.lt; have q1 : W2.heap.size ≤ br := hbr; have q2 : W2.heap.size ≤ g := hgg; omega); have N3 := N2.grown B3x; have M3 := M2.grown B3x; have B3 := Below.then B2 B3x; clear cO B3x N2 M2)
        | (refine wpList_allocS rfl 29 rfl (fL (0, 0, 0)) Try.zeroValue29 ?_; intro W4 b5 F4 L4; have h5 : w.heap.size ≤ b5 := Nat.le_trans B3.size (Nat.le_of_eq F4.at'.symm); have n25 : b2 ≠ b5 := (by have := N3.lt; have := F4.at'; omega); have n35 : b3 ≠ b5 := (by have := M3.lt; have := F4.at'; omega); have nr5 : br ≠ b5 := (by have := R3.cells.lt; have := F4.at'; omega); have ng5 : g ≠ b5 := (by have := R3.lt; have := F4.at'; omega); have R4 := R3.fresh F4; have N4 := N3.fresh F4; have M4 := M3.fresh F4; have B4 := F4.trans B3 B3.size; clear F4 N3 M3 R3)
        | (refine wpList_storeS rfl 29 _ _ rfl rfl (fL (0, 0, 0)) rfl L4 (by simp [fL]) info30 (fL_one _) ?_; intro W5 U5 L5x; have L5 : IsS W5 b5 29 (fL (0, 0, 0)) := L5x; have R5 := R4.upd U5 nr5 ng5; have N5 := N4.upd U5 n25; have M5 := M4.upd U5 n35; have B5 := U5.trans B4 h5; have c2 : W5.cell? ⟨b5, 2, none⟩ = some (.int .i64 0) := L5.cell 2; clear U5 L5x L4 N4 M4 R4)
        | (go_at_call 12; refine (cI _ _ _ _ R5).mono ?_; rintro en W6 ⟨rfl, R6, T6⟩; have N6 := N5.turn T6 nbr.1; have M6 := M5.turn T6 nbr.2.1; have B6 := T6.below B5 (by omega) B5.size; clear cI T6 L5 N5 M5 R5 c2)
        | (refine wpList_allocS rfl 23 rfl (inL noIn) Try.zeroValue23 ?_; intro W7 b6 F7 K7; have h6 : w.heap.size ≤ b6 := Nat.le_trans B6.size (Nat.le_of_eq F7.at'.symm); have n26 : b2 ≠ b6 := (by have := N6.lt; have := F7.at'; omega); have n36 : b3 ≠ b6 := (by have := M6.lt; have := F7.at'; omega); have nr6 : br ≠ b6 := (by have := R6.cells.lt; have := F7.at'; omega); have ng6 : g ≠ b6 := (by have := R6.lt; have := F7.at'; omega); have R7 := R6.fresh F7; have N7 := N6.fresh F7; have M7 := M6.fresh F7; have B7 := F7.trans B6 B6.size; clear F7 N6 M6 R6)
        | (refine wpList_storeS rfl 23 _ _ rfl rfl (inL (instrT D ⟨0, none⟩)) rfl K7 (by simp [inL, noIn]) infoI (in_one _) ?_; intro W8 U8 K8x; have K8 : IsS W8 b6 23 (inL (instrT D ⟨0, none⟩)) := K8x; have R8 := R7.upd U8 nr6 ng6; have N8 := N7.upd U8 n26; have M8 := M7.upd U8 n36; have B8 := U8.trans B7 h6; have z7 : W8.cell? ⟨br, 7, none⟩ = some (.int .i64 (fO (RS.F (instrR D ⟨0, none⟩))).2.2) := R8.cells.cell 7; have z3 : W8.cell? ⟨br, 3, none⟩ = some (.int .i64 (fO D.bad).2.2) := R8.cells.cell 3; clear U8 K8x K7 N7 M7 R7)
        | (go_at_call 13; refine (cN _ _ _ _ R8).mono ?_; rintro en W9 ⟨rfl, B9x⟩; have R9 := R8.grown B9x; have N9 := N8.grown B9x; have M9 := M8.grown B9x; have K9 := K8.grown B9x; have B9 := Below.then B8 B9x; have y7 : W9.cell? ⟨br, 7, none⟩ = some (.int .i64 (fO (RS.F (instrR D ⟨0, none⟩))).2.2) := R9.cells.cell 7; have y3 : W9.cell? ⟨br, 3, none⟩ = some (.int .i64 (fO D.bad).2.2) := R9.cells.cell 3; clear cN B9x R8 N8 M8 K8 z7 z3)
        | (go_at_call 14; refine (cW _ _ _ _ R9).mono ?_; rintro en W10 ⟨rfl, R10, T10⟩; have N10 := N9.turn T10 nbr.1; have M10 := M9.turn T10 nbr.2.1; have B10 := T10.below B9 (by omega) B9.size; have x7 : W10.cell? ⟨br, 7, none⟩ = some (.int .i64 (fO (RS.F (wrongR D (instrR D ⟨0, none⟩)))).2.2) := R10.cells.cell 7; clear cW T10 R9 N9 M9 y7 y3))
      refine grow_tail 6 (by kernel_rfl) (by kernel_rfl) ?_
      simp only [List.take_succ_cons, List.take_zero, List.drop_succ_cons, List.drop_zero]
      refine wpG_put rfl (v := .agg (inL noIn).toArray) (fun w => by first | rfl | (go_simp; done) | (simp [go_sem, inL, noIn]; done)) ?_
      refine wpG_put rfl (v := .pointer (some ⟨br, 0, none⟩)) (fun w => by first | rfl | (go_simp; done)) ?_
      simp only [Act.put, List.setIfInBounds_toArray, List.set_cons_succ, List.set_cons_zero]
      refine wpG_put rfl (v := .pointer (some ⟨br, 0, none⟩)) (fun w => by first | rfl | (go_simp; done)) ?_
      simp only [Act.put, List.setIfInBounds_toArray, List.set_cons_succ, List.set_cons_zero]
      refine wpG_put rfl (v := .pointer (some ⟨br, 5, none⟩)) (fun w => by first | rfl | (go_simp; done)) ?_
      simp only [Act.put, List.setIfInBounds_toArray, List.set_cons_succ, List.set_cons_zero]
      refine wpG_loadP rfl 29 _ rfl rfl R10.cells 3 (fL (fO (RS.F (wrongR D (instrR D ⟨0, none⟩))))) rfl _ Try.underlying29 rfl info30 ?_
      simp only [Act.put, List.setIfInBounds_toArray, List.set_cons_succ, List.set_cons_zero]
      refine wpG_same rfl 23 _ _ rfl rfl rfl N10 infoI (in_one noIn) ?_
      simp only [Act.put, List.setIfInBounds_toArray, List.set_cons_succ, List.set_cons_zero]
      refine wpG_nil ?_
      intro Wa Ba
      have Nb := N10.grown Ba
      have Mb := M10.grown Ba
      have Bb := Below.then B10 Ba
      clear Ba N10 M10
      go_wp2_with (first
        | (refine wpList_storeS rfl 29 _ _ rfl rfl (fL (fO (RS.F (wrongR D (instrR D ⟨0, none⟩))))) rfl Mb (by simp [fL]) info30 (fL_one _) ?_; intro Wc Uc Mcx; have Mc : IsS Wc b3 29 (fL (fO (RS.F (wrongR D (instrR D ⟨0, none⟩))))) := Mcx; have Nc := Nb.upd Uc n23; have Bc := Uc.trans Bb h3))
      exact ret_SS2 rfl rfl rfl rfl Nc _ Try.underlying23 rfl infoI Mc _ Try.underlying29 rfl info30 ⟨(by rw [HV.out]), Bc⟩
    · have HV : Hid (refV D = .tuple #[.agg (inL noIn).toArray, .agg (fL (fO (RS.F (wrongR D (instrR D ⟨0, none⟩))))).toArray]) := (by
        show _ = _
        unfold refV
        rw [hwh, hFw])
      clear hwh hFw hF
      generalize D.cur (instrR D ⟨0, none⟩).k = t at *
      obtain ⟨kd, tx, vl, ln, cl, pt, fn⟩ := t
      dsimp only at hk
      dsimp only [tokL] at cN
      go_enter Try.func5, Try.ntmps5
      go_wp2_with (first
        | (refine wpList_allocS rfl 23 rfl (inL noIn) Try.zeroValue23 ?_; clear tk; intro W1 b2 F1 N1; have h2 : w.heap.size ≤ b2 := Nat.le_of_eq F1.at'.symm; have B1 := F1.trans (Below.refl _ w) (Nat.le_refl _); clear F1)
        | (refine wpList_allocS rfl 29 rfl (fL (0, 0, 0)) Try.zeroValue29 ?_; clear tl; intro W2 b3 F2 M2; have h3 : w.heap.size ≤ b3 := Nat.le_trans B1.size (Nat.le_of_eq F2.at'.symm); have n23 : b2 ≠ b3 := (by have := N1.lt; have := F2.at'; omega); have N2 := N1.fresh F2; have B2 := F2.trans B1 B1.size; clear F2 N1)
        | (go_at_call 11; refine (cO _).mono ?_; rintro en W3 ⟨⟨br, g, cap, rfl, hbr, hgg, R3⟩, B3x⟩; have hbw : w.heap.size ≤ br := Nat.le_trans B2.size hbr; have nbr : b2 ≠ br ∧ b3 ≠ br ∧ b2 ≠ g ∧ b3 ≠ g := (by have := N2.lt; have := M2.lt; have q1 : W2.heap.size ≤ br := hbr; have q2 : W2.heap.size ≤ g := hgg; omega); have N3 := N2.grown B3x; have M3 := M2.grown B3x; have B3 := Below.then B2 B3x; clear cO B3x N2 M2)
        | (refine wpList_allocS rfl 29 rfl (fL (0, 0, 0)) Try.zeroValue29 ?_; intro W4 b5 F4 L4; have h5 : w.heap.size ≤ b5 := Nat.le_trans B3.size (Nat.le_of_eq F4.at'.symm); have n25 : b2 ≠ b5 := (by have := N3.lt; have := F4.at'; omega); have n35 : b3 ≠ b5 := (by have := M3.lt; have := F4.at'; omega); have nr5 : br ≠ b5 := (by have := R3.cells.lt; have := F4.at'; omega); have ng5 : g ≠ b5 := (by have := R3.lt; have := F4.at'; omega); have R4 := R3.fresh F4; have N4 := N3.fresh F4; have M4 := M3.fresh F4; have B4 := F4.trans B3 B3.size; clear F4 N3 M3 R3)
        | (refine wpList_storeS rfl 29 _ _ rfl rfl (fL (0, 0, 0)) rfl L4 (by simp [fL]) info30 (fL_one _) ?_; intro W5 U5 L5x; have L5 : IsS W5 b5 29 (fL (0, 0, 0)) := L5x; have R5 := R4.upd U5 nr5 ng5; have N5 := N4.upd U5 n25; have M5 := M4.upd U5 n35; have B5 := U5.trans B4 h5; have c2 : W5.cell? ⟨b5, 2, none⟩ = some (.int .i64 0) := L5.cell 2; clear U5 L5x L4 N4 M4 R4)
        | (go_at_call 12; refine (cI _ _ _ _ R5).mono ?_; rintro en W6 ⟨rfl, R6, T6⟩; have N6 := N5.turn T6 nbr.1; have M6 := M5.turn T6 nbr.2.1; have B6 := T6.below B5 (by omega) B5.size; clear cI T6 L5 N5 M5 R5 c2)
        | (refine wpList_allocS rfl 23 rfl (inL noIn) Try.zeroValue23 ?_; intro W7 b6 F7 K7; have h6 : w.heap.size ≤ b6 := Nat.le_trans B6.size (Nat.le_of_eq F7.at'.symm); have n26 : b2 ≠ b6 := (by have := N6.lt; have := F7.at'; omega); have n36 : b3 ≠ b6 := (by have := M6.lt; have := F7.at'; omega); have nr6 : br ≠ b6 := (by have := R6.cells.lt; have := F7.at'; omega); have ng6 : g ≠ b6 := (by have := R6.lt; have := F7.at'; omega); have R7 := R6.fresh F7; have N7 := N6.fresh F7; have M7 := M6.fresh F7; have B7 := F7.trans B6 B6.size; clear F7 N6 M6 R6)
        | (refine wpList_storeS rfl 23 _ _ rfl rfl (inL (instrT D ⟨0, none⟩)) rfl K7 (by simp [inL, noIn]) infoI (in_one _) ?_; intro W8 U8 K8x; have K8 : IsS W8 b6 23 (inL (instrT D ⟨0, none⟩)) := K8x; have R8 := R7.upd U8 nr6 ng6; have N8 := N7.upd U8 n26; have M8 := M7.upd U8 n36; have B8 := U8.trans B7 h6; have z7 : W8.cell? ⟨br, 7, none⟩ = some (.int .i64 (fO (RS.F (instrR D ⟨0, none⟩))).2.2) := R8.cells.cell 7; have z3 : W8.cell? ⟨br, 3, none⟩ = some (.int .i64 (fO D.bad).2.2) := R8.cells.cell 3; clear U8 K8x K7 N7 M7 R7)
        | (go_at_call 13; refine (cN _ _ _ _ R8).mono ?_; rintro en W9 ⟨rfl, B9x⟩; have R9 := R8.grown B9x; have N9 := N8.grown B9x; have M9 := M8.grown B9x; have K9 := K8.grown B9x; have B9 := Below.then B8 B9x; have y7 : W9.cell? ⟨br, 7, none⟩ = some (.int .i64 (fO (RS.F (instrR D ⟨0, none⟩))).2.2) := R9.cells.cell 7; have y3 : W9.cell? ⟨br, 3, none⟩ = some (.int .i64 (fO D.bad).2.2) := R9.cells.cell 3; clear cN B9x R8 N8 M8 K8 z7 z3)
        | (go_at_call 14; refine (cW _ _ _ _ R9).mono ?_; rintro en W10 ⟨rfl, R10, T10⟩; have N10 := N9.turn T10 nbr.1; have M10 := M9.turn T10 nbr.2.1; have B10 := T10.below B9 (by omega) B9.size; have x7 : W10.cell? ⟨br, 7, none⟩ = some (.int .i64 (fO (RS.F (wrongR D (instrR D ⟨0, none⟩)))).2.2) := R10.cells.cell 7; clear cW T10 R9 N9 M9 y7 y3))
      refine grow_tail 6 (by kernel_rfl) (by kernel_rfl) ?_
      simp only [List.take_succ_cons, List.take_zero, List.drop_succ_cons, List.drop_zero]
      refine wpG_put rfl (v := .agg (inL noIn).toArray) (fun w => by first | rfl | (go_simp; done) | (simp [go_sem, inL, noIn]; done)) ?_
      refine wpG_put rfl (v := .pointer (some ⟨br, 0, none⟩)) (fun w => by first | rfl | (go_simp; done)) ?_
      simp only [Act.put, List.setIfInBounds_toArray, List.set_cons_succ, List.set_cons_zero]
      refine wpG_put rfl (v := .pointer (some ⟨br, 0, none⟩)) (fun w => by first | rfl | (go_simp; done)) ?_
      simp only [Act.put, List.setIfInBounds_toArray, List.set_cons_succ, List.set_cons_zero]
      refine wpG_put rfl (v := .pointer (some ⟨br, 5, none⟩)) (fun w => by first | rfl | (go_simp; done)) ?_
      simp only [Act.put, List.setIfInBounds_toArray, List.set_cons_succ, List.set_cons_zero]
      refine wpG_loadP rfl 29 _ rfl rfl R10.cells 3 (fL (fO (RS.F (wrongR D (instrR D ⟨0, none⟩))))) rfl _ Try.underlying29 rfl info30 ?_
      simp only [Act.put, List.setIfInBounds_toArray, List.set_cons_succ, List.set_cons_zero]
      refine wpG_same rfl 23 _ _ rfl rfl rfl N10 infoI (in_one noIn) ?_
      simp only [Act.put, List.setIfInBounds_toArray, List.set_cons_succ, List.set_cons_zero]
      refine wpG_nil ?_
      intro Wa Ba
      have Nb := N10.grown Ba
      have Mb := M10.grown Ba
      have Bb := Below.then B10 Ba
      clear Ba N10 M10
      go_wp2_with (first
        | (refine wpList_storeS rfl 29 _ _ rfl rfl (fL (fO (RS.F (wrongR D (instrR D ⟨0, none⟩))))) rfl Mb (by simp [fL]) info30 (fL_one _) ?_; intro Wc Uc Mcx; have Mc : IsS Wc b3 29 (fL (fO (RS.F (wrongR D (instrR D ⟨0, none⟩))))) := Mcx; have Nc := Nb.upd Uc n23; have Bc := Uc.trans Bb h3))
      exact ret_SS2 rfl rfl rfl rfl Nc _ Try.underlying23 rfl infoI Mc _ Try.underlying29 rfl info30 ⟨(by rw [HV.out]), Bc⟩
    · have HV : Hid (refV D = .tuple #[.agg (inL (instrT D ⟨0, none⟩)).toArray, .agg (fL (0, 0, 0)).toArray]) := (by
        show _ = _
        unfold refV
        rw [hwh, hF])
      clear hwh hFw hF cW
      generalize D.cur (instrR D ⟨0, none⟩).k = t at *
      obtain ⟨kd, tx, vl, ln, cl, pt, fn⟩ := t
      dsimp only at hk
      dsimp only [tokL] at cN
      go_enter Try.func5, Try.ntmps5
      go_wp2_with (first
        | (refine wpList_allocS rfl 23 rfl (inL noIn) Try.zeroValue23 ?_; clear tk; intro W1 b2 F1 N1; have h2 : w.heap.size ≤ b2 := Nat.le_of_eq F1.at'.symm; have B1 := F1.trans (Below.refl _ w) (Nat.le_refl _); clear F1)
        | (refine wpList_allocS rfl 29 rfl (fL (0, 0, 0)) Try.zeroValue29 ?_; clear tl; intro W2 b3 F2 M2; have h3 : w.heap.size ≤ b3 := Nat.le_trans B1.size (Nat.le_of_eq F2.at'.symm); have n23 : b2 ≠ b3 := (by have := N1.lt; have := F2.at'; omega); have N2 := N1.fresh F2; have B2 := F2.trans B1 B1.size; clear F2 N1)
        | (go_at_call 11; refine (cO _).mono ?_; rintro en W3 ⟨⟨br, g, cap, rfl, hbr, hgg, R3⟩, B3x⟩; have hbw : w.heap.size ≤ br := Nat.le_trans B2.size hbr; have nbr : b2 ≠ br ∧ b3 ≠ br ∧ b2 ≠ g ∧ b3 ≠ g := (by have := N2.lt; have := M2.lt; have q1 : W2.heap.size ≤ br := hbr; have q2 : W2.heap.size ≤ g := hgg; omega); have N3 := N2.grown B3x; have M3 := M2.grown B3x; have B3 := Below.then B2 B3x; clear cO B3x N2 M2)
        | (refine wpList_allocS rfl 29 rfl (fL (0, 0, 0)) Try.zeroValue29 ?_; intro W4 b5 F4 L4; have h5 : w.heap.size ≤ b5 := Nat.le_trans B3.size (Nat.le_of_eq F4.at'.symm); have n25 : b2 ≠ b5 := (by have := N3.lt; have := F4.at'; omega); have n35 : b3 ≠ b5 := (by have := M3.lt; have := F4.at'; omega); have nr5 : br ≠ b5 := (by have := R3.cells.lt; have := F4.at'; omega); have ng5 : g ≠ b5 := (by have := R3.lt; have := F4.at'; omega); have R4 := R3.fresh F4; have N4 := N3.fresh F4; have M4 := M3.fresh F4; have B4 := F4.trans B3 B3.size; clear F4 N3 M3 R3)
        | (refine wpList_storeS rfl 29 _ _ rfl rfl (fL (0, 0, 0)) rfl L4 (by simp [fL]) info30 (fL_one _) ?_; intro W5 U5 L5x; have L5 : IsS W5 b5 29 (fL (0, 0, 0)) := L5x; have R5 := R4.upd U5 nr5 ng5; have N5 := N4.upd U5 n25; have M5 := M4.upd U5 n35; have B5 := U5.trans B4 h5; have c2 : W5.cell? ⟨b5, 2, none⟩ = some (.int .i64 0) := L5.cell 2; clear U5 L5x L4 N4 M4 R4)
        | (go_at_call 12; refine (cI _ _ _ _ R5).mono ?_; rintro en W6 ⟨rfl, R6, T6⟩; have N6 := N5.turn T6 nbr.1; have M6 := M5.turn T6 nbr.2.1; have B6 := T6.below B5 (by omega) B5.size; clear cI T6 L5 N5 M5 R5 c2)
        | (refine wpList_allocS rfl 23 rfl (inL noIn) Try.zeroValue23 ?_; intro W7 b6 F7 K7; have h6 : w.heap.size ≤ b6 := Nat.le_trans B6.size (Nat.le_of_eq F7.at'.symm); have n26 : b2 ≠ b6 := (by have := N6.lt; have := F7.at'; omega); have n36 : b3 ≠ b6 := (by have := M6.lt; have := F7.at'; omega); have nr6 : br ≠ b6 := (by have := R6.cells.lt; have := F7.at'; omega); have ng6 : g ≠ b6 := (by have := R6.lt; have := F7.at'; omega); have R7 := R6.fresh F7; have N7 := N6.fresh F7; have M7 := M6.fresh F7; have B7 := F7.trans B6 B6.size; clear F7 N6 M6 R6)
        | (refine wpList_storeS rfl 23 _ _ rfl rfl (inL (instrT D ⟨0, none⟩)) rfl K7 (by simp [inL, noIn]) infoI (in_one _) ?_; intro W8 U8 K8x; have K8 : IsS W8 b6 23 (inL (instrT D ⟨0, none⟩)) := K8x; have R8 := R7.upd U8 nr6 ng6; have N8 := N7.upd U8 n26; have M8 := M7.upd U8 n36; have B8 := U8.trans B7 h6; have z7 : W8.cell? ⟨br, 7, none⟩ = some (.int .i64 (fO (RS.F (instrR D ⟨0, none⟩))).2.2) := R8.cells.cell 7; have z3 : W8.cell? ⟨br, 3, none⟩ = some (.int .i64 (fO D.bad).2.2) := R8.cells.cell 3; clear U8 K8x K7 N7 M7 R7)
        | (go_at_call 13; refine (cN _ _ _ _ R8).mono ?_; rintro en W9 ⟨rfl, B9x⟩; have R9 := R8.grown B9x; have N9 := N8.grown B9x; have M9 := M8.grown B9x; have K9 := K8.grown B9x; have B9 := Below.then B8 B9x; have y7 : W9.cell? ⟨br, 7, none⟩ = some (.int .i64 (fO (RS.F (instrR D ⟨0, none⟩))).2.2) := R9.cells.cell 7; have y3 : W9.cell? ⟨br, 3, none⟩ = some (.int .i64 (fO D.bad).2.2) := R9.cells.cell 3; clear cN B9x R8 N8 M8 K8 z7 z3)
        | (refine wpList_loadP rfl 23 _ rfl rfl K9 5 (inL (instrT D ⟨0, none⟩)) rfl _ Try.underlying23 rfl infoI ?_)
        | (refine wpList_storeS rfl 23 _ _ rfl rfl (inL (instrT D ⟨0, none⟩)) rfl N9 (by simp [inL, noIn]) infoI (in_one _) ?_; intro Wb Ub Nbx; have Nb : IsS Wb b2 23 (inL (instrT D ⟨0, none⟩)) := Nbx; have Mb := M9.upd Ub (Ne.symm n23); have Bb := Ub.trans B9 h2; clear Ub Nbx N9 M9)
        | (refine wpList_storeS rfl 29 _ _ rfl rfl (fL (0, 0, 0)) rfl Mb (by simp [fL]) info30 (fL_one _) ?_; intro Wc Uc Mcx; have Mc : IsS Wc b3 29 (fL (0, 0, 0)) := Mcx; have Nc := Nb.upd Uc n23; have Bc := Uc.trans Bb h3))
      exact ret_SS2 rfl rfl rfl rfl Nc _ Try.underlying23 rfl infoI Mc _ Try.underlying29 rfl info30 ⟨(by rw [HV.out]), Bc⟩
end Go.Proofs.Ytpbcngnginffgaa

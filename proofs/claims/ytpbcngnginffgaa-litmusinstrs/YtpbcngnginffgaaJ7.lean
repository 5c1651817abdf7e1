/- The law LitmusInstrs. -/
import Derived.Test.YtpbcngnginffgaaJ6
namespace Go.Proofs.Ytpbcngnginffgaa
open Go.RowKit Go.Shelf M
set_option linter.unusedSimpArgs false
set_option linter.unusedVariables false

/-- An error is told so, whatever has grown. -/
def SeenIs (F : Int × Int × Int) (ev : Value) (w : World) : Prop := ∀ W, Below w.heap.size w W → Calls Try.prog 6 #[ev] W fun en w' => en = .returned (.agg (fL F).toArray) ∧ Below W.heap.size W w'
theorem SeenIs.grown {F : Int × Int × Int} {ev : Value} {w w' : World} (h : SeenIs F ev w) (B : Below w.heap.size w w') : SeenIs F ev w' := fun W hB => h W (Below.then B hB)
theorem eqI (x : In) (w : World) : (binOp .eql 23 (.agg (inL x).toArray) (.agg (inL x).toArray)).run Try.prog w = .ok (.bool true) w := by simp [go_sem, inL]
theorem eqF (F : Int × Int × Int) (w : World) : (binOp .eql 29 (.agg (fL F).toArray) (.agg (fL F).toArray)).run Try.prog w = .ok (.bool true) w := by simp [go_sem, fL]
set_option maxRecDepth 100000 in
set_option maxHeartbeats 4000000 in
theorem law_core (s : ByteArray) (X : In) (F : Int × Int × Int)
    (cP : ∀ w, Calls Try.prog 4 #[.string s] w fun en w' => (∃ ev, en = .returned (.tuple #[.agg (inL X).toArray, ev]) ∧ SeenIs F ev w') ∧ Below w.heap.size w w')
    (cR : ∀ w, Calls Try.prog 5 #[.string s] w fun en w' => en = .returned (.tuple #[.agg (inL X).toArray, .agg (fL F).toArray]) ∧ Below w.heap.size w w') (w : World) :
    Calls Try.prog 3 #[.string s] w fun en w' => en = .returned (.bool true) ∧ Below w.heap.size w w' := by
  have tk : True := trivial
  have tl : True := trivial
  go_enter Try.func3, Try.ntmps3
  go_wp2_with (first
    | (go_at_call 4; refine (cP _).mono ?_; rintro en W1 ⟨⟨ev, rfl, S1⟩, B1⟩; clear cP)
    | (refine wpList_allocS rfl 23 rfl (inL noIn) Try.zeroValue23 ?_; clear tk; intro W2 b3 F2 N2; have h3 : w.heap.size ≤ b3 := Nat.le_trans B1.size (Nat.le_of_eq F2.at'.symm); have h31 : W1.heap.size ≤ b3 := Nat.le_of_eq F2.at'.symm; have B2 := F2.trans B1 B1.size; have Q2 : Below W1.heap.size W1 W2 := F2.trans (Below.refl _ _) (Nat.le_refl _); clear F2)
    | (refine wpList_storeS rfl 23 _ _ rfl rfl (inL X) rfl N2 (by simp [inL, noIn]) infoI (in_one _) ?_; intro W3 U3 N3x; have N3 : IsS W3 b3 23 (inL X) := N3x; have B3 := U3.trans B2 h3; have Q3 := U3.trans Q2 h31; have S3 := S1.grown Q3; clear U3 N3x N2 Q2 Q3 S1)
    | (go_at_call 5; refine (cR _).mono ?_; rintro en W4 ⟨rfl, B4x⟩; have N4 := N3.grown B4x; have S4 := S3.grown B4x; have B4 := Below.then B3 B4x; clear cR B4x N3 S3)
    | (refine wpList_allocS rfl 23 rfl (inL noIn) Try.zeroValue23 ?_; intro W5 b5 F5 M5; have h5 : w.heap.size ≤ b5 := Nat.le_trans B4.size (Nat.le_of_eq F5.at'.symm); have n35 : b3 ≠ b5 := (by have := N4.lt; have := F5.at'; omega); have q5 : W4.heap.size ≤ b5 := Nat.le_of_eq F5.at'.symm; have N5 := N4.fresh F5; have B5 := F5.trans B4 B4.size; have Q5 : Below W4.heap.size W4 W5 := F5.trans (Below.refl _ _) (Nat.le_refl _); clear F5 N4)
    | (refine wpList_allocS rfl 29 rfl (fL (0, 0, 0)) Try.zeroValue29 ?_; intro W6 b6 F6 L6; have h6 : w.heap.size ≤ b6 := Nat.le_trans B5.size (Nat.le_of_eq F6.at'.symm); have n36 : b3 ≠ b6 := (by have := N5.lt; have := F6.at'; omega); have n56 : b5 ≠ b6 := (by have := M5.lt; have := F6.at'; omega); have q6 : W4.heap.size ≤ b6 := Nat.le_trans Q5.size (Nat.le_of_eq F6.at'.symm); have N6 := N5.fresh F6; have M6 := M5.fresh F6; have B6 := F6.trans B5 B5.size; have Q6 := F6.trans Q5 Q5.size; clear F6 N5 M5 Q5)
    | (refine wpList_storeS rfl 23 _ _ rfl rfl (inL X) rfl M6 (by simp [inL, noIn]) infoI (in_one _) ?_; intro W7 U7 M7x; have M7 : IsS W7 b5 23 (inL X) := M7x; have N7 := N6.upd U7 n35; have L7 := L6.upd U7 (Ne.symm n56); have B7 := U7.trans B6 h5; have Q7 := U7.trans Q6 q5; clear U7 M7x M6 N6 L6 Q6)
    | (refine wpList_storeS rfl 29 _ _ rfl rfl (fL F) rfl L7 (by simp [fL]) info30 (fL_one _) ?_; intro W8 U8 L8x; have L8 : IsS W8 b6 29 (fL F) := L8x; have N8 := N7.upd U8 n36; have M8 := M7.upd U8 n56; have B8 := U8.trans B7 h6; have S8 := S4.grown (U8.trans Q7 q6); clear U8 L8x L7 N7 M7 Q7 S4))
  refine grow_all (by kernel_rfl) (by kernel_rfl) ?_
  refine wpG_loadP rfl 23 _ rfl rfl N8 5 (inL X) rfl _ Try.underlying23 rfl infoI ?_
  simp only [Act.put, List.setIfInBounds_toArray, List.set_cons_succ, List.set_cons_zero]
  refine wpG_loadP rfl 23 _ rfl rfl M8 5 (inL X) rfl _ Try.underlying23 rfl infoI ?_
  simp only [Act.put, List.setIfInBounds_toArray, List.set_cons_succ, List.set_cons_zero]
  refine wpG_put rfl (v := .bool true) (fun w => by simp [execOp, go_sem, inL]) ?_
  simp only [Act.put, List.setIfInBounds_toArray, List.set_cons_succ, List.set_cons_zero]
  refine wpG_put rfl (v := .bool true) (fun w => by first | rfl | (go_simp; done)) ?_
  simp only [Act.put, List.setIfInBounds_toArray, List.set_cons_succ, List.set_cons_zero]
  refine wpG_put rfl (v := ev) (fun w => by first | rfl | (go_simp; done)) ?_
  simp only [Act.put, List.setIfInBounds_toArray, List.set_cons_succ, List.set_cons_zero]
  refine wpG_call rfl (f := 6) (args := #[ev]) (v := .agg (fL F).toArray) (fun w hw => S8 w hw) (fun w => by first | rfl | (go_simp; done)) ?_
  simp only [Act.put, List.setIfInBounds_toArray, List.set_cons_succ, List.set_cons_zero]
  refine wpG_loadP rfl 29 _ rfl rfl L8 3 (fL F) rfl _ Try.underlying29 rfl info30 ?_
  simp only [Act.put, List.setIfInBounds_toArray, List.set_cons_succ, List.set_cons_zero]
  refine wpG_put rfl (v := .bool true) (fun w => by simp [execOp, go_sem, fL]) ?_
  simp only [Act.put, List.setIfInBounds_toArray, List.set_cons_succ, List.set_cons_zero]
  refine wpG_put rfl (v := .bool true) (fun w => by first | rfl | (go_simp; done)) ?_
  simp only [Act.put, List.setIfInBounds_toArray, List.set_cons_succ, List.set_cons_zero]
  refine wpG_put rfl (v := .bool true) (fun w => by first | rfl | (go_simp; done)) ?_
  simp only [Act.put, List.setIfInBounds_toArray, List.set_cons_succ, List.set_cons_zero]
  refine wpG_nil ?_
  intro W9 B9
  have BB := Below.then B8 B9
  clear N8 M8 L8 S8 B9
  go_wp2_with fail
  go_ret
  exact ⟨rfl, BB⟩
theorem instrs_any (s : ByteArray) (hsz : s.size < 4611686018427387904) (w : World) : Calls Try.prog 3 #[.string s] w fun en w' => en = .returned (.bool true) ∧ Below w.heap.size w w' := by
  have hL := sizeL s
  by_cases hl : 1048576 < s.size
  · refine law_core s noIn (-1, 0, 1) (fun w => ?_) (fun w => rinst_long s hsz hl w) w
    refine (instruction_long s hsz (by omega) w).mono ?_
    rintro en w' ⟨rfl, B⟩
    exact ⟨⟨_, rfl, fun W _ => seen_errno 1 W⟩, B⟩
  · obtain ⟨ts, er, hr, hp, hR, hts, hk⟩ := rest_text s.data.toList (by omega)
    have hD := tt_good (l := s.data.toList) (ts := ts) (er := er) (by omega) hts hp
    have cR := fun w => rinst_any (ttOf s.data.toList ts er) hD s (fun w => open_any s (by omega) ts er hr hp (by omega) w) w
    have cP := fun w => instruction_any (D := ttOf s.data.toList ts er) (s := s) hsz (by omega) hR w
    unfold refV at cR
    cases hw : (wholeR (ttOf s.data.toList ts er)).F with
    | none =>
      rw [hw] at cR
      refine law_core s _ (0, 0, 0) (fun w => ?_) cR w
      refine (cP w).mono ?_
      rintro en w' ⟨I, B⟩
      exact ⟨⟨.nilIface, I.good hw, fun W _ => seen_none W⟩, B⟩
    | some f =>
      rw [hw] at cR
      refine law_core s noIn (fO (some f)) (fun w => ?_) cR w
      refine (cP w).mono ?_
      rintro en w' ⟨I, B⟩
      obtain ⟨bp, he, hb, J⟩ := I.bad f hw
      exact ⟨⟨_, he, fun W hW => seen_pos bp f.1 f.2.1 f.2.2 W (J.grown hW)⟩, B⟩
end Go.Proofs.Ytpbcngnginffgaa

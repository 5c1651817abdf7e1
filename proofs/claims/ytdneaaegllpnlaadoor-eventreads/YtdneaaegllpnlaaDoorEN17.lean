/- EventReads: for every execution the law returns true. -/
import Derived.Test.YtdneaaegllpnlaaDoorEL17
namespace Go.Proofs.YtdneaaegllpnlaaDoor
open Go.RowKit Go.Shelf M
set_option linter.unusedSimpArgs false
set_option linter.unusedVariables false

section
variable {ops : Array Oper} {W : World} {Q : Act → Prop} {rest : List Oper} {op : Oper} {a : Act}
theorem WG.eqR (hw : Region.wanted op (yielded ops a.tmps) = true) (x y : Operand) (ho : op.op = .binOp .eql 54 x y 54) {n : Int} {f : Nat → Nat} (hx : a.eval x = relv n f) (hy : a.eval y = relv n f)
    (h : WG ops W Q rest (a.put op.dst (.bool true))) : WG ops W Q (op :: rest) a := by
  refine WG.put hw (fun w => ?_) h
  unfold execOp
  have h1 := eqlR n f w
  have h2 := eqGuardR .eql x y n n f f w
  simp [ho, hx, hy, Sem.run_bind, h1, h2]
end
set_option maxRecDepth 100000 in
set_option maxHeartbeats 8000000 in
theorem eventReads_any {w : World} {cs : List Value} {ne : Nat} {fr : List Int} {od : List (List Int)} (hT : TabAt w) (h : XE w cs ne fr od) :
    Calls Tryd.prog 5 #[.agg cs.toArray] w fun e w' => e = .returned (.bool true) ∧ Below w.heap.size w w' := by
  have HL : Hid (cs.length = 5) := h.len
  have c1 : Hid (∀ W, Below w.heap.size w W → Calls Tryd.prog 30 #[.agg cs.toArray] W fun e w' => e = .returned (relv (shN ne) (rfX ne fr)) ∧ Below W.heap.size W w') := fun W hB => rf_x (h.below hB)
  have c2 : Hid (∀ W, Below w.heap.size w W → Calls Tryd.prog 31 #[.agg cs.toArray] W fun e w' => e = .returned (relv (shN ne) (rfX ne fr)) ∧ Below W.heap.size W w') := fun W hB => rrf_x (h.below hB)
  have c3 : Hid (∀ W, Below w.heap.size w W → Calls Tryd.prog 32 #[.agg cs.toArray] W fun e w' => e = .returned (relv (shN ne) (coX ne od)) ∧ Below W.heap.size W w') := fun W hB => co_x (h.below hB)
  have c4 : Hid (∀ W, Below w.heap.size w W → Calls Tryd.prog 33 #[.agg cs.toArray] W fun e w' => e = .returned (relv (shN ne) (coX ne od)) ∧ Below W.heap.size W w') := fun W hB => rco_x (h.below hB)
  have c5 : Hid (∀ W, Below w.heap.size w W → Calls Tryd.prog 34 #[.agg cs.toArray] W fun e w' => e = .returned (relv (shN ne) (frF (shN ne) (rfX ne fr) (coX ne od))) ∧ Below W.heap.size W w') := fun W hB => fr_x (hT.below hB) (h.below hB)
  have c6 : Hid (∀ W, Below w.heap.size w W → Calls Tryd.prog 35 #[.agg cs.toArray] W fun e w' => e = .returned (relv (shN ne) (frF (shN ne) (rfX ne fr) (coX ne od))) ∧ Below W.heap.size W w') := fun W hB => rfr_x (h.below hB)
  generalize frF (shN ne) (rfX ne fr) (coX ne od) = Z at *
  generalize rfX ne fr = R at *
  generalize coX ne od = C at *
  generalize shN ne = N at *
  clear h hT
  go_enter Tryd.func5, Tryd.ntmps5
  go_wp2_with (first
    | (refine wpList_boxS rfl 61 _ rfl cs rfl ?_; intro W1 b1 F1 C1; have B1 := F_b F1; clear F1))
  have HB : Hid (Below w.heap.size w W1) := B1
  have HC1 : Hid (IsS W1 b1 61 cs) := C1
  clear B1 C1
  refine grow_allW (by kernel_rfl) (by kernel_rfl) ?_
  refine WG.loadX rfl _ rfl rfl HC1.out HL.out ?_
  simp only [Act.put, List.setIfInBounds_toArray, List.set_cons_succ, List.set_cons_zero]
  refine WG.call rfl (fun w' hw' => c1.out w' (Below.then HB.out hw')) (fun w => by first | rfl | (go_simp; done)) ?_
  simp only [Act.put, List.setIfInBounds_toArray, List.set_cons_succ, List.set_cons_zero]
  refine WG.loadX rfl _ rfl rfl HC1.out HL.out ?_
  simp only [Act.put, List.setIfInBounds_toArray, List.set_cons_succ, List.set_cons_zero]
  refine WG.call rfl (fun w' hw' => c2.out w' (Below.then HB.out hw')) (fun w => by first | rfl | (go_simp; done)) ?_
  simp only [Act.put, List.setIfInBounds_toArray, List.set_cons_succ, List.set_cons_zero]
  refine WG.eqR rfl _ _ rfl rfl rfl ?_
  simp only [Act.put, List.setIfInBounds_toArray, List.set_cons_succ, List.set_cons_zero]
  refine WG.put rfl (v := .bool true) (fun w => by first | rfl | (go_simp; done)) ?_
  simp only [Act.put, List.setIfInBounds_toArray, List.set_cons_succ, List.set_cons_zero]
  refine WG.loadX rfl _ rfl rfl HC1.out HL.out ?_
  simp only [Act.put, List.setIfInBounds_toArray, List.set_cons_succ, List.set_cons_zero]
  refine WG.call rfl (fun w' hw' => c3.out w' (Below.then HB.out hw')) (fun w => by first | rfl | (go_simp; done)) ?_
  simp only [Act.put, List.setIfInBounds_toArray, List.set_cons_succ, List.set_cons_zero]
  refine WG.loadX rfl _ rfl rfl HC1.out HL.out ?_
  simp only [Act.put, List.setIfInBounds_toArray, List.set_cons_succ, List.set_cons_zero]
  refine WG.call rfl (fun w' hw' => c4.out w' (Below.then HB.out hw')) (fun w => by first | rfl | (go_simp; done)) ?_
  simp only [Act.put, List.setIfInBounds_toArray, List.set_cons_succ, List.set_cons_zero]
  refine WG.eqR rfl _ _ rfl rfl rfl ?_
  simp only [Act.put, List.setIfInBounds_toArray, List.set_cons_succ, List.set_cons_zero]
  refine WG.put rfl (v := .bool true) (fun w => by first | rfl | (go_simp; done)) ?_
  simp only [Act.put, List.setIfInBounds_toArray, List.set_cons_succ, List.set_cons_zero]
  refine WG.put rfl (v := .bool true) (fun w => by first | rfl | (go_simp; done)) ?_
  simp only [Act.put, List.setIfInBounds_toArray, List.set_cons_succ, List.set_cons_zero]
  refine WG.loadX rfl _ rfl rfl HC1.out HL.out ?_
  simp only [Act.put, List.setIfInBounds_toArray, List.set_cons_succ, List.set_cons_zero]
  refine WG.call rfl (fun w' hw' => c5.out w' (Below.then HB.out hw')) (fun w => by first | rfl | (go_simp; done)) ?_
  simp only [Act.put, List.setIfInBounds_toArray, List.set_cons_succ, List.set_cons_zero]
  refine WG.loadX rfl _ rfl rfl HC1.out HL.out ?_
  simp only [Act.put, List.setIfInBounds_toArray, List.set_cons_succ, List.set_cons_zero]
  refine WG.call rfl (fun w' hw' => c6.out w' (Below.then HB.out hw')) (fun w => by first | rfl | (go_simp; done)) ?_
  simp only [Act.put, List.setIfInBounds_toArray, List.set_cons_succ, List.set_cons_zero]
  refine WG.eqR rfl _ _ rfl rfl rfl ?_
  simp only [Act.put, List.setIfInBounds_toArray, List.set_cons_succ, List.set_cons_zero]
  refine WG.put rfl (v := .bool true) (fun w => by first | rfl | (go_simp; done)) ?_
  simp only [Act.put, List.setIfInBounds_toArray, List.set_cons_succ, List.set_cons_zero]
  refine WG.put rfl (v := .bool true) (fun w => by first | rfl | (go_simp; done)) ?_
  simp only [Act.put, List.setIfInBounds_toArray, List.set_cons_succ, List.set_cons_zero]
  refine WG.nil (fun W3 hw3 => ?_)
  have B3 := Below.then HB.out hw3
  go_wp2
  go_ret
  exact ⟨rfl, B3⟩
end Go.Proofs.YtdneaaegllpnlaaDoor

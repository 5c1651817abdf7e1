/- RelCloses: for every relation the law returns true. -/
import Derived.Test.YtkccckjiemijeaaDoorZ6
namespace Go.Proofs.YtkccckjiemijeaaDoor
open Go.RowKit Go.Shelf M P
set_option linter.unusedSimpArgs false
set_option linter.unusedVariables false

section
variable {ops : Array Oper} {W : World} {Q : Act → Prop} {rest : List Oper} {op : Oper} {a : Act}
theorem wpG_eqRR (hw : Region.wanted op (yielded ops a.tmps) = true) (x y : Operand) (ho : op.op = .binOp .eql 25 x y 25) {n : Int} {f : Nat → Nat} (hx : a.eval x = relv n f) (hy : a.eval y = relv n f)
    (h : wpG Tryd.prog ops W Q rest (a.put op.dst (.bool true))) : wpG Tryd.prog ops W Q (op :: rest) a := by
  refine wpG_eqR hw x y ho hx hy ?_
  rw [(rowsEq_iff f f).2 (fun _ _ => rfl)]
  exact h
end

set_option maxRecDepth 100000 in
set_option maxHeartbeats 4000000 in
theorem relCloses_any (n : Int) (f : Nat → Nat) (w : World) (hf : Wf f) (hT : TabAt w) :
    Calls Tryd.prog 6 #[relv n f] w fun e w' => e = .returned (.bool true) ∧ Below w.heap.size w w' := by
  have a37 := opt_any n f hf
  have a38 := ropt_any n f hf
  have a39 := plus_any n f hf
  have a40 := rplus_any n f hf
  have a41 := star_any n f hf
  have a42 := rstar_any n f hf
  have a43 := domain_any n f hf
  have a44 := rdomain_any n f hf
  have a45 := range_any n f hf
  have a46 := rrange_any n f hf
  have a47 := irreflexive_any n f hf
  have a48 := rirreflexive_any n f hf
  have a49 := transitive_any n f hf
  have a50 := rtransitive_any n f hf
  have a51 := acyclic_any n f hf
  have a52 := racyclic_any n f hf
  generalize nN n f = N at *
  generalize opF orN (nF n f) (idF N.toNat) = X1 at *
  generalize opF orN (wsh (nF n f) N.toNat) (idF N.toNat) = X3 at *
  generalize irr N.toNat (wsh (nF n f) N.toNat) = X8 at *
  generalize wsh (nF n f) N.toNat = X2 at *
  generalize dom (nF n f) N.toNat = X4 at *
  generalize rng (nF n f) 64 = X5 at *
  generalize irr N.toNat (nF n f) = X6 at *
  generalize tra N.toNat (nF n f) = X7 at *
  go_enter Tryd.func6, Tryd.ntmps6
  go_wp2_with (refine wpList_boxR rfl _ rfl rfl ?_; intro W1 b1 F1 r1; have B1 := Fresh.trans (Below.refl _ w) (Nat.le_refl _) F1; clear F1)
  have tW := hT.below B1
  refine grow_all (by kernel_rfl) (by kernel_rfl) ?_
  try simp only [Act.put, List.setIfInBounds_toArray, List.set_cons_succ, List.set_cons_zero]
  refine wpG_loadR rfl _ rfl rfl r1 ?_
  refine wpG_call tW rfl a37 (fun w => by first | rfl | (go_simp; done)) ?_
  refine wpG_loadR rfl _ rfl rfl r1 ?_
  refine wpG_call tW rfl a38 (fun w => by first | rfl | (go_simp; done)) ?_
  try simp only [Act.put, List.setIfInBounds_toArray, List.set_cons_succ, List.set_cons_zero]
  refine wpG_eqRR rfl _ _ rfl rfl rfl ?_
  try simp only [Act.put, List.setIfInBounds_toArray, List.set_cons_succ, List.set_cons_zero]
  refine wpG_put rfl (v := .bool true) (fun w => by first | rfl | (go_simp; done)) ?_
  try simp only [Act.put, List.setIfInBounds_toArray, List.set_cons_succ, List.set_cons_zero]
  refine wpG_loadR rfl _ rfl rfl r1 ?_
  refine wpG_call tW rfl a39 (fun w => by first | rfl | (go_simp; done)) ?_
  refine wpG_loadR rfl _ rfl rfl r1 ?_
  refine wpG_call tW rfl a40 (fun w => by first | rfl | (go_simp; done)) ?_
  try simp only [Act.put, List.setIfInBounds_toArray, List.set_cons_succ, List.set_cons_zero]
  refine wpG_eqRR rfl _ _ rfl rfl rfl ?_
  try simp only [Act.put, List.setIfInBounds_toArray, List.set_cons_succ, List.set_cons_zero]
  refine wpG_put rfl (v := .bool true) (fun w => by first | rfl | (go_simp; done)) ?_
  refine wpG_put rfl (v := .bool true) (fun w => by first | rfl | (go_simp; done)) ?_
  try simp only [Act.put, List.setIfInBounds_toArray, List.set_cons_succ, List.set_cons_zero]
  refine wpG_loadR rfl _ rfl rfl r1 ?_
  refine wpG_call tW rfl a41 (fun w => by first | rfl | (go_simp; done)) ?_
  refine wpG_loadR rfl _ rfl rfl r1 ?_
  refine wpG_call tW rfl a42 (fun w => by first | rfl | (go_simp; done)) ?_
  try simp only [Act.put, List.setIfInBounds_toArray, List.set_cons_succ, List.set_cons_zero]
  refine wpG_eqRR rfl _ _ rfl rfl rfl ?_
  try simp only [Act.put, List.setIfInBounds_toArray, List.set_cons_succ, List.set_cons_zero]
  refine wpG_put rfl (v := .bool true) (fun w => by first | rfl | (go_simp; done)) ?_
  refine wpG_put rfl (v := .bool true) (fun w => by first | rfl | (go_simp; done)) ?_
  try simp only [Act.put, List.setIfInBounds_toArray, List.set_cons_succ, List.set_cons_zero]
  refine wpG_loadR rfl _ rfl rfl r1 ?_
  refine wpG_call tW rfl a43 (fun w => by first | rfl | (go_simp; done)) ?_
  refine wpG_loadR rfl _ rfl rfl r1 ?_
  refine wpG_call tW rfl a44 (fun w => by first | rfl | (go_simp; done)) ?_
  try simp only [Act.put, List.setIfInBounds_toArray, List.set_cons_succ, List.set_cons_zero]
  refine wpG_put rfl (v := .bool true) (fun w => by go_simp; done) ?_
  try simp only [Act.put, List.setIfInBounds_toArray, List.set_cons_succ, List.set_cons_zero]
  refine wpG_put rfl (v := .bool true) (fun w => by first | rfl | (go_simp; done)) ?_
  refine wpG_put rfl (v := .bool true) (fun w => by first | rfl | (go_simp; done)) ?_
  try simp only [Act.put, List.setIfInBounds_toArray, List.set_cons_succ, List.set_cons_zero]
  refine wpG_loadR rfl _ rfl rfl r1 ?_
  refine wpG_call tW rfl a45 (fun w => by first | rfl | (go_simp; done)) ?_
  refine wpG_loadR rfl _ rfl rfl r1 ?_
  refine wpG_call tW rfl a46 (fun w => by first | rfl | (go_simp; done)) ?_
  try simp only [Act.put, List.setIfInBounds_toArray, List.set_cons_succ, List.set_cons_zero]
  refine wpG_put rfl (v := .bool true) (fun w => by go_simp; done) ?_
  try simp only [Act.put, List.setIfInBounds_toArray, List.set_cons_succ, List.set_cons_zero]
  refine wpG_put rfl (v := .bool true) (fun w => by first | rfl | (go_simp; done)) ?_
  refine wpG_put rfl (v := .bool true) (fun w => by first | rfl | (go_simp; done)) ?_
  try simp only [Act.put, List.setIfInBounds_toArray, List.set_cons_succ, List.set_cons_zero]
  refine wpG_loadR rfl _ rfl rfl r1 ?_
  refine wpG_call tW rfl a47 (fun w => by first | rfl | (go_simp; done)) ?_
  refine wpG_loadR rfl _ rfl rfl r1 ?_
  refine wpG_call tW rfl a48 (fun w => by first | rfl | (go_simp; done)) ?_
  try simp only [Act.put, List.setIfInBounds_toArray, List.set_cons_succ, List.set_cons_zero]
  refine wpG_put rfl (v := .bool true) (fun w => by go_simp; done) ?_
  try simp only [Act.put, List.setIfInBounds_toArray, List.set_cons_succ, List.set_cons_zero]
  refine wpG_put rfl (v := .bool true) (fun w => by first | rfl | (go_simp; done)) ?_
  refine wpG_put rfl (v := .bool true) (fun w => by first | rfl | (go_simp; done)) ?_
  try simp only [Act.put, List.setIfInBounds_toArray, List.set_cons_succ, List.set_cons_zero]
  refine wpG_loadR rfl _ rfl rfl r1 ?_
  refine wpG_call tW rfl a49 (fun w => by first | rfl | (go_simp; done)) ?_
  refine wpG_loadR rfl _ rfl rfl r1 ?_
  refine wpG_call tW rfl a50 (fun w => by first | rfl | (go_simp; done)) ?_
  try simp only [Act.put, List.setIfInBounds_toArray, List.set_cons_succ, List.set_cons_zero]
  refine wpG_put rfl (v := .bool true) (fun w => by go_simp; done) ?_
  try simp only [Act.put, List.setIfInBounds_toArray, List.set_cons_succ, List.set_cons_zero]
  refine wpG_put rfl (v := .bool true) (fun w => by first | rfl | (go_simp; done)) ?_
  refine wpG_put rfl (v := .bool true) (fun w => by first | rfl | (go_simp; done)) ?_
  try simp only [Act.put, List.setIfInBounds_toArray, List.set_cons_succ, List.set_cons_zero]
  refine wpG_loadR rfl _ rfl rfl r1 ?_
  refine wpG_call tW rfl a51 (fun w => by first | rfl | (go_simp; done)) ?_
  refine wpG_loadR rfl _ rfl rfl r1 ?_
  refine wpG_call tW rfl a52 (fun w => by first | rfl | (go_simp; done)) ?_
  try simp only [Act.put, List.setIfInBounds_toArray, List.set_cons_succ, List.set_cons_zero]
  refine wpG_put rfl (v := .bool true) (fun w => by go_simp; done) ?_
  try simp only [Act.put, List.setIfInBounds_toArray, List.set_cons_succ, List.set_cons_zero]
  refine wpG_put rfl (v := .bool true) (fun w => by first | rfl | (go_simp; done)) ?_
  refine wpG_put rfl (v := .bool true) (fun w => by first | rfl | (go_simp; done)) ?_
  refine wpG_nil ?_
  intro W6 hW6
  try simp only [Act.put, List.setIfInBounds_toArray, List.set_cons_succ, List.set_cons_zero]
  have B6 := B1.trans (hW6.mono B1.size)
  clear r1 B1 hW6 tW
  go_wp2
  go_ret
  exact ⟨rfl, B6⟩
end Go.Proofs.YtkccckjiemijeaaDoor

/- Instructions: whether they can be written: the program's side. -/
import Derived.Test.YtjoppgilmlhfbaaDoorP2
import Derived.LoopN
namespace Go.Proofs.YtjoppgilmlhfbaaDoor
open Go.RowKit M
set_option linter.unusedSimpArgs false
set_option linter.unusedVariables false

structure IB where
  op : Int
  reg : ByteArray
  src : ByteArray
  loc : ByteArray
  imm : Int
def ibL (x : IB) : List Value := [.int .i64 x.op, .string x.reg, .string x.src, .string x.loc, .int .i64 x.imm]
theorem infoIb : (Tryd.prog.info? 27).map (·.size) = some 5 := by kernel_rfl
def nB (s : ByteArray) : Bool := nameB s.data.toList
/-- Whether an instruction can be written. -/
def insOk (x : IB) : Bool :=
  if x.op = 1 then decide (nB x.reg = true ∧ x.src.toList = [] ∧ x.loc.toList = [])
  else if x.op = 2 then decide (nB x.reg = true ∧ nB x.src = true ∧ x.loc.toList = [] ∧ x.imm = 0)
  else if x.op = 3 ∨ x.op = 7 ∨ x.op = 9 then decide (nB x.reg = true ∧ nB x.loc = true ∧ x.src.toList = [] ∧ x.imm = 0)
  else if x.op = 4 then decide (nB x.loc = true ∧ x.reg.toList = [] ∧ x.src.toList = [])
  else if x.op = 5 ∨ x.op = 8 then decide (nB x.loc = true ∧ nB x.src = true ∧ x.reg.toList = [] ∧ x.imm = 0)
  else if x.op = 6 then decide (x.reg.toList = [] ∧ x.src.toList = [] ∧ x.loc.toList = [] ∧ x.imm = 0)
  else false
section
variable {w : World} {ops : Array Oper} {rest : List Oper} {op : Oper} {a : Act} {Q : Exit → Act → World → Prop}
theorem wpList_build1 (hgd : op.guard = none) (x : Operand) (ho : op.op = .buildSlice 57 1 #[(0, x)]) (s : ByteArray) (hx : a.eval x = .string s)
    (h : ∀ W b, Fresh w W b → IsS W b 9 [.string s] → wpList Tryd.prog ops Q rest (a.put op.dst (.slice (some ⟨b, 0, none⟩) 1 1)) W) : wpList Tryd.prog ops Q (op :: rest) a w := by
  refine wpList_plain hgd fun K hK => ?_
  have hr : (execOp a.eval op).run Tryd.prog w = .ok (.value (.slice (some ⟨w.heap.size, 0, none⟩) 1 1)) (w.alloc (.cells [.string s].toArray 9)) := by
    generalize a.eval = ev at hx ⊢
    unfold execOp
    simp [ho, hx, go_sem, Value.cells]
  unfold Oper.wp
  rw [hr]
  exact hK _ _ (h _ _ (Fresh.alloc w _) (IsS.new w 9 _))
theorem wpList_build2 (hgd : op.guard = none) (x y : Operand) (ho : op.op = .buildSlice 57 2 #[(0, x), (1, y)]) (s t : ByteArray) (hx : a.eval x = .string s) (hy : a.eval y = .string t)
    (h : ∀ W b, Fresh w W b → IsS W b 9 [.string s, .string t] → wpList Tryd.prog ops Q rest (a.put op.dst (.slice (some ⟨b, 0, none⟩) 2 2)) W) : wpList Tryd.prog ops Q (op :: rest) a w := by
  refine wpList_plain hgd fun K hK => ?_
  have hr : (execOp a.eval op).run Tryd.prog w = .ok (.value (.slice (some ⟨w.heap.size, 0, none⟩) 2 2)) (w.alloc (.cells [.string s, .string t].toArray 9)) := by
    generalize a.eval = ev at hx hy ⊢
    unfold execOp
    simp [ho, hx, hy, go_sem, Value.cells]
  unfold Oper.wp
  rw [hr]
  exact hK _ _ (h _ _ (Fresh.alloc w _) (IsS.new w 9 _))
end
set_option maxRecDepth 100000 in
set_option maxHeartbeats 2000000 in
theorem names_1 (s : ByteArray) (hs : s.size ≤ maxLen) (b : Nat) (w : World) (hI : IsS w b 9 [.string s]) : Calls Tryd.prog 24 #[.slice (some ⟨b, 0, none⟩) 1 1] w fun e w' => e = .returned (.bool (nB s)) ∧ w' = w := by
  have cN := fun w => name_any s hs w
  have c0 : w.cell? ⟨b, 0, none⟩ = some (.string s) := hI.cell 0
  unfold nB
  clear hI hs
  generalize nameB s.data.toList = q at *
  go_enter Tryd.func24, Tryd.ntmps24
  go_wp2
  refine wp_loop_rounds 2 ?_
  rw [rounds_succ]
  go_wp2_with (go_at_call 19; refine (cN _).mono ?_; rintro e w' ⟨rfl, hw'⟩; replace hw' := hw'.symm; subst hw'; cases q)
  · go_ret
    exact ⟨rfl, rfl⟩
  · rw [rounds_succ]
    go_wp2
    go_ret
    exact ⟨rfl, rfl⟩
set_option maxRecDepth 100000 in
set_option maxHeartbeats 2000000 in
theorem names_2 (s t : ByteArray) (hs : s.size ≤ maxLen) (ht : t.size ≤ maxLen) (b : Nat) (w : World) (hI : IsS w b 9 [.string s, .string t]) : Calls Tryd.prog 24 #[.slice (some ⟨b, 0, none⟩) 2 2] w fun e w' => e = .returned (.bool (nB s && nB t)) ∧ w' = w := by
  have cN := fun w => name_any s hs w
  have cM := fun w => name_any t ht w
  have c0 : w.cell? ⟨b, 0, none⟩ = some (.string s) := hI.cell 0
  have c1 : w.cell? ⟨b, 1, none⟩ = some (.string t) := hI.cell 1
  unfold nB
  clear hI hs ht
  generalize nameB s.data.toList = q at *
  generalize nameB t.data.toList = r at *
  go_enter Tryd.func24, Tryd.ntmps24
  go_wp2
  refine wp_loop_rounds 3 ?_
  rw [rounds_succ]
  go_wp2_with (go_at_call 19; refine (cN _).mono ?_; rintro e w' ⟨rfl, hw'⟩; replace hw' := hw'.symm; subst hw'; clear cN; cases q)
  · go_ret
    exact ⟨rfl, rfl⟩
  · rw [rounds_succ]
    go_wp2_with (go_at_call 19; refine (cM _).mono ?_; rintro e w' ⟨rfl, hw'⟩; replace hw' := hw'.symm; subst hw'; clear cM; cases r)
    · go_ret
      exact ⟨rfl, rfl⟩
    · rw [rounds_succ]
      go_wp2
      go_ret
      exact ⟨rfl, rfl⟩
end Go.Proofs.YtjoppgilmlhfbaaDoor

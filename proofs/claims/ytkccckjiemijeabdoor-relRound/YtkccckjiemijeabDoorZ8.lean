/- Operations of a region that draws its order, where memory at most grows: relations loaded, built, compared; calls; a relation's block made. -/
import Derived.Test.YtkccckjiemijeabDoorZ2
import Derived.Test.YtkccckjiemijeabDoorZ7
namespace Go.Proofs.YtkccckjiemijeabDoor
open Go.RowKit Go.Shelf M P
set_option linter.unusedSimpArgs false
set_option linter.unusedVariables false

section
variable {ops : Array Oper} {W : World} {Q : Act → Prop} {rest : List Oper} {op : Oper} {a : Act}
theorem wpG_nil (h : Q a) : wpG Tryd.prog ops W Q [] a := h
theorem wpG_value (hw : Region.wanted op (yielded ops a.tmps) = true) {v : Value} (hr : ∀ w, Below W.heap.size W w → (execOp a.eval op).run Tryd.prog w = .ok (.value v) w)
    (h : wpG Tryd.prog ops W Q rest (a.put op.dst v)) : wpG Tryd.prog ops W Q (op :: rest) a := by
  unfold wpG growOp
  rw [if_pos hw]
  refine ⟨v, fun w hC => ?_, h⟩
  unfold Oper.quietAt
  rw [hr w hC]
  exact ⟨rfl, rfl⟩
theorem wpG_put (hw : Region.wanted op (yielded ops a.tmps) = true) {v : Value} (hr : ∀ w, (execOp a.eval op).run Tryd.prog w = .ok (.value v) w)
    (h : wpG Tryd.prog ops W Q rest (a.put op.dst v)) : wpG Tryd.prog ops W Q (op :: rest) a := wpG_value hw (fun w _ => hr w) h
theorem wpG_skip (hw : Region.wanted op (yielded ops a.tmps) = false)
    (h : wpG Tryd.prog ops W Q rest (a.put op.dst undef)) : wpG Tryd.prog ops W Q (op :: rest) a := by
  unfold wpG growOp
  rw [if_neg (by rw [hw]; simp)]
  exact h
theorem wpG_loadR (hw : Region.wanted op (yielded ops a.tmps) = true) (x : Operand) (ho : op.op = .load 25 x) {b : Nat} (hx : a.eval x = .pointer (some ⟨b, 0, none⟩)) {n : Int} {f : Nat → Nat} (hC : IsR W b n f)
    (h : wpG Tryd.prog ops W Q rest (a.put op.dst (relv n f))) : wpG Tryd.prog ops W Q (op :: rest) a := by
  refine wpG_value hw (fun w hc => ?_) h
  unfold execOp
  have := run_loadAt_mid (P := Tryd.prog) w b 0 25 (cellsL n f) _ (hC.grown hc).range Tryd.underlying25 rfl (by rw [cellsL_length]; exact info25)
  simp only [ho, hx, Sem.run_bind, this, Result.andThen_ok, Sem.run_pure]
  rfl
theorem wpG_loadN (hw : Region.wanted op (yielded ops a.tmps) = true) (x : Operand) (ho : op.op = .load 3 x) {b : Nat} (hx : a.eval x = .pointer (some ⟨b, 0, none⟩)) {n : Int} {f : Nat → Nat} (hC : IsR W b n f)
    (h : wpG Tryd.prog ops W Q rest (a.put op.dst (.int .i64 n))) : wpG Tryd.prog ops W Q (op :: rest) a := by
  refine wpG_value hw (fun w hc => ?_) h
  unfold execOp
  have := (hC.grown hc).n
  simp only [ho, hx]
  simp [go_sem, this]
theorem wpG_call (hT : TabAt W) (hw : Region.wanted op (yielded ops a.tmps) = true) {f : FuncId} {args : Array Value} {v : Value} (hC : AnsV f args v) (hr : ∀ w, (execOp a.eval op).run Tryd.prog w = .ok (.enter f args) w)
    (h : wpG Tryd.prog ops W Q rest (a.put op.dst v)) : wpG Tryd.prog ops W Q (op :: rest) a := by
  unfold wpG growOp
  rw [if_pos hw]
  refine ⟨v, fun w hc => ?_, h⟩
  unfold Oper.quietAt
  rw [hr w]
  exact ⟨rfl, hC w (hT.below hc)⟩
theorem wpG_buildRN (hw : Region.wanted op (yielded ops a.tmps) = true) (x : Operand) (ho : op.op = .build 25 #[(0, x)]) {n : Int} (hx : a.eval x = .int .i64 n)
    (h : wpG Tryd.prog ops W Q rest (a.put op.dst (relv n void))) : wpG Tryd.prog ops W Q (op :: rest) a := by
  refine wpG_put hw (fun w => ?_) h
  unfold execOp
  have hb : Tryd.prog.built 25 [(0, .int .i64 n)] = some (cellsR n void) := by rfl
  simp only [ho, List.map_toArray, List.map_cons, List.map_nil, hx, Sem.run_bind, run_build w 25 #[(0, .int .i64 n)] (cellsR n void) hb, Result.andThen_ok, Sem.run_pure]
  rfl
theorem wpG_buildR0 (hw : Region.wanted op (yielded ops a.tmps) = true) (ho : op.op = .build 25 #[])
    (h : wpG Tryd.prog ops W Q rest (a.put op.dst (relv 0 void))) : wpG Tryd.prog ops W Q (op :: rest) a := by
  refine wpG_put hw (fun w => ?_) h
  unfold execOp
  have hb : Tryd.prog.built 25 [] = some (cellsR 0 void) := by kernel_rfl
  simp only [ho, List.map_toArray, List.map_nil, Sem.run_bind, run_build w 25 #[] (cellsR 0 void) hb, Result.andThen_ok, Sem.run_pure]
  rfl
theorem wpG_eqR (hw : Region.wanted op (yielded ops a.tmps) = true) (x y : Operand) (ho : op.op = .binOp .eql 25 x y 25) {n : Int} {f g : Nat → Nat} (hx : a.eval x = relv n f) (hy : a.eval y = relv n g)
    (h : wpG Tryd.prog ops W Q rest (a.put op.dst (.bool (rowsEq f g)))) : wpG Tryd.prog ops W Q (op :: rest) a := by
  refine wpG_put hw (fun w => ?_) h
  unfold execOp
  have h1 := eqlG n f g w
  have h2 := eqGuardR .eql x y n n f g w
  simp [ho, hx, hy, Sem.run_bind, h1, h2]
end

/-- A relation's block was made since. -/
def MadeR (W : World) (v : Value) (w : World) : Prop := Below W.heap.size W w ∧ ∃ b, v = .pointer (some ⟨b, 0, none⟩) ∧ W.heap.size ≤ b ∧ IsR w b 0 void
theorem madeR_grown (W : World) (v : Value) : Grown W (MadeR W v) :=
  ⟨fun _ h => h.1, fun w w' ⟨h1, b, h2, h3, h4⟩ k => ⟨h1.trans (k.mono h1.size), b, h2, h3, h4.grown k⟩⟩
theorem madeR_make {mo : Oper} (ho : mo.op = .alloc 25) (W : World) (a : Act) (w : World) (h : Below W.heap.size W w) : ∃ v w', (execOp a.eval mo).run Tryd.prog w = .ok (.value v) w' ∧ MadeR W v w' := by
  refine ⟨.pointer (some ⟨w.heap.size, 0, none⟩), w.alloc (.cells (cellsR 0 void) 25), ?_, ?_, w.heap.size, rfl, h.size, IsR.new w 0 void⟩
  · unfold execOp
    simp [ho, go_sem, Value.cells, zero25]
  · exact h.alloc h.size _
end Go.Proofs.YtkccckjiemijeabDoor

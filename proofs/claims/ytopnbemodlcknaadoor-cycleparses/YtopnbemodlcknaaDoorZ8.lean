/- Operations of a region that draws its order, where memory at most grows. -/
import Derived.Test.YtopnbemodlcknaaDoorZ7
import Derived.Test.YtopnbemodlcknaaDoorB0
namespace Go.Proofs.YtopnbemodlcknaaDoor
open Go.RowKit
set_option linter.unusedSimpArgs false
set_option linter.unusedVariables false

section
variable {ops : Array Oper} {W : World} {Q : Act → Prop} {rest : List Oper} {op : Oper} {a : Act}
theorem wpG_nil (h : Q a) : wpG Tryd.prog ops W Q [] a := h
theorem wpG_value (hw : Region.wanted op (yielded ops a.tmps) = true) {v : Value} (hr : ∀ w, Below W.heap.size W w → (execOp a.eval op).run Tryd.prog w = .ok (.value v) w)
    (h : wpG Tryd.prog ops W Q rest (a.put op.dst v)) : wpG Tryd.prog ops W Q (op :: rest) a := by
  unfold wpG growOp
  rw [if_pos hw]
  refine ⟨v, fun w hC => ?_, h⟩
  unfold Oper.quietAt
  rw [hr w hC]
  exact ⟨rfl, rfl⟩
theorem wpG_put (hw : Region.wanted op (yielded ops a.tmps) = true) {v : Value} (hr : ∀ w, (execOp a.eval op).run Tryd.prog w = .ok (.value v) w)
    (h : wpG Tryd.prog ops W Q rest (a.put op.dst v)) : wpG Tryd.prog ops W Q (op :: rest) a := wpG_value hw (fun w _ => hr w) h
theorem wpG_skip (hw : Region.wanted op (yielded ops a.tmps) = false)
    (h : wpG Tryd.prog ops W Q rest (a.put op.dst undef)) : wpG Tryd.prog ops W Q (op :: rest) a := by
  unfold wpG growOp
  rw [if_neg (by rw [hw]; simp)]
  exact h
theorem wpG_call (hw : Region.wanted op (yielded ops a.tmps) = true) {f : FuncId} {args : Array Value} {v : Value} (hC : ∀ w, Below W.heap.size W w → Calls Tryd.prog f args w fun e w' => e = .returned v ∧ Below w.heap.size w w') (hr : ∀ w, (execOp a.eval op).run Tryd.prog w = .ok (.enter f args) w)
    (h : wpG Tryd.prog ops W Q rest (a.put op.dst v)) : wpG Tryd.prog ops W Q (op :: rest) a := by
  unfold wpG growOp
  rw [if_pos hw]
  refine ⟨v, fun w hc => ?_, h⟩
  unfold Oper.quietAt
  rw [hr w]
  exact ⟨rfl, hC w hc⟩
end
end Go.Proofs.YtopnbemodlcknaaDoor

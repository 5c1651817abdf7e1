/- What the walk of the law RelMakes wants: pairs in memory, and a region that draws its order while its calls make memory. -/
import Derived.Test.YtkccckjiemijeabDoorE2
import Derived.Laws.AppendOwnNone
namespace Go.Proofs.YtkccckjiemijeabDoor
open Go.RowKit M
set_option linter.unusedSimpArgs false
set_option linter.unusedVariables false

theorem num_any (e : Int) (w : World) : Calls Tryd.prog 9 #[.int .i64 e] w fun r w' => r = .returned (.int .i64 e) ∧ w' = w := by
  go_enter Tryd.func9, Tryd.ntmps9
  go_wp2
  go_ret
  exact ⟨rfl, rfl⟩

section
variable {ops : Array Oper} {C : World → Prop} {Q : Act → Prop} {rest : List Oper} {op : Oper} {a : Act}
theorem wpQuiet_value (hw : Region.wanted op (yielded ops a.tmps) = true) {v : Value} (hr : ∀ w, C w → (execOp a.eval op).run Tryd.prog w = .ok (.value v) w)
    (h : wpQuiet Tryd.prog ops C Q rest (a.put op.dst v)) : wpQuiet Tryd.prog ops C Q (op :: rest) a := by
  unfold wpQuiet
  rw [if_pos hw]
  refine ⟨v, fun w hC => ?_, h⟩
  unfold Oper.quietAt
  rw [hr w hC]
  exact ⟨rfl, rfl⟩
theorem wpQuiet_loadR (hw : Region.wanted op (yielded ops a.tmps) = true) (x : Operand) (ho : op.op = .load 25 x) {b : Nat} (hx : a.eval x = .pointer (some ⟨b, 0, none⟩)) {n : Int} {f : Nat → Nat} (hC : ∀ w, C w → IsR w b n f)
    (h : wpQuiet Tryd.prog ops C Q rest (a.put op.dst (relv n f))) : wpQuiet Tryd.prog ops C Q (op :: rest) a := by
  refine wpQuiet_value hw (fun w hc => ?_) h
  unfold execOp
  have := run_loadAt_mid (P := Tryd.prog) w b 0 25 (cellsL n f) _ (hC w hc).range Tryd.underlying25 rfl (by rw [cellsL_length]; exact info25)
  simp only [ho, hx, Sem.run_bind, this, Result.andThen_ok, Sem.run_pure]
  rfl
theorem wpQuiet_call (hw : Region.wanted op (yielded ops a.tmps) = true) {f : FuncId} {args : Array Value} {v : Value} (hr : ∀ w, (execOp a.eval op).run Tryd.prog w = .ok (.enter f args) w)
    (hC : ∀ w, C w → Calls Tryd.prog f args w fun e w' => e = .returned v ∧ C w')
    (h : wpQuiet Tryd.prog ops C Q rest (a.put op.dst v)) : wpQuiet Tryd.prog ops C Q (op :: rest) a := by
  unfold wpQuiet
  rw [if_pos hw]
  refine ⟨v, fun w hc => ?_, h⟩
  unfold Oper.quietAt
  rw [hr w]
  exact ⟨rfl, hC w hc⟩
end
end Go.Proofs.YtkccckjiemijeabDoor

/- Slices of whatever elements: read, put behind rows of one's own; rows of rows. -/
import Derived.Test.YtdjlfpkemdiadaaDoorPgCL
import Derived.Test.YtdjlfpkemdiadaaDoorQI
namespace Go.Proofs.YtdjlfpkemdiadaaDoor
open Go.RowKit M
set_option linter.unusedSimpArgs false
set_option linter.unusedVariables false

theorem eIntP : Elt 2 26 1 (.int .i64 0) 8 := ⟨Tryd.underlying26, info_parts (by kernel_rfl), rfl, by decide, by decide⟩
theorem eOp : Elt 58 59 5 (.agg #[.int .i64 0, .int .i64 0, .int .i64 0, .int .i64 0, .int .i64 0]) 40 := ⟨Tryd.underlying59, info_parts (by kernel_rfl), rfl, by decide, by decide⟩
theorem eStrs : Elt 24 23 1 (.slice none 0 0) 24 := ⟨Tryd.underlying23, info_parts (by kernel_rfl), rfl, by decide, by decide⟩
theorem eInts : Elt 26 25 1 (.slice none 0 0) 24 := ⟨Tryd.underlying25, info_parts (by kernel_rfl), rfl, by decide, by decide⟩
theorem eOps : Elt 59 22 1 (.slice none 0 0) 24 := ⟨Tryd.underlying22, info_parts (by kernel_rfl), rfl, by decide, by decide⟩
section
variable {w : World} {ops : Array Oper} {rest : List Oper} {op : Oper} {a : Act} {Q : Exit → Act → World → Prop} {t T k by' : Nat} {z : Value}
end
end Go.Proofs.YtdjlfpkemdiadaaDoor

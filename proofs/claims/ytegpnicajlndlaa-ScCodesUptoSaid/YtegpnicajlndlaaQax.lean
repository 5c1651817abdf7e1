/- Several texts in one: SC5, SC6. -/
import Derived.Test.YtegpnicajlndlaaQaw
import Derived.Laws.AppendOwn
/- slices.Grow of nothing, slices.Concat at []int64, sc's finalOf. -/
namespace Go.Proofs.Ytegpnicajlndlaa
open Go.RowKit M
set_option linter.unusedSimpArgs false
set_option linter.unusedVariables false

end Go.Proofs.Ytegpnicajlndlaa
/- sc's finalOf: the final state with a state's registers and memory. -/
namespace Go.Proofs.Ytegpnicajlndlaa
open Go.RowKit M
set_option linter.unusedSimpArgs false
set_option linter.unusedVariables false

theorem F_b {w W : World} {b : Nat} (F : Fresh w W b) : Below w.heap.size w W := F.trans (Below.refl _ w) (Nat.le_refl _)
section
variable {w : World} {ops : Array Oper} {rest : List Oper} {op : Oper} {a : Act} {Q : Exit → Act → World → Prop} {t T k by' : Nat} {z : Value}
end
end Go.Proofs.Ytegpnicajlndlaa

/- A region that draws its order, with a tail in one order, boxed. -/
import Derived.Test.YtbhgchhoeokjhaaG0
namespace Go.Proofs.Ytbhgchhoeokjhaa
open Go Go.RowKit M
set_option linter.unusedSimpArgs false
set_option linter.unusedVariables false
theorem grow_tailW {id : Nat} {Q : Exit → Act → World → Prop} {a : Act} {W : World} {l : List Oper} (n : Nat) (hm : Try.prog.follows .mixedOrders = true) (hB : Region.lexTailB .any l.toArray n = true)
    (h : WG l.toArray W (fun a' => ∀ w', Below W.heap.size W w' → wpList Try.prog l.toArray Q (l.drop n) a' w') (l.take n) a) : (Code.region id l.toArray true).wp Try.prog Q a W := grow_tail n hm hB h.out
end Go.Proofs.Ytbhgchhoeokjhaa

/- What the law's helper takes of an iterator: the first pairs of a relation. -/
import Derived.Test.YtdjlfpkemdiadaaDoorRlX1
namespace Go.Proofs.YtdjlfpkemdiadaaDoor
open Go.RowKit Go.Shelf M
attribute [local go_sem] Oper.semAt_some
set_option linter.unusedSimpArgs false
set_option linter.unusedVariables false

def Pair (W : World) (b : Nat) (x y : Int) : Prop := W.heap[b]? = some (.cells #[.int .i64 x, .int .i64 y] 106 (0, 0))
theorem Pair.new (W : World) (x y : Int) : Pair (W.alloc (.cells #[.int .i64 x, .int .i64 y] 106)) W.heap.size x y := heap_alloc_last W _
theorem Pair.c0 {W : World} {b : Nat} {x y : Int} (h : Pair W b x y) : W.cell? ⟨b, 0, none⟩ = some (.int .i64 x) := by
  rw [cell_of_row W b 0 _ 106 (0, 0) h]; rfl
theorem Pair.c1 {W : World} {b : Nat} {x y : Int} (h : Pair W b x y) : W.cell? ⟨b, 1, none⟩ = some (.int .i64 y) := by
  rw [cell_of_row W b 1 _ 106 (0, 0) h]; rfl
theorem pair_own {β : Type} (b : Nat) (x y : Int) : Own (fun (_ : β) W => Pair W b x y) := fun s X Y row hs hg hr => by
  refine (hg.block b (Array.getElem?_eq_some_iff.1 hs).1 (fun e => ?_)).trans hs
  obtain ⟨o, ho, hc⟩ := hr b e.symm
  rw [show X.heap[b]? = _ from hs] at ho
  cases ho
  cases hc
theorem KpB.weaken {B : Nat} {bs bs' ts : List Nat} {W W' : World} (h : KpB B bs ts W W') (hs : ∀ b ∈ bs, b ∈ bs') : KpB B bs' ts W W' := ⟨h.1, fun k o hk hb ht => h.2 k o hk (fun hm => hb (hs k hm)) ht⟩
end Go.Proofs.YtdjlfpkemdiadaaDoor

/- A region in order, whose operations grow memory at most: one boxed walk. -/
import Derived.Test.YtdjlfpkemdiadaaDoorFF17
namespace Go.Proofs.YtdjlfpkemdiadaaDoor
open Go Go.RowKit M
set_option linter.unusedSimpArgs false
set_option linter.unusedVariables false

theorem list_of_grow {ops : Array Oper} {W : World} {Q : Exit → Act → World → Prop} : ∀ (l : List Oper) (a : Act) (w : World), Below W.heap.size W w → wpG Tryd.prog ops W (fun a' => ∀ w', Below W.heap.size W w' → Q .normal a' w') l a → wpList Tryd.prog ops Q l a w
  | [], a, w, hB, h => h w hB
  | o :: l, a, w, hB, h => by
    refine wpList_step fun K hK => ?_
    unfold wpG growOp at h
    split
    · rename_i hw
      rw [if_pos hw] at h
      obtain ⟨v, h1, h2⟩ := h
      have h3 := h1 w hB
      unfold Oper.quietAt at h3
      unfold Oper.wp
      generalize (execOp a.eval o).run Tryd.prog w = r at h3 ⊢
      match r, h3 with
      | .ok (.value u) w', h3 =>
        obtain ⟨e1, e2⟩ := h3
        subst e1 e2
        exact hK _ _ (list_of_grow l _ _ hB h2)
      | .ok .skip w', h3 =>
        obtain ⟨e1, e2⟩ := h3
        subst e1 e2
        exact hK _ _ (list_of_grow l _ _ hB h2)
      | .ok (.enter f args) w', ⟨e, hc⟩ =>
        subst e
        rw [Oper.upon_enter]
        refine hc.mono ?_
        rintro e' w'' ⟨rfl, hb⟩
        exact hK _ _ (list_of_grow l _ _ (Below.then hB hb) h2)
    · rename_i hw
      rw [if_neg hw] at h
      exact hK _ _ (list_of_grow l _ _ hB h)
theorem grow_region {id : Nat} {W : World} {Q : Exit → Act → World → Prop} {a : Act} {l : List Oper} (h : WG l.toArray W (fun a' => ∀ w', Below W.heap.size W w' → Q .normal a' w') l a) : (Code.region id l.toArray false).wp Tryd.prog Q a W :=
  wp_region_lit (list_of_grow l a W (Below.refl _ _) h.out)
end Go.Proofs.YtdjlfpkemdiadaaDoor

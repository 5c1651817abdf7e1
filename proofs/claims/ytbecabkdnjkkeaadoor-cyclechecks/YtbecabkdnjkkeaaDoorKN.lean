/- Words of a drawn region that hold until an operation is listed. -/
import Derived.Test.YtbecabkdnjkkeaaDoorKB
namespace Go.Proofs.YtbecabkdnjkkeaaDoor
open Go.RowKit M
set_option linter.unusedSimpArgs false
set_option linter.unusedVariables false

theorem keepG {listed : Array Bool} {i j : Nat} {c : Bool} (hij : i ≠ j) (h : (listed.setIfInBounds i true).getD j false = c) : listed.getD j false = c := by rw [getD_set_ne false hij] at h; exact h
theorem nowT {listed : Array Bool} {i : Nat} (h : i < listed.size) : (listed.setIfInBounds i true).getD i false = true := by simp [h]
theorem keepT {listed : Array Bool} {i j : Nat} (h : listed.getD j false = true) : (listed.setIfInBounds i true).getD j false = true := by
  by_cases hij : i = j
  · subst hij
    have hs : i < listed.size := by
      by_cases hs : i < listed.size
      · exact hs
      · simp [hs] at h
    exact nowT hs
  · rw [getD_set_ne false hij]; exact h
theorem nowU {listed : Array Bool} {i : Nat} (h : listed.getD i true = false) : (listed.setIfInBounds i true).getD i false = true := by
  have hlt : i < listed.size := by
    rcases Nat.lt_or_ge i listed.size with h' | h'
    · exact h'
    · simp [Array.getElem?_eq_none h'] at h
  simp [hlt]
theorem hb_then {W0 w' w9 : World} (h : Hid (Below W0.heap.size W0 w')) (k : Below w'.heap.size w' w9) : Hid (Below W0.heap.size W0 w9) := Below.then h.out k
theorem isS_growT {W W' : World} {B t t' s n b : Nat} {v : Value} {xs cs : List Value} (I : IsS W b t' cs) (h : W.ownsRow B t s v n xs) (hg : W.grownBy W' v.ownBlock) (hne : t ≠ t') : IsS W' b t' cs := by
  refine (hg.block b I.lt (fun e => ?_)).trans I
  rcases h.2 with ⟨rfl, _⟩ | ⟨g, cap, cur, rfl, _, hh, _⟩
  · cases e
  · simp [Value.ownBlock] at e
    subst e
    have I' : W.heap[b]? = some (.cells cs.toArray t' (0, 0)) := I
    rw [hh] at I'
    simp at I'
    exact hne I'.2
end Go.Proofs.YtbecabkdnjkkeaaDoor

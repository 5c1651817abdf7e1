/- round: the first of the shortest ways from a number back to it. -/
import Derived.Test.YtkccckjiemijeabDoorN3
namespace Go.Proofs.YtkccckjiemijeabDoor
open Go.RowKit Go.Shelf M P
set_option linter.unusedSimpArgs false
set_option linter.unusedVariables false

/-- The way through the rings: each number the lowest that may come. -/
structure WayAt (R : Nat → Nat) (a : Nat) (l o : List Nat) : Prop where
  pos : 1 ≤ o.length
  len : o.length ≤ l.length
  first : o.getD 0 0 = a
  lt : ∀ i, i < o.length → o.getD i 0 < 64
  step : ∀ i, i + 1 < o.length → o.getD (i + 1) 0 = Lib.ctz 64 (R (o.getD i 0) &&& l.getD (l.length - (i + 1)) 0)
  bit : ∀ i, i + 1 < o.length → (R (o.getD i 0)).testBit (o.getD (i + 1) 0) = true ∧ (l.getD (l.length - (i + 1)) 0).testBit (o.getD (i + 1) 0) = true

/-- What comes next is there. -/
theorem way_some {R G : Nat → Nat} (hinv : ∀ c b, c < 64 → b < 64 → (G c).testBit b = true → (R b).testBit c = true) {a : Nat} {l o : List Nat} (hl : RingsAt G a l) (hlast : R a &&& l.getD (l.length - 1) 0 ≠ 0) (h : WayAt R a l o) (hlt : o.length < l.length) :
    R (o.getD (o.length - 1) 0) &&& l.getD (l.length - o.length) 0 ≠ 0 := by
  have hpos := h.pos
  by_cases h1 : o.length = 1
  · rw [h1]
    show R (o.getD 0 0) &&& l.getD (l.length - 1) 0 ≠ 0
    rw [h.first]
    exact hlast
  · obtain ⟨k, hk⟩ : ∃ k, o.length = k + 2 := ⟨o.length - 2, by omega⟩
    have hb := (h.bit k (by omega)).2
    have e1 : l.length - (k + 1) = (l.length - (k + 2)) + 1 := by omega
    rw [e1] at hb
    obtain ⟨c, hc, hc1, hc2⟩ := hl.step (l.length - (k + 2)) (by omega) (o.getD (k + 1) 0) (h.lt (k + 1) (by omega)) hb
    have hr := hinv c (o.getD (k + 1) 0) hc (h.lt (k + 1) (by omega)) hc2
    rw [hk]
    intro e0
    have : ((R (o.getD (k + 1) 0)) &&& l.getD (l.length - (k + 2)) 0).testBit c = true := by
      rw [Nat.testBit_and, hr, hc1]; rfl
    rw [show k + 2 - 1 = k + 1 from rfl] at e0
    rw [e0] at this
    simp at this
theorem way_next {R : Nat → Nat} (hR : Wf R) {a : Nat} {l o : List Nat} (h : WayAt R a l o) (hlt : o.length < l.length) (hne : R (o.getD (o.length - 1) 0) &&& l.getD (l.length - o.length) 0 ≠ 0) :
    WayAt R a l (o ++ [Lib.ctz 64 (R (o.getD (o.length - 1) 0) &&& l.getD (l.length - o.length) 0)]) := by
  have hx : R (o.getD (o.length - 1) 0) &&& l.getD (l.length - o.length) 0 < 2 ^ 64 := Nat.lt_of_le_of_lt Nat.and_le_left (hR _)
  obtain ⟨c1, c2, _⟩ := ctz_bits hne hx
  have hpos := h.pos
  rw [Nat.testBit_and, Bool.and_eq_true] at c2
  refine ⟨by simp, by simp; omega, ?_, ?_, ?_, ?_⟩
  · rw [getD_snoc_lt _ _ _ (by omega)]; exact h.first
  · intro i hi
    by_cases hl : i < o.length
    · rw [getD_snoc_lt _ _ _ hl]; exact h.lt i hl
    · have e : i = o.length := by simp at hi; omega
      subst e
      rw [getD_snoc_last]
      exact c1
  · intro i hi
    by_cases hl : i + 1 < o.length
    · rw [getD_snoc_lt _ _ _ hl, getD_snoc_lt _ _ _ (by omega)]; exact h.step i hl
    · have e : i + 1 = o.length := by simp at hi; omega
      rw [getD_snoc_lt _ _ i (by omega), e, getD_snoc_last, show i = o.length - 1 by omega]
  · intro i hi
    by_cases hl : i + 1 < o.length
    · rw [getD_snoc_lt _ _ _ hl, getD_snoc_lt _ _ _ (by omega)]; exact h.bit i hl
    · have e : i + 1 = o.length := by simp at hi; omega
      rw [getD_snoc_lt _ _ i (by omega), e, getD_snoc_last, show i = o.length - 1 by omega]
      exact c2
theorem way_one (R : Nat → Nat) (a : Nat) (ha : a < 64) (l : List Nat) (hl : l ≠ []) : WayAt R a l [a] := by
  refine ⟨by simp, by cases l <;> simp at hl ⊢, rfl, fun i hi => ?_, fun i hi => ?_, fun i hi => ?_⟩
  · simp at hi; subst hi; exact ha
  · simp at hi
  · simp at hi
end Go.Proofs.YtkccckjiemijeabDoor

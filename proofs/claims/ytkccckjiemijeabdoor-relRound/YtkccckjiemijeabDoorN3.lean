/- The mathematics of the rings: what rings answers, where it answers. -/
import Derived.Test.YtkccckjiemijeabDoorN2
namespace Go.Proofs.YtkccckjiemijeabDoor
open Go.RowKit Go.Shelf M P
set_option linter.unusedSimpArgs false
set_option linter.unusedVariables false

/-- Every number of a ring stands to one of the ring before; no number lies in two rings. -/
structure RingsAt (G : Nat → Nat) (a : Nat) (l : List Nat) : Prop where
  first : l.getD 0 0 = 2 ^ a
  lt : ∀ i, i < l.length → l.getD i 0 < 18446744073709551616
  step : ∀ i, i + 1 < l.length → ∀ b, b < 64 → (l.getD (i + 1) 0).testBit b = true → ∃ c, c < 64 ∧ (l.getD i 0).testBit c = true ∧ (G c).testBit b = true
  apart : ∀ i j, i < j → j < l.length → ∀ b, b < 64 → (l.getD i 0).testBit b = true → (l.getD j 0).testBit b = false

theorem getD_snoc_lt (l : List Nat) (x i : Nat) (h : i < l.length) : (l ++ [x]).getD i 0 = l.getD i 0 := by
  simp [List.getD_eq_getElem?_getD, List.getElem?_append_left h]
theorem getD_snoc_last (l : List Nat) (x : Nat) : (l ++ [x]).getD l.length 0 = x := by
  simp [List.getD_eq_getElem?_getD]

theorem ringsAt_next {G : Nat → Nat} (hG : Wf G) {a : Nat} {home : List Nat} {seen ring : Nat} (h : RingsAt G a (home ++ [ring])) (hs : seen < 18446744073709551616) (hr : ring < 18446744073709551616)
    (hseen : ∀ b, b < 64 → (seen.testBit b = true ↔ ∃ i, i < home.length ∧ (home.getD i 0).testBit b = true)) : RingsAt G a ((home ++ [ring]) ++ [notN (orF G (lst ring)) (seen ||| ring)]) ∧
    ∀ b, b < 64 → ((seen ||| ring).testBit b = true ↔ ∃ i, i < (home ++ [ring]).length ∧ ((home ++ [ring]).getD i 0).testBit b = true) := by
  have hsr : seen ||| ring < 18446744073709551616 := Nat.or_lt_two_pow (n := 64) hs hr
  have hseen' : ∀ b, b < 64 → ((seen ||| ring).testBit b = true ↔ ∃ i, i < (home ++ [ring]).length ∧ ((home ++ [ring]).getD i 0).testBit b = true) := fun b hb => by
    rw [Nat.testBit_or, Bool.or_eq_true, hseen b hb]
    constructor
    · rintro (⟨i, h1, h2⟩ | h1)
      · exact ⟨i, by simp; omega, by rwa [getD_snoc_lt _ _ _ h1]⟩
      · exact ⟨home.length, by simp, by rwa [getD_snoc_last]⟩
    · rintro ⟨i, h1, h2⟩
      by_cases hi : i < home.length
      · exact Or.inl ⟨i, hi, by rwa [getD_snoc_lt _ _ _ hi] at h2⟩
      · have : i = home.length := by simp at h1; omega
        subst this
        exact Or.inr (by rwa [getD_snoc_last] at h2)
  refine ⟨⟨?_, ?_, ?_, ?_⟩, hseen'⟩
  · rw [getD_snoc_lt _ _ _ (by simp)]
    exact h.first
  · intro i hi
    by_cases hl : i < (home ++ [ring]).length
    · rw [getD_snoc_lt _ _ _ hl]
      exact h.lt i hl
    · have : i = (home ++ [ring]).length := by simp at hi hl ⊢; omega
      subst this
      rw [getD_snoc_last]
      exact Nat.lt_of_le_of_lt Nat.and_le_left (orF_lt hG _)
  · intro i hi b hb hbit
    by_cases hl : i + 1 < (home ++ [ring]).length
    · rw [getD_snoc_lt _ _ _ hl] at hbit
      rw [getD_snoc_lt _ _ _ (by omega)]
      exact h.step i hl b hb hbit
    · have e : i + 1 = (home ++ [ring]).length := by simp at hi hl ⊢; omega
      rw [e, getD_snoc_last] at hbit
      have e' : i = home.length := by simpa using e
      subst e'
      rw [getD_snoc_lt _ _ _ (by simp), getD_snoc_last]
      unfold notN at hbit
      rw [Nat.testBit_and, Bool.and_eq_true] at hbit
      obtain ⟨c, hc, hcb⟩ := (orF_bit G (lst ring) b).1 hbit.1
      obtain ⟨k1, k2⟩ := mem_lst.1 hc
      exact ⟨c, k1, k2, hcb⟩
  · intro i j hij hj b hb hbit
    by_cases hl : j < (home ++ [ring]).length
    · rw [getD_snoc_lt _ _ _ hl]
      rw [getD_snoc_lt _ _ _ (by omega)] at hbit
      exact h.apart i j hij hl b hb hbit
    · have e : j = (home ++ [ring]).length := by simp at hj hl ⊢; omega
      subst e
      rw [getD_snoc_lt _ _ _ hij] at hbit
      rw [getD_snoc_last]
      cases hq : (notN (orF G (lst ring)) (seen ||| ring)).testBit b
      · rfl
      · have := not_apart hsr b hb hq
        rw [(hseen' b hb).2 ⟨i, hij, hbit⟩] at this
        cases this

theorem rings_at {R G : Nat → Nat} (hG : Wf G) {a : Nat} : ∀ (k seen ring : Nat) (home l : List Nat), seen < 18446744073709551616 → ring < 18446744073709551616 → RingsAt G a (home ++ [ring]) →
    (∀ b, b < 64 → (seen.testBit b = true ↔ ∃ i, i < home.length ∧ (home.getD i 0).testBit b = true)) → ringsF R G a k seen ring home = some l → RingsAt G a l ∧ l ≠ [] ∧ R a &&& l.getD (l.length - 1) 0 ≠ 0
  | 0, _, _, _, _, _, _, _, _, h => by simp [ringsF] at h
  | k + 1, seen, ring, home, l, hs, hr, hat, hseen, h => by
    unfold ringsF at h
    split at h
    · cases h
    · split at h
      · rename_i h0 h1
        cases h
        refine ⟨hat, by simp, ?_⟩
        have : (home ++ [ring]).length - 1 = home.length := by simp
        rw [this, getD_snoc_last]
        exact h1
      · obtain ⟨n1, n2⟩ := ringsAt_next hG hat hs hr hseen
        exact rings_at hG k _ _ _ l (Nat.or_lt_two_pow (n := 64) hs hr) (Nat.lt_of_le_of_lt Nat.and_le_left (orF_lt hG _)) n1 n2 h
theorem rings_start (R G : Nat → Nat) (hG : Wf G) (a : Nat) (ha : a < 64) (l : List Nat) (h : ringsF R G a 65 0 (2 ^ a) [] = some l) : RingsAt G a l ∧ l ≠ [] ∧ R a &&& l.getD (l.length - 1) 0 ≠ 0 := by
  have hp2 : 2 ^ a < 18446744073709551616 := pow_lt a ha
  refine rings_at hG 65 0 (2 ^ a) [] l (by decide) hp2 ⟨by simp, fun i hi => ?_, fun i hi => ?_, fun i j hij hj => ?_⟩ (fun b hb => by simp) h
  · simp at hi; subst hi; simpa using hp2
  · simp at hi
  · simp at hj; omega
end Go.Proofs.YtkccckjiemijeabDoor

/- OdoBack: the first difference of two lists, and the law where the space is countable. -/
import Derived.Test.YtghfomammdbgoaaC1
namespace Go.Proofs.Ytghfomammdbgoaa
open Go.RowKit Go.Shelf Go.Sort K
set_option linter.unusedSimpArgs false
set_option linter.unusedVariables false

/-- The first difference among the first k places. -/
def dif (A B : List Int) : Nat → Int
  | 0 => 0
  | k + 1 => if dif A B k = 0 then A.getD k 0 - B.getD k 0 else dif A B k
theorem dif_keep (A B : List Int) (k : Nat) (h : dif A B k ≠ 0) : ∀ j, dif A B (k + j) = dif A B k
  | 0 => rfl
  | j + 1 => by
    have := dif_keep A B k h j
    show (if dif A B (k + j) = 0 then _ else dif A B (k + j)) = _
    rw [this, if_neg h]
theorem dif_alike (A B : List Int) : ∀ k, (∀ i, i < k → A.getD i 0 = B.getD i 0) → dif A B k = 0
  | 0, _ => rfl
  | k + 1, h => by
    show (if dif A B k = 0 then _ else dif A B k) = 0
    rw [if_pos (dif_alike A B k fun i hi => h i (by omega)), h k (by omega)]
    omega
theorem lessL_first : ∀ (A B : List Int), lessL A B → ∃ j, j < A.length ∧ j < B.length ∧ (∀ i, i < j → A.getD i 0 = B.getD i 0) ∧ A.getD j 0 < B.getD j 0
  | [], B, h => by cases B <;> simp [lessL] at h
  | x :: a, [], h => by simp [lessL] at h
  | x :: a, y :: b, h => by
    rcases h with h | ⟨rfl, h⟩
    · exact ⟨0, by simp, by simp, fun i hi => by omega, by simpa using h⟩
    · obtain ⟨j, h1, h2, h3, h4⟩ := lessL_first a b h
      refine ⟨j + 1, by simpa using h1, by simpa using h2, fun i hi => ?_, by simpa using h4⟩
      cases i with
      | zero => simp
      | succ i => have := h3 i (by omega); simpa using this
theorem dif_lt {A B : List Int} (h : lessL A B) (d : Nat) (hA : A.length ≤ d) : dif A B d < 0 := by
  obtain ⟨j, h1, h2, h3, h4⟩ := lessL_first A B h
  have e : dif A B (j + 1) = A.getD j 0 - B.getD j 0 := by
    show (if dif A B j = 0 then _ else dif A B j) = _
    rw [if_pos (dif_alike A B j h3)]
  have k := dif_keep A B (j + 1) (by omega) (d - (j + 1))
  rw [show j + 1 + (d - (j + 1)) = d by omega] at k
  omega
theorem dif_gt {A B : List Int} (h : lessL B A) (d : Nat) (hB : B.length ≤ d) : 0 < dif A B d := by
  obtain ⟨j, h1, h2, h3, h4⟩ := lessL_first B A h
  have e : dif A B (j + 1) = A.getD j 0 - B.getD j 0 := by
    show (if dif A B j = 0 then _ else dif A B j) = _
    rw [if_pos (dif_alike A B j fun i hi => (h3 i hi).symm)]
  have k := dif_keep A B (j + 1) (by omega) (d - (j + 1))
  rw [show j + 1 + (d - (j + 1)) = d by omega] at k
  omega
/-- How two numbers stand to each other, and the first difference of their lists. -/
def Stand (p q : Nat) (D : Int) : Prop := (p < q ∧ D < 0) ∨ (p = q ∧ D = 0) ∨ (q < p ∧ 0 < D)
theorem face_stand {w : World} {b m d : Nat} {In : List Int → Prop} {at' : Nat → List Int} {rk : List Int → Nat} (F : Face w b m d In at' rk) {p q : Nat} (hp : p < m) (hq : q < m) : Stand p q (dif (at' p) (at' q) d) := by
  have l1 := F.inl _ (F.back p hp).1
  have l2 := F.inl _ (F.back q hq).1
  rcases Nat.lt_trichotomy p q with h | h | h
  · exact .inl ⟨h, dif_lt (F.less p q h hq) d (by omega)⟩
  · subst h
    exact .inr (.inl ⟨rfl, dif_alike _ _ d fun i _ => rfl⟩)
  · exact .inr (.inr ⟨h, dif_gt (F.less q p h hp) d (by omega)⟩)
end Go.Proofs.Ytghfomammdbgoaa

/- Where one is put into a rising list: plain mathematics. -/
import Derived.Test.YtbhgchhoeokjhabDoorA0
namespace Go.Proofs.YtbhgchhoeokjhabDoor.M
set_option linter.unusedSimpArgs false
set_option linter.unusedVariables false

theorem insF_first {x : FS} : ∀ {l : List FS}, (∀ y ∈ l, ltF x y) → insF x l = x :: l
  | [], _ => rfl
  | y :: l, h => by unfold insF; rw [if_pos (h y (by simp))]
theorem insF_at (x : FS) : ∀ (l : List FS) (k : Nat), Ris l → k ≤ l.length → (∀ j, k ≤ j → j < l.length → ltF x (l.getD j FS.zero)) → (0 < k → ¬ ltF x (l.getD (k - 1) FS.zero)) →
    insF x l = if 0 < k ∧ l.getD (k - 1) FS.zero = x then l else l.take k ++ x :: l.drop k
  | l, 0, hr, hk, h1, h2 => by
    rw [if_neg (by omega), insF_first]
    · simp
    · intro y hy
      obtain ⟨j, hj, rfl⟩ := List.getElem_of_mem hy
      have := h1 j (Nat.zero_le _) hj
      rwa [List.getD_eq_getElem?_getD, List.getElem?_eq_getElem hj] at this
  | [], k + 1, hr, hk, h1, h2 => by simp at hk
  | y :: l, k + 1, hr, hk, h1, h2 => by
    have h2' := h2 (by omega)
    rw [Nat.add_sub_cancel] at h2'
    have hk' : k ≤ l.length := by simpa using hk
    have hyx : ¬ ltF x y := by
      intro h
      cases k with
      | zero => exact h2' (by simpa using h)
      | succ j =>
        have hj : j < l.length := by omega
        have hm : ltF y (l.getD j FS.zero) := hr.head _ (by rw [List.getD_eq_getElem?_getD, List.getElem?_eq_getElem hj]; simp)
        exact h2' (by simpa using ltF_trans h hm)
    unfold insF
    rw [if_neg hyx, Nat.add_sub_cancel]
    by_cases e : x = y
    · subst e
      rw [if_pos rfl]
      have hk0 : k = 0 := by
        cases k with
        | zero => rfl
        | succ j =>
          exfalso
          have hj : j < l.length := by omega
          have hm : ltF x (l.getD j FS.zero) := hr.head _ (by rw [List.getD_eq_getElem?_getD, List.getElem?_eq_getElem hj]; simp)
          exact h2' (by simpa using hm)
      subst hk0
      rw [if_pos ⟨by omega, by simp⟩]
    · rw [if_neg e, insF_at x l k hr.tail hk' (fun j a b => by have := h1 (j + 1) (by omega) (by simpa using b); simpa using this) (fun h0 => by
        obtain ⟨j, rfl⟩ : ∃ j, k = j + 1 := ⟨k - 1, by omega⟩
        simpa using h2')]
      cases k with
      | zero =>
        rw [if_neg (by omega), if_neg (by rintro ⟨_, h⟩; simp at h; exact e h.symm)]
        simp
      | succ j =>
        rw [Nat.add_sub_cancel]
        have e1 : (y :: l).getD (j + 1) FS.zero = l.getD j FS.zero := by simp
        rw [e1]
        by_cases h3 : l.getD j FS.zero = x
        · rw [if_pos ⟨by omega, h3⟩, if_pos ⟨by omega, h3⟩]
        · rw [if_neg (fun h => h3 h.2), if_neg (fun h => h3 h.2)]; simp
theorem setF_take {l : List FS} {k : Nat} {x : FS} (h : l.take (k + 1) = l.take k ++ [x]) : setF (l.take (k + 1)) = if okF x then insF x (setF (l.take k)) else setF (l.take k) := by
  unfold setF
  rw [h, List.filter_append]
  cases hx : okF x with
  | true => simp [hx, List.foldl_append]
  | false => simp [hx]
theorem setF_nil : setF [] = [] := rfl
end Go.Proofs.YtbhgchhoeokjhabDoor.M

/- Both sides' operations answer the same relation: bit by bit. -/
import Derived.Test.YtkccckjiemijeaaDoorY4
import Derived.Test.YtkccckjiemijeaaDoorY5
import Derived.Test.YtkccckjiemijeaaDoorY6
import Derived.Test.YtkccckjiemijeaaDoorY7
namespace Go.Proofs.YtkccckjiemijeaaDoor
open Go.RowKit Go.Shelf M
set_option linter.unusedSimpArgs false
set_option linter.unusedVariables false

theorem matF_bit (N : Nat) (h : Nat → Nat → Bool) (j b : Nat) : (matF N h j).testBit b = (decide (j < N) && (decide (b < N) && h j b)) := by
  unfold matF matTo
  by_cases h1 : j < N
  · rw [if_pos h1, rowB_bit]; simp [h1]
  · rw [if_neg h1]
    split
    · simp [rowB, h1]
    · simp [h1]
theorem right_bit {N : Nat} {F : Nat → Nat} (h : Right N F) {j b : Nat} (hj : j < 64) (hb : (F j).testBit b = true) : j < N ∧ b < N := by
  by_cases h64 : b < 64
  · exact h.in' j hj b h64 hb
  · rw [Nat.testBit_lt_two_pow (Nat.lt_of_lt_of_le (h.wf j) (Nat.pow_le_pow_right (n := 2) (by omega) (show 64 ≤ b by omega)))] at hb
    cases hb
theorem or_mat {N : Nat} {F G : Nat → Nat} (hF : Right N F) (hG : Right N G) (j : Nat) (hj : j < 64) : opF orN F G j = matF N (hOr N F G) j := by
  apply Nat.eq_of_testBit_eq
  intro b
  rw [matF_bit]
  unfold opF orN hOr
  rw [Nat.testBit_or]
  cases h1 : (F j).testBit b
  · cases h2 : (G j).testBit b
    · simp
    · obtain ⟨a1, a2⟩ := right_bit hG hj h2; simp [a1, a2]
  · obtain ⟨a1, a2⟩ := right_bit hF hj h1; simp [a1, a2]
theorem and_mat {N : Nat} {F G : Nat → Nat} (hF : Right N F) (j : Nat) (hj : j < 64) : opF andN F G j = matF N (hAnd N F G) j := by
  apply Nat.eq_of_testBit_eq
  intro b
  rw [matF_bit]
  unfold opF andN hAnd
  rw [Nat.testBit_and]
  cases h1 : (F j).testBit b
  · simp
  · obtain ⟨a1, a2⟩ := right_bit hF hj h1; simp [a1, a2]
theorem sub_mat {N : Nat} {F G : Nat → Nat} (hN : N ≤ 64) (hF : Right N F) (hG : Wf G) (j : Nat) (hj : j < 64) : opF notN F G j = matF N (hSub N F G) j := by
  apply Nat.eq_of_testBit_eq
  intro b
  rw [matF_bit]
  unfold opF notN hSub
  rw [Nat.testBit_and]
  cases h1 : (F j).testBit b
  · simp
  · obtain ⟨a1, a2⟩ := right_bit hF hj h1
    have e : 18446744073709551615 - G j = 2 ^ 64 - (G j + 1) := by have := hG j; omega
    have hb : b < 64 := by omega
    rw [e, Nat.testBit_two_pow_sub_succ (hG j)]
    simp [a1, a2, hb]
theorem mem_edges {N : Nat} {f : Nat → Nat} {a b : Nat} : (a, b) ∈ edgesL N f ↔ a < N ∧ b < 64 ∧ (f a).testBit b = true := by
  unfold edgesL
  rw [List.mem_flatMap]
  constructor
  · rintro ⟨x, hx, hm⟩
    rw [List.mem_map] at hm
    obtain ⟨y, hy, e⟩ := hm
    cases e
    exact ⟨by simpa using hx, mem_lst.1 hy⟩
  · rintro ⟨h1, h2⟩
    exact ⟨a, by simpa using h1, List.mem_map.2 ⟨b, mem_lst.2 h2, rfl⟩⟩
theorem co_mat {N : Nat} {F G : Nat → Nat} (hN : N ≤ 64) (hF : Right N F) (hG : Right N G) (j : Nat) (hj : j < 64) : coF G (edgesL N F) j = matF N (hCo N F G) j := by
  apply Nat.eq_of_testBit_eq
  intro b
  rw [matF_bit, Bool.eq_iff_iff, coF_bit, Bool.and_eq_true, Bool.and_eq_true, decide_eq_true_eq, decide_eq_true_eq]
  unfold hCo
  rw [anyTo_iff]
  constructor
  · rintro ⟨c, hc, hb⟩
    obtain ⟨h1, h2, h3⟩ := mem_edges.1 hc
    have h4 := right_bit hG h2 hb
    exact ⟨h1, h4.2, c, h4.1, h3, hb⟩
  · rintro ⟨h1, h2, c, h3, h4, h5⟩
    exact ⟨c, mem_edges.2 ⟨h1, by omega, h4⟩, h5⟩
theorem tu_inv {N : Nat} {F : Nat → Nat} (j : Nat) (hj : j < 64) : tuF (edgesL N F) j = invTo F N 0 j := by
  apply Nat.eq_of_testBit_eq
  intro a
  have e : invTo F N 0 j = rowB (fun a => (F a).testBit j) N := by simp [invTo]
  rw [e, rowB_bit, tuF_bit, Bool.eq_iff_iff, Bool.and_eq_true, decide_eq_true_eq, decide_eq_true_eq, mem_edges]
  constructor
  · rintro ⟨h1, _, h3⟩; exact ⟨h1, h3⟩
  · rintro ⟨h1, h3⟩; exact ⟨h1, hj, h3⟩
theorem xo_mat {N : Nat} {F : Nat → Nat} (hN : N ≤ 64) (hF : Right N F) (j : Nat) (hj : j < 64) : upTo (xoN N) F void N j = matF N (hNo F) j := by
  apply Nat.eq_of_testBit_eq
  intro b
  rw [matF_bit]
  unfold upTo
  by_cases h : j < N
  · rw [if_pos h]
    unfold xoN hNo
    rw [Nat.testBit_xor]
    by_cases hb : b < 64
    · rw [testBit_bel _ _ hb]
      cases h1 : (F j).testBit b
      · simp [h]
      · obtain ⟨a1, a2⟩ := right_bit hF hj h1; simp [a1, a2]
    · have h1 : (F j).testBit b = false := by
        cases h1 : (F j).testBit b
        · rfl
        · have := (right_bit hF hj h1).2; omega
      have h2 : (bel N).testBit b = false := Nat.testBit_lt_two_pow (Nat.lt_of_lt_of_le (bel_lt N) (Nat.pow_le_pow_right (n := 2) (by omega) (show 64 ≤ b by omega)))
      have h3 : decide (b < N) = false := decide_eq_false (by omega)
      rw [h1, h2, h3]; simp
  · rw [if_neg h, right_zero hF j (by omega) hj]
    simp [h]
end Go.Proofs.YtkccckjiemijeaaDoor

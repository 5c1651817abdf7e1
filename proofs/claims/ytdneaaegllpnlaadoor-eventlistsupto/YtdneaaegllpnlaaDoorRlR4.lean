/- The reference's Cross. -/
import Derived.Test.YtdneaaegllpnlaaDoorRlR3
namespace Go.Proofs.YtdneaaegllpnlaaDoor
open Go.RowKit M
set_option linter.unusedSimpArgs false
set_option linter.unusedVariables false

def crRow (f t : Nat) (m : Int) (j : Nat) : Nat := if f.testBit j then t &&& bel m else 0
def crF (f t N k m : Nat) : Nat → Nat := fun j => if j < k then crRow f t N j else if j = k then crRow f t m j else 0
def crV (n : Int) (f t : Nat) : Value := if 0 ≤ n ∧ n ≤ 64 then relv n (crF f t n.toNat n.toNat 0) else relv 0 void
theorem bel_zero : bel 0 = 0 := by decide
theorem crRow_zero (f t j : Nat) : crRow f t ((0 : Nat) : Int) j = 0 := by
  show crRow f t 0 j = 0
  unfold crRow; rw [bel_zero]; simp
theorem crF_start (f t N j : Nat) : crF f t N 0 0 j = 0 := by
  unfold crF; rw [if_neg (by omega), crRow_zero]; simp
theorem crF_next (f t N k j : Nat) : crF f t N k N j = crF f t N (k + 1) 0 j := by
  unfold crF
  by_cases h1 : j < k
  · rw [if_pos h1, if_pos (by omega)]
  · rw [if_neg h1]
    by_cases h2 : j = k
    · rw [if_pos h2, if_pos (by omega)]
    · rw [if_neg h2, if_neg (by omega), crRow_zero]; simp
theorem crF_step (f t N k m x j : Nat) (hx : x = crRow f t ((m + 1 : Nat) : Int) k) : upd (crF f t N k m) k x j = crF f t N k (m + 1) j := by
  subst hx
  unfold upd crF
  by_cases h2 : j = k
  · subst h2; simp
  · rw [if_neg h2, if_neg h2, if_neg h2]
theorem crF_at (f t N k m : Nat) : crF f t N k m k = crRow f t m k := by unfold crF; simp
theorem crF_same (f t N k m j : Nat) (h : crRow f t m k = crRow f t ((m + 1 : Nat) : Int) k) : crF f t N k m j = crF f t N k (m + 1) j := by
  unfold crF
  by_cases h2 : j = k
  · subst h2; simp [h]
  · rw [if_neg h2, if_neg h2]
theorem crRow_lt (f t : Nat) (m : Int) (j : Nat) : crRow f t m j < 18446744073709551616 := by
  unfold crRow
  split
  · exact Nat.lt_of_le_of_lt Nat.and_le_right (bel_lt m)
  · omega
theorem crRow_yes (f t m k : Nat) (hm : m < 64) (h1 : f.testBit k = true) (h2 : t.testBit m = true) : crRow f t m k ||| 2 ^ m = crRow f t ((m + 1 : Nat) : Int) k := by
  unfold crRow
  rw [if_pos h1, if_pos h1]
  apply Nat.eq_of_testBit_eq
  intro i
  rw [Nat.testBit_or, Nat.testBit_and, Nat.testBit_and, Nat.testBit_two_pow]
  by_cases hi : i < 64
  · rw [testBit_bel _ _ hi, testBit_bel _ _ hi]
    by_cases e : m = i
    · subst e; simp [h2]; omega
    · have : decide ((i : Int) < (m : Int)) = decide ((i : Int) < ((m + 1 : Nat) : Int)) := by
        rw [decide_eq_decide]; omega
      rw [this]; simp [e]
  · rw [testBit_high (bel_lt _) hi, testBit_high (bel_lt _) hi]
    have : ¬ m = i := by omega
    simp [this]
theorem crRow_no (f t m k : Nat) (hm : m < 64) (h : f.testBit k = false ∨ t.testBit m = false) : crRow f t m k = crRow f t ((m + 1 : Nat) : Int) k := by
  unfold crRow
  split
  · rename_i h1
    have h2 : t.testBit m = false := by rcases h with h | h; · rw [h] at h1; cases h1
                                        · exact h
    apply Nat.eq_of_testBit_eq
    intro i
    rw [Nat.testBit_and, Nat.testBit_and]
    by_cases hi : i < 64
    · rw [testBit_bel _ _ hi, testBit_bel _ _ hi]
      by_cases e : m = i
      · subst e; simp [h2]
      · have : decide ((i : Int) < (m : Int)) = decide ((i : Int) < ((m + 1 : Nat) : Int)) := by
          rw [decide_eq_decide]; omega
        rw [this]
    · rw [testBit_high (bel_lt _) hi, testBit_high (bel_lt _) hi]
  · rfl

end Go.Proofs.YtdneaaegllpnlaaDoor

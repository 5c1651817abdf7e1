/-
  Plain mathematics: weaves, the list with a number by shares, the number of a list. No program is named.
-/
import Derived.Test.YtghfomammdbgoaaQ2
namespace Go.Proofs.Ytghfomammdbgoaa.K
set_option linter.unusedSimpArgs false
set_option linter.unusedVariables false

theorem chs_fact (a : Nat) : ∀ b, chs (a + b) b * factN b * factN a = factN (a + b)
  | 0 => by rw [Nat.add_zero, chs_zero]; simp [factN]
  | b + 1 => by
      have h := chs_step (a + b) b
      have ih := chs_fact a b
      have e : factN (b + 1) = factN b * (b + 1) := rfl
      have e2 : factN (a + (b + 1)) = factN (a + b) * (a + b + 1) := rfl
      rw [e, e2, ← ih, show a + (b + 1) = a + b + 1 from rfl]
      calc chs (a + b + 1) (b + 1) * (factN b * (b + 1)) * factN a = (chs (a + b + 1) (b + 1) * (b + 1)) * (factN b * factN a) := by rw [Nat.mul_comm (factN b), ← Nat.mul_assoc, Nat.mul_assoc]
        _ = (chs (a + b) b * (a + b + 1)) * (factN b * factN a) := by rw [h]
        _ = chs (a + b) b * factN b * factN a * (a + b + 1) := by
            rw [Nat.mul_assoc, Nat.mul_comm (a + b + 1), ← Nat.mul_assoc, ← Nat.mul_assoc]
/-- The product of the factorials. -/
def prF : List Nat → Nat
  | [] => 1
  | a :: l => factN a * prF l
theorem prF_pos : ∀ l, 0 < prF l
  | [] => by simp [prF]
  | a :: l => Nat.mul_pos (factN_pos a) (prF_pos l)
theorem wvN_fact : ∀ (l : List Nat) (n : Nat), wvN n l * prF l * factN n = factN (n + sumN l)
  | [], n => by simp [wvN, prF, sumN]
  | a :: l, n => by
      have h := chs_fact n a
      have ih := wvN_fact l (n + a)
      have e1 : wvN n (a :: l) = chs (n + a) a * wvN (n + a) l := rfl
      have e2 : sumN (a :: l) = a + sumN l := rfl
      have e3 : prF (a :: l) = factN a * prF l := rfl
      rw [e1, e2, e3, ← Nat.add_assoc, ← ih, ← h]
      simp only [Nat.mul_assoc, Nat.mul_comm, Nat.mul_left_comm]

/-- One of a number is taken away. -/
def dec (c : List Nat) (i : Nat) : List Nat := c.set i (c.getD i 0 - 1)
theorem dec_len (c : List Nat) (i : Nat) : (dec c i).length = c.length := by simp [dec]
theorem dec_sum : ∀ (c : List Nat) (i : Nat), 0 < c.getD i 0 → sumN (dec c i) + 1 = sumN c
  | [], i, h => by simp at h
  | a :: l, 0, h => by
      have h' : 0 < a := by simpa using h
      show (a - 1) + sumN l + 1 = a + sumN l
      omega
  | a :: l, i + 1, h => by
      have h' : 0 < l.getD i 0 := by simpa using h
      have ih := dec_sum l i h'
      have e : dec (a :: l) (i + 1) = a :: dec l i := by simp [dec]
      rw [e]
      show a + sumN (dec l i) + 1 = a + sumN l
      omega
theorem dec_prF : ∀ (c : List Nat) (i : Nat), 0 < c.getD i 0 → prF c = prF (dec c i) * c.getD i 0
  | [], i, h => by simp at h
  | a :: l, 0, h => by
      have h' : 0 < a := by simpa using h
      obtain ⟨b, rfl⟩ : ∃ b, a = b + 1 := ⟨a - 1, by omega⟩
      show factN (b + 1) * prF l = factN (b + 1 - 1) * prF l * (b + 1)
      have e : factN (b + 1) = factN b * (b + 1) := rfl
      rw [e, show b + 1 - 1 = b from rfl]
      simp only [Nat.mul_assoc, Nat.mul_comm, Nat.mul_left_comm]
  | a :: l, i + 1, h => by
      have h' : 0 < l.getD i 0 := by simpa using h
      have ih := dec_prF l i h'
      have e : dec (a :: l) (i + 1) = a :: dec l i := by simp [dec]
      rw [e]
      show factN a * prF l = factN a * prF (dec l i) * (a :: l).getD (i + 1) 0
      rw [ih]
      simp [Nat.mul_assoc]
/-- How many begin with a number: its share. -/
theorem wv_dec (c : List Nat) (i : Nat) (h : 0 < c.getD i 0) : wvN 0 c * c.getD i 0 = wvN 0 (dec c i) * sumN c := by
  have h1 := wvN_fact c 0
  have h2 := wvN_fact (dec c i) 0
  have hs := dec_sum c i h
  have hp := dec_prF c i h
  have e0 : factN 0 = 1 := rfl
  rw [e0, Nat.mul_one, Nat.zero_add] at h1 h2
  have e : factN (sumN c) = factN (sumN (dec c i)) * sumN c := by rw [← hs]; rfl
  have key : wvN 0 c * c.getD i 0 * prF (dec c i) = wvN 0 (dec c i) * sumN c * prF (dec c i) := by
    calc wvN 0 c * c.getD i 0 * prF (dec c i) = wvN 0 c * prF c := by rw [hp, Nat.mul_assoc, Nat.mul_comm (c.getD i 0)]
      _ = factN (sumN (dec c i)) * sumN c := by rw [h1, e]
      _ = wvN 0 (dec c i) * sumN c * prF (dec c i) := by rw [← h2, Nat.mul_assoc, Nat.mul_comm (prF _), ← Nat.mul_assoc]
  exact Nat.eq_of_mul_eq_mul_right (prF_pos _) key
/-- The share as the program reckons it. -/
def shW (c : List Nat) (i : Nat) : Nat := wvN 0 c * c.getD i 0 / sumN c
theorem sum_pos {c : List Nat} {i : Nat} (h : 0 < c.getD i 0) : 0 < sumN c := by have := dec_sum c i h; omega
theorem shW_pos {c : List Nat} {i : Nat} (h : 0 < c.getD i 0) : shW c i = wvN 0 (dec c i) := by
  unfold shW; rw [wv_dec c i h]; exact Nat.mul_div_cancel _ (sum_pos h)
theorem shW_zero {c : List Nat} {i : Nat} (h : ¬ 0 < c.getD i 0) : shW c i = 0 := by
  unfold shW; rw [show c.getD i 0 = 0 by omega]; simp
end Go.Proofs.Ytghfomammdbgoaa.K

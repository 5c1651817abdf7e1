/- Plain mathematics of counting: products, factorials, binomials, and the weaves of some lengths; no program is named. -/
import Derived.WalkKit
namespace Go.Proofs.Ytghfomammdbgoaa.K

def prodN : List Nat → Nat
  | [] => 1
  | a :: l => a * prodN l
theorem prodN_snoc (l : List Nat) (a : Nat) : prodN (l ++ [a]) = prodN l * a := by
  induction l with
  | nil => simp [prodN]
  | cons b l ih => simp only [List.cons_append, prodN, ih, Nat.mul_assoc]
theorem prodN_append (l m : List Nat) : prodN (l ++ m) = prodN l * prodN m := by
  induction l with
  | nil => simp [prodN]
  | cons b l ih => simp only [List.cons_append, prodN, ih, Nat.mul_assoc]
theorem prodN_zero {l : List Nat} (h : 0 ∈ l) : prodN l = 0 := by
  induction l with
  | nil => cases h
  | cons b l ih =>
    rcases List.mem_cons.1 h with rfl | h
    · simp [prodN]
    · simp [prodN, ih h]
theorem prodN_pos {l : List Nat} (h : 0 ∉ l) : 0 < prodN l := by
  induction l with
  | nil => simp [prodN]
  | cons b l ih =>
    have h1 : b ≠ 0 := fun e => h (by simp [e])
    have h2 := ih (fun e => h (by simp [e]))
    exact Nat.mul_pos (by omega) h2
theorem prodN_take_le {l : List Nat} (h : 0 ∉ l) (k : Nat) : prodN (l.take k) ≤ prodN l := by
  have e : prodN l = prodN (l.take k) * prodN (l.drop k) := by rw [← prodN_append, List.take_append_drop]
  have : 0 < prodN (l.drop k) := prodN_pos (fun hm => h (List.mem_of_mem_drop hm))
  rw [e]
  exact Nat.le_mul_of_pos_right _ this

def factN : Nat → Nat
  | 0 => 1
  | n + 1 => factN n * (n + 1)
theorem factN_pos (n : Nat) : 0 < factN n := by
  induction n with
  | zero => simp [factN]
  | succ n ih => exact Nat.mul_pos ih (by omega)
theorem factN_mono {m n : Nat} (h : m ≤ n) : factN m ≤ factN n := by
  induction n with
  | zero => obtain rfl : m = 0 := by omega
            exact Nat.le_refl _
  | succ n ih =>
    by_cases e : m = n + 1
    · rw [e]; exact Nat.le_refl _
    · have := ih (by omega)
      have h2 : factN n ≤ factN n * (n + 1) := Nat.le_mul_of_pos_right _ (by omega)
      exact Nat.le_trans this h2

def chs : Nat → Nat → Nat
  | _, 0 => 1
  | 0, _ + 1 => 0
  | n + 1, k + 1 => chs n k + chs n (k + 1)
theorem chs_zero (n : Nat) : chs n 0 = 1 := by cases n <;> rfl
theorem chs_pascal (n k : Nat) : chs (n + 1) (k + 1) = chs n k + chs n (k + 1) := rfl
theorem chs_big : ∀ n k, n < k → chs n k = 0
  | 0, k + 1, _ => rfl
  | n + 1, k + 1, h => by rw [chs_pascal, chs_big n k (by omega), chs_big n (k + 1) (by omega)]
theorem chs_self (n : Nat) : chs n n = 1 := by
  induction n with
  | zero => rfl
  | succ n ih => rw [chs_pascal, ih, chs_big n (n + 1) (by omega)]
theorem chs_pos : ∀ n k, k ≤ n → 0 < chs n k
  | n, 0, _ => by rw [chs_zero]; omega
  | n + 1, k + 1, h => by rw [chs_pascal]; have := chs_pos n k (by omega); omega
/-- The step of a count: one number more among those that there are. -/
theorem chs_step : ∀ n k, chs (n + 1) (k + 1) * (k + 1) = chs n k * (n + 1)
  | n, 0 => by
    have : ∀ n, chs n 1 = n := by
      intro n
      induction n with
      | zero => rfl
      | succ n ih => rw [chs_pascal, ih, chs_zero]; omega
    rw [this, chs_zero]; omega
  | 0, k + 1 => by rw [chs_big 1 (k + 1 + 1) (by omega), chs_big 0 (k + 1) (by omega)]; omega
  | n + 1, k + 1 => by
    have h1 := chs_step n (k + 1)
    have h2 := chs_step n k
    rw [chs_pascal (n + 1) (k + 1), Nat.add_mul]
    have e1 : chs (n + 1) (k + 1 + 1) * (k + 1 + 1) = chs n (k + 1) * (n + 1) := h1
    have e2 : chs (n + 1) (k + 1) * (k + 1 + 1) = chs n k * (n + 1) + chs (n + 1) (k + 1) := by rw [Nat.mul_succ (chs (n + 1) (k + 1)) (k + 1), h2]
    rw [e1, e2, chs_pascal n k, Nat.mul_succ (chs n k + chs n (k + 1)) (n + 1), Nat.add_mul]
    omega
theorem chs_two (n k : Nat) : chs n k ≤ 2 ^ n := by
  induction n generalizing k with
  | zero => cases k <;> simp [chs]
  | succ n ih =>
    cases k with
    | zero => rw [chs_zero]; exact Nat.one_le_two_pow
    | succ k => rw [chs_pascal, Nat.pow_succ]; have := ih k; have := ih (k + 1); omega

def sumN : List Nat → Nat
  | [] => 0
  | a :: l => a + sumN l
theorem sumN_append (l m : List Nat) : sumN (l ++ m) = sumN l + sumN m := by
  induction l with
  | nil => simp [sumN]
  | cons b l ih => simp only [List.cons_append, sumN, ih, Nat.add_assoc]
/-- How many weaves there are of some lengths, beside so many places that are taken. -/
def wvN : Nat → List Nat → Nat
  | _, [] => 1
  | n, a :: l => chs (n + a) a * wvN (n + a) l
theorem wvN_pos (n : Nat) (l : List Nat) : 0 < wvN n l := by
  induction l generalizing n with
  | nil => simp [wvN]
  | cons a l ih => exact Nat.mul_pos (chs_pos _ _ (by omega)) (ih _)
theorem wvN_append (n : Nat) (l m : List Nat) : wvN n (l ++ m) = wvN n l * wvN (n + sumN l) m := by
  induction l generalizing n with
  | nil => simp [wvN, sumN]
  | cons a l ih => simp only [List.cons_append, wvN, ih, sumN, Nat.mul_assoc, Nat.add_assoc]
theorem wvN_two (a b : Nat) : wvN 0 [a, b] = chs (a + b) b := by
  simp [wvN, chs_self]
end Go.Proofs.Ytghfomammdbgoaa.K

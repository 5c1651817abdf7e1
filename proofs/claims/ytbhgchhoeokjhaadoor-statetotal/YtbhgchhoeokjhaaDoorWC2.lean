/- Take, the program's. -/
import Derived.Test.YtbhgchhoeokjhaaDoorWC1
namespace Go.Proofs.YtbhgchhoeokjhaaDoor
open Go.RowKit M
set_option linter.unusedSimpArgs false
set_option linter.unusedVariables false

/-- What Take answers: the value, its length and no error; else 0, 0 and error 40. -/
def takeV : Option (Int × Nat) → Value
  | some (v, n) => .tuple #[.int .i64 v, .int .i64 n, .int .i64 0]
  | none => .tuple #[.int .i64 0, .int .i64 0, .int .i64 40]

/-- Take at a place. -/
def takeA (s : ByteArray) (at' : Int) : Option (Int × Nat) := if at' < 0 ∨ (s.size : Int) ≤ at' then none else takeO (s.data.toList.drop at'.toNat)

theorem drop_step (s : ByteArray) (a k : Nat) (h : a + k < s.size) : (s.data.toList.drop a).drop k = s[a + k] :: (s.data.toList.drop a).drop (k + 1) := by
  rw [List.drop_drop, List.drop_drop, ← Nat.add_assoc]
  rw [List.drop_eq_getElem_cons (by simpa using h)]
  rfl
theorem drop_end (s : ByteArray) (a k : Nat) (h : s.size ≤ a + k) : (s.data.toList.drop a).drop k = [] := by
  rw [List.drop_drop]; apply List.drop_eq_nil_of_le; simpa using h

theorem or_step {X d k : Nat} (hX : X < 2 ^ (7 * k)) (hs : d * 2 ^ (7 * k) < 18446744073709551616) (hk : 7 * k ≤ 63) :
    bits .or .u64 (X : Int) (IntKind.u64.wrap ((d : Int) * 2 ^ (7 * k))) = ((X + d * 2 ^ (7 * k) : Nat) : Int) := by
  have e : (d : Int) * 2 ^ (7 * k) = ((d * 2 ^ (7 * k) : Nat) : Int) := by rw [Int.natCast_mul, Int.natCast_pow]; rfl
  have hp : (2 : Nat) ^ (7 * k) ≤ 2 ^ 63 := Nat.pow_le_pow_right (by omega) hk
  have e63 : (2 : Nat) ^ 63 = 9223372036854775808 := by decide
  rw [e, IntWalk.u64_in _ ⟨by omega, by omega⟩, bits_or_u64_nat _ _ (by omega) hs]
  rw [Nat.or_comm, Nat.mul_comm d, ← Nat.two_pow_add_eq_or_of_lt hX, Nat.add_comm]

theorem digit_lt {k c : Nat} (hk : k < 10) (hc : c < 256) (h9 : k = 9 → c ≤ 1) : (c % 128) * 2 ^ (7 * k) < 18446744073709551616 := by
  by_cases e : k = 9
  · subst e
    have h1 := h9 rfl
    have h2 : (c % 128) * 2 ^ (7 * 9) ≤ 1 * 2 ^ (7 * 9) := Nat.mul_le_mul_right _ (by omega)
    exact Nat.lt_of_le_of_lt h2 (by decide)
  · have h2 : (c % 128) * 2 ^ (7 * k) ≤ 127 * 2 ^ (7 * 8) := Nat.mul_le_mul (by omega) (Nat.pow_le_pow_right (by omega) (by omega))
    exact Nat.lt_of_le_of_lt h2 (by decide)

theorem digit_next {X k d : Nat} (hX : X < 2 ^ (7 * k)) (hd : d < 128) : X + d * 2 ^ (7 * k) < 2 ^ (7 * (k + 1)) := by
  rw [pow7]
  have : d * 2 ^ (7 * k) ≤ 127 * 2 ^ (7 * k) := Nat.mul_le_mul_right _ (by omega)
  omega

theorem sum_lt {X d k : Nat} (hk : 7 * k ≤ 63) (hX : X < 2 ^ (7 * k)) (hd : d * 2 ^ (7 * k) < 18446744073709551616) : X + d * 2 ^ (7 * k) < 18446744073709551616 := by
  have hdv : 2 ^ (7 * k) ∣ 18446744073709551616 := by
    have : (18446744073709551616 : Nat) = 2 ^ 64 := by decide
    rw [this]; exact Nat.pow_dvd_pow 2 (by omega)
  obtain ⟨q, hq⟩ := hdv
  have hlt : d < q := by
    refine Nat.lt_of_mul_lt_mul_right (a := 2 ^ (7 * k)) ?_
    rw [Nat.mul_comm q]; omega
  have : (d + 1) * 2 ^ (7 * k) ≤ q * 2 ^ (7 * k) := Nat.mul_le_mul_right _ hlt
  rw [Nat.add_mul, Nat.one_mul, Nat.mul_comm q] at this
  omega

/-- What is left to be taken. -/
def takeF (k X : Nat) (l : List UInt8) : Option (Int × Nat) := (tk k X l).map fun p => (unfoldN p.1, p.2)

theorem takeF_bad {k X : Nat} {c : UInt8} {r : List UInt8} (h : (k = 9 ∧ 1 < c.toNat) ∨ (0 < k ∧ c.toNat = 0)) : takeF k X (c :: r) = none := by
  unfold takeF; rw [tk]
  by_cases hk : 10 ≤ k
  · rw [if_pos hk]; rfl
  · rw [if_neg hk, if_pos h]; rfl
theorem takeF_last {k X : Nat} {c : UInt8} {r : List UInt8} (hk : k < 10) (h : ¬ ((k = 9 ∧ 1 < c.toNat) ∨ (0 < k ∧ c.toNat = 0))) (hc : c.toNat < 128) :
    takeF k X (c :: r) = some (unfoldN (X + (c.toNat % 128) * 2 ^ (7 * k)), k + 1) := by
  unfold takeF; rw [tk, if_neg (by omega), if_neg h, if_pos hc, Nat.mod_eq_of_lt hc]; rfl
theorem takeF_more {k X : Nat} {c : UInt8} {r : List UInt8} (hk : k < 10) (h : ¬ ((k = 9 ∧ 1 < c.toNat) ∨ (0 < k ∧ c.toNat = 0))) (hc : ¬ c.toNat < 128) :
    takeF k X (c :: r) = takeF (k + 1) (X + (c.toNat % 128) * 2 ^ (7 * k)) r := by
  unfold takeF; rw [tk, if_neg (by omega), if_neg h, if_neg hc]
theorem takeF_end (k X : Nat) : takeF k X [] = none := rfl
theorem takeF_ten {k X : Nat} {l : List UInt8} (hk : 10 ≤ k) : takeF k X l = none := by
  unfold takeF
  cases l with
  | nil => rfl
  | cons c r => rw [tk, if_pos hk]; rfl

end Go.Proofs.YtbhgchhoeokjhaaDoor

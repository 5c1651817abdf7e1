/-
  Plain mathematics: a number's text, with noughts in front of its digits, is read as it. No program is named.
-/
import Derived.Test.YtlmnlfnodbfgiaaDoorM2
namespace Go.Proofs.YtlmnlfnodbfgiaaDoor.M
set_option linter.unusedSimpArgs false
set_option linter.unusedVariables false

/-- So many noughts. -/
def zeros (k : Nat) : List UInt8 := List.replicate k 48
/-- What stands behind a number in the law: nothing, or a blank. -/
def Tail (t : List UInt8) : Prop := t = [] ∨ t = [32]
theorem isD_32 {b : Nat} (hb : b ≤ 16) : isD b 32 = false := by
  unfold isD
  refine decide_eq_false ?_
  have : dig (32 : UInt8).toNat = 18446744073709551615 := by decide
  rw [this]; omega
theorem dl_all {b : Nat} (hb : b ≤ 16) {r t : List UInt8} (h : ∀ c ∈ r, isD b c = true) (ht : Tail t) : dl b (r ++ t) = r := by
  unfold dl
  rw [List.takeWhile_append_of_pos h]
  rcases ht with rfl | rfl
  · simp
  · rw [List.takeWhile_cons, isD_32 hb]; simp
theorem isD_zero {b : Nat} (hb : 2 ≤ b) : isD b 48 = true := by
  unfold isD
  refine decide_eq_true ?_
  have : dig (48 : UInt8).toNat = 0 := by decide
  rw [this]; omega
theorem zeros_isD {b : Nat} (hb : 2 ≤ b) (k : Nat) : ∀ c ∈ zeros k, isD b c = true := by
  intro c hc
  rw [List.eq_of_mem_replicate hc]; exact isD_zero hb
theorem val_zeros (b k : Nat) : val b (zeros k) = 0 := by
  induction k with
  | zero => rfl
  | succ k ih =>
      have : zeros (k + 1) = zeros k ++ [48] := by unfold zeros; rw [List.replicate_succ']
      rw [this, val_snoc, ih]
      have : dig (48 : UInt8).toNat = 0 := by decide
      rw [this]; omega
theorem val_pre (b k : Nat) (l : List UInt8) : val b (zeros k ++ l) = val b l := by
  have h := val_zeros b k
  unfold val at h ⊢
  rw [List.foldl_append, h]
theorem all_pre {b : Nat} (hb : 2 ≤ b) {k : Nat} {l : List UInt8} (h : ∀ c ∈ l, isD b c = true) : ∀ c ∈ zeros k ++ l, isD b c = true := by
  intro c hc
  rcases List.mem_append.1 hc with hc | hc
  · exact zeros_isD hb k c hc
  · exact h c hc
/-- A decimal digit is no sign and no mark. -/
theorem dec_byte {c : UInt8} (h : isD 10 c = true) : 48 ≤ c.toNat ∧ c.toNat ≤ 57 := by
  have h1 : dig c.toNat < 10 := of_decide_eq_true h
  unfold dig at h1
  split at h1
  · assumption
  · split at h1
    · omega
    · split at h1 <;> omega
theorem mark_dec {r t : List UInt8} (h : ∀ c ∈ r, isD 10 c = true) (ht : Tail t) : markB (r ++ t) = false := by
  match r, h with
  | [], _ => rcases ht with rfl | rfl <;> rfl
  | [a], _ =>
      rcases ht with rfl | rfl
      · rfl
      · simp [markB]
  | a :: b :: r, h =>
      have hb := dec_byte (h b (by simp))
      have h1 : ¬ b.toNat = 120 := by omega
      have h2 : ¬ b.toNat = 88 := by omega
      simp [markB, h1, h2]
theorem minus_dec {r t : List UInt8} (h : ∀ c ∈ r, isD 10 c = true) (hr : r ≠ []) : minusB (r ++ t) = false := by
  match r, h, hr with
  | a :: r, h, _ =>
      have ha := dec_byte (h a (by simp))
      have h1 : ¬ a.toNat = 45 := by omega
      simp [minusB, h1]
theorem body_dec {r t : List UInt8} (h : ∀ c ∈ r, isD 10 c = true) (ht : Tail t) : bodyF (r ++ t) = (10, r, r.length) := by
  unfold bodyF
  rw [if_neg (by rw [mark_dec h ht]; simp), dl_all (by omega) h ht]
theorem body_hex {x : UInt8} (hx : x.toNat = 120 ∨ x.toNat = 88) {r t : List UInt8} (h : ∀ c ∈ r, isD 16 c = true) (hr : r ≠ []) (ht : Tail t) : bodyF (48 :: x :: (r ++ t)) = (16, r, 2 + r.length) := by
  have hd : dl 16 ((48 :: x :: (r ++ t)).drop 2) = r := dl_all (by omega) h ht
  have hm : markB (48 :: x :: (r ++ t)) = true := by
    rcases hx with hx | hx <;> simp [markB, hx]
  unfold bodyF
  rw [hd, if_pos ⟨hm, hr⟩]

/-- A text that says v, whatever of these stands behind it. -/
def Says (v : Int) (T : List UInt8) : Prop := parseO T = (v, 0) ∧ nextO (T ++ [32]) = (v, T.length, 0)
theorem says_of {v : Int} {T : List UInt8} (h : ∀ t, Tail t → digF (T ++ t) ≠ [] ∧ lenF (T ++ t) = T.length ∧ numF (T ++ t) = some v) : Says v T := by
  obtain ⟨a1, a2, a3⟩ := h [] (Or.inl rfl)
  obtain ⟨b1, b2, b3⟩ := h [32] (Or.inr rfl)
  rw [List.append_nil] at a1 a2 a3
  constructor
  · unfold parseO; rw [if_neg (by rw [a2]; simp; exact a1), a3]; rfl
  · unfold nextO; rw [if_neg b1, b3, b2]; rfl
theorem says_dec {v : Int} {r : List UInt8} (h : ∀ c ∈ r, isD 10 c = true) (hr : r ≠ []) (hv : valF false (val 10 r) = some v) : Says v r := by
  refine says_of fun t ht => ?_
  have hm := minus_dec (t := t) h hr
  have hs : sgn (r ++ t) = 0 := by unfold sgn; rw [hm]; rfl
  have hb := body_dec h ht
  unfold digF lenF numF baseF digF
  rw [hs, List.drop_zero, hb, hm]
  exact ⟨hr, by simp, hv⟩
theorem says_neg {v : Int} {r : List UInt8} (h : ∀ c ∈ r, isD 10 c = true) (hr : r ≠ []) (hv : valF true (val 10 r) = some v) : Says v (45 :: r) := by
  refine says_of fun t ht => ?_
  have hm : minusB ((45 :: r) ++ t) = true := rfl
  have hs : sgn ((45 :: r) ++ t) = 1 := by unfold sgn; rw [hm]; rfl
  have hb := body_dec h ht
  unfold digF lenF numF baseF digF
  have hd : ((45 :: r) ++ t).drop 1 = r ++ t := rfl
  rw [hs, hd, hb, hm]
  exact ⟨hr, by simp; omega, hv⟩
theorem says_hex {v : Int} {x : UInt8} (hx : x.toNat = 120 ∨ x.toNat = 88) {r : List UInt8} (h : ∀ c ∈ r, isD 16 c = true) (hr : r ≠ []) (hv : valF false (val 16 r) = some v) : Says v (48 :: x :: r) := by
  refine says_of fun t ht => ?_
  have hm : minusB ((48 :: x :: r) ++ t) = false := rfl
  have hs : sgn ((48 :: x :: r) ++ t) = 0 := by unfold sgn; rw [hm]; rfl
  have hb := body_hex hx h hr ht
  unfold digF lenF numF baseF digF
  have hd : ((48 :: x :: r) ++ t).drop 0 = 48 :: x :: (r ++ t) := rfl
  rw [hs, hd, hb, hm]
  exact ⟨hr, by simp; omega, hv⟩
theorem dgs_ne (b u : Nat) : dgs b u ≠ [] := by have := dgs_pos b u; intro e; rw [e] at this; simp at this
theorem pre_ne (k b u : Nat) : zeros k ++ dgs b u ≠ [] := by intro e; exact dgs_ne b u (List.append_eq_nil_iff.1 e).2
theorem valF_neg {v : Int} (h0 : -9223372036854775808 ≤ v) (h : v < 0) : valF true v.natAbs = some v := by
  unfold valF; rw [if_neg (by omega)]; simp; omega
theorem valF_pos {v : Int} (h1 : v ≤ 9223372036854775807) (h : ¬ v < 0) : valF false v.toNat = some v := by
  unfold valF; rw [if_neg (by simp; omega)]; simp; split <;> omega
theorem valF_uv {v : Int} (h0 : -9223372036854775808 ≤ v) (h1 : v ≤ 9223372036854775807) : valF false (v % 18446744073709551616).toNat = some v := by
  unfold valF; rw [if_neg (by simp; omega)]; simp; split <;> omega
end Go.Proofs.YtlmnlfnodbfgiaaDoor.M

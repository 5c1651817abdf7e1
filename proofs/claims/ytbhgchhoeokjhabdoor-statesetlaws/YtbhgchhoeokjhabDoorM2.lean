/-
  Plain mathematics of digits written: a number's digits to a base, highest first; read again they say it. No program is named.
-/
import Derived.Test.YtbhgchhoeokjhabDoorM1
namespace Go.Proofs.YtbhgchhoeokjhabDoor.M
set_option linter.unusedSimpArgs false
set_option linter.unusedVariables false

/-- A digit's byte. -/
def hexD (d : Nat) : UInt8 := if d < 10 then UInt8.ofNat (48 + d) else UInt8.ofNat (87 + d)
/-- A number's digits to a base, highest first, so many at most and one. -/
def dgsF (b : Nat) : Nat → Nat → List UInt8
  | 0, u => [hexD u]
  | f + 1, u => if u < b ∨ b < 2 then [hexD u] else dgsF b f (u / b) ++ [hexD (u % b)]
/-- A number's digits to a base, highest first. -/
def dgs (b u : Nat) : List UInt8 := dgsF b u u
theorem dgsF_small {b f u : Nat} (h : u < b ∨ b < 2) : dgsF b f u = [hexD u] := by
  cases f with
  | zero => rfl
  | succ f => rw [dgsF, if_pos h]
theorem dgsF_zero (b f : Nat) : dgsF b f 0 = [hexD 0] := dgsF_small (by omega)
theorem dgsF_same (b : Nat) : ∀ (f g u : Nat), u ≤ f → u ≤ g → dgsF b f u = dgsF b g u
  | 0, g, u, hf, hg => by obtain rfl : u = 0 := by omega
                          rw [dgsF_zero, dgsF_zero]
  | f + 1, 0, u, hf, hg => by obtain rfl : u = 0 := by omega
                              rw [dgsF_zero, dgsF_zero]
  | f + 1, g + 1, u, hf, hg => by
      by_cases h : u < b ∨ b < 2
      · rw [dgsF_small h, dgsF_small h]
      · have hlt : u / b < u := Nat.div_lt_self (by omega) (by omega)
        rw [dgsF, dgsF, if_neg h, if_neg h, dgsF_same b f g (u / b) (by omega) (by omega)]
theorem dgs_small {b u : Nat} (h : u < b) : dgs b u = [hexD u] := dgsF_small (Or.inl h)
theorem dgs_great {b u : Nat} (hb : 2 ≤ b) (h : ¬ u < b) : dgs b u = dgs b (u / b) ++ [hexD (u % b)] := by
  unfold dgs
  cases u with
  | zero => omega
  | succ u =>
      have hlt : (u + 1) / b < u + 1 := Nat.div_lt_self (by omega) (by omega)
      rw [dgsF, if_neg (by omega), dgsF_same b u ((u + 1) / b) ((u + 1) / b) (by omega) (Nat.le_refl _)]
theorem dgs_pos (b u : Nat) : 1 ≤ (dgs b u).length := by
  by_cases h : u < b ∨ b < 2
  · unfold dgs; rw [dgsF_small h]; simp
  · rw [dgs_great (by omega) (by omega)]; simp
theorem dgs_len (b : Nat) (hb : 2 ≤ b) : ∀ (k u : Nat), u < b ^ k → 1 ≤ k → (dgs b u).length ≤ k
  | 0, _, _, h => by omega
  | k + 1, u, hu, _ => by
      by_cases h : u < b
      · rw [dgs_small h]; simp
      · rw [dgs_great hb h, List.length_append]
        have hk : 1 ≤ k := by
          rcases Nat.eq_zero_or_pos k with h0 | h0
          · subst h0; simp at hu; omega
          · exact h0
        have := dgs_len b hb k (u / b) (Nat.div_lt_of_lt_mul (by rw [Nat.pow_succ, Nat.mul_comm] at hu; exact hu)) hk
        simp; omega
theorem hexD_toNat {d : Nat} (h : d < 16) : (hexD d).toNat = if d < 10 then 48 + d else 87 + d := by
  unfold hexD; split <;> (rw [UInt8.toNat_ofNat']; omega)
theorem dig_hexD {d : Nat} (h : d < 16) : dig (hexD d).toNat = d := by
  rw [hexD_toNat h]; unfold dig; split
  · rw [if_pos (by omega)]; omega
  · rw [if_neg (by omega), if_pos (by omega)]; omega
theorem isD_hexD {b d : Nat} (hb : b ≤ 16) (h : d < b) : isD b (hexD d) = true := by unfold isD; rw [dig_hexD (by omega)]; exact decide_eq_true h
/-- All of them are digits. -/
theorem dgs_isD (b : Nat) (hb : 2 ≤ b) (hb' : b ≤ 16) (u : Nat) : ∀ c ∈ dgs b u, isD b c = true := by
  induction u using Nat.strongRecOn with
  | _ u ih =>
      intro c hc
      by_cases h : u < b
      · rw [dgs_small h] at hc
        simp at hc; subst hc; exact isD_hexD hb' h
      · rw [dgs_great hb h] at hc
        rcases List.mem_append.1 hc with hc | hc
        · exact ih (u / b) (Nat.div_lt_self (by omega) (by omega)) c hc
        · simp at hc; subst hc; exact isD_hexD hb' (Nat.mod_lt _ (by omega))
/-- Read again they say the number. -/
theorem val_dgs (b : Nat) (hb : 2 ≤ b) (hb' : b ≤ 16) (u : Nat) : val b (dgs b u) = u := by
  induction u using Nat.strongRecOn with
  | _ u ih =>
      by_cases h : u < b
      · rw [dgs_small h]
        have : val b ([] ++ [hexD u]) = val b [] * b + dig (hexD u).toNat := val_snoc b [] (hexD u)
        rw [List.nil_append] at this
        rw [this, dig_hexD (by omega)]; show 0 * b + u = u; omega
      · rw [dgs_great hb h, val_snoc, ih (u / b) (Nat.div_lt_self (by omega) (by omega)), dig_hexD (by have := Nat.mod_lt u (show 0 < b by omega); omega)]
        exact Nat.div_add_mod' u b
end Go.Proofs.YtbhgchhoeokjhabDoor.M

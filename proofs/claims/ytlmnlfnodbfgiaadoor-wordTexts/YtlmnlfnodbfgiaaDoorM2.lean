/-
  Plain mathematics of digits written: a number's digits to a base, highest first; read again they say it. No program is named.
-/
import Derived.Test.YtlmnlfnodbfgiaaDoorM1
namespace Go.Proofs.YtlmnlfnodbfgiaaDoor.M
set_option linter.unusedSimpArgs false
set_option linter.unusedVariables false

/-- A digit's byte. -/
def hexD (d : Nat) : UInt8 := if d < 10 then UInt8.ofNat (48 + d) else UInt8.ofNat (87 + d)
/-- A number's digits to a base, highest first. -/
def dgs (b u : Nat) : List UInt8 := if _h : u < b ∨ b < 2 then [hexD u] else dgs b (u / b) ++ [hexD (u % b)]
termination_by u
decreasing_by exact Nat.div_lt_self (by omega) (by omega)
theorem dgs_small {b u : Nat} (h : u < b) : dgs b u = [hexD u] := by rw [dgs, dif_pos (Or.inl h)]
theorem dgs_great {b u : Nat} (hb : 2 ≤ b) (h : ¬ u < b) : dgs b u = dgs b (u / b) ++ [hexD (u % b)] := by rw [dgs, dif_neg (by omega)]
theorem dgs_pos (b u : Nat) : 1 ≤ (dgs b u).length := by
  by_cases h : u < b ∨ b < 2
  · rw [dgs, dif_pos h]; simp
  · rw [dgs, dif_neg h]; simp
theorem dgs_len (b : Nat) (hb : 2 ≤ b) : ∀ (k u : Nat), u < b ^ k → 1 ≤ k → (dgs b u).length ≤ k
  | 0, _, _, h => by omega
  | k + 1, u, hu, _ => by
      by_cases h : u < b
      · rw [dgs_small h]; simp
      · rw [dgs_great hb h, List.length_append]
        have hk : 1 ≤ k := by
          rcases Nat.eq_zero_or_pos k with h0 | h0
          · subst h0; simp at hu; omega
          · exact h0
        have := dgs_len b hb k (u / b) (Nat.div_lt_of_lt_mul (by rw [Nat.pow_succ, Nat.mul_comm] at hu; exact hu)) hk
        simp; omega
theorem hexD_toNat {d : Nat} (h : d < 16) : (hexD d).toNat = if d < 10 then 48 + d else 87 + d := by
  unfold hexD; split <;> (rw [UInt8.toNat_ofNat']; omega)
theorem dig_hexD {d : Nat} (h : d < 16) : dig (hexD d).toNat = d := by
  rw [hexD_toNat h]; unfold dig; split
  · rw [if_pos (by omega)]; omega
  · rw [if_neg (by omega), if_pos (by omega)]; omega
theorem isD_hexD {b d : Nat} (hb : b ≤ 16) (h : d < b) : isD b (hexD d) = true := by unfold isD; rw [dig_hexD (by omega)]; exact decide_eq_true h
/-- All of them are digits. -/
theorem dgs_isD (b : Nat) (hb : 2 ≤ b) (hb' : b ≤ 16) (u : Nat) : ∀ c ∈ dgs b u, isD b c = true := by
  induction u using Nat.strongRecOn with
  | _ u ih =>
      intro c hc
      by_cases h : u < b
      · rw [dgs_small h] at hc
        simp at hc; subst hc; exact isD_hexD hb' h
      · rw [dgs_great hb h] at hc
        rcases List.mem_append.1 hc with hc | hc
        · exact ih (u / b) (Nat.div_lt_self (by omega) (by omega)) c hc
        · simp at hc; subst hc; exact isD_hexD hb' (Nat.mod_lt _ (by omega))
/-- Read again they say the number. -/
theorem val_dgs (b : Nat) (hb : 2 ≤ b) (hb' : b ≤ 16) (u : Nat) : val b (dgs b u) = u := by
  induction u using Nat.strongRecOn with
  | _ u ih =>
      by_cases h : u < b
      · rw [dgs_small h]
        have : val b ([] ++ [hexD u]) = val b [] * b + dig (hexD u).toNat := val_snoc b [] (hexD u)
        rw [List.nil_append] at this
        rw [this, dig_hexD (by omega)]; show 0 * b + u = u; omega
      · rw [dgs_great hb h, val_snoc, ih (u / b) (Nat.div_lt_self (by omega) (by omega)), dig_hexD (by have := Nat.mod_lt u (show 0 < b by omega); omega)]
        exact Nat.div_add_mod' u b
end Go.Proofs.YtlmnlfnodbfgiaaDoor.M

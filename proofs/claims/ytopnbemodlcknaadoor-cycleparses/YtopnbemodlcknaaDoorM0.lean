/-
  Plain mathematics of codes: a number's digits to the base 128, lowest first, each but the last with 128 added; a code is taken back, and what is taken is its number's code. No program is named.
-/
namespace Go.Proofs.YtopnbemodlcknaaDoor.M

/-- The code of a number: its digits to the base 128, lowest first, so many at most and one. -/
def encF : Nat → Nat → List UInt8
  | 0, u => [UInt8.ofNat u]
  | f + 1, u => if u < 128 then [UInt8.ofNat u] else UInt8.ofNat (u % 128 + 128) :: encF f (u / 128)
/-- The code of a number: its digits to the base 128, lowest first. -/
def enc (u : Nat) : List UInt8 := encF u u

/-- A value's number. -/
def foldN (v : Int) : Nat := if v < 0 then (-2 * v - 1).toNat else (2 * v).toNat
/-- A number's value. -/
def unfoldN (u : Nat) : Int := if u % 2 = 1 then -((u / 2 : Nat) : Int) - 1 else ((u / 2 : Nat) : Int)
/-- A value's code. -/
def putL (v : Int) : List UInt8 := enc (foldN v)

/-- What is taken, from digit k on, X having been taken: the number, and how many bytes in all. -/
def tk (k X : Nat) : List UInt8 → Option (Nat × Nat)
  | [] => none
  | c :: r => if 10 ≤ k then none else if (k = 9 ∧ 1 < c.toNat) ∨ (0 < k ∧ c.toNat = 0) then none
      else if c.toNat < 128 then some (X + c.toNat * 2 ^ (7 * k), k + 1) else tk (k + 1) (X + (c.toNat % 128) * 2 ^ (7 * k)) r

theorem encF_small {f u : Nat} (h : u < 128) : encF f u = [UInt8.ofNat u] := by
  cases f with
  | zero => rfl
  | succ f => rw [encF, if_pos h]
theorem encF_same : ∀ (f g u : Nat), u ≤ f → u ≤ g → encF f u = encF g u
  | 0, g, u, hf, hg => by rw [encF_small (by omega), encF_small (by omega)]
  | f + 1, 0, u, hf, hg => by rw [encF_small (by omega), encF_small (by omega)]
  | f + 1, g + 1, u, hf, hg => by
      by_cases h : u < 128
      · rw [encF_small h, encF_small h]
      · rw [encF, encF, if_neg h, if_neg h, encF_same f g (u / 128) (by omega) (by omega)]
theorem enc_small {u : Nat} (h : u < 128) : enc u = [UInt8.ofNat u] := encF_small h
theorem enc_great {u : Nat} (h : ¬ u < 128) : enc u = UInt8.ofNat (u % 128 + 128) :: enc (u / 128) := by
  unfold enc
  cases u with
  | zero => omega
  | succ u =>
      rw [encF, if_neg h, encF_same u ((u + 1) / 128) ((u + 1) / 128) (by omega) (Nat.le_refl _)]

theorem enc_pos (u : Nat) : 1 ≤ (enc u).length := by
  by_cases h : u < 128
  · rw [enc_small h]; simp
  · rw [enc_great h]; simp

theorem enc_len : ∀ (k u : Nat), u < 2 ^ (7 * k) → 1 ≤ k → (enc u).length ≤ k
  | 0, _, _, h => by omega
  | k + 1, u, hu, _ => by
      by_cases h : u < 128
      · rw [enc_small h]; simp
      · rw [enc_great h, List.length_cons]
        have e : 2 ^ (7 * (k + 1)) = 128 * 2 ^ (7 * k) := by rw [Nat.mul_add, Nat.pow_add]; omega
        have hk : 1 ≤ k := by
          rcases Nat.eq_zero_or_pos k with h0 | h0
          · subst h0; simp at hu; omega
          · exact h0
        have := enc_len k (u / 128) (by omega) hk
        omega

theorem foldN_lt {v : Int} (h0 : -9223372036854775808 ≤ v) (h1 : v ≤ 9223372036854775807) : foldN v < 18446744073709551616 := by unfold foldN; split <;> omega
theorem unfold_fold (v : Int) : unfoldN (foldN v) = v := by unfold foldN; split <;> (unfold unfoldN; split <;> omega)
theorem fold_unfold (u : Nat) : foldN (unfoldN u) = u := by unfold unfoldN; split <;> (unfold foldN; split <;> omega)
theorem unfoldN_bd {u : Nat} (h : u < 18446744073709551616) : -9223372036854775808 ≤ unfoldN u ∧ unfoldN u ≤ 9223372036854775807 := by unfold unfoldN; split <;> omega

theorem putL_len {v : Int} (h0 : -9223372036854775808 ≤ v) (h1 : v ≤ 9223372036854775807) : 1 ≤ (putL v).length ∧ (putL v).length ≤ 10 :=
  ⟨enc_pos _, enc_len 10 _ (Nat.lt_of_lt_of_le (foldN_lt h0 h1) (by decide)) (by omega)⟩

theorem pow7 (k : Nat) : 2 ^ (7 * (k + 1)) = 128 * 2 ^ (7 * k) := by rw [Nat.mul_add, Nat.pow_add]; omega

theorem pow7_pos (k : Nat) : 1 ≤ 2 ^ (7 * k) := Nat.one_le_two_pow

/-- A number's code, with anything behind it, is taken back. -/
theorem tk_enc (r : List UInt8) : ∀ (d k u X : Nat), d + k = 10 → u * 2 ^ (7 * k) < 18446744073709551616 → (0 < k → 0 < u) → (k = 0 ∨ 1 ≤ d) →
    tk k X (enc u ++ r) = some (X + u * 2 ^ (7 * k), k + (enc u).length)
  | 0, k, u, X, hk, hu, hp, h01 => by omega
  | d + 1, k, u, X, hk, hu, hp, h01 => by
      by_cases h : u < 128
      · rw [enc_small h]
        have hc : (UInt8.ofNat u).toNat = u := by rw [UInt8.toNat_ofNat']; omega
        have h9 : k = 9 → u ≤ 1 := by intro e; subst e; simp at hu; omega
        rw [List.singleton_append, tk, if_neg (by omega), if_neg (by rw [hc]; omega), hc, if_pos h]
        rfl
      · rw [enc_great h]
        have hc : (UInt8.ofNat (u % 128 + 128)).toNat = u % 128 + 128 := by rw [UInt8.toNat_ofNat']; omega
        have hk9 : k ≠ 9 := by intro e; subst e; simp at hu; omega
        rw [List.cons_append, tk, if_neg (by omega), if_neg (by rw [hc]; omega), hc, if_neg (by omega)]
        have e : u * 2 ^ (7 * k) = (u % 128) * 2 ^ (7 * k) + (u / 128) * (128 * 2 ^ (7 * k)) := by
          have e1 : u = u % 128 + (u / 128) * 128 := by omega
          have : (u % 128 + (u / 128) * 128) * 2 ^ (7 * k) = (u % 128) * 2 ^ (7 * k) + (u / 128) * (128 * 2 ^ (7 * k)) := by rw [Nat.add_mul, Nat.mul_assoc]
          rw [← this, ← e1]
        rw [tk_enc r d (k + 1) (u / 128) _ (by omega) (by rw [pow7]; omega) (by omega) (Or.inr (by omega))]
        have e2 : (u % 128 + 128) % 128 = u % 128 := by omega
        rw [e2, pow7, List.length_cons]
        congr 2 <;> omega

theorem tk_aux (q u : Nat) (hq : q < 128) (hu : u * 9223372036854775808 < 18446744073709551616) : q * 72057594037927936 + u * 9223372036854775808 < 18446744073709551616 := by
  have h1 : u < 2 := Nat.lt_of_mul_lt_mul_right (a := 9223372036854775808) (by exact hu)
  have h2 : q * 72057594037927936 ≤ 127 * 72057594037927936 := Nat.mul_le_mul_right _ (Nat.le_of_lt_succ hq)
  have h3 : u * 9223372036854775808 ≤ 1 * 9223372036854775808 := Nat.mul_le_mul_right _ (Nat.le_of_lt_succ h1)
  exact Nat.lt_of_le_of_lt (Nat.add_le_add h2 h3) (by decide)

/-- What is taken is that number's code. -/
theorem enc_tk : ∀ (l : List UInt8) (k X U n : Nat), tk k X l = some (U, n) →
    ∃ u, U = X + u * 2 ^ (7 * k) ∧ n = k + (enc u).length ∧ (∃ r, l = enc u ++ r) ∧ (0 < k → 0 < u) ∧ u * 2 ^ (7 * k) < 18446744073709551616
  | [], k, X, U, n, h => by simp [tk] at h
  | c :: r, k, X, U, n, h => by
      rw [tk] at h
      by_cases h1 : 10 ≤ k
      · rw [if_pos h1] at h; cases h
      · rw [if_neg h1] at h
        by_cases h2 : (k = 9 ∧ 1 < c.toNat) ∨ (0 < k ∧ c.toNat = 0)
        · rw [if_pos h2] at h; cases h
        · rw [if_neg h2] at h
          by_cases h3 : c.toNat < 128
          · rw [if_pos h3] at h
            obtain ⟨rfl, rfl⟩ : X + c.toNat * 2 ^ (7 * k) = U ∧ k + 1 = n := by simpa using h
            refine ⟨c.toNat, rfl, ?_, ⟨r, ?_⟩, by omega, ?_⟩
            · rw [enc_small h3]; rfl
            · rw [enc_small h3]; simp
            · by_cases h9 : k = 9
              · subst h9; simp; omega
              · have : 2 ^ (7 * k) ≤ 2 ^ 56 := Nat.pow_le_pow_right (by omega) (by omega)
                have := Nat.mul_le_mul (Nat.le_of_lt_succ (Nat.lt_succ_of_lt h3)) this
                have e : (128 : Nat) * 2 ^ 56 = 9223372036854775808 := by decide
                omega
          · rw [if_neg h3] at h
            obtain ⟨u, hU, hn, ⟨t, ht⟩, hp, hl⟩ := enc_tk r _ _ _ _ h
            have hu0 : 0 < u := hp (by omega)
            have hcl := c.toNat_lt
            have hg : ¬ (c.toNat % 128 + u * 128) < 128 := by omega
            have hm : (c.toNat % 128 + u * 128) % 128 + 128 = c.toNat := by omega
            have hd : (c.toNat % 128 + u * 128) / 128 = u := by omega
            have e : (c.toNat % 128 + u * 128) * 2 ^ (7 * k) = (c.toNat % 128) * 2 ^ (7 * k) + u * 2 ^ (7 * (k + 1)) := by rw [Nat.add_mul, pow7, Nat.mul_assoc]
            refine ⟨c.toNat % 128 + u * 128, ?_, ?_, ⟨t, ?_⟩, by omega, ?_⟩
            · rw [e, hU]; omega
            · rw [enc_great hg, hd, hn, List.length_cons]; omega
            · rw [enc_great hg, hd, hm, UInt8.ofNat_toNat, ht]; rfl
            · rw [e]
              have hk9 : k ≠ 9 := by
                intro e9; subst e9
                rcases t with _ | _ <;> (have := enc_pos u; have hx : c.toNat ≤ 1 := by omega
                                         omega)
              by_cases h8 : k = 8
              · subst h8
                have e63 : (2 : Nat) ^ (7 * (8 + 1)) = 9223372036854775808 := by decide
                have e56 : (2 : Nat) ^ (7 * 8) = 72057594037927936 := by decide
                rw [e63] at hl ⊢
                rw [e56]
                exact tk_aux _ _ (Nat.mod_lt _ (by decide)) hl
              · have p1 : 2 ^ (7 * k) ≤ 2 ^ 49 := Nat.pow_le_pow_right (by omega) (by omega)
                have hq : u * 2 ^ (7 * (k + 1)) + 2 ^ (7 * (k + 1)) ≤ 18446744073709551616 := by
                  have hdv : 2 ^ (7 * (k + 1)) ∣ 18446744073709551616 := by
                    have : (18446744073709551616 : Nat) = 2 ^ 64 := by decide
                    rw [this]; exact Nat.pow_dvd_pow 2 (by omega)
                  obtain ⟨q, hq⟩ := hdv
                  have hlt : u < q := by
                    refine Nat.lt_of_mul_lt_mul_right (a := 2 ^ (7 * (k + 1))) ?_
                    rw [Nat.mul_comm q]; omega
                  have : (u + 1) * 2 ^ (7 * (k + 1)) ≤ q * 2 ^ (7 * (k + 1)) := Nat.mul_le_mul_right _ hlt
                  rw [Nat.add_mul, Nat.one_mul, Nat.mul_comm q] at this
                  omega
                have hc : (c.toNat % 128) * 2 ^ (7 * k) < 128 * 2 ^ (7 * k) := Nat.mul_lt_mul_of_pos_right (by omega) (pow7_pos k)
                rw [← pow7] at hc
                omega

/-- Take, from a place on: the value and how many bytes. -/
def takeO (l : List UInt8) : Option (Int × Nat) := (tk 0 0 l).map fun p => (unfoldN p.1, p.2)

theorem takeO_put {v : Int} (h0 : -9223372036854775808 ≤ v) (h1 : v ≤ 9223372036854775807) (r : List UInt8) : takeO (putL v ++ r) = some (v, (putL v).length) := by
  unfold takeO putL
  rw [tk_enc r 10 0 (foldN v) 0 rfl (by simpa using foldN_lt h0 h1) (by omega) (Or.inl rfl)]
  simp [unfold_fold]

theorem put_takeO {l : List UInt8} {v : Int} {n : Nat} (h : takeO l = some (v, n)) :
    (-9223372036854775808 ≤ v ∧ v ≤ 9223372036854775807) ∧ n = (putL v).length ∧ ∃ r, l = putL v ++ r := by
  unfold takeO at h
  cases e : tk 0 0 l with
  | none => rw [e] at h; cases h
  | some p =>
      rw [e] at h
      obtain ⟨U, m⟩ := p
      obtain ⟨rfl, rfl⟩ : unfoldN U = v ∧ m = n := by simpa using h
      obtain ⟨u, hU, hn, hr, -, hl⟩ := enc_tk _ _ _ _ _ e
      have : U = u := by simpa using hU
      subst this
      refine ⟨unfoldN_bd (by simpa using hl), ?_, ?_⟩
      · unfold putL; rw [fold_unfold]; omega
      · unfold putL; rw [fold_unfold]; exact hr
end Go.Proofs.YtopnbemodlcknaaDoor.M

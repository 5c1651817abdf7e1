/- The reference's Check; On of rel and of the reference. -/
import Derived.Test.YtdneaaegllpnlaaDoorRlR2
namespace Go.Proofs.YtdneaaegllpnlaaDoor
open Go.RowKit M
set_option linter.unusedSimpArgs false
set_option linter.unusedVariables false

theorem okRow_bits (n : Int) (f : Nat → Nat) (a : Nat) (hf : f a < 18446744073709551616) : okRow n f a = true ↔ ∀ b, b < 64 → (f a).testBit b = true → (a : Int) < n ∧ (b : Int) < n := by
  unfold okRow
  rw [Bool.and_eq_true, decide_eq_true_eq, decide_eq_true_eq]
  constructor
  · rintro ⟨h1, h2⟩ b hb ht
    have h3 : (f a &&& (18446744073709551615 - bel n)).testBit b = false := by rw [h2]; simp
    rw [Nat.testBit_and, ht, testBit_not _ _ (bel_lt n) hb, testBit_bel _ _ hb] at h3
    refine ⟨?_, by simpa using h3⟩
    rcases h1 with h1 | h1
    · exact h1
    · rw [h1] at ht; simp at ht
  · intro h
    constructor
    · by_cases h0 : f a = 0
      · exact .inr h0
      · obtain ⟨b, hb⟩ := Nat.exists_testBit_of_ne_zero h0
        by_cases hb64 : b < 64
        · exact .inl (h b hb64 hb).1
        · rw [testBit_high hf hb64] at hb; cases hb
    · apply Nat.eq_of_testBit_eq
      intro b
      rw [Nat.testBit_and, Nat.zero_testBit]
      by_cases hb64 : b < 64
      · rw [testBit_not _ _ (bel_lt n) hb64, testBit_bel _ _ hb64]
        cases ht : (f a).testBit b
        · rfl
        · simp [(h b hb64 ht).2]
      · rw [testBit_high hf hb64]; rfl

theorem IsR.drew {w : World} {b : Nat} {n : Int} {f : Nat → Nat} (h : IsR w b n f) : IsR w.drew b n f := h

/-- The rows of On, k of them. -/
def onF (s k : Nat) : Nat → Nat := fun j => if j < k then s &&& 2 ^ j else 0
def onV (n : Int) (s : Nat) : Value := if 0 ≤ n ∧ n ≤ 64 then relv n (onF s n.toNat) else relv 0 void
theorem onF_succ (s k j : Nat) : upd (onF s k) k (s &&& 2 ^ k) j = onF s (k + 1) j := by
  unfold upd onF
  by_cases h : j = k
  · subst h; simp
  · rw [if_neg h]
    by_cases h1 : j < k
    · rw [if_pos h1, if_pos (by omega)]
    · rw [if_neg h1, if_neg (by omega)]
theorem pow_cast (k : Nat) : ((2 : Int) ^ k) = ((2 ^ k : Nat) : Int) := by simp
theorem pow_lt (k : Nat) (h : k < 64) : 2 ^ k < 18446744073709551616 := Nat.pow_lt_pow_right (a := 2) (m := k) (n := 64) (by decide) h
theorem and_pow (s k : Nat) (hs : s < 18446744073709551616) (h : k < 64) : bits .and .u64 (s : Int) ((2 : Int) ^ k) = ((s &&& 2 ^ k : Nat) : Int) := by
  rw [pow_cast]; exact u64_and_nat s _ hs (pow_lt k h)
theorem or_pow (s k : Nat) (hs : s < 18446744073709551616) (h : k < 64) : bits .or .u64 (s : Int) ((2 : Int) ^ k) = ((s ||| 2 ^ k : Nat) : Int) := by
  rw [pow_cast]; exact u64_or_nat s _ hs (pow_lt k h)

set_option maxRecDepth 100000 in
theorem on_any (n : Int) (s : Nat) (w : World) (hs : s < 18446744073709551616) : Calls Tryd.prog 73 #[.int .i64 n, .int .u64 s] w fun e w' => e = .returned (onV n s) ∧ Below w.heap.size w w' := by
  by_cases h0 : 0 ≤ n ∧ n ≤ 64
  · have hd : decide (0 ≤ n ∧ n ≤ 64) = true := decide_eq_true h0
    obtain ⟨N, hNn⟩ : ∃ N : Nat, n = (N : Int) := ⟨n.toNat, by omega⟩
    have hN : N ≤ 64 := by omega
    have HV : Hid (onV n s = relv n (onF s N)) := by
      unfold onV; rw [if_pos h0, hNn]; rfl
    have HN : Hid (n = (N : Int)) := hNn
    clear h0 hNn
    have tk : True := trivial
    go_enter Tryd.func73, Tryd.ntmps73
    go_wp2_with (first
      | (go_at_call 102; refine (fits_any _ _).mono ?_; rintro e w' ⟨rfl, hw'⟩; replace hw' := hw'.symm; subst hw')
      | (refine wpList_allocR rfl rfl ?_; clear tk; intro W1 b1 F1 r1; have B1 := Fresh.trans (Below.refl _ w) (Nat.le_refl _) F1)
      | (refine wpList_allocR rfl rfl ?_; intro W2 b2 F2 r2; replace B1 := Fresh.trans B1 B1.size F2; replace r1 := r1.fresh F2)
      | (refine wpList_buildRN rfl _ rfl rfl ?_)
      | (refine wpList_storeR rfl _ _ rfl rfl rfl r2 ?_; intro W3 U3 r3))
    have hb1 : w.heap.size ≤ b1 := by rw [F1.at']; exact Nat.le_refl _
    have hb2 : b1 < b2 := by rw [F2.at', F1.size]; omega
    replace B1 := U3.trans B1 (by omega)
    replace r1 := r1.upd U3 (by omega)
    go_loopw [14] (fun i wr => ∃ k : Nat, k ≤ N ∧ i = .int .i64 k ∧ IsR wr b2 n (onF s k) ∧ IsR wr b1 0 void ∧ Below w.heap.size w wr) (fun i _ => N - (intOf i).toNat)
    case atStart => exact ⟨0, by omega, rfl, r3.congr (fun i _ => by simp [void, onF]), r1, B1⟩
    case round =>
      obtain ⟨k, hk, rfl, q2, q1, BB⟩ := hrel
      by_cases hlt : k < N
      · have hki : (k : Int) < n := by rw [HN.out]; omega
        have hrow := q2.row k (by omega)
        have hfz := q2.frozen (1 + k)
        have hw := wrap_pow k (by omega)
        have hand := and_pow s k hs (by omega)
        have hs2 := q2.set k (s &&& 2 ^ k) (by omega)
        have BB' := (Upd.setCell wr b2 (1 + k) (.int .u64 ((s &&& 2 ^ k : Nat) : Int))).trans BB (by omega)
        have q1' := q1.upd (Upd.setCell wr b2 (1 + k) (.int .u64 ((s &&& 2 ^ k : Nat) : Int))) (by omega)
        go_wp2
        go_roundw
        case rel => exact ⟨k + 1, by omega, by simp, hs2.congr (fun j _ => onF_succ s k j), q1', BB'⟩
        case measure => simp [intOf]; omega
      · have : k = N := by omega
        subst this
        have hki : ¬ (k : Int) < n := by rw [HN.out]; omega
        go_wp2_with (first
          | (refine wpList_loadR rfl _ rfl rfl q2 ?_)
          | (refine wpList_storeR rfl _ _ rfl rfl rfl q1 ?_; intro W4 U4 r4))
        refine ret_R rfl rfl rfl r4 ⟨by rw [HV.out], U4.trans BB (by omega)⟩
  · have hd : decide (0 ≤ n ∧ n ≤ 64) = false := decide_eq_false h0
    have HV : Hid (onV n s = relv 0 void) := by unfold onV; rw [if_neg h0]; rfl
    go_enter Tryd.func73, Tryd.ntmps73
    go_wp2_with (first
      | (go_at_call 102; refine (fits_any _ _).mono ?_; rintro e w' ⟨rfl, hw'⟩; replace hw' := hw'.symm; subst hw')
      | (refine wpList_allocR rfl rfl ?_; intro W1 b1 F1 r1; have B1 := Fresh.trans (Below.refl _ w) (Nat.le_refl _) F1)
      | (refine wpList_buildR0 rfl rfl ?_)
      | (refine wpList_storeR rfl _ _ rfl rfl rfl r1 ?_; intro W3 U3 r3))
    refine ret_R rfl rfl rfl r3 ⟨by rw [HV.out], U3.trans B1 (by rw [F1.at']; exact Nat.le_refl _)⟩

theorem onF_yes (s k : Nat) (h : s.testBit k = true) : onF s k k ||| 2 ^ k = s &&& 2 ^ k := by
  unfold onF
  rw [if_neg (by omega), Nat.zero_or]
  apply Nat.eq_of_testBit_eq
  intro j
  rw [Nat.testBit_and, Nat.testBit_two_pow]
  by_cases e : k = j
  · subst e; simp [h]
  · simp [e]
theorem onF_no (s k j : Nat) (h : s.testBit k = false) : onF s k j = onF s (k + 1) j := by
  unfold onF
  by_cases h1 : j < k
  · rw [if_pos h1, if_pos (by omega)]
  · rw [if_neg h1]
    by_cases h2 : j = k
    · subst h2
      rw [if_pos (by omega)]
      symm
      apply Nat.eq_of_testBit_eq
      intro i
      rw [Nat.testBit_and, Nat.testBit_two_pow, Nat.zero_testBit]
      by_cases e : j = i
      · subst e; simp [h]
      · simp [e]
    · rw [if_neg (by omega)]

end Go.Proofs.YtdneaaegllpnlaaDoor

/- What At answers, and the functions of the reference that make no memory. -/
import Derived.Test.YtkjaphmcagifpaaDoorW1
namespace Go.Proofs.YtkjaphmcagifpaaDoor
open Go.RowKit M
set_option linter.unusedSimpArgs false
set_option linter.unusedVariables false

theorem shr_bits (s : Nat) (i : Int) (h0 : 0 ≤ i) (h1 : i < 64) (hs : s < 18446744073709551616) : bits BinOp.and IntKind.u64 ((s : Int) / 2 ^ i.toNat) 1 = ((s / 2 ^ i.toNat % 2 : Nat) : Int) := by
  have e : ((s : Int) / 2 ^ i.toNat) = ((s / 2 ^ i.toNat : Nat) : Int) := by simp
  have l : s / 2 ^ i.toNat ≤ s := Nat.div_le_self _ _
  rw [e]
  have := u64_and_nat (s / 2 ^ i.toNat) 1 (by omega) (by decide)
  rw [nat_mask1] at this
  exact this

theorem rhas_any (s : Nat) (i : Int) (w : World) (hs : s < 18446744073709551616) :
    Calls Tryd.prog 10 #[.int .u64 s, .int .i64 i] w fun e w' => e = .returned (.bool (hasB s i)) ∧ w' = w := by
  by_cases h0 : 0 ≤ i
  · by_cases h1 : i < 64
    · have hk := shr_bits s i h0 h1 hs
      have hb := hasB_bits s i h0 h1
      have hf : bits BinOp.and IntKind.u64 ((s : Int) / 2 ^ i.toNat) 1 = if hasB s i then 1 else 0 := by
        rw [hk, hb]; split <;> rfl
      clear hk hb
      go_enter Tryd.func10, Tryd.ntmps10
      go_wp2
      all_goals
        go_ret
        exact ⟨rfl, rfl⟩
    · have hb := hasB_out s i (by omega)
      rw [hb]
      go_enter Tryd.func10, Tryd.ntmps10
      go_wp2
      go_ret
      exact ⟨rfl, rfl⟩
  · have hb := hasB_out s i (by omega)
    rw [hb]
    go_enter Tryd.func10, Tryd.ntmps10
    go_wp2
    go_ret
    exact ⟨rfl, rfl⟩

theorem rwith_any (s : Nat) (i : Int) (w : World) (hs : s < 18446744073709551616) :
    Calls Tryd.prog 12 #[.int .u64 s, .int .i64 i] w fun e w' => e = .returned (.int .u64 (wthN s i : Nat)) ∧ w' = w := by
  by_cases h0 : 0 ≤ i
  · by_cases h1 : i < 64
    · have hw := wrap_pow i.toNat (by omega)
      have h2 : ¬ 63 < i := by omega
      go_enter Tryd.func12, Tryd.ntmps12
      go_wp2
      go_ret
      refine ⟨ret_int ?_, rfl⟩
      have e := u64_or_nat s (oneN i) hs (oneN_lt i)
      rw [oneN_in h0 h1] at e
      rw [wthN, oneN_in h0 h1, ← e]
      simp
    · have h2 : 63 < i := by omega
      go_enter Tryd.func12, Tryd.ntmps12
      go_wp2
      go_ret
      exact ⟨ret_int (by rw [wthN, oneN_out (by omega), Nat.or_zero]), rfl⟩
  · go_enter Tryd.func12, Tryd.ntmps12
    go_wp2
    go_ret
    exact ⟨ret_int (by rw [wthN, oneN_out (by omega), Nat.or_zero]), rfl⟩

theorem rwithout_any (s : Nat) (i : Int) (w : World) (hs : s < 18446744073709551616) :
    Calls Tryd.prog 14 #[.int .u64 s, .int .i64 i] w fun e w' => e = .returned (.int .u64 (wouN s i : Nat)) ∧ w' = w := by
  have he := wouN_eq s i hs
  have c := rhas_any s i w hs
  by_cases hb : hasB s i = true
  · rw [hb] at c
    rw [if_pos hb] at he
    have hr : 0 ≤ i ∧ i < 64 := by
      by_cases hr : 0 ≤ i ∧ i < 64
      · exact hr
      · rw [hasB_out s i (by omega)] at hb; cases hb
    obtain ⟨h0, h1⟩ := hr
    rw [oneN_in h0 h1] at he
    have hle : 2 ^ i.toNat ≤ s := by
      have := and_oneN s i
      rw [if_pos hb, oneN_in h0 h1] at this
      have h2 : s &&& 2 ^ i.toNat ≤ s := Nat.and_le_left
      omega
    rw [he]
    clear he hb
    go_enter Tryd.func14, Tryd.ntmps14
    go_wp2_with (go_at_call 10; refine c.mono ?_; rintro e w' ⟨rfl, rfl⟩)
    go_ret
    refine ⟨ret_int ?_, rfl⟩
    rw [wrap_pow _ (by omega), ← Int.ofNat_sub hle]
    exact wrap_nat _ (Nat.lt_of_le_of_lt (Nat.sub_le _ _) hs)
  · rw [if_neg hb] at he
    have hb' : hasB s i = false := by simpa using hb
    rw [hb'] at c
    rw [he]
    clear he hb hb'
    go_enter Tryd.func14, Tryd.ntmps14
    go_wp2_with (go_at_call 10; refine c.mono ?_; rintro e w' ⟨rfl, rfl⟩)
    go_ret
    exact ⟨rfl, rfl⟩

theorem rbelow_any (n : Int) (w : World) :
    Calls Tryd.prog 24 #[.int .i64 n] w fun e w' => e = .returned (.int .u64 (bel n : Nat)) ∧ w' = w := by
  go_enter Tryd.func24, Tryd.ntmps24
  go_wp2
  go_loop [3, 4] (fun v i => ∃ k : Nat, k ≤ 64 ∧ (k = 0 ∨ (k : Int) ≤ n) ∧ i = .int .i64 k ∧ v = .int .u64 (bel k : Nat)) (fun _ i => 64 - (intOf i).toNat)
  case atStart => exact ⟨0, by omega, Or.inl rfl, rfl, rfl⟩
  case round =>
    obtain ⟨k, hk, hn, rfl, rfl⟩ := hrel
    by_cases h1 : k < 64
    · by_cases h2 : (k : Int) < n
      · have hs := bel_succ k h1
        have c := rwith_any (bel k) k w (bel_lt k)
        rw [hs] at c
        clear hs
        go_wp2_with (go_at_call 12; refine c.mono ?_; rintro e w' ⟨rfl, rfl⟩)
        go_round
        case rel => exact ⟨k + 1, by omega, by omega, by go_num, by go_num⟩
        case measure => simp [intOf]; omega
      · have e := bel_min n k hk (by omega) hn
        have hd : decide ((k : Int) < n) = false := by simpa using h2
        go_wp2
        go_ret
        exact ⟨ret_int (by first | rfl | rw [e]), rfl⟩
    · have e := bel_min n k hk (by omega) hn
      go_wp2
      go_ret
      exact ⟨ret_int (by first | rfl | rw [e]), rfl⟩

theorem rnext_any (s : Nat) (i : Int) (w : World) (hs : s < 18446744073709551616) (hi : i < 9223372036854775808) :
    Calls Tryd.prog 18 #[.int .u64 s, .int .i64 i] w fun e w' => e = .returned (.int .i64 (nxt s i)) ∧ w' = w := by
  go_enter Tryd.func18, Tryd.ntmps18
  go_wp2
  all_goals
    go_loop [5] (fun v => ∃ k : Nat, i ≤ (k : Int) ∧ k < 9223372036854775808 ∧ v = .int .i64 k ∧ Hid (∀ j : Nat, j < k → j < 64 → i ≤ (j : Int) → s.testBit j = false)) (fun v => 64 - (intOf v).toNat)
    case atStart =>
      first
      | exact ⟨0, by omega, by omega, rfl, fun j hj _ _ => by omega⟩
      | exact ⟨i.toNat, by omega, by omega, by rw [Int.toNat_of_nonneg (by omega)], fun j hj _ hij => by omega⟩
    case round =>
      obtain ⟨k, hik, hk, rfl, H⟩ := hrel
      by_cases h1 : k < 64
      · have c := rhas_any s k w hs
        rw [hasB_nat s k h1] at c
        cases hb : s.testBit k
        · rw [hb] at c
          have H2 : Hid (∀ j : Nat, j < k + 1 → j < 64 → i ≤ (j : Int) → s.testBit j = false) := fun j hj h64 hij => by
            by_cases hjk : j = k
            · rw [hjk]; exact hb
            · exact H.out j (by omega) h64 hij
          clear hb
          go_wp2_with (go_at_call 10; refine c.mono ?_; rintro e w' ⟨rfl, rfl⟩)
          go_round
          case rel => exact ⟨k + 1, by omega, by omega, by go_num, H2⟩
          case measure => simp [intOf]; omega
        · rw [hb] at c
          have E : Hid (nxt s i = k) := nxt_hit s i k h1 hb hik (fun j hj hij => H.out j hj (by omega) hij)
          clear hb
          go_wp2_with (go_at_call 10; refine c.mono ?_; rintro e w' ⟨rfl, rfl⟩)
          go_ret
          exact ⟨ret_int E.out.symm, rfl⟩
      · have e := nxt_none s i (fun j hj hij => H.out j (by omega) hj hij)
        go_wp2
        go_ret
        exact ⟨ret_int (by first | rfl | rw [e]), rfl⟩

/-- A set without its k lowest numbers. -/
def dropN : Nat → Nat → Nat
  | 0, s => s
  | k + 1, s => let t := dropN k s; t &&& (t - 1)

theorem dropN_lt (k s : Nat) (hs : s < 2 ^ 64) : dropN k s < 2 ^ 64 := by
  induction k with
  | zero => exact hs
  | succ k ih => exact Nat.lt_of_le_of_lt Nat.and_le_left ih

theorem lst_dropN (k s : Nat) (hs : s < 2 ^ 64) : lst (dropN k s) = (lst s).drop k := by
  induction k with
  | zero => rfl
  | succ k ih =>
    by_cases h0 : dropN k s = 0
    · have e : dropN (k + 1) s = 0 := by simp [dropN, h0]
      rw [e, lst_zero]
      rw [h0, lst_zero] at ih
      have : (lst s).drop (k + 1) = ((lst s).drop k).drop 1 := by rw [List.drop_drop]
      rw [this, ← ih]; rfl
    · obtain ⟨_, e⟩ := lst_low h0 (dropN_lt k s hs)
      rw [ih] at e
      have : (lst s).drop (k + 1) = ((lst s).drop k).drop 1 := by rw [List.drop_drop]
      rw [this, e]; rfl

theorem dropN_ne (k s : Nat) (hs : s < 2 ^ 64) (hk : k < (lst s).length) : dropN k s ≠ 0 ∧ (Lib.ctz 64 (dropN k s) : Int) = atN s k := by
  have e := lst_dropN k s hs
  have h0 : dropN k s ≠ 0 := by
    intro h
    rw [h, lst_zero] at e
    have := congrArg List.length e
    simp at this
    omega
  refine ⟨h0, ?_⟩
  obtain ⟨_, e2⟩ := lst_low h0 (dropN_lt k s hs)
  rw [e] at e2
  have : (lst s)[k]? = some (Lib.ctz 64 (dropN k s)) := by
    have := congrArg (fun l => l[0]?) e2
    simpa using this
  unfold atN
  rw [if_neg (by omega)]
  simp [this]

end Go.Proofs.YtkjaphmcagifpaaDoor

/- The reference's Check; On of rel and of the reference. -/
import Derived.Test.YtkccckjiemijeaaDoorR2
namespace Go.Proofs.YtkccckjiemijeaaDoor
open Go.RowKit M
set_option linter.unusedSimpArgs false
set_option linter.unusedVariables false

theorem okRow_bits (n : Int) (f : Nat → Nat) (a : Nat) (hf : f a < 18446744073709551616) : okRow n f a = true ↔ ∀ b, b < 64 → (f a).testBit b = true → (a : Int) < n ∧ (b : Int) < n := by
  unfold okRow
  rw [Bool.and_eq_true, decide_eq_true_eq, decide_eq_true_eq]
  constructor
  · rintro ⟨h1, h2⟩ b hb ht
    have h3 : (f a &&& (18446744073709551615 - bel n)).testBit b = false := by rw [h2]; simp
    rw [Nat.testBit_and, ht, testBit_not _ _ (bel_lt n) hb, testBit_bel _ _ hb] at h3
    refine ⟨?_, by simpa using h3⟩
    rcases h1 with h1 | h1
    · exact h1
    · rw [h1] at ht; simp at ht
  · intro h
    constructor
    · by_cases h0 : f a = 0
      · exact .inr h0
      · obtain ⟨b, hb⟩ := Nat.exists_testBit_of_ne_zero h0
        by_cases hb64 : b < 64
        · exact .inl (h b hb64 hb).1
        · rw [testBit_high hf hb64] at hb; cases hb
    · apply Nat.eq_of_testBit_eq
      intro b
      rw [Nat.testBit_and, Nat.zero_testBit]
      by_cases hb64 : b < 64
      · rw [testBit_not _ _ (bel_lt n) hb64, testBit_bel _ _ hb64]
        cases ht : (f a).testBit b
        · rfl
        · simp [(h b hb64 ht).2]
      · rw [testBit_high hf hb64]; rfl

set_option maxRecDepth 100000 in
theorem rcheck_any (n : Int) (f : Nat → Nat) (w : World) (hf : Hid (Wf f)) : Calls Tryd.prog 13 #[relv n f] w fun e w' => e = .returned (.int .i64 (checkN n f)) ∧ Below w.heap.size w w' := by
  by_cases h0 : 0 ≤ n ∧ n ≤ 64
  · obtain ⟨hn0, hn1⟩ := h0
    have H0 : Hid (0 ≤ n ∧ n ≤ 64) := ⟨hn0, hn1⟩
    go_enter Tryd.func13, Tryd.ntmps13
    go_wp2_with (first
      | (refine wpList_boxR rfl _ rfl rfl ?_; intro W1 b1 F1 r1; have B1 := Fresh.trans (Below.refl _ w) (Nat.le_refl _) F1; have hn := r1.n))
    go_loop [3] (fun i => ∃ k : Nat, k ≤ 64 ∧ i = .int .i64 k ∧ Hid (∀ j, j < k → okRow n f j = true)) (fun i => 64 - (intOf i).toNat)
    case atStart => exact ⟨0, by omega, rfl, fun j hj => by omega⟩
    case round =>
      obtain ⟨k, hk, rfl, HK⟩ := hrel
      by_cases hlt : k < 64
      · have hrow := r1.row k hlt
        have hxl := hf.out k
        have HOB := okRow_bits n f k hxl
        have HB : Hid (okRow n f k = false → checkN n f = 20) := right_bad n f k hlt
        have HN : Hid (okRow n f k = true → ∀ j, j < k + 1 → okRow n f j = true) := fun h j hj => by
          by_cases e : j = k
          · subst e; exact h
          · exact HK.out j (by omega)
        clear HK
        obtain ⟨x, hx⟩ : ∃ x, f k = x := ⟨_, rfl⟩
        rw [hx] at hrow hxl HOB
        have HO : Hid (okRow n f k = true ↔ ∀ b, b < 64 → x.testBit b = true → (k : Int) < n ∧ (b : Int) < n) := HOB
        clear hx HOB
        go_wp2
        go_loop [4] (fun i => ∃ m : Nat, m ≤ 64 ∧ i = .int .i64 m ∧ Hid (∀ b, b < m → x.testBit b = true → (k : Int) < n ∧ (b : Int) < n)) (fun i => 64 - (intOf i).toNat)
        case atStart => exact ⟨0, by omega, rfl, fun j hj => by omega⟩
        case round =>
          obtain ⟨m, hm, rfl, HM⟩ := hrel
          by_cases hml : m < 64
          · have hsh := shr_bits x m hml hxl
            rw [bit_of] at hsh
            cases hb : x.testBit m
            · rw [hb] at hsh
              have H2 : Hid (∀ b, b < m + 1 → x.testBit b = true → (k : Int) < n ∧ (b : Int) < n) := fun b hbm ht => by
                by_cases e : b = m
                · subst e; rw [hb] at ht; cases ht
                · exact HM.out b (by omega) ht
              clear HM hb
              go_wp2
              go_round
              case rel => exact ⟨m + 1, by omega, by simp, H2.out⟩
              case measure => simp [intOf]; omega
            · rw [hb] at hsh
              have HT : Hid (x.testBit m = true) := hb
              clear hb
              by_cases hA : (k : Int) < n
              · by_cases hB : (m : Int) < n
                · have H2 : Hid (∀ b, b < m + 1 → x.testBit b = true → (k : Int) < n ∧ (b : Int) < n) := fun b hbm ht => by
                    by_cases e : b = m
                    · subst e; exact ⟨hA, hB⟩
                    · exact HM.out b (by omega) ht
                  clear HM
                  go_wp2
                  go_round
                  case rel => exact ⟨m + 1, by omega, by simp, H2.out⟩
                  case measure => simp [intOf]; omega
                · have H1 : Hid (checkN n f = 20) := HB.out (by
                    cases h : okRow n f k with
                    | false => rfl
                    | true => exact absurd (HO.out.1 h m hml HT.out).2 hB)
                  go_wp2
                  all_goals (go_ret; exact ⟨ret_int H1.out.symm, B1⟩)
              · have H1 : Hid (checkN n f = 20) := HB.out (by
                  cases h : okRow n f k with
                  | false => rfl
                  | true => exact absurd (HO.out.1 h m hml HT.out).1 hA)
                go_wp2
                all_goals (go_ret; exact ⟨ret_int H1.out.symm, B1⟩)
          · have H1 : Hid (okRow n f k = true) := HO.out.2 (fun b hb ht => HM.out b (by omega) ht)
            go_wp2
            go_round
            case rel => exact ⟨k + 1, by omega, by simp, HN.out H1.out⟩
            case measure => simp [intOf]; omega
      · have H1 : Hid (checkN n f = 0) := right_good n f H0.out (fun j hj => HK.out j (by omega))
        go_wp2
        all_goals (go_ret; exact ⟨ret_int H1.out.symm, B1⟩)
  · have H1 : Hid (checkN n f = 20) := right_out n f h0
    by_cases hn0 : 0 ≤ n
    · have hn1 : 64 < n := by omega
      clear h0
      go_enter Tryd.func13, Tryd.ntmps13
      go_wp2_with (first
        | (refine wpList_boxR rfl _ rfl rfl ?_; intro W1 b1 F1 r1; have B1 := Fresh.trans (Below.refl _ w) (Nat.le_refl _) F1; have hn := r1.n))
      all_goals (go_ret; exact ⟨ret_int H1.out.symm, B1⟩)
    · clear h0
      go_enter Tryd.func13, Tryd.ntmps13
      go_wp2_with (first
        | (refine wpList_boxR rfl _ rfl rfl ?_; intro W1 b1 F1 r1; have B1 := Fresh.trans (Below.refl _ w) (Nat.le_refl _) F1; have hn := r1.n))
      all_goals (go_ret; exact ⟨ret_int H1.out.symm, B1⟩)

theorem IsR.drew {w : World} {b : Nat} {n : Int} {f : Nat → Nat} (h : IsR w b n f) : IsR w.drew b n f := h

/-- The rows of On, k of them. -/
def onF (s k : Nat) : Nat → Nat := fun j => if j < k then s &&& 2 ^ j else 0
def onV (n : Int) (s : Nat) : Value := if 0 ≤ n ∧ n ≤ 64 then relv n (onF s n.toNat) else relv 0 void
theorem onF_succ (s k j : Nat) : upd (onF s k) k (s &&& 2 ^ k) j = onF s (k + 1) j := by
  unfold upd onF
  by_cases h : j = k
  · subst h; simp
  · rw [if_neg h]
    by_cases h1 : j < k
    · rw [if_pos h1, if_pos (by omega)]
    · rw [if_neg h1, if_neg (by omega)]
theorem pow_cast (k : Nat) : ((2 : Int) ^ k) = ((2 ^ k : Nat) : Int) := by simp
theorem pow_lt (k : Nat) (h : k < 64) : 2 ^ k < 18446744073709551616 := Nat.pow_lt_pow_right (a := 2) (m := k) (n := 64) (by decide) h
theorem and_pow (s k : Nat) (hs : s < 18446744073709551616) (h : k < 64) : bits .and .u64 (s : Int) ((2 : Int) ^ k) = ((s &&& 2 ^ k : Nat) : Int) := by
  rw [pow_cast]; exact u64_and_nat s _ hs (pow_lt k h)
theorem or_pow (s k : Nat) (hs : s < 18446744073709551616) (h : k < 64) : bits .or .u64 (s : Int) ((2 : Int) ^ k) = ((s ||| 2 ^ k : Nat) : Int) := by
  rw [pow_cast]; exact u64_or_nat s _ hs (pow_lt k h)

set_option maxRecDepth 100000 in
theorem on_any (n : Int) (s : Nat) (w : World) (hs : s < 18446744073709551616) : Calls Tryd.prog 17 #[.int .i64 n, .int .u64 s] w fun e w' => e = .returned (onV n s) ∧ Below w.heap.size w w' := by
  by_cases h0 : 0 ≤ n ∧ n ≤ 64
  · have hd : decide (0 ≤ n ∧ n ≤ 64) = true := decide_eq_true h0
    obtain ⟨N, hNn⟩ : ∃ N : Nat, n = (N : Int) := ⟨n.toNat, by omega⟩
    have hN : N ≤ 64 := by omega
    have HV : Hid (onV n s = relv n (onF s N)) := by
      unfold onV; rw [if_pos h0, hNn]; rfl
    have HN : Hid (n = (N : Int)) := hNn
    clear h0 hNn
    have tk : True := trivial
    go_enter Tryd.func17, Tryd.ntmps17
    go_wp2_with (first
      | (go_at_call 67; refine (fits_any _ _).mono ?_; rintro e w' ⟨rfl, hw'⟩; replace hw' := hw'.symm; subst hw')
      | (refine wpList_allocR rfl rfl ?_; clear tk; intro W1 b1 F1 r1; have B1 := Fresh.trans (Below.refl _ w) (Nat.le_refl _) F1)
      | (refine wpList_allocR rfl rfl ?_; intro W2 b2 F2 r2; replace B1 := Fresh.trans B1 B1.size F2; replace r1 := r1.fresh F2)
      | (refine wpList_buildRN rfl _ rfl rfl ?_)
      | (refine wpList_storeR rfl _ _ rfl rfl rfl r2 ?_; intro W3 U3 r3))
    have hb1 : w.heap.size ≤ b1 := by rw [F1.at']; exact Nat.le_refl _
    have hb2 : b1 < b2 := by rw [F2.at', F1.size]; omega
    replace B1 := U3.trans B1 (by omega)
    replace r1 := r1.upd U3 (by omega)
    go_loopw [14] (fun i wr => ∃ k : Nat, k ≤ N ∧ i = .int .i64 k ∧ IsR wr b2 n (onF s k) ∧ IsR wr b1 0 void ∧ Below w.heap.size w wr) (fun i _ => N - (intOf i).toNat)
    case atStart => exact ⟨0, by omega, rfl, r3.congr (fun i _ => by simp [void, onF]), r1, B1⟩
    case round =>
      obtain ⟨k, hk, rfl, q2, q1, BB⟩ := hrel
      by_cases hlt : k < N
      · have hki : (k : Int) < n := by rw [HN.out]; omega
        have hrow := q2.row k (by omega)
        have hfz := q2.frozen (1 + k)
        have hw := wrap_pow k (by omega)
        have hand := and_pow s k hs (by omega)
        have hs2 := q2.set k (s &&& 2 ^ k) (by omega)
        have BB' := (Upd.setCell wr b2 (1 + k) (.int .u64 ((s &&& 2 ^ k : Nat) : Int))).trans BB (by omega)
        have q1' := q1.upd (Upd.setCell wr b2 (1 + k) (.int .u64 ((s &&& 2 ^ k : Nat) : Int))) (by omega)
        go_wp2
        go_roundw
        case rel => exact ⟨k + 1, by omega, by simp, hs2.congr (fun j _ => onF_succ s k j), q1', BB'⟩
        case measure => simp [intOf]; omega
      · have : k = N := by omega
        subst this
        have hki : ¬ (k : Int) < n := by rw [HN.out]; omega
        go_wp2_with (first
          | (refine wpList_loadR rfl _ rfl rfl q2 ?_)
          | (refine wpList_storeR rfl _ _ rfl rfl rfl q1 ?_; intro W4 U4 r4))
        refine ret_R rfl rfl rfl r4 ⟨by rw [HV.out], U4.trans BB (by omega)⟩
  · have hd : decide (0 ≤ n ∧ n ≤ 64) = false := decide_eq_false h0
    have HV : Hid (onV n s = relv 0 void) := by unfold onV; rw [if_neg h0]; rfl
    go_enter Tryd.func17, Tryd.ntmps17
    go_wp2_with (first
      | (go_at_call 67; refine (fits_any _ _).mono ?_; rintro e w' ⟨rfl, hw'⟩; replace hw' := hw'.symm; subst hw')
      | (refine wpList_allocR rfl rfl ?_; intro W1 b1 F1 r1; have B1 := Fresh.trans (Below.refl _ w) (Nat.le_refl _) F1)
      | (refine wpList_buildR0 rfl rfl ?_)
      | (refine wpList_storeR rfl _ _ rfl rfl rfl r1 ?_; intro W3 U3 r3))
    refine ret_R rfl rfl rfl r3 ⟨by rw [HV.out], U3.trans B1 (by rw [F1.at']; exact Nat.le_refl _)⟩

theorem onF_yes (s k : Nat) (h : s.testBit k = true) : onF s k k ||| 2 ^ k = s &&& 2 ^ k := by
  unfold onF
  rw [if_neg (by omega), Nat.zero_or]
  apply Nat.eq_of_testBit_eq
  intro j
  rw [Nat.testBit_and, Nat.testBit_two_pow]
  by_cases e : k = j
  · subst e; simp [h]
  · simp [e]
theorem onF_no (s k j : Nat) (h : s.testBit k = false) : onF s k j = onF s (k + 1) j := by
  unfold onF
  by_cases h1 : j < k
  · rw [if_pos h1, if_pos (by omega)]
  · rw [if_neg h1]
    by_cases h2 : j = k
    · subst h2
      rw [if_pos (by omega)]
      symm
      apply Nat.eq_of_testBit_eq
      intro i
      rw [Nat.testBit_and, Nat.testBit_two_pow, Nat.zero_testBit]
      by_cases e : j = i
      · subst e; simp [h]
      · simp [e]
    · rw [if_neg (by omega)]

set_option maxRecDepth 100000 in
theorem ron_any (n : Int) (s : Nat) (w : World) (hs : s < 18446744073709551616) : Calls Tryd.prog 18 #[.int .i64 n, .int .u64 s] w fun e w' => e = .returned (onV n s) ∧ Below w.heap.size w w' := by
  by_cases h0 : 0 ≤ n ∧ n ≤ 64
  · obtain ⟨N, hNn⟩ : ∃ N : Nat, n = (N : Int) := ⟨n.toNat, by omega⟩
    have hN : N ≤ 64 := by omega
    have HV : Hid (onV n s = relv n (onF s N)) := by
      unfold onV; rw [if_pos h0, hNn]; rfl
    have HN : Hid (n = (N : Int)) := hNn
    obtain ⟨h01, h02⟩ := h0
    clear hNn
    have tk : True := trivial
    go_enter Tryd.func18, Tryd.ntmps18
    go_wp2_with (first
      | (refine wpList_allocR rfl rfl ?_; clear tk; intro W1 b1 F1 r1; have B1 := Fresh.trans (Below.refl _ w) (Nat.le_refl _) F1)
      | (refine wpList_allocR rfl rfl ?_; intro W2 b2 F2 r2; replace B1 := Fresh.trans B1 B1.size F2; replace r1 := r1.fresh F2)
      | (refine wpList_buildRN rfl _ rfl rfl ?_)
      | (refine wpList_storeR rfl _ _ rfl rfl rfl r2 ?_; intro W3 U3 r3))
    have hb1 : w.heap.size ≤ b1 := by rw [F1.at']; exact Nat.le_refl _
    have hb2 : b1 < b2 := by rw [F2.at', F1.size]; omega
    replace B1 := U3.trans B1 (by omega)
    replace r1 := r1.upd U3 (by omega)
    go_loopw [6] (fun i wr => ∃ k : Nat, k ≤ N ∧ i = .int .i64 k ∧ IsR wr b2 n (onF s k) ∧ IsR wr b1 0 void ∧ Below w.heap.size w wr) (fun i _ => N - (intOf i).toNat)
    case atStart => exact ⟨0, by omega, rfl, r3.congr (fun i _ => by simp [void, onF]), r1, B1⟩
    case round =>
      obtain ⟨k, hk, rfl, q2, q1, BB⟩ := hrel
      by_cases hlt : k < N
      · have hki : (k : Int) < n := by rw [HN.out]; omega
        have ci := in_any s k wr (by omega) hs
        cases hb : s.testBit k
        · rw [hb] at ci
          have HQ : Hid (IsR wr b2 n (onF s (k + 1))) := q2.congr (fun j _ => onF_no s k j hb)
          clear hb
          go_wp2_with (first
            | (go_at_call 71; refine ci.mono ?_; rintro e w' ⟨rfl, hw'⟩; replace hw' := hw'.symm; subst hw'))
          go_roundw
          case rel => exact ⟨k + 1, by omega, by simp, HQ.out, q1, BB⟩
          case measure => simp [intOf]; omega
        · rw [hb] at ci
          have hrow := q2.row k (by omega)
          have hfz := q2.frozen (1 + k)
          have hw := wrap_pow k (by omega)
          have hx0 : onF s k k = 0 := by simp [onF]
          have HX : 2 ^ k = s &&& 2 ^ k := by have := onF_yes s k hb; rw [hx0, Nat.zero_or] at this; exact this
          have HQ : Hid (IsR (wr.setCell ⟨b2, 1 + k, none⟩ (.int .u64 ((2 : Int) ^ k))) b2 n (onF s (k + 1))) := by
            have h1 := (q2.set k (s &&& 2 ^ k) (by omega)).congr (fun j _ => onF_succ s k j)
            rw [← HX] at h1
            rw [pow_cast]; exact h1
          clear HX
          rw [hx0] at hrow
          have hor : bits .or .u64 0 ((2 : Int) ^ k) = ((2 ^ k : Nat) : Int) := by have := or_pow 0 k (by omega) (by omega); rw [Nat.zero_or] at this; exact this
          have U := Upd.setCell wr b2 (1 + k) (.int .u64 ((2 : Int) ^ k))
          clear hb hx0
          go_wp2_with (first
            | (go_at_call 71; refine ci.mono ?_; rintro e w' ⟨rfl, hw'⟩; replace hw' := hw'.symm; subst hw'))
          go_region
          go_wp2
          go_roundw
          case rel => exact ⟨k + 1, by omega, by simp, HQ.out.drew, (q1.upd U (by omega)).drew, (U.trans BB (by omega)).drew⟩
          case measure => simp [intOf]; omega
      · have : k = N := by omega
        subst this
        have hki : ¬ (k : Int) < n := by rw [HN.out]; omega
        go_wp2_with (first
          | (refine wpList_loadR rfl _ rfl rfl q2 ?_)
          | (refine wpList_storeR rfl _ _ rfl rfl rfl q1 ?_; intro W4 U4 r4))
        refine ret_R rfl rfl rfl r4 ⟨by rw [HV.out], U4.trans BB (by omega)⟩
  · have HV : Hid (onV n s = relv 0 void) := by unfold onV; rw [if_neg h0]; rfl
    by_cases h01 : 0 ≤ n
    · have h02 : 64 < n := by omega
      clear h0
      go_enter Tryd.func18, Tryd.ntmps18
      go_wp2_with (first
        | (refine wpList_allocR rfl rfl ?_; intro W1 b1 F1 r1; have B1 := Fresh.trans (Below.refl _ w) (Nat.le_refl _) F1)
        | (refine wpList_buildR0 rfl rfl ?_)
        | (refine wpList_storeR rfl _ _ rfl rfl rfl r1 ?_; intro W3 U3 r3))
      refine ret_R rfl rfl rfl r3 ⟨by rw [HV.out], U3.trans B1 (by rw [F1.at']; exact Nat.le_refl _)⟩
    · clear h0
      go_enter Tryd.func18, Tryd.ntmps18
      go_wp2_with (first
        | (refine wpList_allocR rfl rfl ?_; intro W1 b1 F1 r1; have B1 := Fresh.trans (Below.refl _ w) (Nat.le_refl _) F1)
        | (refine wpList_buildR0 rfl rfl ?_)
        | (refine wpList_storeR rfl _ _ rfl rfl rfl r1 ?_; intro W3 U3 r3))
      refine ret_R rfl rfl rfl r3 ⟨by rw [HV.out], U3.trans B1 (by rw [F1.at']; exact Nat.le_refl _)⟩
end Go.Proofs.YtkccckjiemijeaaDoor

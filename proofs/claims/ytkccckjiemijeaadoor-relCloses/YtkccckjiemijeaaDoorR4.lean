/- The reference's Cross. -/
import Derived.Test.YtkccckjiemijeaaDoorR3
namespace Go.Proofs.YtkccckjiemijeaaDoor
open Go.RowKit M
set_option linter.unusedSimpArgs false
set_option linter.unusedVariables false

def crRow (f t : Nat) (m : Int) (j : Nat) : Nat := if f.testBit j then t &&& bel m else 0
def crF (f t N k m : Nat) : Nat → Nat := fun j => if j < k then crRow f t N j else if j = k then crRow f t m j else 0
def crV (n : Int) (f t : Nat) : Value := if 0 ≤ n ∧ n ≤ 64 then relv n (crF f t n.toNat n.toNat 0) else relv 0 void
theorem bel_zero : bel 0 = 0 := by decide
theorem crRow_zero (f t j : Nat) : crRow f t ((0 : Nat) : Int) j = 0 := by
  show crRow f t 0 j = 0
  unfold crRow; rw [bel_zero]; simp
theorem crF_start (f t N j : Nat) : crF f t N 0 0 j = 0 := by
  unfold crF; rw [if_neg (by omega), crRow_zero]; simp
theorem crF_next (f t N k j : Nat) : crF f t N k N j = crF f t N (k + 1) 0 j := by
  unfold crF
  by_cases h1 : j < k
  · rw [if_pos h1, if_pos (by omega)]
  · rw [if_neg h1]
    by_cases h2 : j = k
    · rw [if_pos h2, if_pos (by omega)]
    · rw [if_neg h2, if_neg (by omega), crRow_zero]; simp
theorem crF_step (f t N k m x j : Nat) (hx : x = crRow f t ((m + 1 : Nat) : Int) k) : upd (crF f t N k m) k x j = crF f t N k (m + 1) j := by
  subst hx
  unfold upd crF
  by_cases h2 : j = k
  · subst h2; simp
  · rw [if_neg h2, if_neg h2, if_neg h2]
theorem crF_at (f t N k m : Nat) : crF f t N k m k = crRow f t m k := by unfold crF; simp
theorem crF_same (f t N k m j : Nat) (h : crRow f t m k = crRow f t ((m + 1 : Nat) : Int) k) : crF f t N k m j = crF f t N k (m + 1) j := by
  unfold crF
  by_cases h2 : j = k
  · subst h2; simp [h]
  · rw [if_neg h2, if_neg h2]
theorem crRow_lt (f t : Nat) (m : Int) (j : Nat) : crRow f t m j < 18446744073709551616 := by
  unfold crRow
  split
  · exact Nat.lt_of_le_of_lt Nat.and_le_right (bel_lt m)
  · omega
theorem crRow_yes (f t m k : Nat) (hm : m < 64) (h1 : f.testBit k = true) (h2 : t.testBit m = true) : crRow f t m k ||| 2 ^ m = crRow f t ((m + 1 : Nat) : Int) k := by
  unfold crRow
  rw [if_pos h1, if_pos h1]
  apply Nat.eq_of_testBit_eq
  intro i
  rw [Nat.testBit_or, Nat.testBit_and, Nat.testBit_and, Nat.testBit_two_pow]
  by_cases hi : i < 64
  · rw [testBit_bel _ _ hi, testBit_bel _ _ hi]
    by_cases e : m = i
    · subst e; simp [h2]; omega
    · have : decide ((i : Int) < (m : Int)) = decide ((i : Int) < ((m + 1 : Nat) : Int)) := by
        rw [decide_eq_decide]; omega
      rw [this]; simp [e]
  · rw [testBit_high (bel_lt _) hi, testBit_high (bel_lt _) hi]
    have : ¬ m = i := by omega
    simp [this]
theorem crRow_no (f t m k : Nat) (hm : m < 64) (h : f.testBit k = false ∨ t.testBit m = false) : crRow f t m k = crRow f t ((m + 1 : Nat) : Int) k := by
  unfold crRow
  split
  · rename_i h1
    have h2 : t.testBit m = false := by rcases h with h | h; · rw [h] at h1; cases h1
                                        · exact h
    apply Nat.eq_of_testBit_eq
    intro i
    rw [Nat.testBit_and, Nat.testBit_and]
    by_cases hi : i < 64
    · rw [testBit_bel _ _ hi, testBit_bel _ _ hi]
      by_cases e : m = i
      · subst e; simp [h2]
      · have : decide ((i : Int) < (m : Int)) = decide ((i : Int) < ((m + 1 : Nat) : Int)) := by
          rw [decide_eq_decide]; omega
        rw [this]
    · rw [testBit_high (bel_lt _) hi, testBit_high (bel_lt _) hi]
  · rfl

set_option maxRecDepth 100000 in
set_option maxHeartbeats 1000000 in
theorem rcross_any (n : Int) (f t : Nat) (w : World) (hf : f < 18446744073709551616) (ht : t < 18446744073709551616) : Calls Tryd.prog 16 #[.int .i64 n, .int .u64 f, .int .u64 t] w fun e w' => e = .returned (crV n f t) ∧ Below w.heap.size w w' := by
  by_cases h0 : 0 ≤ n ∧ n ≤ 64
  · obtain ⟨N, hNn⟩ : ∃ N : Nat, n = (N : Int) := ⟨n.toNat, by omega⟩
    have hN : N ≤ 64 := by omega
    have HV : Hid (crV n f t = relv n (crF f t N N 0)) := by
      unfold crV; rw [if_pos h0, hNn]; rfl
    have HN : Hid (n = (N : Int)) := hNn
    obtain ⟨h01, h02⟩ := h0
    clear hNn
    have tk : True := trivial
    go_enter Tryd.func16, Tryd.ntmps16
    go_wp2_with (first
      | (refine wpList_allocR rfl rfl ?_; clear tk; intro W1 b1 F1 r1; have B1 := Fresh.trans (Below.refl _ w) (Nat.le_refl _) F1)
      | (refine wpList_allocR rfl rfl ?_; intro W2 b2 F2 r2; replace B1 := Fresh.trans B1 B1.size F2; replace r1 := r1.fresh F2)
      | (refine wpList_buildRN rfl _ rfl rfl ?_)
      | (refine wpList_storeR rfl _ _ rfl rfl rfl r2 ?_; intro W3 U3 r3))
    have hb1 : w.heap.size ≤ b1 := by rw [F1.at']; exact Nat.le_refl _
    have hb2 : b1 < b2 := by rw [F2.at', F1.size]; omega
    replace B1 := U3.trans B1 (by omega)
    replace r1 := r1.upd U3 (by omega)
    go_loopw [8] (fun i wr => ∃ k : Nat, k ≤ N ∧ i = .int .i64 k ∧ IsR wr b2 n (crF f t N k 0) ∧ IsR wr b1 0 void ∧ Below w.heap.size w wr) (fun i _ => N - (intOf i).toNat)
    case atStart => exact ⟨0, by omega, rfl, r3.congr (fun i _ => by rw [crF_start]; rfl), r1, B1⟩
    case round =>
      obtain ⟨k, hk, rfl, q2, q1, BB⟩ := hrel
      by_cases hlt : k < N
      · have hki : (k : Int) < n := by rw [HN.out]; omega
        go_wp2
        go_loopw [9] (fun i wr => ∃ m : Nat, m ≤ N ∧ i = .int .i64 m ∧ IsR wr b2 n (crF f t N k m) ∧ IsR wr b1 0 void ∧ Below w.heap.size w wr) (fun i _ => N - (intOf i).toNat)
        case atStart => exact ⟨0, by omega, rfl, q2, q1, BB⟩
        case round =>
          clear q2 q1 BB
          rename_i wr0 _
          obtain ⟨m, hm, rfl, q2, q1, BB⟩ := hrel
          by_cases hml : m < N
          · have hmi : (m : Int) < n := by rw [HN.out]; omega
            have ci := in_any f k wr (by omega) hf
            have cj := in_any t m wr (by omega) ht
            have tk1 : True := trivial
            cases hb : f.testBit k
            · rw [hb] at ci
              have HQ : Hid (IsR wr b2 n (crF f t N k (m + 1))) := q2.congr (fun j _ => crF_same f t N k m j (crRow_no f t m k (by omega) (.inl hb)))
              clear hb
              go_wp2_with (first
                | (go_at_call 71; clear tk1; refine ci.mono ?_; rintro e w' ⟨rfl, hw'⟩; replace hw' := hw'.symm; subst hw'))
              go_roundw
              case rel => exact ⟨m + 1, by omega, by simp, HQ.out, q1, BB⟩
              case measure => simp [intOf]; omega
            · rw [hb] at ci
              cases hb2 : t.testBit m
              · rw [hb2] at cj
                have HQ : Hid (IsR wr b2 n (crF f t N k (m + 1))) := q2.congr (fun j _ => crF_same f t N k m j (crRow_no f t m k (by omega) (.inr hb2)))
                clear hb hb2
                go_wp2_with (first
                  | (go_at_call 71; clear tk1; refine ci.mono ?_; rintro e w' ⟨rfl, hw'⟩; replace hw' := hw'.symm; subst hw')
                  | (go_at_call 71; refine cj.mono ?_; rintro e w' ⟨rfl, hw'⟩; replace hw' := hw'.symm; subst hw'))
                go_roundw
                case rel => exact ⟨m + 1, by omega, by simp, HQ.out, q1, BB⟩
                case measure => simp [intOf]; omega
              · rw [hb2] at cj
                have hrow := q2.row k (by omega)
                have hfz := q2.frozen (1 + k)
                have hw := wrap_pow m (by omega)
                rw [crF_at] at hrow
                have HX := crRow_yes f t m k (by omega) hb hb2
                have HQ : Hid (IsR (wr.setCell ⟨b2, 1 + k, none⟩ (.int .u64 ((crRow f t m k ||| 2 ^ m : Nat) : Int))) b2 n (crF f t N k (m + 1))) :=
                  (q2.set k (crRow f t m k ||| 2 ^ m) (by omega)).congr (fun j _ => crF_step f t N k m _ j HX)
                have hor := or_pow (crRow f t m k) m (crRow_lt f t m k) (by omega)
                generalize crRow f t m k ||| 2 ^ m = y at *
                generalize crRow f t m k = x at *
                have U := Upd.setCell wr b2 (1 + k) (.int .u64 ((y : Nat) : Int))
                clear hb hb2 HX
                go_wp2_with (first
                  | (go_at_call 71; clear tk1; refine ci.mono ?_; rintro e w' ⟨rfl, hw'⟩; replace hw' := hw'.symm; subst hw')
                  | (go_at_call 71; refine cj.mono ?_; rintro e w' ⟨rfl, hw'⟩; replace hw' := hw'.symm; subst hw'))
                go_region
                go_wp2
                go_roundw
                case rel => exact ⟨m + 1, by omega, by simp, HQ.out.drew, (q1.upd U (by omega)).drew, (U.trans BB (by omega)).drew⟩
                case measure => simp [intOf]; omega
          · have : m = N := by omega
            subst this
            have hmi : ¬ (m : Int) < n := by rw [HN.out]; omega
            have HQ : Hid (IsR wr b2 n (crF f t m (k + 1) 0)) := q2.congr (fun j _ => crF_next f t m k j)
            go_wp2
            go_roundw
            case rel => exact ⟨k + 1, by omega, by simp, HQ.out, q1, BB⟩
            case measure => simp [intOf]; omega
      · have : k = N := by omega
        subst this
        have hki : ¬ (k : Int) < n := by rw [HN.out]; omega
        go_wp2_with (first
          | (refine wpList_loadR rfl _ rfl rfl q2 ?_)
          | (refine wpList_storeR rfl _ _ rfl rfl rfl q1 ?_; intro W4 U4 r4))
        refine ret_R rfl rfl rfl r4 ⟨by rw [HV.out], U4.trans BB (by omega)⟩
  · have HV : Hid (crV n f t = relv 0 void) := by unfold crV; rw [if_neg h0]; rfl
    by_cases h01 : 0 ≤ n
    · have h02 : 64 < n := by omega
      clear h0
      go_enter Tryd.func16, Tryd.ntmps16
      go_wp2_with (first
        | (refine wpList_allocR rfl rfl ?_; intro W1 b1 F1 r1; have B1 := Fresh.trans (Below.refl _ w) (Nat.le_refl _) F1)
        | (refine wpList_buildR0 rfl rfl ?_)
        | (refine wpList_storeR rfl _ _ rfl rfl rfl r1 ?_; intro W3 U3 r3))
      refine ret_R rfl rfl rfl r3 ⟨by rw [HV.out], U3.trans B1 (by rw [F1.at']; exact Nat.le_refl _)⟩
    · clear h0
      go_enter Tryd.func16, Tryd.ntmps16
      go_wp2_with (first
        | (refine wpList_allocR rfl rfl ?_; intro W1 b1 F1 r1; have B1 := Fresh.trans (Below.refl _ w) (Nat.le_refl _) F1)
        | (refine wpList_buildR0 rfl rfl ?_)
        | (refine wpList_storeR rfl _ _ rfl rfl rfl r1 ?_; intro W3 U3 r3))
      refine ret_R rfl rfl rfl r3 ⟨by rw [HV.out], U3.trans B1 (by rw [F1.at']; exact Nat.le_refl _)⟩
end Go.Proofs.YtkccckjiemijeaaDoor

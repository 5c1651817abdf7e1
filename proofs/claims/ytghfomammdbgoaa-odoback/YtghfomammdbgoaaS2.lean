/- How many lists a space of weaves has. -/
import Derived.Test.YtghfomammdbgoaaS1
namespace Go.Proofs.Ytghfomammdbgoaa
open Go.RowKit K
set_option linter.unusedSimpArgs false
set_option linter.unusedVariables false

theorem chs_mono (n : Nat) {j k : Nat} (h : j ≤ k) : chs (n + j) j ≤ chs (n + k) k := by
  induction k with
  | zero => obtain rfl : j = 0 := by omega
            exact Nat.le_refl _
  | succ k ih =>
    by_cases e : j = k + 1
    · subst e; exact Nat.le_refl _
    · have := ih (by omega)
      have h2 : chs (n + (k + 1)) (k + 1) = chs (n + k) k + chs (n + k) (k + 1) := chs_pascal (n + k) k
      omega
theorem wvN_take_le (l : List Nat) (k : Nat) : wvN 0 (l.take k) ≤ wvN 0 l := by
  have e : wvN 0 l = wvN 0 (l.take k) * wvN (0 + sumN (l.take k)) (l.drop k) := by rw [← wvN_append, List.take_append_drop]
  rw [e]
  exact Nat.le_mul_of_pos_right _ (wvN_pos _ _)
theorem sumN_take_le (l : List Nat) (k : Nat) : sumN (l.take k) ≤ sumN l := by
  have e : sumN l = sumN (l.take k) + sumN (l.drop k) := by rw [← sumN_append, List.take_append_drop]
  omega
theorem wvN_snoc (l : List Nat) (x : Nat) : wvN 0 (l ++ [x]) = wvN 0 l * chs (sumN l + x) x := by
  rw [wvN_append]; simp [wvN]
theorem sumN_snoc (l : List Nat) (x : Nat) : sumN (l ++ [x]) = sumN l + x := by
  rw [sumN_append]; simp [sumN]

/-- What scale must answer at the numbers that a count of weaves meets. -/
def ScaleAt (l : List Nat) : Prop := ∀ i k, i < l.length → k < l.getD i 0 → wvN 0 (l.take i) * chs (sumN (l.take i) + k) k < 18446744073709551616 → ∀ W : World,
  Calls Try.prog 68 #[.int .u64 (wvN 0 (l.take i) * chs (sumN (l.take i) + k) k : Nat), .int .i64 (sumN (l.take i) + k + 1 : Nat), .int .i64 (k + 1 : Nat)] W
    fun e w' => e = .returned (scV (wvN 0 (l.take i) * chs (sumN (l.take i) + (k + 1)) (k + 1))) ∧ Below W.heap.size W w'

set_option maxRecDepth 100000 in
set_option maxHeartbeats 1000000 in
theorem wsize_any (a : Option Addr) (cap : Nat) (l : List Nat) (w : World) (hN : Hid (Nums w a (zsOf l))) (hl : l.length ≤ 64) (hsum : Hid (sumN l ≤ 64)) (hs : Hid (ScaleAt l)) :
    Calls Try.prog 113 #[.slice a l.length cap] w fun e w' => e = .returned (scV (wvN 0 l)) ∧ Below w.heap.size w w' := by
  go_enter Try.func113, Try.ntmps113
  go_wp2
  go_loopw [4, 5, 12] (fun v s i wr => ∃ k : Nat, k ≤ l.length ∧ i = .int .i64 k ∧ v = .int .u64 (wvN 0 (l.take k) : Nat) ∧ s = .int .i64 (sumN (l.take k) : Nat) ∧ wvN 0 (l.take k) < 18446744073709551616 ∧ Below w.heap.size w wr) (fun _ _ i _ => l.length - (intOf i).toNat)
  case atStart => exact ⟨0, by omega, rfl, rfl, rfl, by simp [wvN], Below.refl _ _⟩
  case round =>
    obtain ⟨k, hk, rfl, rfl, rfl, hp, hB⟩ := hrel
    by_cases hlt : k < l.length
    · obtain ⟨b, off, rfl, hc⟩ := (hN.out.below hB) k (by rw [zsOf_len]; exact hlt)
      rw [zsOf_getD] at hc
      have HW : Hid (wvN 0 (l.take (k + 1)) = wvN 0 (l.take k) * chs (sumN (l.take k) + l.getD k 0) (l.getD k 0)) := (show wvN 0 (l.take (k + 1)) = _ by rw [takeN_snoc l k hlt, wvN_snoc])
      have HS : Hid (sumN (l.take (k + 1)) = sumN (l.take k) + l.getD k 0) := (show sumN (l.take (k + 1)) = _ by rw [takeN_snoc l k hlt, sumN_snoc])
      have HL : Hid (wvN 0 (l.take (k + 1)) ≤ wvN 0 l) := wvN_take_le _ _
      have hss : sumN (l.take k) + l.getD k 0 ≤ 64 := by have := sumN_take_le l (k + 1); have h2 := HS.out; have h3 := hsum.out; omega
      have hcs : Hid (∀ j, j < l.getD k 0 → wvN 0 (l.take k) * chs (sumN (l.take k) + j) j < 18446744073709551616 → ∀ W : World,
        Calls Try.prog 68 #[.int .u64 (wvN 0 (l.take k) * chs (sumN (l.take k) + j) j : Nat), .int .i64 (sumN (l.take k) + j + 1 : Nat), .int .i64 (j + 1 : Nat)] W
          fun e w' => e = .returned (scV (wvN 0 (l.take k) * chs (sumN (l.take k) + (j + 1)) (j + 1))) ∧ Below W.heap.size W w') := fun j hj h W => hs.out k j hlt hj h W
      clear hN hsum hs
      generalize l.getD k 0 = x at *
      obtain ⟨M, hM⟩ : ∃ M, wvN 0 (l.take k) = M := ⟨_, rfl⟩
      obtain ⟨N, hN⟩ : ∃ N, sumN (l.take k) = N := ⟨_, rfl⟩
      rw [hM] at hp HW hcs
      rw [hN] at HW HS hss hcs
      rw [hM, hN]
      clear hM hN
      go_wp2
      go_loopw [4, 5, 17] (fun v s i wr => ∃ j : Nat, j ≤ x ∧ i = .int .i64 j ∧ v = .int .u64 (M * chs (N + j) j : Nat) ∧ s = .int .i64 (N + j : Nat) ∧ M * chs (N + j) j < 18446744073709551616 ∧ Below w.heap.size w wr) (fun _ _ i _ => x - (intOf i).toNat)
      case atStart => exact ⟨0, by omega, rfl, by simp [chs_zero], rfl, by simpa [chs_zero] using hp, hB⟩
      case round =>
        obtain ⟨j, hj, rfl, rfl, rfl, hq, hB1⟩ := hrel
        by_cases hjl : j < x
        · have c2 := hcs.out j hjl hq
          have e1 : ((N + j + 1 : Nat) : Int) = ((N + j : Nat) : Int) + 1 := by omega
          have e2 : ((j + 1 : Nat) : Int) = (j : Int) + 1 := by omega
          rw [e1, e2] at c2
          clear e1 e2
          have HM : Hid (M * chs (N + (j + 1)) (j + 1) ≤ M * chs (N + x) x) := Nat.mul_le_mul_left _ (chs_mono N (by omega))
          have hsj : N + j < 64 := by omega
          obtain ⟨s, hse⟩ : ∃ s, N + j = s := ⟨_, rfl⟩
          have HSE : Hid (N + j = s) := hse
          by_cases hr : M * chs (N + (j + 1)) (j + 1) < 18446744073709551616
          · rw [scV, if_pos hr] at c2
            have HR : Hid (M * chs (N + (j + 1)) (j + 1) < 18446744073709551616) := hr
            replace c2 : Hid _ := c2
            clear hr HM
            obtain ⟨q, hqe⟩ : ∃ q, M * chs (N + (j + 1)) (j + 1) = q := ⟨_, rfl⟩
            have HQ : Hid (M * chs (N + (j + 1)) (j + 1) = q) := hqe
            rw [hqe, hse] at c2
            rw [hse] at hsj
            rw [hse]
            clear hqe
            generalize M * chs s j = p at *
            clear hse
            go_wp2_with (go_at_call 68; refine (c2.out _).mono ?_; rintro e w2 ⟨rfl, hB2⟩)
            go_roundw
            case rel => exact ⟨j + 1, by omega, by go_num, by rw [HQ.out], by have := HSE.out; go_num, HR.out, Below.then hB1 hB2⟩
            case measure => simp [intOf]; omega
          · rw [scV, if_neg hr] at c2
            have E : Hid (scV (wvN 0 l) = .tuple #[.int .u64 0, .bool false]) := if_neg (by have := HL.out; have := HW.out; have := HM.out; omega)
            replace c2 : Hid _ := c2
            clear hr HM
            rw [hse] at c2 hsj
            rw [hse]
            generalize M * chs s j = p at *
            clear hse
            go_wp2_with (go_at_call 68; refine (c2.out _).mono ?_; rintro e w2 ⟨rfl, hB2⟩)
            go_ret2
            exact ⟨congrArg Ending.returned E.out.symm, Below.then hB1 hB2⟩
        · obtain rfl : j = x := by omega
          clear hcs
          rw [← HW.out] at hq
          rw [← HW.out, ← HS.out]
          have HQ : Hid (wvN 0 (l.take (k + 1)) < 18446744073709551616) := hq
          clear hq
          go_wp2
          go_roundw
          case rel => exact ⟨k + 1, by omega, by go_num, rfl, rfl, HQ.out, hB1⟩
          case measure => simp [intOf]; omega
    · obtain rfl : k = l.length := by omega
      rw [List.take_length] at *
      have E : Hid (scV (wvN 0 l) = .tuple #[.int .u64 (wvN 0 l : Nat), .bool true]) := if_pos hp
      clear hN hsum hs
      go_wp2
      go_ret2
      exact ⟨congrArg Ending.returned E.out.symm, hB⟩
end Go.Proofs.Ytghfomammdbgoaa

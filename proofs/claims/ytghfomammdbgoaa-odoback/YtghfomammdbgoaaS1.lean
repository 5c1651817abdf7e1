/- How many lists a space has: of products and of orders. -/
import Derived.Test.YtghfomammdbgoaaD1
namespace Go.Proofs.Ytghfomammdbgoaa
open Go.RowKit K
set_option linter.unusedSimpArgs false
set_option linter.unusedVariables false

set_option maxHeartbeats 1000000 in
theorem index0_any (a : Option Addr) (cap : Nat) (l : List Nat) (w : World) (hN : Hid (Nums w a (zsOf l))) (hl : l.length ≤ 1152921504606846976) :
    Calls Try.prog 70 #[.slice a l.length cap, .int .i64 0] w fun e w' => (∃ r : Int, e = .returned (.int .i64 r) ∧ (0 ≤ r ↔ 0 ∈ l)) ∧ w' = w := by
  go_enter Try.func70, Try.ntmps70
  go_wp2
  go_loop [8] (fun i => ∃ k : Nat, k ≤ l.length ∧ Hid (0 ∉ l.take k) ∧ i = .int .i64 k) (fun i => l.length - (intOf i).toNat)
  case atStart => exact ⟨0, by omega, by simp [Hid], rfl⟩
  case round =>
    obtain ⟨k, hk, HF, rfl⟩ := hrel
    by_cases hlt : k < l.length
    · obtain ⟨b, off, rfl, hc⟩ := hN.out k (by rw [zsOf_len]; exact hlt)
      rw [zsOf_getD] at hc
      have HS : Hid (l.take (k + 1) = l.take k ++ [l.getD k 0]) := takeN_snoc l k hlt
      have HM : Hid (l.getD k 0 ∈ l) := getD_mem hlt
      clear hN
      generalize l.getD k 0 = x at *
      by_cases hx : x = 0
      · subst hx
        go_wp2
        go_ret
        exact ⟨⟨_, rfl, fun _ => HM.out, fun _ => by omega⟩, rfl⟩
      · go_wp2
        go_round
        case rel => exact ⟨k + 1, by omega, by rw [HS.out]; have h1 := HF.out; simp only [List.mem_append, List.mem_singleton]; rintro (h | h); exact h1 h; omega, by go_num⟩
        case measure => simp [intOf]; omega
    · obtain rfl : k = l.length := by omega
      rw [List.take_length] at HF
      go_wp2
      go_ret
      exact ⟨⟨_, rfl, fun h => absurd h (by decide), fun h => absurd h HF.out⟩, rfl⟩

theorem contains0_any (a : Option Addr) (cap : Nat) (l : List Nat) (w : World) (hN : Hid (Nums w a (zsOf l))) (hl : l.length ≤ 1152921504606846976) :
    Calls Try.prog 67 #[.slice a l.length cap, .int .i64 0] w fun e w' => e = .returned (.bool (decide (0 ∈ l))) ∧ w' = w := by
  have c := index0_any a cap l w hN hl
  clear hN
  go_enter Try.func67, Try.ntmps67
  go_wp2_with (go_at_call 70; refine c.mono ?_; rintro e w' ⟨⟨r, rfl, hr⟩, hw'⟩; replace hw' := hw'.symm; subst hw')
  go_ret
  refine ⟨?_, rfl⟩
  have : decide (0 ≤ r) = decide (0 ∈ l) := by simp only [hr]
  rw [← this]
  rfl

set_option maxRecDepth 100000 in
set_option maxHeartbeats 1000000 in
theorem psize_any (a : Option Addr) (cap : Nat) (l : List Nat) (w : World) (hN : Hid (Nums w a (zsOf l))) (hl : l.length ≤ 64) (hx : Hid (∀ n ∈ l, n < 9223372036854775808)) :
    Calls Try.prog 65 #[.slice a l.length cap] w fun e w' => e = .returned (scV (prodN l)) ∧ Below w.heap.size w w' := by
  have c := contains0_any a cap l w hN (by omega)
  by_cases h0 : 0 ∈ l
  · have E : Hid (scV (prodN l) = .tuple #[.int .u64 0, .bool true]) := (show scV (prodN l) = _ by rw [prodN_zero h0]; rfl)
    rw [decide_eq_true h0] at c
    clear h0
    go_enter Try.func65, Try.ntmps65
    go_wp2_with (go_at_call 67; refine c.mono ?_; rintro e w' ⟨rfl, hw'⟩; replace hw' := hw'.symm; subst hw')
    go_ret2
    exact ⟨congrArg Ending.returned E.out.symm, Below.refl _ _⟩
  · have H0 : Hid (0 ∉ l) := h0
    rw [decide_eq_false h0] at c
    clear h0
    go_enter Try.func65, Try.ntmps65
    go_wp2_with (go_at_call 67; refine c.mono ?_; rintro e w' ⟨rfl, hw'⟩; replace hw' := hw'.symm; subst hw')
    clear c
    go_loopw [4, 12] (fun v i wr => ∃ k : Nat, k ≤ l.length ∧ i = .int .i64 k ∧ v = .int .u64 (prodN (l.take k) : Nat) ∧ prodN (l.take k) < 18446744073709551616 ∧ Below w.heap.size w wr) (fun _ i _ => l.length - (intOf i).toNat)
    case atStart => exact ⟨0, by omega, rfl, rfl, by simp [prodN], Below.refl _ _⟩
    case round =>
      obtain ⟨k, hk, rfl, rfl, hp, hB⟩ := hrel
      by_cases hlt : k < l.length
      · obtain ⟨b, off, rfl, hc⟩ := (hN.out.below hB) k (by rw [zsOf_len]; exact hlt)
        rw [zsOf_getD] at hc
        have HS : Hid (prodN (l.take (k + 1)) = prodN (l.take k) * l.getD k 0) := (show prodN (l.take (k + 1)) = _ by rw [takeN_snoc l k hlt, prodN_snoc])
        have HL : Hid (prodN (l.take (k + 1)) ≤ prodN l) := prodN_take_le H0.out _
        have hb := hx.out _ (getD_mem hlt)
        have c2 := scale_one (prodN (l.take k)) (l.getD k 0) hp hb wr
        clear hN hx H0
        generalize l.getD k 0 = x at *
        by_cases hq : prodN (l.take k) * x < 18446744073709551616
        · rw [scV, if_pos hq] at c2
          rw [← HS.out] at hq c2
          obtain ⟨q, hqe⟩ : ∃ q, prodN (l.take (k + 1)) = q := ⟨_, rfl⟩
          have HQ : Hid (prodN (l.take (k + 1)) = q) := hqe
          rw [hqe] at hq c2
          clear HS HL hqe
          generalize prodN (l.take k) = p at *
          go_wp2_with (go_at_call 68; refine c2.mono ?_; rintro e w2 ⟨rfl, hB2⟩)
          go_roundw
          case rel => exact ⟨k + 1, by omega, by go_num, by rw [HQ.out], by rw [HQ.out]; exact hq, Below.then hB hB2⟩
          case measure => simp [intOf]; omega
        · rw [scV, if_neg hq] at c2
          have E : Hid (scV (prodN l) = .tuple #[.int .u64 0, .bool false]) := if_neg (by have := HL.out; have := HS.out; omega)
          generalize prodN (l.take k) = p at *
          clear HS HL
          go_wp2_with (go_at_call 68; refine c2.mono ?_; rintro e w2 ⟨rfl, hB2⟩)
          go_ret2
          exact ⟨congrArg Ending.returned E.out.symm, Below.then hB hB2⟩
      · obtain rfl : k = l.length := by omega
        rw [List.take_length] at *
        have E : Hid (scV (prodN l) = .tuple #[.int .u64 (prodN l : Nat), .bool true]) := if_pos hp
        clear hN hx H0
        go_wp2
        go_ret2
        exact ⟨congrArg Ending.returned E.out.symm, hB⟩

set_option maxRecDepth 100000 in
set_option maxHeartbeats 1000000 in
theorem osize_any (n : Nat) (w : World) (hn : n ≤ 64) :
    Calls Try.prog 80 #[.int .i64 n] w fun e w' => e = .returned (scV (factN n)) ∧ Below w.heap.size w w' := by
  go_enter Try.func80, Try.ntmps80
  go_wp2
  go_loopw [4, 8] (fun v i wr => ∃ k : Nat, k ≤ n ∧ i = .int .i64 k ∧ v = .int .u64 (factN k : Nat) ∧ factN k < 18446744073709551616 ∧ Below w.heap.size w wr) (fun _ i _ => n - (intOf i).toNat)
  case atStart => exact ⟨0, by omega, rfl, rfl, by simp [factN], Below.refl _ _⟩
  case round =>
    obtain ⟨k, hk, rfl, rfl, hp, hB⟩ := hrel
    by_cases hlt : k < n
    · have c2 := scale_one (factN k) (k + 1) hp (by omega) wr
      have HS : Hid (factN (k + 1) = factN k * (k + 1)) := rfl
      have HL : Hid (factN (k + 1) ≤ factN n) := factN_mono (by omega)
      rw [← HS.out] at c2
      have e1 : ((k + 1 : Nat) : Int) = (k : Int) + 1 := by omega
      rw [e1] at c2
      clear e1
      by_cases hq : factN (k + 1) < 18446744073709551616
      · rw [scV, if_pos hq] at c2
        obtain ⟨q, hqe⟩ : ∃ q, factN (k + 1) = q := ⟨_, rfl⟩
        have HQ : Hid (factN (k + 1) = q) := hqe
        rw [hqe] at hq c2
        clear HS HL hqe
        generalize factN k = p at *
        go_wp2_with (go_at_call 68; refine c2.mono ?_; rintro e w2 ⟨rfl, hB2⟩)
        go_roundw
        case rel => exact ⟨k + 1, by omega, by go_num, by rw [HQ.out], by rw [HQ.out]; exact hq, Below.then hB hB2⟩
        case measure => simp [intOf]; omega
      · rw [scV, if_neg hq] at c2
        have E : Hid (scV (factN n) = .tuple #[.int .u64 0, .bool false]) := if_neg (by have := HL.out; have := HS.out; omega)
        generalize factN k = p at *
        clear HS HL
        go_wp2_with (go_at_call 68; refine c2.mono ?_; rintro e w2 ⟨rfl, hB2⟩)
        go_ret2
        exact ⟨congrArg Ending.returned E.out.symm, Below.then hB hB2⟩
    · obtain rfl : k = n := by omega
      have E : Hid (scV (factN k) = .tuple #[.int .u64 (factN k : Nat), .bool true]) := if_pos hp
      go_wp2
      go_ret2
      exact ⟨congrArg Ending.returned E.out.symm, hB⟩
end Go.Proofs.Ytghfomammdbgoaa

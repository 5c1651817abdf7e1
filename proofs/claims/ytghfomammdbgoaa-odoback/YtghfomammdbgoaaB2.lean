/- Weaves that are refused; each kind as the law meets it. -/
import Derived.Test.YtghfomammdbgoaaB1
namespace Go.Proofs.Ytghfomammdbgoaa
open Go.RowKit Go.Shelf Go.Sort K
set_option linter.unusedSimpArgs false
set_option linter.unusedVariables false

set_option maxRecDepth 100000 in
theorem weaves_bad (a : Option Addr) (cap : Nat) (zs : List Int) (w : World) (hN : Nums w a zs) (hl : zs.length ≤ 1152921504606846976) (hc : chkE zs ≠ 0) :
    Calls Try.prog 26 #[.slice a zs.length cap] w fun e w' => e = .returned (.tuple #[.pointer none, .int .i64 (chkE zs)]) ∧ w' = w := by
  have c1 := check_any a cap zs w hN hl
  clear hN
  go_enter Try.func26, Try.ntmps26
  go_wp2_with (first
    | (go_at_call 36; refine c1.mono ?_; rintro e w' ⟨rfl, hw'⟩; replace hw' := hw'.symm; subst hw'))
  go_ret2
  exact ⟨rfl, rfl⟩

set_option maxRecDepth 100000 in
set_option maxHeartbeats 1000000 in
theorem weaves_long (a : Option Addr) (cap : Nat) (l : List Nat) (w : World) (hN : Hid (Nums w a (zsOf l))) (hl : l.length ≤ 64) (hx : Hid (¬ sumN l ≤ 64)) (hb : Hid (∀ n ∈ l, n < 9223372036854775808)) :
    Calls Try.prog 26 #[.slice a l.length cap] w fun e w' => e = .returned (.tuple #[.pointer none, .int .i64 1]) ∧ w' = w := by
  have c1 := check_any a cap (zsOf l) w hN (by rw [zsOf_len]; omega)
  rw [chk_nat l hl] at c1
  rw [zsOf_len] at c1
  go_enter Try.func26, Try.ntmps26
  go_wp2_with (first
    | (go_at_call 36; refine c1.mono ?_; rintro e w' ⟨rfl, hw'⟩; replace hw' := hw'.symm; subst hw'))
  clear c1
  go_loop [5, 15] (fun r i => ∃ k : Nat, k ≤ l.length ∧ i = .int .i64 k ∧ r = .int .i64 (64 - (sumN (l.take k) : Nat) : Int) ∧ sumN (l.take k) ≤ 64) (fun _ i => l.length - (intOf i).toNat)
  case atStart => exact ⟨0, by omega, rfl, rfl, by simp [sumN]⟩
  case round =>
    obtain ⟨k, hk, rfl, rfl, hs⟩ := hrel
    by_cases hlt : k < l.length
    · obtain ⟨b, off, rfl, hc⟩ := hN.out k (by rw [zsOf_len]; exact hlt)
      rw [zsOf_getD] at hc
      have HS : Hid (sumN (l.take (k + 1)) = sumN (l.take k) + l.getD k 0) := (show sumN (l.take (k + 1)) = _ by rw [takeN_snoc l k hlt, sumN_snoc])
      have hxb := hb.out _ (getD_mem hlt)
      clear hN hx hb
      generalize l.getD k 0 = x at *
      obtain ⟨N, hN⟩ : ∃ N, sumN (l.take k) = N := ⟨_, rfl⟩
      rw [hN] at HS hs
      rw [hN]
      clear hN
      by_cases h1 : (64 : Int) - (N : Int) < (x : Int)
      · clear hxb
        go_wp2
        go_ret2
        exact ⟨rfl, rfl⟩
      · clear hxb
        go_wp2
        go_round
        case rel => exact ⟨k + 1, by omega, by go_num, by have := HS.out; go_num, by rw [HS.out]; omega⟩
        case measure => simp [intOf]; omega
    · obtain rfl : k = l.length := by omega
      rw [List.take_length] at hs
      exact absurd hs hx.out
end Go.Proofs.Ytghfomammdbgoaa

/- What At answers. -/
import Derived.Test.YtkjaphmcagifpaaDoorW2
namespace Go.Proofs.YtkjaphmcagifpaaDoor
open Go.RowKit M
set_option linter.unusedSimpArgs false
set_option linter.unusedVariables false

theorem at_any (s : Nat) (k : Int) (w : World) (hs : s < 18446744073709551616) (hT : TabAt w) :
    Calls Tryd.prog 19 #[.int .u64 s, .int .i64 k] w fun e w' => e = .returned (.int .i64 (atN s k)) ∧ w' = w := by
  have c1 := size_any s w hs
  have hle := length_lst_le s
  by_cases h0 : k < 0
  · have e : atN s k = -1 := by simp [atN, h0]
    rw [e]
    clear hT e
    go_enter Tryd.func19, Tryd.ntmps19
    go_wp2_with (go_at_call 15; refine c1.mono ?_; rintro e w' ⟨rfl, rfl⟩)
    go_ret
    exact ⟨rfl, rfl⟩
  · by_cases h1 : ((lst s).length : Int) ≤ k
    · have e : atN s k = -1 := by simp [atN, h1]
      rw [e]
      clear hT e
      generalize (lst s).length = n at *
      go_enter Tryd.func19, Tryd.ntmps19
      go_wp2_with (go_at_call 15; refine c1.mono ?_; rintro e w' ⟨rfl, rfl⟩)
      go_ret
      exact ⟨rfl, rfl⟩
    · obtain ⟨K, rfl⟩ := Int.eq_ofNat_of_zero_le (show 0 ≤ k by omega)
      obtain ⟨hne, hat⟩ := dropN_ne K s hs (by omega)
      have c2 := lowest_any _ w (dropN_lt K s hs) hne hT
      rw [hat] at c2
      have HD : Hid (∀ j, dropN (j + 1) s = dropN j s &&& (dropN j s - 1)) := fun j => rfl
      have HL : Hid (∀ j, dropN j s < 2 ^ 64) := fun j => dropN_lt j s hs
      have HN : Hid (∀ j, j < K → dropN j s ≠ 0) := fun j hj => (dropN_ne j s hs (by omega)).1
      have hz : dropN 0 s = s := rfl
      clear hat hT hne
      generalize (lst s).length = n at *
      generalize atN s K = r at *
      go_enter Tryd.func19, Tryd.ntmps19
      go_wp2_with (go_at_call 15; refine c1.mono ?_; rintro e w' ⟨rfl, rfl⟩)
      go_loop [0, 14] (fun v i => ∃ j : Nat, j ≤ K ∧ i = .int .i64 j ∧ v = .int .u64 (dropN j s : Nat)) (fun _ i => K - (intOf i).toNat)
      case atStart => exact ⟨0, by omega, rfl, by rw [hz]⟩
      case round =>
        obtain ⟨j, hj, rfl, rfl⟩ := hrel
        clear hz c1
        by_cases h2 : j < K
        · have g1 := HL.out j
          have g2 := HN.out j h2
          have g3 := HD.out j
          generalize dropN j s = t at *
          have key : bits BinOp.and IntKind.u64 (t : Int) ((t : Int) - 1) = ((t &&& (t - 1) : Nat) : Int) := by
            have := u64_and_nat t (t - 1) g1 (by omega)
            rw [← this, Int.ofNat_sub (by omega)]; rfl
          have H3 : Hid (dropN (j + 1) s = t &&& (t - 1)) := g3
          clear g3 c2
          go_wp2
          go_round
          case rel => exact ⟨j + 1, by omega, by go_num, by rw [H3.out]⟩
          case measure => simp [intOf]; omega
        · obtain rfl : j = K := by omega
          go_wp2_with (go_at_call 45; refine c2.mono ?_; rintro e w' ⟨rfl, rfl⟩)
          go_ret
          exact ⟨rfl, rfl⟩
end Go.Proofs.YtkjaphmcagifpaaDoor

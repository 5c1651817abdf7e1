/- The reference's Place. -/
import Derived.Test.YtpbcngnginffgaaJ4
namespace Go.Proofs.Ytpbcngnginffgaa
open Go.RowKit M
set_option linter.unusedSimpArgs false
set_option linter.unusedVariables false

/-- What Place answers. -/
def placeV (s : ByteArray) (p : Int) : Value := if 0 ≤ p ∧ p ≤ s.size then .tuple #[.int .i64 ((spotF (1, 1) (s.data.toList.take p.toNat)).1 : Nat), .int .i64 ((spotF (1, 1) (s.data.toList.take p.toNat)).2 : Nat), .bool true] else .tuple #[.int .i64 0, .int .i64 0, .bool false]

theorem spot_snocP (s : ByteArray) (n : Nat) (h : n < s.size) (p : Nat × Nat) : spotF p (s.data.toList.take (n + 1)) = stepP (spotF p (s.data.toList.take n)) s[n] := by
  rw [List.take_succ_eq_append_getElem (by simpa using h), spot_app]; rfl

set_option maxRecDepth 100000 in
set_option maxHeartbeats 1000000 in
theorem rPlaceF_any (s : ByteArray) (hs : s.size < 4611686018427387904) (p : Int) (w : World) : Calls Try.prog 26 #[.string s, .int .i64 p] w fun e w' => e = .returned (placeV s p) ∧ w' = w := by
  by_cases h : 0 ≤ p ∧ p ≤ s.size
  · obtain ⟨q, rfl⟩ : ∃ q : Nat, p = q := ⟨p.toNat, by omega⟩
    have hE : Hid (placeV s q = .tuple #[.int .i64 ((spotF (1, 1) (s.data.toList.take q)).1 : Nat), .int .i64 ((spotF (1, 1) (s.data.toList.take q)).2 : Nat), .bool true]) := if_pos h
    have h1 : ¬ ((q : Int) < 0) := by omega
    have h2 : ¬ ((s.size : Int) < q) := by omega
    have h2' : ¬ (s.size < q) := by omega
    have hq : q ≤ s.size := by omega
    clear h
    go_enter Try.func26, Try.ntmps26
    go_wp2
    go_loop [7, 8, 9] (fun l c i => ∃ k a b : Nat, k ≤ q ∧ i = .int .i64 (k : Int) ∧ l = .int .i64 (a : Int) ∧ c = .int .i64 (b : Int) ∧ a < 4611686018427387905 + k ∧ b < 4611686018427387905 + k ∧ Hid (spotF (1, 1) (s.data.toList.take k) = (a, b))) (fun _ _ i => q - (intOf i).toNat)
    case atStart => exact ⟨0, 1, 1, by omega, rfl, rfl, rfl, by omega, by omega, rfl⟩
    case round =>
      obtain ⟨k, a, b, hk, rfl, rfl, rfl, ha, hb, HK⟩ := hrel
      by_cases hlt : k < q
      · have hks : k < s.size := by omega
        have hi : (k : Int) < q := by omega
        have hi2 : (k : Int) < s.size := by omega
        by_cases h10 : s[k].toNat = 10
        · have x : ((s[k].toNat : Int) == 10) = true := by simp; omega
          have HN : Hid (spotF (1, 1) (s.data.toList.take (k + 1)) = (a + 1, 1)) := (by show spotF _ _ = _; rw [spot_snocP s k hks, HK.out]; exact if_pos h10)
          clear h10 HK
          go_wp2
          go_round
          case rel => exact ⟨k + 1, a + 1, 1, by omega, by go_num, by go_num, rfl, by omega, by omega, HN⟩
          case measure => simp [intOf]; omega
        · have x : ((s[k].toNat : Int) == 10) = false := by simp; omega
          have HN : Hid (spotF (1, 1) (s.data.toList.take (k + 1)) = (a, b + 1)) := (by show spotF _ _ = _; rw [spot_snocP s k hks, HK.out]; exact if_neg h10)
          clear h10 HK
          go_wp2
          go_round
          case rel => exact ⟨k + 1, a, b + 1, by omega, by go_num, rfl, by go_num, by omega, by omega, HN⟩
          case measure => simp [intOf]; omega
      · obtain rfl : k = q := by omega
        rw [HK.out] at hE
        go_wp2
        go_ret3
        exact ⟨by rw [hE.out]; rfl, rfl⟩
  · have hE : Hid (placeV s p = .tuple #[.int .i64 0, .int .i64 0, .bool false]) := if_neg h
    by_cases h1 : p < 0
    · clear h
      go_enter Try.func26, Try.ntmps26
      go_wp2
      go_ret3
      exact ⟨by rw [hE.out]; rfl, rfl⟩
    · have h2 : (s.size : Int) < p := by omega
      clear h
      go_enter Try.func26, Try.ntmps26
      go_wp2
      go_ret3
      exact ⟨by rw [hE.out]; rfl, rfl⟩

end Go.Proofs.Ytpbcngnginffgaa

/- The reference's Place; the law LexisPlaces. -/
import Derived.Test.YtbelajboalikcaaX5
namespace Go.Proofs.Ytbelajboalikcaa
open Go.RowKit M
set_option linter.unusedSimpArgs false
set_option linter.unusedVariables false

/-- What Place answers. -/
def placeV (s : ByteArray) (p : Int) : Value := if 0 ≤ p ∧ p ≤ s.size then .tuple #[.int .i64 ((spotF (1, 1) (s.data.toList.take p.toNat)).1 : Nat), .int .i64 ((spotF (1, 1) (s.data.toList.take p.toNat)).2 : Nat), .bool true] else .tuple #[.int .i64 0, .int .i64 0, .bool false]

set_option maxRecDepth 100000 in
set_option maxHeartbeats 1000000 in
theorem place_any (s : ByteArray) (hs : s.size < 4611686018427387904) (p : Int) (w : World) : Calls Try.prog 18 #[.string s, .int .i64 p] w fun e w' => e = .returned (placeV s p) ∧ Below w.heap.size w w' := by
  by_cases h : 0 ≤ p ∧ p ≤ s.size
  · obtain ⟨q, rfl⟩ : ∃ q : Nat, p = q := ⟨p.toNat, by omega⟩
    refine (place_in s hs q (by omega) w).mono ?_
    rintro e w' ⟨rfl, hB⟩
    exact ⟨by unfold placeV; rw [if_pos h]; rfl, hB⟩
  · have hE : Hid (placeV s p = .tuple #[.int .i64 0, .int .i64 0, .bool false]) := if_neg h
    by_cases h1 : p < 0
    · clear h
      go_enter Try.func18, Try.ntmps18
      go_wp2
      go_ret3
      exact ⟨by rw [hE.out]; rfl, Below.refl _ _⟩
    · have h2 : (s.size : Int) < p := by omega
      clear h
      go_enter Try.func18, Try.ntmps18
      go_wp2
      go_ret3
      exact ⟨by rw [hE.out]; rfl, Below.refl _ _⟩

theorem spot_snoc (s : ByteArray) (n : Nat) (h : n < s.size) (p : Nat × Nat) : spotF p (s.data.toList.take (n + 1)) = stepP (spotF p (s.data.toList.take n)) s[n] := by
  rw [List.take_succ_eq_append_getElem (by simpa using h), spot_app]; rfl

set_option maxRecDepth 100000 in
set_option maxHeartbeats 1000000 in
theorem rplace_any (s : ByteArray) (hs : s.size < 4611686018427387904) (p : Int) (w : World) : Calls Try.prog 19 #[.string s, .int .i64 p] w fun e w' => e = .returned (placeV s p) ∧ w' = w := by
  by_cases h : 0 ≤ p ∧ p ≤ s.size
  · obtain ⟨q, rfl⟩ : ∃ q : Nat, p = q := ⟨p.toNat, by omega⟩
    have hE : Hid (placeV s q = .tuple #[.int .i64 ((spotF (1, 1) (s.data.toList.take q)).1 : Nat), .int .i64 ((spotF (1, 1) (s.data.toList.take q)).2 : Nat), .bool true]) := if_pos h
    have h1 : ¬ ((q : Int) < 0) := by omega
    have h2 : ¬ ((s.size : Int) < q) := by omega
    have h2' : ¬ (s.size < q) := by omega
    have hq : q ≤ s.size := by omega
    clear h
    go_enter Try.func19, Try.ntmps19
    go_wp2
    go_loop [7, 8, 9] (fun l c i => ∃ k a b : Nat, k ≤ q ∧ i = .int .i64 (k : Int) ∧ l = .int .i64 (a : Int) ∧ c = .int .i64 (b : Int) ∧ a < 4611686018427387905 + k ∧ b < 4611686018427387905 + k ∧ Hid (spotF (1, 1) (s.data.toList.take k) = (a, b))) (fun _ _ i => q - (intOf i).toNat)
    case atStart => exact ⟨0, 1, 1, by omega, rfl, rfl, rfl, by omega, by omega, rfl⟩
    case round =>
      obtain ⟨k, a, b, hk, rfl, rfl, rfl, ha, hb, HK⟩ := hrel
      by_cases hlt : k < q
      · have hks : k < s.size := by omega
        have hi : (k : Int) < q := by omega
        have hi2 : (k : Int) < s.size := by omega
        by_cases h10 : s[k].toNat = 10
        · have x : ((s[k].toNat : Int) == 10) = true := by simp; omega
          have HN : Hid (spotF (1, 1) (s.data.toList.take (k + 1)) = (a + 1, 1)) := (by show spotF _ _ = _; rw [spot_snoc s k hks, HK.out]; exact if_pos h10)
          clear h10 HK
          go_wp2
          go_round
          case rel => exact ⟨k + 1, a + 1, 1, by omega, by go_num, by go_num, rfl, by omega, by omega, HN⟩
          case measure => simp [intOf]; omega
        · have x : ((s[k].toNat : Int) == 10) = false := by simp; omega
          have HN : Hid (spotF (1, 1) (s.data.toList.take (k + 1)) = (a, b + 1)) := (by show spotF _ _ = _; rw [spot_snoc s k hks, HK.out]; exact if_neg h10)
          clear h10 HK
          go_wp2
          go_round
          case rel => exact ⟨k + 1, a, b + 1, by omega, by go_num, rfl, by go_num, by omega, by omega, HN⟩
          case measure => simp [intOf]; omega
      · obtain rfl : k = q := by omega
        rw [HK.out] at hE
        go_wp2
        go_ret3
        exact ⟨by rw [hE.out]; rfl, rfl⟩
  · have hE : Hid (placeV s p = .tuple #[.int .i64 0, .int .i64 0, .bool false]) := if_neg h
    by_cases h1 : p < 0
    · clear h
      go_enter Try.func19, Try.ntmps19
      go_wp2
      go_ret3
      exact ⟨by rw [hE.out]; rfl, rfl⟩
    · have h2 : (s.size : Int) < p := by omega
      clear h
      go_enter Try.func19, Try.ntmps19
      go_wp2
      go_ret3
      exact ⟨by rw [hE.out]; rfl, rfl⟩

theorem placeV_eq (s : ByteArray) (p : Int) : ∃ a b : Int, ∃ c : Bool, placeV s p = .tuple #[.int .i64 a, .int .i64 b, .bool c] := by
  unfold placeV
  split
  · exact ⟨_, _, _, rfl⟩
  · exact ⟨_, _, _, rfl⟩

set_option maxRecDepth 100000 in
set_option maxHeartbeats 1000000 in
theorem places_any (s : ByteArray) (hs : s.size < 4611686018427387904) (p : Int) (w : World) : Calls Try.prog 5 #[.string s, .int .i64 p] w fun e w' => e = .returned (.bool true) ∧ Below w.heap.size w w' := by
  have hm : s.size ≤ maxLen := by unfold maxLen; omega
  have c1 := fun w => place_any s hs p w
  have c2 := fun w => rplace_any s hs p w
  have c3 := fun w => name_any s hm w
  have c4 := fun w => rName_any s hm w
  obtain ⟨a, b, c, h⟩ := placeV_eq s p
  rw [h] at c1 c2
  clear h
  generalize nameB s.data.toList = d at *
  cases c <;> cases d
  all_goals
    go_enter Try.func5, Try.ntmps5
    go_wp2_with (first
      | (go_at_call 18; refine (c1 _).mono ?_; rintro e w1 ⟨rfl, hB1⟩)
      | (go_at_call 19; refine (c2 _).mono ?_; rintro e w' ⟨rfl, hw'⟩; replace hw' := hw'.symm; subst hw')
      | (go_at_call 20; refine (c3 _).mono ?_; rintro e w' ⟨rfl, hw'⟩; replace hw' := hw'.symm; subst hw')
      | (go_at_call 21; refine (c4 _).mono ?_; rintro e w' ⟨rfl, hw'⟩; replace hw' := hw'.symm; subst hw'))
    go_ret
    exact ⟨by simp, hB1⟩
end Go.Proofs.Ytbelajboalikcaa

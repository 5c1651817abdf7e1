/- nameLength, the reference's name; both Names. -/
import Derived.Test.YtopnbemodlcknaaDoorX2
namespace Go.Proofs.YtopnbemodlcknaaDoor
open Go.RowKit M
set_option linter.unusedSimpArgs false
set_option linter.unusedVariables false

theorem run_go (s : ByteArray) (n : Nat) (h : n < s.size) (hc : (innN s[n].toNat || joinsB (s.data.toList.drop n)) = true) : nameRun (s.data.toList.drop n) = 1 + nameRun (s.data.toList.drop (n + 1)) := by
  rw [drop_cons s n h] at hc ⊢
  show (if innN s[n].toNat || joinsB (s[n] :: s.data.toList.drop (n + 1)) then 1 + nameRun (s.data.toList.drop (n + 1)) else 0) = _
  rw [if_pos hc]
theorem run_stop (s : ByteArray) (n : Nat) (h : n < s.size) (hc : (innN s[n].toNat || joinsB (s.data.toList.drop n)) = false) : nameRun (s.data.toList.drop n) = 0 := by
  rw [drop_cons s n h] at hc ⊢
  show (if innN s[n].toNat || joinsB (s[n] :: s.data.toList.drop (n + 1)) then 1 + nameRun (s.data.toList.drop (n + 1)) else 0) = _
  rw [if_neg (by rw [hc]; decide)]
theorem len_go (s : ByteArray) (a : Nat) (h : a < s.size) (hc : letN s[a].toNat = true) : nameLen (s.data.toList.drop a) = 1 + nameRun (s.data.toList.drop (a + 1)) := by
  rw [drop_cons s a h]
  show (if letN s[a].toNat then _ else _) = _
  rw [if_pos hc]
theorem len_stop (s : ByteArray) (a : Nat) (h : a < s.size) (hc : letN s[a].toNat = false) : nameLen (s.data.toList.drop a) = 0 := by
  rw [drop_cons s a h]
  show (if letN s[a].toNat then _ else _) = _
  rw [if_neg (by rw [hc]; decide)]

set_option maxRecDepth 100000 in
set_option maxHeartbeats 1000000 in
theorem nameLength_any (s : ByteArray) (hs : s.size ≤ maxLen) (h0 : 0 < s.size) (w : World) : Calls Tryd.prog 49 #[.string s] w fun e w' => e = .returned (.int .i64 (nameLen s.data.toList : Nat)) ∧ w' = w := by
  have hs' := hs
  unfold maxLen at hs
  have hi0 : (0 : Int) < s.size := by omega
  have hL := fun w => letter_any s[0].toNat s[0].toNat_lt w
  cases a : letN s[0].toNat with
  | false =>
    have hE : Hid (nameLen s.data.toList = 0) := len_stop s 0 h0 a
    rw [a] at hL
    clear a
    go_enter Tryd.func49, Tryd.ntmps49
    go_wp2_with (go_at_call 36; refine (hL _).mono ?_; rintro e w' ⟨rfl, hw'⟩; replace hw' := hw'.symm; subst hw')
    go_ret
    exact ⟨by rw [hE.out]; rfl, rfl⟩
  | true =>
    have hE : Hid (nameLen s.data.toList = 1 + nameRun (s.data.toList.drop 1)) := len_go s 0 h0 a
    rw [a] at hL
    clear a
    go_enter Tryd.func49, Tryd.ntmps49
    go_wp2_with (go_at_call 36; refine (hL _).mono ?_; rintro e w' ⟨rfl, hw'⟩; replace hw' := hw'.symm; subst hw')
    go_loop [3] (fun t => ∃ n : Nat, 1 ≤ n ∧ n ≤ s.size ∧ t = .int .i64 (n : Int) ∧ Hid (nameLen s.data.toList = n + nameRun (s.data.toList.drop n))) (fun t => s.size - (intOf t).toNat)
    case atStart => exact ⟨1, by omega, by omega, rfl, hE⟩
    case round =>
      obtain ⟨n, h1, hn, rfl, HN⟩ := hrel
      clear hL hE
      by_cases hlt : n < s.size
      · have hi : (n : Int) < s.size := by omega
        have hn' : (n : Int) ≤ s.size := by omega
        have hI := fun w => inner_any s[n].toNat s[n].toNat_lt w
        cases a : innN s[n].toNat with
        | true =>
          have HG : Hid (nameLen s.data.toList = n + 1 + nameRun (s.data.toList.drop (n + 1))) := (by show nameLen _ = _; rw [HN.out, run_go s n hlt (by rw [a]; rfl)]; omega)
          rw [a] at hI
          clear a HN
          go_wp2_with (go_at_call 50; refine (hI _).mono ?_; rintro e w' ⟨rfl, hw'⟩; replace hw' := hw'.symm; subst hw')
          go_round
          case rel => exact ⟨n + 1, by omega, by omega, by go_num, HG⟩
          case measure => simp [intOf]; omega
        | false =>
          have hJ := fun w => joins_any (s.extract n s.size) (by rw [ByteArray.size_extract]; unfold maxLen; omega) (by rw [ByteArray.size_extract]; omega) w
          rw [exE] at hJ
          cases b : joinsB (s.data.toList.drop n) with
          | true =>
            have HG : Hid (nameLen s.data.toList = n + 1 + nameRun (s.data.toList.drop (n + 1))) := (by show nameLen _ = _; rw [HN.out, run_go s n hlt (by rw [a, b]; rfl)]; omega)
            rw [a] at hI
            rw [b] at hJ
            clear a b HN
            go_wp2_with (first
              | (go_at_call 50; refine (hI _).mono ?_; rintro e w' ⟨rfl, hw'⟩; replace hw' := hw'.symm; subst hw')
              | (go_at_call 57; refine (hJ _).mono ?_; rintro e w' ⟨rfl, hw'⟩; replace hw' := hw'.symm; subst hw'))
            go_round
            case rel => exact ⟨n + 1, by omega, by omega, by go_num, HG⟩
            case measure => simp [intOf]; omega
          | false =>
            have HG : Hid (nameLen s.data.toList = n) := (by show nameLen _ = _; rw [HN.out, run_stop s n hlt (by rw [a, b]; rfl)]; rfl)
            rw [a] at hI
            rw [b] at hJ
            clear a b HN
            go_wp2_with (first
              | (go_at_call 50; refine (hI _).mono ?_; rintro e w' ⟨rfl, hw'⟩; replace hw' := hw'.symm; subst hw')
              | (go_at_call 57; refine (hJ _).mono ?_; rintro e w' ⟨rfl, hw'⟩; replace hw' := hw'.symm; subst hw'))
            go_ret
            exact ⟨by rw [HG.out]; rfl, rfl⟩
      · have hi : ¬ (n : Int) < s.size := by omega
        have HG : Hid (nameLen s.data.toList = n) := (by show nameLen _ = _; rw [HN.out, drop_end s n (by omega)]; rfl)
        clear HN
        go_wp2
        go_ret
        exact ⟨by rw [HG.out]; rfl, rfl⟩
end Go.Proofs.YtopnbemodlcknaaDoor

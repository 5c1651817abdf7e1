/- Several texts in one: X2, X3. -/
import Derived.Test.YtegpnicajlndlaaQak
import Derived.Test.YtegpnicajlndlaaQad
/- letter, digit, inner, joins, nameLength; the reference's letter, digit, name, Name; Name. -/
namespace Go.Proofs.Ytegpnicajlndlaa
open Go.RowKit M
set_option linter.unusedSimpArgs false
set_option linter.unusedVariables false

theorem ret_bool {a b : Bool} (h : a = b) : Ending.returned (.bool a) = .returned (.bool b) := by rw [h]
set_option maxRecDepth 100000 in
theorem letter_any (c : Nat) (hc : c < 256) (w : World) : Calls Try.prog 122 #[.int .u8 c] w fun e w' => e = .returned (.bool (letN c)) ∧ w' = w := by
  go_enter Try.func122, Try.ntmps122
  go_wp2
  all_goals go_ret
  all_goals refine ⟨ret_bool ?_, rfl⟩
  all_goals (rw [Bool.eq_iff_iff]; simp [letN]; try omega)
set_option maxRecDepth 100000 in
theorem rletter_any (c : Nat) (hc : c < 256) (w : World) : Calls Try.prog 120 #[.int .u8 c] w fun e w' => e = .returned (.bool (letN c)) ∧ w' = w := by
  go_enter Try.func120, Try.ntmps120
  go_wp2
  all_goals go_ret
  all_goals refine ⟨ret_bool ?_, rfl⟩
  all_goals (rw [Bool.eq_iff_iff]; simp [letN]; try omega)
set_option maxRecDepth 100000 in
theorem digit5_any (c : Nat) (hc : c < 256) (w : World) : Calls Try.prog 129 #[.int .u8 c] w fun e w' => e = .returned (.bool (digN c)) ∧ w' = w := by
  go_enter Try.func129, Try.ntmps129
  go_wp2
  all_goals go_ret
  all_goals refine ⟨ret_bool ?_, rfl⟩
  all_goals (rw [Bool.eq_iff_iff]; simp [digN]; try omega)
set_option maxRecDepth 100000 in
theorem rdigit_any (c : Nat) (hc : c < 256) (w : World) : Calls Try.prog 121 #[.int .u8 c] w fun e w' => e = .returned (.bool (digN c)) ∧ w' = w := by
  go_enter Try.func121, Try.ntmps121
  go_wp2
  all_goals go_ret
  all_goals refine ⟨ret_bool ?_, rfl⟩
  all_goals (rw [Bool.eq_iff_iff]; simp [digN]; try omega)

theorem drop_cons (s : ByteArray) (n : Nat) (h : n < s.size) : s.data.toList.drop n = s[n] :: s.data.toList.drop (n + 1) := by
  rw [List.drop_eq_getElem_cons (by simpa using h)]; rfl
theorem drop_end (s : ByteArray) (n : Nat) (h : s.size ≤ n) : s.data.toList.drop n = [] := List.drop_eq_nil_of_le (by simpa using h)

set_option maxRecDepth 100000 in
theorem inner_any (c : Nat) (hc : c < 256) (w : World) : Calls Try.prog 123 #[.int .u8 c] w fun e w' => e = .returned (.bool (innN c)) ∧ w' = w := by
  have h1 := fun w => letter_any c hc w
  have h2 := fun w => digit5_any c hc w
  have hI : Hid (innN c = (letN c || digN c || decide (c = 46))) := rfl
  cases a : letN c <;> cases b : digN c <;> rw [a] at h1 <;> rw [b] at h2 <;> rw [a, b] at hI <;> clear a b
  all_goals
    go_enter Try.func123, Try.ntmps123
    go_wp2_with (first
      | (go_at_call 122; refine (h1 _).mono ?_; rintro e w' ⟨rfl, hw'⟩; replace hw' := hw'.symm; subst hw')
      | (go_at_call 129; refine (h2 _).mono ?_; rintro e w' ⟨rfl, hw'⟩; replace hw' := hw'.symm; subst hw'))
    go_ret
    refine ⟨ret_bool ?_, rfl⟩
    rw [hI.out, Bool.eq_iff_iff]; simp; try omega

set_option maxRecDepth 100000 in
set_option maxHeartbeats 1000000 in
theorem joins_any (s : ByteArray) (hs : s.size ≤ maxLen) (h0 : 0 < s.size) (w : World) : Calls Try.prog 124 #[.string s] w fun e w' => e = .returned (.bool (joinsB s.data.toList)) ∧ w' = w := by
  unfold maxLen at hs
  have e0 := drop_cons s 0 h0
  rw [List.drop_zero] at e0
  have hi0 : (0 : Int) < s.size := by omega
  by_cases h1 : 1 < s.size
  · have e1 := drop_cons s 1 h1
    rw [e1] at e0
    have hi1 : (1 : Int) < s.size := by omega
    have hL := fun w => letter_any s[1].toNat s[1].toNat_lt w
    have hD := fun w => digit5_any s[1].toNat s[1].toNat_lt w
    have hJ : Hid (joinsB s.data.toList = (decide (s[0].toNat = 43 ∨ s[0].toNat = 45) && (letN s[1].toNat || digN s[1].toNat))) := (by show joinsB _ = _; rw [e0]; rfl)
    clear e0 e1
    by_cases x1 : s[0].toNat = 43
    · have x1b : ((s[0].toNat : Int) == 43) = true := by simp; omega
      rw [show decide (s[0].toNat = 43 ∨ s[0].toNat = 45) = true from decide_eq_true (.inl x1)] at hJ
      clear x1
      cases a : letN s[1].toNat <;> cases b : digN s[1].toNat <;> rw [a] at hL <;> rw [b] at hD <;> rw [a, b] at hJ <;> clear a b
      all_goals
        go_enter Try.func124, Try.ntmps124
        go_wp2_with (first
          | (go_at_call 122; refine (hL _).mono ?_; rintro e w' ⟨rfl, hw'⟩; replace hw' := hw'.symm; subst hw')
          | (go_at_call 129; refine (hD _).mono ?_; rintro e w' ⟨rfl, hw'⟩; replace hw' := hw'.symm; subst hw'))
        go_ret
        exact ⟨ret_bool (by rw [hJ.out]; rfl), rfl⟩
    · have x1b : ((s[0].toNat : Int) == 43) = false := by simp; omega
      by_cases x2 : s[0].toNat = 45
      · have x2b : ((s[0].toNat : Int) == 45) = true := by simp; omega
        rw [show decide (s[0].toNat = 43 ∨ s[0].toNat = 45) = true from decide_eq_true (.inr x2)] at hJ
        clear x1 x2
        cases a : letN s[1].toNat <;> cases b : digN s[1].toNat <;> rw [a] at hL <;> rw [b] at hD <;> rw [a, b] at hJ <;> clear a b
        all_goals
          go_enter Try.func124, Try.ntmps124
          go_wp2_with (first
            | (go_at_call 122; refine (hL _).mono ?_; rintro e w' ⟨rfl, hw'⟩; replace hw' := hw'.symm; subst hw')
            | (go_at_call 129; refine (hD _).mono ?_; rintro e w' ⟨rfl, hw'⟩; replace hw' := hw'.symm; subst hw'))
          go_ret
          exact ⟨ret_bool (by rw [hJ.out]; rfl), rfl⟩
      · have x2b : ((s[0].toNat : Int) == 45) = false := by simp; omega
        rw [show decide (s[0].toNat = 43 ∨ s[0].toNat = 45) = false from decide_eq_false (by omega)] at hJ
        clear x1 x2 hL hD
        go_enter Try.func124, Try.ntmps124
        go_wp2
        go_ret
        exact ⟨ret_bool (by rw [hJ.out]; rfl), rfl⟩
  · have hi1 : ¬ (1 : Int) < s.size := by omega
    have hJ : Hid (joinsB s.data.toList = false) := (by show joinsB _ = _; rw [e0, drop_end s 1 (by omega)]; rfl)
    clear e0
    by_cases x1 : s[0].toNat = 43 ∨ s[0].toNat = 45
    · rcases x1 with x1 | x1
      · have x1b : ((s[0].toNat : Int) == 43) = true := by simp; omega
        go_enter Try.func124, Try.ntmps124
        go_wp2
        go_ret
        exact ⟨ret_bool (by rw [hJ.out]), rfl⟩
      · have x1b : ((s[0].toNat : Int) == 43) = false := by simp; omega
        have x2b : ((s[0].toNat : Int) == 45) = true := by simp; omega
        go_enter Try.func124, Try.ntmps124
        go_wp2
        go_ret
        exact ⟨ret_bool (by rw [hJ.out]), rfl⟩
    · have x1b : ((s[0].toNat : Int) == 43) = false := by simp; omega
      have x2b : ((s[0].toNat : Int) == 45) = false := by simp; omega
      go_enter Try.func124, Try.ntmps124
      go_wp2
      go_ret
      exact ⟨ret_bool (by rw [hJ.out]), rfl⟩
end Go.Proofs.Ytegpnicajlndlaa
/- nameLength, the reference's name; both Names. -/
namespace Go.Proofs.Ytegpnicajlndlaa
open Go.RowKit M
set_option linter.unusedSimpArgs false
set_option linter.unusedVariables false

theorem run_go (s : ByteArray) (n : Nat) (h : n < s.size) (hc : (innN s[n].toNat || joinsB (s.data.toList.drop n)) = true) : nameRun (s.data.toList.drop n) = 1 + nameRun (s.data.toList.drop (n + 1)) := by
  rw [drop_cons s n h] at hc ⊢
  show (if innN s[n].toNat || joinsB (s[n] :: s.data.toList.drop (n + 1)) then 1 + nameRun (s.data.toList.drop (n + 1)) else 0) = _
  rw [if_pos hc]
theorem run_stop (s : ByteArray) (n : Nat) (h : n < s.size) (hc : (innN s[n].toNat || joinsB (s.data.toList.drop n)) = false) : nameRun (s.data.toList.drop n) = 0 := by
  rw [drop_cons s n h] at hc ⊢
  show (if innN s[n].toNat || joinsB (s[n] :: s.data.toList.drop (n + 1)) then 1 + nameRun (s.data.toList.drop (n + 1)) else 0) = _
  rw [if_neg (by rw [hc]; decide)]
theorem len_go (s : ByteArray) (a : Nat) (h : a < s.size) (hc : letN s[a].toNat = true) : nameLen (s.data.toList.drop a) = 1 + nameRun (s.data.toList.drop (a + 1)) := by
  rw [drop_cons s a h]
  show (if letN s[a].toNat then _ else _) = _
  rw [if_pos hc]
theorem len_stop (s : ByteArray) (a : Nat) (h : a < s.size) (hc : letN s[a].toNat = false) : nameLen (s.data.toList.drop a) = 0 := by
  rw [drop_cons s a h]
  show (if letN s[a].toNat then _ else _) = _
  rw [if_neg (by rw [hc]; decide)]

set_option maxRecDepth 100000 in
set_option maxHeartbeats 1000000 in
theorem nameLength_any (s : ByteArray) (hs : s.size ≤ maxLen) (h0 : 0 < s.size) (w : World) : Calls Try.prog 110 #[.string s] w fun e w' => e = .returned (.int .i64 (nameLen s.data.toList : Nat)) ∧ w' = w := by
  have hs' := hs
  unfold maxLen at hs
  have hi0 : (0 : Int) < s.size := by omega
  have hL := fun w => letter_any s[0].toNat s[0].toNat_lt w
  cases a : letN s[0].toNat with
  | false =>
    have hE : Hid (nameLen s.data.toList = 0) := len_stop s 0 h0 a
    rw [a] at hL
    clear a
    go_enter Try.func110, Try.ntmps110
    go_wp2_with (go_at_call 122; refine (hL _).mono ?_; rintro e w' ⟨rfl, hw'⟩; replace hw' := hw'.symm; subst hw')
    go_ret
    exact ⟨by rw [hE.out]; rfl, rfl⟩
  | true =>
    have hE : Hid (nameLen s.data.toList = 1 + nameRun (s.data.toList.drop 1)) := len_go s 0 h0 a
    rw [a] at hL
    clear a
    go_enter Try.func110, Try.ntmps110
    go_wp2_with (go_at_call 122; refine (hL _).mono ?_; rintro e w' ⟨rfl, hw'⟩; replace hw' := hw'.symm; subst hw')
    go_loop [3] (fun t => ∃ n : Nat, 1 ≤ n ∧ n ≤ s.size ∧ t = .int .i64 (n : Int) ∧ Hid (nameLen s.data.toList = n + nameRun (s.data.toList.drop n))) (fun t => s.size - (intOf t).toNat)
    case atStart => exact ⟨1, by omega, by omega, rfl, hE⟩
    case round =>
      obtain ⟨n, h1, hn, rfl, HN⟩ := hrel
      clear hL hE
      by_cases hlt : n < s.size
      · have hi : (n : Int) < s.size := by omega
        have hn' : (n : Int) ≤ s.size := by omega
        have hI := fun w => inner_any s[n].toNat s[n].toNat_lt w
        cases a : innN s[n].toNat with
        | true =>
          have HG : Hid (nameLen s.data.toList = n + 1 + nameRun (s.data.toList.drop (n + 1))) := (by show nameLen _ = _; rw [HN.out, run_go s n hlt (by rw [a]; rfl)]; omega)
          rw [a] at hI
          clear a HN
          go_wp2_with (go_at_call 123; refine (hI _).mono ?_; rintro e w' ⟨rfl, hw'⟩; replace hw' := hw'.symm; subst hw')
          go_round
          case rel => exact ⟨n + 1, by omega, by omega, by go_num, HG⟩
          case measure => simp [intOf]; omega
        | false =>
          have hJ := fun w => joins_any (s.extract n s.size) (by rw [ByteArray.size_extract]; unfold maxLen; omega) (by rw [ByteArray.size_extract]; omega) w
          rw [exE] at hJ
          cases b : joinsB (s.data.toList.drop n) with
          | true =>
            have HG : Hid (nameLen s.data.toList = n + 1 + nameRun (s.data.toList.drop (n + 1))) := (by show nameLen _ = _; rw [HN.out, run_go s n hlt (by rw [a, b]; rfl)]; omega)
            rw [a] at hI
            rw [b] at hJ
            clear a b HN
            go_wp2_with (first
              | (go_at_call 123; refine (hI _).mono ?_; rintro e w' ⟨rfl, hw'⟩; replace hw' := hw'.symm; subst hw')
              | (go_at_call 124; refine (hJ _).mono ?_; rintro e w' ⟨rfl, hw'⟩; replace hw' := hw'.symm; subst hw'))
            go_round
            case rel => exact ⟨n + 1, by omega, by omega, by go_num, HG⟩
            case measure => simp [intOf]; omega
          | false =>
            have HG : Hid (nameLen s.data.toList = n) := (by show nameLen _ = _; rw [HN.out, run_stop s n hlt (by rw [a, b]; rfl)]; rfl)
            rw [a] at hI
            rw [b] at hJ
            clear a b HN
            go_wp2_with (first
              | (go_at_call 123; refine (hI _).mono ?_; rintro e w' ⟨rfl, hw'⟩; replace hw' := hw'.symm; subst hw')
              | (go_at_call 124; refine (hJ _).mono ?_; rintro e w' ⟨rfl, hw'⟩; replace hw' := hw'.symm; subst hw'))
            go_ret
            exact ⟨by rw [HG.out]; rfl, rfl⟩
      · have hi : ¬ (n : Int) < s.size := by omega
        have HG : Hid (nameLen s.data.toList = n) := (by show nameLen _ = _; rw [HN.out, drop_end s n (by omega)]; rfl)
        clear HN
        go_wp2
        go_ret
        exact ⟨by rw [HG.out]; rfl, rfl⟩
end Go.Proofs.Ytegpnicajlndlaa

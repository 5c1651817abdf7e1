/- letter, digit, inner, joins, nameLength; the reference's letter, digit, name, Name; Name. -/
import Derived.Test.YtopnbemodlcknaaDoorX1
import Derived.Test.YtopnbemodlcknaaDoorD2
namespace Go.Proofs.YtopnbemodlcknaaDoor
open Go.RowKit M
set_option linter.unusedSimpArgs false
set_option linter.unusedVariables false

theorem ret_bool {a b : Bool} (h : a = b) : Ending.returned (.bool a) = .returned (.bool b) := by rw [h]
set_option maxRecDepth 100000 in
theorem letter_any (c : Nat) (hc : c < 256) (w : World) : Calls Tryd.prog 36 #[.int .u8 c] w fun e w' => e = .returned (.bool (letN c)) ∧ w' = w := by
  go_enter Tryd.func36, Tryd.ntmps36
  go_wp2
  all_goals go_ret
  all_goals refine ⟨ret_bool ?_, rfl⟩
  all_goals (rw [Bool.eq_iff_iff]; simp [letN]; try omega)
set_option maxRecDepth 100000 in
theorem rletter_any (c : Nat) (hc : c < 256) (w : World) : Calls Tryd.prog 30 #[.int .u8 c] w fun e w' => e = .returned (.bool (letN c)) ∧ w' = w := by
  go_enter Tryd.func30, Tryd.ntmps30
  go_wp2
  all_goals go_ret
  all_goals refine ⟨ret_bool ?_, rfl⟩
  all_goals (rw [Bool.eq_iff_iff]; simp [letN]; try omega)
set_option maxRecDepth 100000 in
theorem digit5_any (c : Nat) (hc : c < 256) (w : World) : Calls Tryd.prog 38 #[.int .u8 c] w fun e w' => e = .returned (.bool (digN c)) ∧ w' = w := by
  go_enter Tryd.func38, Tryd.ntmps38
  go_wp2
  all_goals go_ret
  all_goals refine ⟨ret_bool ?_, rfl⟩
  all_goals (rw [Bool.eq_iff_iff]; simp [digN]; try omega)
set_option maxRecDepth 100000 in
theorem rdigit_any (c : Nat) (hc : c < 256) (w : World) : Calls Tryd.prog 32 #[.int .u8 c] w fun e w' => e = .returned (.bool (digN c)) ∧ w' = w := by
  go_enter Tryd.func32, Tryd.ntmps32
  go_wp2
  all_goals go_ret
  all_goals refine ⟨ret_bool ?_, rfl⟩
  all_goals (rw [Bool.eq_iff_iff]; simp [digN]; try omega)

theorem drop_cons (s : ByteArray) (n : Nat) (h : n < s.size) : s.data.toList.drop n = s[n] :: s.data.toList.drop (n + 1) := by
  rw [List.drop_eq_getElem_cons (by simpa using h)]; rfl
theorem drop_end (s : ByteArray) (n : Nat) (h : s.size ≤ n) : s.data.toList.drop n = [] := List.drop_eq_nil_of_le (by simpa using h)

set_option maxRecDepth 100000 in
theorem inner_any (c : Nat) (hc : c < 256) (w : World) : Calls Tryd.prog 50 #[.int .u8 c] w fun e w' => e = .returned (.bool (innN c)) ∧ w' = w := by
  have h1 := fun w => letter_any c hc w
  have h2 := fun w => digit5_any c hc w
  have hI : Hid (innN c = (letN c || digN c || decide (c = 46))) := rfl
  cases a : letN c <;> cases b : digN c <;> rw [a] at h1 <;> rw [b] at h2 <;> rw [a, b] at hI <;> clear a b
  all_goals
    go_enter Tryd.func50, Tryd.ntmps50
    go_wp2_with (first
      | (go_at_call 36; refine (h1 _).mono ?_; rintro e w' ⟨rfl, hw'⟩; replace hw' := hw'.symm; subst hw')
      | (go_at_call 38; refine (h2 _).mono ?_; rintro e w' ⟨rfl, hw'⟩; replace hw' := hw'.symm; subst hw'))
    go_ret
    refine ⟨ret_bool ?_, rfl⟩
    rw [hI.out, Bool.eq_iff_iff]; simp; try omega

set_option maxRecDepth 100000 in
set_option maxHeartbeats 1000000 in
theorem joins_any (s : ByteArray) (hs : s.size ≤ maxLen) (h0 : 0 < s.size) (w : World) : Calls Tryd.prog 57 #[.string s] w fun e w' => e = .returned (.bool (joinsB s.data.toList)) ∧ w' = w := by
  unfold maxLen at hs
  have e0 := drop_cons s 0 h0
  rw [List.drop_zero] at e0
  have hi0 : (0 : Int) < s.size := by omega
  by_cases h1 : 1 < s.size
  · have e1 := drop_cons s 1 h1
    rw [e1] at e0
    have hi1 : (1 : Int) < s.size := by omega
    have hL := fun w => letter_any s[1].toNat s[1].toNat_lt w
    have hD := fun w => digit5_any s[1].toNat s[1].toNat_lt w
    have hJ : Hid (joinsB s.data.toList = (decide (s[0].toNat = 43 ∨ s[0].toNat = 45) && (letN s[1].toNat || digN s[1].toNat))) := (by show joinsB _ = _; rw [e0]; rfl)
    clear e0 e1
    by_cases x1 : s[0].toNat = 43
    · have x1b : ((s[0].toNat : Int) == 43) = true := by simp; omega
      rw [show decide (s[0].toNat = 43 ∨ s[0].toNat = 45) = true from decide_eq_true (.inl x1)] at hJ
      clear x1
      cases a : letN s[1].toNat <;> cases b : digN s[1].toNat <;> rw [a] at hL <;> rw [b] at hD <;> rw [a, b] at hJ <;> clear a b
      all_goals
        go_enter Tryd.func57, Tryd.ntmps57
        go_wp2_with (first
          | (go_at_call 36; refine (hL _).mono ?_; rintro e w' ⟨rfl, hw'⟩; replace hw' := hw'.symm; subst hw')
          | (go_at_call 38; refine (hD _).mono ?_; rintro e w' ⟨rfl, hw'⟩; replace hw' := hw'.symm; subst hw'))
        go_ret
        exact ⟨ret_bool (by rw [hJ.out]; rfl), rfl⟩
    · have x1b : ((s[0].toNat : Int) == 43) = false := by simp; omega
      by_cases x2 : s[0].toNat = 45
      · have x2b : ((s[0].toNat : Int) == 45) = true := by simp; omega
        rw [show decide (s[0].toNat = 43 ∨ s[0].toNat = 45) = true from decide_eq_true (.inr x2)] at hJ
        clear x1 x2
        cases a : letN s[1].toNat <;> cases b : digN s[1].toNat <;> rw [a] at hL <;> rw [b] at hD <;> rw [a, b] at hJ <;> clear a b
        all_goals
          go_enter Tryd.func57, Tryd.ntmps57
          go_wp2_with (first
            | (go_at_call 36; refine (hL _).mono ?_; rintro e w' ⟨rfl, hw'⟩; replace hw' := hw'.symm; subst hw')
            | (go_at_call 38; refine (hD _).mono ?_; rintro e w' ⟨rfl, hw'⟩; replace hw' := hw'.symm; subst hw'))
          go_ret
          exact ⟨ret_bool (by rw [hJ.out]; rfl), rfl⟩
      · have x2b : ((s[0].toNat : Int) == 45) = false := by simp; omega
        rw [show decide (s[0].toNat = 43 ∨ s[0].toNat = 45) = false from decide_eq_false (by omega)] at hJ
        clear x1 x2 hL hD
        go_enter Tryd.func57, Tryd.ntmps57
        go_wp2
        go_ret
        exact ⟨ret_bool (by rw [hJ.out]; rfl), rfl⟩
  · have hi1 : ¬ (1 : Int) < s.size := by omega
    have hJ : Hid (joinsB s.data.toList = false) := (by show joinsB _ = _; rw [e0, drop_end s 1 (by omega)]; rfl)
    clear e0
    by_cases x1 : s[0].toNat = 43 ∨ s[0].toNat = 45
    · rcases x1 with x1 | x1
      · have x1b : ((s[0].toNat : Int) == 43) = true := by simp; omega
        go_enter Tryd.func57, Tryd.ntmps57
        go_wp2
        go_ret
        exact ⟨ret_bool (by rw [hJ.out]), rfl⟩
      · have x1b : ((s[0].toNat : Int) == 43) = false := by simp; omega
        have x2b : ((s[0].toNat : Int) == 45) = true := by simp; omega
        go_enter Tryd.func57, Tryd.ntmps57
        go_wp2
        go_ret
        exact ⟨ret_bool (by rw [hJ.out]), rfl⟩
    · have x1b : ((s[0].toNat : Int) == 43) = false := by simp; omega
      have x2b : ((s[0].toNat : Int) == 45) = false := by simp; omega
      go_enter Tryd.func57, Tryd.ntmps57
      go_wp2
      go_ret
      exact ⟨ret_bool (by rw [hJ.out]), rfl⟩
end Go.Proofs.YtopnbemodlcknaaDoor

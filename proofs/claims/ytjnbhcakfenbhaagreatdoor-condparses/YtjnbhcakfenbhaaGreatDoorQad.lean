/- Several texts in one: D2, X2. -/
import Derived.Test.YtjnbhcakfenbhaaGreatDoorQac
import Derived.Test.YtjnbhcakfenbhaaGreatDoorQaa
/- run: the digits that stand from a place on. -/
namespace Go.Proofs.YtjnbhcakfenbhaaGreatDoor
open Go.RowKit M
set_option linter.unusedSimpArgs false
set_option linter.unusedVariables false

theorem drop_get (s : ByteArray) (b j : Nat) (h : b + j < s.size) : (s.data.toList.drop b)[j]? = some s[b + j] := by
  rw [List.getElem?_drop, List.getElem?_eq_getElem (by simpa using h)]; rfl

theorem run_end (s : ByteArray) (b base k : Nat) (hk : b + k ≤ s.size) (h1 : ∀ j, (h : b + j < s.size) → j < k → dig s[b + j].toNat < base)
    (h2 : ∀ h : b + k < s.size, ¬ dig s[b + k].toNat < base) : (s.extract b (b + k)).data.toList = dl base (s.data.toList.drop b) := by
  have hl := sizeL s
  rw [dl_step base (s.data.toList.drop b) k (fun j hj => ⟨s[b + j]'(by omega), drop_get s b j (by omega), by unfold isD; exact decide_eq_true (h1 j (by omega) hj)⟩) ?_ (by rw [List.length_drop]; omega)]
  · rw [exL, List.drop_take]; congr 1; omega
  · intro c hc
    by_cases h : b + k < s.size
    · rw [drop_get s b k h] at hc
      obtain rfl := Option.some.inj hc
      unfold isD; exact decide_eq_false (h2 h)
    · rw [List.getElem?_eq_none (by rw [List.length_drop]; omega)] at hc; cases hc

theorem exSz (s : ByteArray) (b k : Nat) (h : b + k ≤ s.size) : (s.extract b (b + k)).size = k := by rw [ByteArray.size_extract]; omega


set_option maxRecDepth 100000 in
set_option maxHeartbeats 1000000 in
theorem run_any (s : ByteArray) (hs : s.size ≤ maxLen) (b base : Nat) (hb : b ≤ s.size) (hbase : base = 10 ∨ base = 16) (w : World) :
    Calls Tryz.prog 158 #[.string s, .int .i64 b, .int .u64 base] w fun e w' => (∃ D : ByteArray, e = .returned (numV false base D (b + D.size)) ∧ D.data.toList = dl base (s.data.toList.drop b)) ∧ Below w.heap.size w w' := by
  unfold maxLen at hs
  have HB : Hid (base = 10 ∨ base = 16) := hbase
  clear hbase
  go_enter Tryz.func158, Tryz.ntmps158
  go_wp2
  go_loop [7] (fun t => ∃ k : Nat, b + k ≤ s.size ∧ t = .int .i64 ((b + k : Nat) : Int) ∧ Hid (∀ j, (h : b + j < s.size) → j < k → dig s[b + j].toNat < base)) (fun t => s.size - (intOf t).toNat)
  case atStart => exact ⟨0, by omega, rfl, fun j h hj => by omega⟩
  case round =>
    obtain ⟨k, hk, rfl, HK⟩ := hrel
    by_cases hlt : b + k < s.size
    · have hi : ((b + k : Nat) : Int) < s.size := by omega
      have hd := fun w => digit_any s[b + k].toNat s[b + k].toNat_lt w
      by_cases hdd : dig s[b + k].toNat < base
      · have hdi : (dig s[b + k].toNat : Int) < base := by omega
        go_wp2_with (go_at_call 160; refine (hd _).mono ?_; rintro e w' ⟨rfl, hw'⟩; replace hw' := hw'.symm; subst hw')
        go_round
        case rel => exact ⟨k + 1, by omega, by go_num, fun j h hj => if e : j = k then by subst e; exact hdd else HK.out j h (by omega)⟩
        case measure => simp [intOf]; omega
      · have hdi : ¬ (dig s[b + k].toNat : Int) < base := by omega
        have HE : Hid ((s.extract b (b + k)).data.toList = dl base (s.data.toList.drop b)) := run_end s b base k hk HK.out (fun _ => hdd)
        clear HK hdd
        go_wp2_with (go_at_call 160; refine (hd _).mono ?_; rintro e w' ⟨rfl, hw'⟩; replace hw' := hw'.symm; subst hw')
        exact bodyPost_ret (v := .agg #[.bool false, .int .u64 base, .string (s.extract b (b + k)), .int .i64 ((b : Int) + k)]) (by simp [results, Tryz.results158, go_sem]) rfl ⟨⟨s.extract b (b + k), by rw [exSz s b k hk]; unfold numV cellsN cellsNL; rw [Int.natCast_add], HE.out⟩, (Below.refl _ _).alloc (Nat.le_refl _) _⟩
    · have hi : ¬ ((b + k : Nat) : Int) < s.size := by omega
      have HE : Hid ((s.extract b (b + k)).data.toList = dl base (s.data.toList.drop b)) := run_end s b base k hk HK.out (fun h => absurd h hlt)
      clear HK
      go_wp2
      exact bodyPost_ret (v := .agg #[.bool false, .int .u64 base, .string (s.extract b (b + k)), .int .i64 ((b : Int) + k)]) (by simp [results, Tryz.results158, go_sem]) rfl ⟨⟨s.extract b (b + k), by rw [exSz s b k hk]; unfold numV cellsN cellsNL; rw [Int.natCast_add], HE.out⟩, (Below.refl _ _).alloc (Nat.le_refl _) _⟩
end Go.Proofs.YtjnbhcakfenbhaaGreatDoor
/- letter, digit, inner, joins, nameLength; the reference's letter, digit, name, Name; Name. -/
namespace Go.Proofs.YtjnbhcakfenbhaaGreatDoor
open Go.RowKit M
set_option linter.unusedSimpArgs false
set_option linter.unusedVariables false

theorem ret_bool {a b : Bool} (h : a = b) : Ending.returned (.bool a) = .returned (.bool b) := by rw [h]
set_option maxRecDepth 100000 in
theorem letter_any (c : Nat) (hc : c < 256) (w : World) : Calls Tryz.prog 101 #[.int .u8 c] w fun e w' => e = .returned (.bool (letN c)) ∧ w' = w := by
  go_enter Tryz.func101, Tryz.ntmps101
  go_wp2
  all_goals go_ret
  all_goals refine ⟨ret_bool ?_, rfl⟩
  all_goals (rw [Bool.eq_iff_iff]; simp [letN]; try omega)
set_option maxRecDepth 100000 in
theorem rletter_any (c : Nat) (hc : c < 256) (w : World) : Calls Tryz.prog 88 #[.int .u8 c] w fun e w' => e = .returned (.bool (letN c)) ∧ w' = w := by
  go_enter Tryz.func88, Tryz.ntmps88
  go_wp2
  all_goals go_ret
  all_goals refine ⟨ret_bool ?_, rfl⟩
  all_goals (rw [Bool.eq_iff_iff]; simp [letN]; try omega)
set_option maxRecDepth 100000 in
theorem digit5_any (c : Nat) (hc : c < 256) (w : World) : Calls Tryz.prog 103 #[.int .u8 c] w fun e w' => e = .returned (.bool (digN c)) ∧ w' = w := by
  go_enter Tryz.func103, Tryz.ntmps103
  go_wp2
  all_goals go_ret
  all_goals refine ⟨ret_bool ?_, rfl⟩
  all_goals (rw [Bool.eq_iff_iff]; simp [digN]; try omega)
set_option maxRecDepth 100000 in
theorem rdigit_any (c : Nat) (hc : c < 256) (w : World) : Calls Tryz.prog 90 #[.int .u8 c] w fun e w' => e = .returned (.bool (digN c)) ∧ w' = w := by
  go_enter Tryz.func90, Tryz.ntmps90
  go_wp2
  all_goals go_ret
  all_goals refine ⟨ret_bool ?_, rfl⟩
  all_goals (rw [Bool.eq_iff_iff]; simp [digN]; try omega)

theorem drop_cons (s : ByteArray) (n : Nat) (h : n < s.size) : s.data.toList.drop n = s[n] :: s.data.toList.drop (n + 1) := by
  rw [List.drop_eq_getElem_cons (by simpa using h)]; rfl
theorem drop_end (s : ByteArray) (n : Nat) (h : s.size ≤ n) : s.data.toList.drop n = [] := List.drop_eq_nil_of_le (by simpa using h)

set_option maxRecDepth 100000 in
theorem inner_any (c : Nat) (hc : c < 256) (w : World) : Calls Tryz.prog 126 #[.int .u8 c] w fun e w' => e = .returned (.bool (innN c)) ∧ w' = w := by
  have h1 := fun w => letter_any c hc w
  have h2 := fun w => digit5_any c hc w
  have hI : Hid (innN c = (letN c || digN c || decide (c = 46))) := rfl
  cases a : letN c <;> cases b : digN c <;> rw [a] at h1 <;> rw [b] at h2 <;> rw [a, b] at hI <;> clear a b
  all_goals
    go_enter Tryz.func126, Tryz.ntmps126
    go_wp2_with (first
      | (go_at_call 101; refine (h1 _).mono ?_; rintro e w' ⟨rfl, hw'⟩; replace hw' := hw'.symm; subst hw')
      | (go_at_call 103; refine (h2 _).mono ?_; rintro e w' ⟨rfl, hw'⟩; replace hw' := hw'.symm; subst hw'))
    go_ret
    refine ⟨ret_bool ?_, rfl⟩
    rw [hI.out, Bool.eq_iff_iff]; simp; try omega

set_option maxRecDepth 100000 in
set_option maxHeartbeats 1000000 in
theorem joins_any (s : ByteArray) (hs : s.size ≤ maxLen) (h0 : 0 < s.size) (w : World) : Calls Tryz.prog 127 #[.string s] w fun e w' => e = .returned (.bool (joinsB s.data.toList)) ∧ w' = w := by
  unfold maxLen at hs
  have e0 := drop_cons s 0 h0
  rw [List.drop_zero] at e0
  have hi0 : (0 : Int) < s.size := by omega
  by_cases h1 : 1 < s.size
  · have e1 := drop_cons s 1 h1
    rw [e1] at e0
    have hi1 : (1 : Int) < s.size := by omega
    have hL := fun w => letter_any s[1].toNat s[1].toNat_lt w
    have hD := fun w => digit5_any s[1].toNat s[1].toNat_lt w
    have hJ : Hid (joinsB s.data.toList = (decide (s[0].toNat = 43 ∨ s[0].toNat = 45) && (letN s[1].toNat || digN s[1].toNat))) := (by show joinsB _ = _; rw [e0]; rfl)
    clear e0 e1
    by_cases x1 : s[0].toNat = 43
    · have x1b : ((s[0].toNat : Int) == 43) = true := by simp; omega
      rw [show decide (s[0].toNat = 43 ∨ s[0].toNat = 45) = true from decide_eq_true (.inl x1)] at hJ
      clear x1
      cases a : letN s[1].toNat <;> cases b : digN s[1].toNat <;> rw [a] at hL <;> rw [b] at hD <;> rw [a, b] at hJ <;> clear a b
      all_goals
        go_enter Tryz.func127, Tryz.ntmps127
        go_wp2_with (first
          | (go_at_call 101; refine (hL _).mono ?_; rintro e w' ⟨rfl, hw'⟩; replace hw' := hw'.symm; subst hw')
          | (go_at_call 103; refine (hD _).mono ?_; rintro e w' ⟨rfl, hw'⟩; replace hw' := hw'.symm; subst hw'))
        go_ret
        exact ⟨ret_bool (by rw [hJ.out]; rfl), rfl⟩
    · have x1b : ((s[0].toNat : Int) == 43) = false := by simp; omega
      by_cases x2 : s[0].toNat = 45
      · have x2b : ((s[0].toNat : Int) == 45) = true := by simp; omega
        rw [show decide (s[0].toNat = 43 ∨ s[0].toNat = 45) = true from decide_eq_true (.inr x2)] at hJ
        clear x1 x2
        cases a : letN s[1].toNat <;> cases b : digN s[1].toNat <;> rw [a] at hL <;> rw [b] at hD <;> rw [a, b] at hJ <;> clear a b
        all_goals
          go_enter Tryz.func127, Tryz.ntmps127
          go_wp2_with (first
            | (go_at_call 101; refine (hL _).mono ?_; rintro e w' ⟨rfl, hw'⟩; replace hw' := hw'.symm; subst hw')
            | (go_at_call 103; refine (hD _).mono ?_; rintro e w' ⟨rfl, hw'⟩; replace hw' := hw'.symm; subst hw'))
          go_ret
          exact ⟨ret_bool (by rw [hJ.out]; rfl), rfl⟩
      · have x2b : ((s[0].toNat : Int) == 45) = false := by simp; omega
        rw [show decide (s[0].toNat = 43 ∨ s[0].toNat = 45) = false from decide_eq_false (by omega)] at hJ
        clear x1 x2 hL hD
        go_enter Tryz.func127, Tryz.ntmps127
        go_wp2
        go_ret
        exact ⟨ret_bool (by rw [hJ.out]; rfl), rfl⟩
  · have hi1 : ¬ (1 : Int) < s.size := by omega
    have hJ : Hid (joinsB s.data.toList = false) := (by show joinsB _ = _; rw [e0, drop_end s 1 (by omega)]; rfl)
    clear e0
    by_cases x1 : s[0].toNat = 43 ∨ s[0].toNat = 45
    · rcases x1 with x1 | x1
      · have x1b : ((s[0].toNat : Int) == 43) = true := by simp; omega
        go_enter Tryz.func127, Tryz.ntmps127
        go_wp2
        go_ret
        exact ⟨ret_bool (by rw [hJ.out]), rfl⟩
      · have x1b : ((s[0].toNat : Int) == 43) = false := by simp; omega
        have x2b : ((s[0].toNat : Int) == 45) = true := by simp; omega
        go_enter Tryz.func127, Tryz.ntmps127
        go_wp2
        go_ret
        exact ⟨ret_bool (by rw [hJ.out]), rfl⟩
    · have x1b : ((s[0].toNat : Int) == 43) = false := by simp; omega
      have x2b : ((s[0].toNat : Int) == 45) = false := by simp; omega
      go_enter Tryz.func127, Tryz.ntmps127
      go_wp2
      go_ret
      exact ⟨ret_bool (by rw [hJ.out]), rfl⟩
end Go.Proofs.YtjnbhcakfenbhaaGreatDoor

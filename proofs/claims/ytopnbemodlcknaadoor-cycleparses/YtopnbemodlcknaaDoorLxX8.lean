/- blank, comment, blanks. -/
import Derived.Test.YtopnbemodlcknaaDoorLxX7
import Derived.Test.YtopnbemodlcknaaDoorX5
namespace Go.Proofs.YtopnbemodlcknaaDoor.Lx
open Go.RowKit M
set_option linter.unusedSimpArgs false
set_option linter.unusedVariables false

set_option maxRecDepth 100000 in
theorem blank_any (c : Nat) (hc : c < 256) (w : World) : Calls Tryd.prog 46 #[.int .u8 c] w fun e w' => e = .returned (.bool (blkN c)) ∧ w' = w := by
  go_enter Tryd.func46, Tryd.ntmps46
  go_wp2
  all_goals go_ret
  all_goals refine ⟨ret_bool ?_, rfl⟩
  all_goals (rw [Bool.eq_iff_iff]; simp [blkN]; try omega)

theorem pre_any (s p : ByteArray) (w : World) : Calls Tryd.prog 47 #[.string s, .string p] w fun e w' => e = .returned (.bool (begB s.data.toList p.data.toList)) ∧ w' = w := Tryd.strings_HasPrefix s p w
theorem exD (s : ByteArray) (n : Nat) : (s.extract n s.size).data.toList = s.data.toList.drop n := exE s n

/-- What comment answers. -/
def comV : Option Nat → Value
  | none => .tuple #[.int .i64 0, .bool false]
  | some k => .tuple #[.int .i64 (k : Int), .bool true]

set_option maxRecDepth 100000 in
set_option maxHeartbeats 1000000 in
theorem comment_any (s : ByteArray) (hs : s.size < 4611686018427387904) (hop : opB s.data.toList = true) (w : World) :
    Calls Tryd.prog 48 #[.string s] w fun e w' => e = .returned (comV ((comF (s.data.toList.drop 2) 1).map (· + 2))) ∧ w' = w := by
  obtain ⟨R, hR⟩ : ∃ R, (comF (s.data.toList.drop 2) 1).map (· + 2) = R := ⟨_, rfl⟩
  rw [hR]
  have HR : Hid ((comF (s.data.toList.drop 2) 1).map (· + 2) = R) := hR
  have HO : Hid (opB s.data.toList = true) := hop
  have hsz : Hid (s.size = s.data.toList.length) := sizeL s
  clear hR hop
  go_enter Tryd.func48, Tryd.ntmps48
  go_wp2
  go_loop [4, 5, 12, 21] (fun o n _ _ => ∃ j k : Nat, k ≤ s.size ∧ j ≤ k ∧ o = .int .i64 (j : Int) ∧ n = .int .i64 (k : Int) ∧ Hid ((j = 0 ∧ k = 0) ∨ (1 ≤ j ∧ (comF (s.data.toList.drop k) j).map (· + k) = R))) (fun _ n _ _ => s.size - (intOf n).toNat)
  case atStart => exact ⟨0, 0, by omega, by omega, rfl, rfl, .inl ⟨rfl, rfl⟩⟩
  case round =>
    obtain ⟨j, k, hk, hj, rfl, rfl, HJ⟩ := hrel
    by_cases hlt : k < s.size
    · have hi : (k : Int) < s.size := by omega
      have hi2 : (k : Int) ≤ s.size := by omega
      have p1 := fun w => pre_any (s.extract k s.size) ⟨#[40, 42]⟩ w
      have p2 := fun w => pre_any (s.extract k s.size) ⟨#[42, 41]⟩ w
      rw [exD] at p1 p2
      have e1 : (ByteArray.mk #[40, 42]).data.toList = [40, 42] := rfl
      have e2 : (ByteArray.mk #[42, 41]).data.toList = [42, 41] := rfl
      rw [e1, ← op_beg] at p1
      rw [e2, ← cl_beg] at p2
      clear e1 e2
      have hdl : (s.data.toList.drop k).length = s.size - k := by rw [List.length_drop, ← sizeL]
      cases ho : opB (s.data.toList.drop k) with
      | true =>
        have h2 : k + 2 ≤ s.size := by have := op_len ho; omega
        have HN : Hid ((comF (s.data.toList.drop (k + 2)) (j + 1)).map (· + (k + 2)) = R) := (by
          show _ = _
          rcases HJ.out with ⟨rfl, rfl⟩ | ⟨h, e⟩
          · simpa using HR.out
          · rw [comF_open ho, List.drop_drop, Option.map_map] at e
            rw [← e]; congr 1; funext x; simp; omega)
        rw [ho] at p1
        clear ho HJ p2 hdl
        have x0 : (((j : Int) + 1) == 0) = false := by simp; omega
        go_wp2_with (go_at_call 47; refine (p1 _).mono ?_; rintro e w' ⟨rfl, hw'⟩; replace hw' := hw'.symm; subst hw')
        go_round
        case rel => exact ⟨j + 1, k + 2, by omega, by omega, by go_num, by go_num, .inr ⟨by omega, HN.out⟩⟩
        case measure => simp [intOf]; omega
      | false =>
        have HJ1 : Hid (1 ≤ j ∧ (comF (s.data.toList.drop k) j).map (· + k) = R) := (by
          rcases HJ.out with ⟨rfl, rfl⟩ | h
          · rw [List.drop_zero, HO.out] at ho; cases ho
          · exact h)
        clear HJ
        have tk : True := trivial
        cases hc : clB (s.data.toList.drop k) with
        | true =>
          have h2 : k + 2 ≤ s.size := by have := cl_len hc; omega
          have h1j := HJ1.out.1
          rw [ho] at p1
          rw [hc] at p2
          clear ho
          by_cases hj1 : j = 1
          · subst hj1
            have HF : Hid (R = some (k + 2)) := (by show R = _; rw [← HJ1.out.2, comF_last hc]; simp; omega)
            clear hc HJ1 hdl
            go_wp2_with (first
              | (go_at_call 47; clear tk; refine (p1 _).mono ?_; rintro e w' ⟨rfl, hw'⟩; replace hw' := hw'.symm; subst hw')
              | (go_at_call 47; refine (p2 _).mono ?_; rintro e w' ⟨rfl, hw'⟩; replace hw' := hw'.symm; subst hw'))
            go_ret2
            exact ⟨by rw [HF.out]; simp [comV], rfl⟩
          · have HN : Hid ((comF (s.data.toList.drop (k + 2)) (j - 1)).map (· + (k + 2)) = R) := (by
              show _ = _
              have e := HJ1.out.2
              rw [comF_close hc hj1, List.drop_drop, Option.map_map] at e
              rw [← e]; congr 1; funext x; simp; omega)
            clear hc HJ1 hdl
            have x0 : (((j : Int) - 1) == 0) = false := by simp; omega
            go_wp2_with (first
              | (go_at_call 47; clear tk; refine (p1 _).mono ?_; rintro e w' ⟨rfl, hw'⟩; replace hw' := hw'.symm; subst hw')
              | (go_at_call 47; refine (p2 _).mono ?_; rintro e w' ⟨rfl, hw'⟩; replace hw' := hw'.symm; subst hw'))
            go_round
            case rel => exact ⟨j - 1, k + 2, by omega, by omega, by rw [show ((j - 1 : Nat) : Int) = (j : Int) - 1 by omega], by go_num, .inr ⟨by omega, HN.out⟩⟩
            case measure => simp [intOf]; omega
        | false =>
          have h1j := HJ1.out.1
          have HN : Hid ((comF (s.data.toList.drop (k + 1)) j).map (· + (k + 1)) = R) := (by
            show _ = _
            have e := HJ1.out.2
            rw [drop_cons s k hlt] at ho hc e
            rw [comF_skip ho hc, Option.map_map] at e
            rw [← e]; congr 1; funext x; simp; omega)
          rw [ho] at p1
          rw [hc] at p2
          clear ho hc HJ1 hdl
          have x0 : ((j : Int) == 0) = false := by simp; omega
          go_wp2_with (first
            | (go_at_call 47; clear tk; refine (p1 _).mono ?_; rintro e w' ⟨rfl, hw'⟩; replace hw' := hw'.symm; subst hw')
            | (go_at_call 47; refine (p2 _).mono ?_; rintro e w' ⟨rfl, hw'⟩; replace hw' := hw'.symm; subst hw'))
          go_round
          case rel => exact ⟨j, k + 1, by omega, by omega, rfl, by go_num, .inr ⟨by omega, HN.out⟩⟩
          case measure => simp [intOf]; omega
    · have hi : ¬ (k : Int) < s.size := by omega
      have HF : Hid (R = none) := (by
        show R = none
        rcases HJ.out with ⟨rfl, rfl⟩ | ⟨_, e⟩
        · have := op_len HO.out; have h2 := hsz.out; omega
        · rw [← e, drop_end s k (by omega)]; rfl)
      clear HJ
      go_wp2
      go_ret2
      exact ⟨by rw [HF.out]; rfl, rfl⟩
end Go.Proofs.YtopnbemodlcknaaDoor.Lx

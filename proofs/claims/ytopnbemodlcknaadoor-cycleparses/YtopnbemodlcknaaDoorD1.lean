/- digit, HasPrefix, marked. -/
import Derived.Test.YtopnbemodlcknaaDoorB0
import Derived.Test.YtopnbemodlcknaaDoorM1
namespace Go.Proofs.YtopnbemodlcknaaDoor
open Go.RowKit M
set_option linter.unusedSimpArgs false
set_option linter.unusedVariables false

theorem dig_a {c : Nat} (h : 48 ≤ c) (h' : c ≤ 57) : dig c = c - 48 := by unfold dig; rw [if_pos ⟨h, h'⟩]
theorem dig_b {c : Nat} (h : 97 ≤ c) (h' : c ≤ 102) : dig c = c - 87 := by unfold dig; rw [if_neg (by omega), if_pos ⟨h, h'⟩]
theorem dig_c {c : Nat} (h : 65 ≤ c) (h' : c ≤ 70) : dig c = c - 55 := by unfold dig; rw [if_neg (by omega), if_neg (by omega), if_pos ⟨h, h'⟩]
theorem dig_d {c : Nat} (h : ¬ (48 ≤ c ∧ c ≤ 57)) (h' : ¬ (97 ≤ c ∧ c ≤ 102)) (h'' : ¬ (65 ≤ c ∧ c ≤ 70)) : dig c = 18446744073709551615 := by
  unfold dig; rw [if_neg h, if_neg h', if_neg h'']

set_option maxRecDepth 100000 in
theorem digit_any (c : Nat) (hc : c < 256) (w : World) : Calls Tryd.prog 71 #[.int .u8 c] w fun e w' => e = .returned (.int .u64 (dig c)) ∧ w' = w := by
  go_enter Tryd.func71, Tryd.ntmps71
  go_wp2
  all_goals go_ret
  all_goals refine ⟨ret_int ?_, rfl⟩
  all_goals first
    | (rw [dig_a (by omega) (by omega)]; omega)
    | (rw [dig_b (by omega) (by omega)]; omega)
    | (rw [dig_c (by omega) (by omega)]; omega)
    | (rw [dig_d (by omega) (by omega) (by omega)]; rfl)

theorem toL (s : ByteArray) : s.toList = s.data.toList := ByteArray.toList_eq s
theorem exL (s : ByteArray) (a b : Nat) : (s.extract a b).data.toList = (s.data.toList.take b).drop a := by
  rw [ByteArray.data_extract, Array.toList_extract]
  rw [List.extract_eq_take_drop, List.drop_take]
theorem exE (s : ByteArray) (a : Nat) : (s.extract a s.size).data.toList = s.data.toList.drop a := by
  rw [exL]; congr 1; exact List.take_of_length_le (by simp)
theorem sizeL (s : ByteArray) : s.size = s.data.toList.length := by simp

/-- Whether a list begins with another. -/
def preB (l p : List UInt8) : Bool := decide (l.take p.length = p)
theorem prefix_eq (s p : ByteArray) (h : p.size ≤ s.size) : ((s.extract 0 p.size).toList == p.toList) = preB s.data.toList p.data.toList := by
  rw [Bool.eq_iff_iff, beq_iff_eq, preB, decide_eq_true_iff, toL, toL, exL, List.drop_zero, sizeL p]
theorem prefix_short (s p : ByteArray) (h : ¬ p.size ≤ s.size) : preB s.data.toList p.data.toList = false := by
  rw [preB, decide_eq_false_iff_not]
  intro e
  have := congrArg List.length e
  rw [List.length_take] at this
  have h1 := sizeL s
  have h2 := sizeL p
  omega

set_option maxRecDepth 100000 in
theorem prefix_any (s p : ByteArray) (hs : s.size ≤ maxLen) (hp : p.size ≤ maxLen) (w : World) :
    Calls Tryd.prog 56 #[.string s, .string p] w fun e w' => e = .returned (.bool (preB s.data.toList p.data.toList)) ∧ w' = w := by
  unfold maxLen at hs hp
  by_cases h : p.size ≤ s.size
  · have h' : (p.size : Int) ≤ s.size := by omega
    have HE : Hid (((s.extract 0 p.size).toList == p.toList) = preB s.data.toList p.data.toList) := prefix_eq s p h
    go_enter Tryd.func56, Tryd.ntmps56
    go_wp2
    go_ret
    exact ⟨by rw [← HE.out]; rfl, rfl⟩
  · have h' : ¬ (p.size : Int) ≤ s.size := by omega
    have HE : Hid (preB s.data.toList p.data.toList = false) := prefix_short s p h
    go_enter Tryd.func56, Tryd.ntmps56
    go_wp2
    go_ret
    exact ⟨by rw [HE.out]; rfl, rfl⟩

set_option maxRecDepth 100000 in
theorem hasPrefix_any (s p : ByteArray) (hs : s.size ≤ maxLen) (hp : p.size ≤ maxLen) (w : World) :
    Calls Tryd.prog 47 #[.string s, .string p] w fun e w' => e = .returned (.bool (preB s.data.toList p.data.toList)) ∧ w' = w := by
  go_enter Tryd.func47, Tryd.ntmps47
  go_wp2_with (go_at_call 56; refine (prefix_any s p hs hp _).mono ?_; rintro e w' ⟨rfl, hw'⟩; replace hw' := hw'.symm; subst hw')
  go_ret
  exact ⟨rfl, rfl⟩

theorem mark_eq : ∀ l : List UInt8, markB l = (preB l [48, 120] || preB l [48, 88])
  | [] => rfl
  | [a] => by simp [markB, preB]
  | a :: b :: r => by
      rw [Bool.eq_iff_iff]
      simp [markB, preB, ← UInt8.toNat_inj]
      constructor
      · rintro ⟨h1, h2 | h2⟩ <;> simp [h1, h2]
      · rintro (⟨h1, h2⟩ | ⟨h1, h2⟩) <;> simp [h1, h2]
theorem minus_eq : ∀ l : List UInt8, minusB l = preB l [45]
  | [] => rfl
  | a :: r => by rw [Bool.eq_iff_iff]; simp [minusB, preB, ← UInt8.toNat_inj]

set_option maxRecDepth 100000 in
theorem marked_any (s : ByteArray) (hs : s.size ≤ maxLen) (w : World) :
    Calls Tryd.prog 66 #[.string s] w fun e w' => e = .returned (.bool (markB s.data.toList)) ∧ w' = w := by
  have h1 := fun w => hasPrefix_any s ⟨#[48, 120]⟩ hs (by decide) w
  have h2 := fun w => hasPrefix_any s ⟨#[48, 88]⟩ hs (by decide) w
  have HE : Hid (markB s.data.toList = (preB s.data.toList [48, 120] || preB s.data.toList [48, 88])) := mark_eq _
  have e1 : (ByteArray.mk #[48, 120]).data.toList = [48, 120] := rfl
  have e2 : (ByteArray.mk #[48, 88]).data.toList = [48, 88] := rfl
  rw [e1] at h1
  rw [e2] at h2
  clear e1 e2
  cases hb : preB s.data.toList [48, 120] with
  | true =>
      rw [hb] at h1 HE
      clear hb
      go_enter Tryd.func66, Tryd.ntmps66
      go_wp2_with (first
        | (go_at_call 47; refine (h1 _).mono ?_; rintro e w' ⟨rfl, hw'⟩; replace hw' := hw'.symm; subst hw'; clear h1))
      go_ret
      exact ⟨by rw [HE.out]; rfl, rfl⟩
  | false =>
      rw [hb] at h1 HE
      clear hb
      go_enter Tryd.func66, Tryd.ntmps66
      go_wp2_with (first
        | (go_at_call 47; refine (h1 _).mono ?_; rintro e w' ⟨rfl, hw'⟩; replace hw' := hw'.symm; subst hw'; clear h1)
        | (go_at_call 47; refine (h2 _).mono ?_; rintro e w' ⟨rfl, hw'⟩; replace hw' := hw'.symm; subst hw'; clear h2))
      go_ret
      exact ⟨by rw [HE.out]; rfl, rfl⟩
end Go.Proofs.YtopnbemodlcknaaDoor

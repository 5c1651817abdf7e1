/- Both Names. -/
import Derived.Test.YtcmkoffamolgmaaX4
import Derived.Test.YtcmkoffamolgmaaS1
namespace Go.Proofs.Ytcmkoffamolgmaa
open Go.RowKit M
set_option linter.unusedSimpArgs false
set_option linter.unusedVariables false

/-- Whether a text is a name. -/
def nameB (l : List UInt8) : Bool := decide (0 < l.length ∧ l.length ≤ 64 ∧ nameLen l = l.length)

set_option maxRecDepth 100000 in
set_option maxHeartbeats 1000000 in
theorem name_any (s : ByteArray) (hs : s.size ≤ maxLen) (w : World) : Calls Try.prog 51 #[.string s] w fun e w' => e = .returned (.bool (nameB s.data.toList)) ∧ w' = w := by
  have hs' := hs
  unfold maxLen at hs
  have hB : nameB s.data.toList = decide (0 < s.size ∧ s.size ≤ 64 ∧ nameLen s.data.toList = s.size) := by unfold nameB; rw [← sizeL]
  by_cases h0 : s.size = 0
  · have he : s.toList.isEmpty = true := emp_t (List.eq_nil_of_length_eq_zero (by rw [← sizeL]; exact h0))
    have hE : Hid (nameB s.data.toList = false) := (by show nameB _ = _; rw [hB]; exact decide_eq_false (by omega))
    clear h0 hB
    go_enter Try.func51, Try.ntmps51
    go_wp2
    go_ret
    exact ⟨ret_bool (by rw [hE.out]; try rfl), rfl⟩
  · have he : s.toList.isEmpty = false := emp_f (fun e => h0 (by rw [sizeL, e]; rfl))
    by_cases h1 : s.size ≤ 64
    · have hi : (s.size : Int) ≤ 64 := by omega
      have hN := fun w => nameLength_any s hs' (by omega) w
      have hE : Hid (nameB s.data.toList = decide (nameLen s.data.toList = s.size)) := (by show nameB _ = _; rw [hB, Bool.eq_iff_iff]; simp; omega)
      clear hB hs' h0
      generalize nameLen s.data.toList = k at *
      go_enter Try.func51, Try.ntmps51
      go_wp2_with (go_at_call 59; refine (hN _).mono ?_; rintro e w' ⟨rfl, hw'⟩; replace hw' := hw'.symm; subst hw')
      go_ret
      refine ⟨ret_bool ?_, rfl⟩
      rw [hE.out, Bool.eq_iff_iff]; simp; try omega
    · have hi : ¬ (s.size : Int) ≤ 64 := by omega
      have hE : Hid (nameB s.data.toList = false) := (by show nameB _ = _; rw [hB]; exact decide_eq_false (by omega))
      clear hB h0
      go_enter Try.func51, Try.ntmps51
      go_wp2
      go_ret
      exact ⟨ret_bool (by rw [hE.out]; try rfl), rfl⟩

set_option maxRecDepth 100000 in
set_option maxHeartbeats 1000000 in
theorem rName_any (s : ByteArray) (hs : s.size ≤ maxLen) (w : World) : Calls Try.prog 49 #[.string s] w fun e w' => e = .returned (.bool (nameB s.data.toList)) ∧ w' = w := by
  have hs' := hs
  unfold maxLen at hs
  have hB : nameB s.data.toList = decide (0 < s.size ∧ s.size ≤ 64 ∧ nameLen s.data.toList = s.size) := by unfold nameB; rw [← sizeL]
  by_cases h0 : s.size = 0
  · have he : ¬ (0 : Int) < s.size := by omega
    have hE : Hid (nameB s.data.toList = false) := (by show nameB _ = _; rw [hB]; exact decide_eq_false (by omega))
    clear h0 hB
    go_enter Try.func49, Try.ntmps49
    go_wp2
    go_ret
    exact ⟨ret_bool (by rw [hE.out]; try rfl), rfl⟩
  · have he : (0 : Int) < s.size := by omega
    by_cases h1 : s.size ≤ 64
    · have hi : (s.size : Int) ≤ 64 := by omega
      have hN := fun w => rname_any s hs' 0 (by omega) w
      rw [List.drop_zero] at hN
      have hE : Hid (nameB s.data.toList = decide (nameLen s.data.toList = s.size)) := (by show nameB _ = _; rw [hB, Bool.eq_iff_iff]; simp; omega)
      clear hB hs' h0
      generalize nameLen s.data.toList = k at *
      go_enter Try.func49, Try.ntmps49
      go_wp2_with (go_at_call 58; refine (hN _).mono ?_; rintro e w' ⟨rfl, hw'⟩; replace hw' := hw'.symm; subst hw')
      go_ret
      refine ⟨ret_bool ?_, rfl⟩
      rw [hE.out, Bool.eq_iff_iff]; simp; try omega
    · have hi : ¬ (s.size : Int) ≤ 64 := by omega
      have hE : Hid (nameB s.data.toList = false) := (by show nameB _ = _; rw [hB]; exact decide_eq_false (by omega))
      clear hB h0
      go_enter Try.func49, Try.ntmps49
      go_wp2
      go_ret
      exact ⟨ret_bool (by rw [hE.out]; try rfl), rfl⟩

/-- A spot as a value. -/
def spotV (p : Nat × Nat) : Value := .agg #[.int .i64 (p.1 : Nat), .int .i64 (p.2 : Nat)]

end Go.Proofs.Ytcmkoffamolgmaa

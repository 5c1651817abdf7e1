/- WordPuts: the law's walk. -/
import Derived.Test.YtlmnlfnodbfgiaaC4
namespace Go.Proofs.Ytlmnlfnodbfgiaa
open Go.RowKit M
set_option linter.unusedSimpArgs false
set_option linter.unusedVariables false

set_option maxRecDepth 100000 in
set_option maxHeartbeats 2000000 in
theorem puts_any (v : Int) (h0 : -9223372036854775808 ≤ v) (h1 : v ≤ 9223372036854775807) (s : ByteArray) (hs : s.size ≤ maxLen) (at' : Int) (w : World) :
    Calls Try.prog 4 #[.int .i64 v, .string s, .int .i64 at'] w fun e w' => e = .returned (.bool true) ∧ Below w.heap.size w w' := by
  have hT := fun w => take_any s at' hs w
  have hR := fun w => rtake_any s at' hs w
  obtain ⟨a, n, c, hv⟩ : ∃ a n c : Int, takeV (takeA s at') = .tuple #[.int .i64 a, .int .i64 n, .int .i64 c] := by
    cases takeA s at' with
    | none => exact ⟨0, 0, 40, rfl⟩
    | some p => obtain ⟨x, y⟩ := p; exact ⟨x, y, 0, rfl⟩
  rw [hv] at hT hR
  clear hv
  have hP := fun w => put_any v h0 h1 w
  have hQ := fun w => rput_any v h0 h1 w
  go_enter Try.func4, Try.ntmps4
  go_wp2_with (first
    | (go_at_call 10; refine (hT _).mono ?_; rintro e w' ⟨rfl, hw'⟩; replace hw' := hw'.symm; subst hw')
    | (go_at_call 11; refine (hR _).mono ?_; rintro e w' ⟨rfl, hw'⟩; replace hw' := hw'.symm; subst hw')
    | (go_at_call 12; refine (hP _).mono ?_; rintro e w1 ⟨rfl, hb1⟩)
    | (go_at_call 13; refine (hQ _).mono ?_; rintro e w2 ⟨rfl, hb2⟩)
    | (go_at_call 9; refine (num_any _ _).mono ?_; rintro e w' ⟨rfl, hw'⟩; replace hw' := hw'.symm; subst hw'))
  go_ret
  exact ⟨rfl, hb1.trans (hb2.mono hb1.size)⟩
end Go.Proofs.Ytlmnlfnodbfgiaa

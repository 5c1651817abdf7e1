/- The law ProgClasses. -/
import Derived.Test.YtichcopjdfdnkaaCL
namespace Go.Proofs.Ytichcopjdfdnkaa
open Go.RowKit M
set_option linter.unusedSimpArgs false
set_option linter.unusedVariables false

set_option maxRecDepth 100000 in
set_option maxHeartbeats 1000000 in
theorem classes_any (e : Int) (s : ByteArray) (w : World) : Calls Try.prog 3 #[.int .i64 e, .string s] w fun en w' => en = .returned (.bool true) ∧ Below w.heap.size w w' := by
  obtain ⟨ce, hce⟩ : ∃ c, classV e = c := ⟨_, rfl⟩
  obtain ⟨rb, hrb⟩ : ∃ r, regB s = r := ⟨_, rfl⟩
  have c1 := fun w => class_any e w
  have c2 := fun w => rclass_any e w
  have c3 := fun w => register_any s w
  have c4 := fun w => rregister_any s w
  rw [hce] at c1 c2
  rw [hrb] at c3 c4
  clear hce hrb
  go_enter Try.func3, Try.ntmps3
  go_wp2
  go_loop [5] (fun i => ∃ k : Nat, k ≤ 120 ∧ i = .int .i64 k) (fun i => 120 - (intOf i).toNat)
  case atStart => exact ⟨0, Nat.zero_le _, rfl⟩
  case round =>
    obtain ⟨k, hk, rfl⟩ := hrel
    by_cases hlt : k < 120
    · obtain ⟨ck, hck⟩ : ∃ c, classV k = c := ⟨_, rfl⟩
      have d1 := fun w => class_any k w
      have d2 := fun w => rclass_any k w
      rw [hck] at d1 d2
      clear hck
      go_wp2_with (first
        | (go_at_call 9; refine (d1 _).mono ?_; rintro en w' ⟨rfl, rfl⟩)
        | (go_at_call 10; refine (d2 _).mono ?_; rintro en w' ⟨rfl, rfl⟩))
      go_round
      case rel => exact ⟨k + 1, by omega, by go_num⟩
      case measure => simp [intOf]; omega
    · go_wp2_with (first
        | (go_at_call 9; refine (c1 _).mono ?_; rintro en w' ⟨rfl, rfl⟩)
        | (go_at_call 10; refine (c2 _).mono ?_; rintro en w' ⟨rfl, rfl⟩)
        | (go_at_call 11; refine (c3 _).mono ?_; rintro en w' ⟨rfl, rfl⟩)
        | (go_at_call 12; refine (c4 _).mono ?_; rintro en W' ⟨rfl, B'⟩))
      go_ret
      exact ⟨by simp, B'⟩
end Go.Proofs.Ytichcopjdfdnkaa

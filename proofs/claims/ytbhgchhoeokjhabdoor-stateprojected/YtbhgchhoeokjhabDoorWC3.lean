/- Take, the reference's. -/
import Derived.Test.YtbhgchhoeokjhabDoorWC2
namespace Go.Proofs.YtbhgchhoeokjhabDoor
open Go.RowKit M
set_option linter.unusedSimpArgs false
set_option linter.unusedVariables false

theorem digit_lt' {k d : Nat} (hk : k < 10) (hc : d < 128) (h9 : k = 9 → d ≤ 1) : d * 2 ^ (7 * k) < 18446744073709551616 := by
  have := digit_lt (c := d) hk (by omega) h9
  rwa [Nat.mod_eq_of_lt hc] at this
theorem unf_odd {U : Nat} {y : Int} (hy : y = (U : Int)) (h : U % 2 = 1) : -(y / 2) - 1 = unfoldN U := by unfold unfoldN; rw [if_pos h, hy]; omega
theorem unf_even {U : Nat} {y : Int} (hy : y = (U : Int)) (h : ¬ U % 2 = 1) : y / 2 = unfoldN U := by unfold unfoldN; rw [if_neg h, hy]; omega

end Go.Proofs.YtbhgchhoeokjhabDoor

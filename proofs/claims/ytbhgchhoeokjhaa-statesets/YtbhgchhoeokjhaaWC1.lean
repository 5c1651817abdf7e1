/- fold and unfold. -/
import Derived.Test.YtbhgchhoeokjhaaB0
import Derived.Lib.Zigzag
namespace Go.Proofs.Ytbhgchhoeokjhaa
open Go.RowKit M
set_option linter.unusedSimpArgs false
set_option linter.unusedVariables false

theorem fold_neg {v : Int} (h0 : -9223372036854775808 ≤ v) (hv : v < 0) : bits .xor .u64 IntKind.u64.max (IntKind.u64.wrap (IntKind.u64.wrap v * 2)) = ((foldN v : Nat) : Int) := by
  rw [Lib.zigzag_neg h0 hv]; unfold Lib.zigzag foldN; rw [if_neg (by omega), if_pos hv]
theorem fold_pos {v : Int} (hv : 0 ≤ v) : v * 2 = ((foldN v : Nat) : Int) := by unfold foldN; rw [if_neg (by omega)]; omega

theorem fold_any (v : Int) (h0 : -9223372036854775808 ≤ v) (h1 : v ≤ 9223372036854775807) (w : World) :
    Calls Try.prog 56 #[.int .i64 v] w fun e w' => e = .returned (.int .u64 (foldN v)) ∧ w' = w := by
  by_cases hv : v < 0
  · go_enter Try.func56, Try.ntmps56
    go_wp2
    go_ret
    exact ⟨ret_int (fold_neg h0 hv), rfl⟩
  · have hv' : 0 ≤ v := by omega
    go_enter Try.func56, Try.ntmps56
    go_wp2
    go_ret
    exact ⟨ret_int (fold_pos hv'), rfl⟩

theorem unfold_odd {u : Nat} (h : u < 18446744073709551616) (hv : u % 2 = 1) : bits .xor .i64 (-1) ((u : Int) / 2) = unfoldN u := by
  have e : (u : Int) / 2 = ((u / 2 : Nat) : Int) := by omega
  rw [e, Lib.i64_not _ (by omega)]; unfold unfoldN; rw [if_pos hv]
theorem unfold_even {u : Nat} (hv : ¬ u % 2 = 1) : (u : Int) / 2 = unfoldN u := by unfold unfoldN; rw [if_neg hv]; omega

theorem unfold_any (u : Nat) (h : u < 18446744073709551616) (w : World) :
    Calls Try.prog 57 #[.int .u64 u] w fun e w' => e = .returned (.int .i64 (unfoldN u)) ∧ w' = w := by
  by_cases hv : u % 2 = 1
  · go_enter Try.func57, Try.ntmps57
    go_wp2
    go_ret
    exact ⟨ret_int (unfold_odd ‹_› hv), rfl⟩
  · go_enter Try.func57, Try.ntmps57
    go_wp2
    go_ret
    exact ⟨ret_int (unfold_even hv), rfl⟩
end Go.Proofs.Ytbhgchhoeokjhaa

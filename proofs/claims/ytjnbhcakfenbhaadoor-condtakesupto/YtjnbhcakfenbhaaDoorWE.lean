/- The reference's Take at a place outside the list. -/
import Derived.Test.YtjnbhcakfenbhaaDoorWD
namespace Go.Proofs.YtjnbhcakfenbhaaDoor
open Go.RowKit Go.Shelf M
set_option linter.unusedSimpArgs false
set_option linter.unusedVariables false

set_option maxRecDepth 100000 in
set_option maxHeartbeats 4000000 in
theorem rTake_out (a : Option Addr) (cap : Nat) (at' : Int) (n : Nat) (hn : n ≤ 1099511627776) (hat : at' < 0 ∨ (n : Int) < at') (w : World) :
    Calls Tryd.prog 13 #[.slice a n cap, .int .i64 at'] w fun en w' => en = .returned (.tuple #[.slice none 0 0, .int .i64 0, .agg (fltL (some (-1, 0, 4))).toArray]) ∧ Below w.heap.size w w' := by
  have hq : at' < 0 ∨ (¬ (at' < 0) ∧ (n : Int) < at') := by omega
  clear hat
  rcases hq with hd | ⟨hd, hd2⟩
  all_goals
    go_enter Tryd.func13, Tryd.ntmps13
    go_wp2_with (first
      | (refine wpList_allocS rfl 43 rfl (fltL none) Tryd.zeroValue43 ?_; intro W1 b6 F1 M1; have B1 := F1.trans (Below.refl _ w) (Nat.le_refl _); have h6 : w.heap.size ≤ b6 := Nat.le_of_eq F1.at'.symm; clear F1)
      | (refine wpList_storeS rfl 43 _ _ rfl rfl (fltL (some (-1, 0, 4))) rfl M1 (by simp [fltL]) (by kernel_rfl) (fltL_one _) ?_; intro W6 U6 M6x; have M6 : IsS W6 b6 43 (fltL (some (-1, 0, 4))) := M6x; have B6 := U6.trans B1 h6; clear M6x U6))
    have c0 := M6.cell 0
    have c1 := M6.cell 1
    have c2 := M6.cell 2
    simp [fltL] at c0 c1 c2
    refine ⟨rfl, .tuple #[.slice none 0 0, .int .i64 0, .agg (fltL (some (-1, 0, 4))).toArray], ?_, rfl, B6⟩
    simp [results, Tryd.results13, go_sem, c0, c1, c2, fltL]
end Go.Proofs.YtjnbhcakfenbhaaDoor

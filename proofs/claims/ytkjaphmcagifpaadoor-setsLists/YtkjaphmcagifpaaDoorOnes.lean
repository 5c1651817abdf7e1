/- SetsOnes: for every set and every number it returns true: the walk of the law itself, from the contracts of what it calls. -/
import Derived.Test.YtkjaphmcagifpaaDoorW3
namespace Go.Proofs.YtkjaphmcagifpaaDoor
open Go.RowKit M
set_option linter.unusedSimpArgs false
set_option linter.unusedVariables false

theorem TabAt.pos {w : World} (h : TabAt w) : 0 < w.heap.size := by
  have := h 0 (by decide)
  by_cases hz : 0 < w.heap.size
  · exact hz
  · exfalso
    have hn : w.heap[0]? = none := Array.getElem?_eq_none (by omega)
    simp [World.cell?, hn] at this

theorem TabAt.below {w w' : World} (h : TabAt w) (hb : Below w.heap.size w w') : TabAt w' := fun j hj => (hb.cell (p := ⟨0, j, none⟩) h.pos).trans (h j hj)

set_option maxRecDepth 1000000 in
set_option maxHeartbeats 1000000 in
theorem setsOnes_walk (s : Nat) (i : Int) (w : World) (hs : s < 18446744073709551616) (hi : i < 9223372036854775808) (hT : TabAt w) :
    Calls Tryd.prog 3 #[.int .u64 s, .int .i64 i] w fun e w' => e = .returned (.bool true) ∧ Below w.heap.size w w' := by
  go_enter Tryd.func3, Tryd.ntmps3
  go_wp2_with (first
    | (go_at_call 9; refine (has_any _ _ _ hs).mono ?_; rintro e w' ⟨rfl, rfl⟩)
    | (go_at_call 10; refine (rhas_any _ _ _ hs).mono ?_; rintro e w' ⟨rfl, rfl⟩)
    | (go_at_call 11; refine (with_any _ _ _ hs).mono ?_; rintro e w' ⟨rfl, rfl⟩)
    | (go_at_call 12; refine (rwith_any _ _ _ hs).mono ?_; rintro e w' ⟨rfl, rfl⟩)
    | (go_at_call 13; refine (without_any _ _ _ hs).mono ?_; rintro e w' ⟨rfl, rfl⟩)
    | (go_at_call 14; refine (rwithout_any _ _ _ hs).mono ?_; rintro e w' ⟨rfl, rfl⟩)
    | (go_at_call 15; refine (size_any _ _ hs).mono ?_; rintro e w' ⟨rfl, rfl⟩)
    | (go_at_call 16; refine (rsize_any _ _ hs).mono ?_; rintro e w1 ⟨rfl, hb1⟩; have hT1 := hT.below hb1)
    | (go_at_call 17; refine (next_any _ _ _ hs hT1).mono ?_; rintro e w' ⟨rfl, rfl⟩)
    | (go_at_call 18; refine (rnext_any _ _ _ hs hi).mono ?_; rintro e w' ⟨rfl, rfl⟩)
    | (go_at_call 19; refine (at_any _ _ _ hs hT1).mono ?_; rintro e w' ⟨rfl, rfl⟩)
    | (go_at_call 20; refine (rat_any _ _ _ hs).mono ?_; rintro e w2 ⟨rfl, hb2⟩)
    | (go_at_call 21; refine (rank_any _ _ _ hs).mono ?_; rintro e w' ⟨rfl, rfl⟩)
    | (go_at_call 22; refine (rrank_any _ _ _ hs).mono ?_; rintro e w3 ⟨rfl, hb3⟩)
    | (go_at_call 23; refine (below_any _ _).mono ?_; rintro e w' ⟨rfl, rfl⟩)
    | (go_at_call 24; refine (rbelow_any _ _).mono ?_; rintro e w' ⟨rfl, rfl⟩))
  go_ret
  exact ⟨rfl, hb1.trans ((hb2.trans (hb3.mono hb2.size)).mono hb1.size)⟩
end Go.Proofs.YtkjaphmcagifpaaDoor

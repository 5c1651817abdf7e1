/-
  DERIVED. GIVEN WITH THE SEED: THE PROGRAM's TIES (one call each: nine closed facts by the kernel) AND EACH ROW's TIE, after the 31st guide's Derived/Test/Toyas{Tie, Card}.lean. No idea stands in it: it is a product of the set-up. Laid BY PROGRAM, IN A SANDBOX (cutbox-door.mjs). By AI agents, Wed Nov 11 2026. No macro, syntax, notation, axiom, sorry.
-/
import Derived.Test.YtopnbemodlcknaaDoorRows
import Derived.LaidByTextLater
import Derived.SevenTiedAt
import Derived.LaidSub
import Derived.LaidOnce
namespace Go.Proofs.YtopnbemodlcknaaDoor
open Go
set_option maxRecDepth 100000
theorem seatTie1 : Tryd.prog.laidByTextLater [("weir/weirref26.Names", Rows.laid_weir_weirref26_Names), ("weir/cycle.edges", Rows.laid_weir_cycle_edges)] [.widerDeep, .data] true :=
  Program.laidByTextLater_by_one 37 8 91 (by kernel_rfl) (by kernel_rfl) (by kernel_rfl) (by kernel_rfl) (by kernel_rfl) (by kernel_rfl) (fun _ _ => by kernel_rfl)
theorem noOwnUnsafe : Tryd.pinned.checked.prog.headLifts.contains "ownunsafe" = false := by kernel_rfl
theorem tie : Tryd.prog.laidByTextLater [("weir/weirref26.Names", Rows.laid_weir_weirref26_Names), ("weir/cycle.edges", Rows.laid_weir_cycle_edges)] [.widerDeep, .data] true :=
  Program.laidByTextLater.sub seatTie1 ["weir/weirref26.Names", "weir/cycle.edges"] (by kernel_rfl) (by kernel_rfl)
theorem cycleParses_row_tie : Rows.cycleParsesRow.laidByTextAt .later Tryd.pinned [.widerDeep, .data] true :=
  OpenClaim.laidByTextAt_later rfl rfl tie noOwnUnsafe
theorem cycleParsesUpto_row_tie : Rows.cycleParsesUptoRow.laidByTextAt .later Tryd.pinned [.widerDeep, .data] true :=
  OpenClaim.laidByTextAt_later rfl rfl tie noOwnUnsafe
end Go.Proofs.YtopnbemodlcknaaDoor

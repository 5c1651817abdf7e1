/-
  DERIVED. GIVEN WITH THE SEED: THE CARDS: each row of YtbecabkdnjkkeaaDoorRows.lean that lists a variable, with what it lists TIED to the program's text (the seventh form; the later family's looks); each row that meets fmt, with fmt's text TOLD by the authors' own Lean function (tested against real Go, not proved from fmt's source: count such statements apart). THE CARD IS WHAT COUNTS. Prove the row's statement (the work); the ties are given (YtbecabkdnjkkeaaDoorTie.lean); close each card by the builder's one call (the guide's Derived/Test/ToyasCard.lean, 'card_holds'). Laid BY PROGRAM, IN A SANDBOX (cutbox-door.mjs). By AI agents, Wed Nov 11 2026. No macro, syntax, notation, axiom, sorry.
-/
import Derived.Test.YtbecabkdnjkkeaaDoorRows
import GoSem.ClaimSeven
namespace Go.Proofs.YtbecabkdnjkkeaaDoor
namespace Rows

/-- THE TIED CARD OF 'weirlaw26.CycleChecks'. -/
def cycleChecksCard : Claim7 := { stood := { row := cycleChecksRow, standIns := [], harness := (true, "47df84fd7565d59d845517ecb669555ec99b4a97f6c166cbe71b884f4395414f"), looks := false }, kinds := [], alts := [], laidByText := true, laidKinds := [.widerDeep, .data], laidTests := true, laidLooks := .later }
def CycleChecksCardSaid : Prop := Claim7.holds Tryd.pinned (.plain (OpenSpec.ofChange cycleChecksSpec)) cycleChecksCard

/-- THE SECOND FORM's CARD OF 'weirlaw26.CycleChecks'. -/
def cycleChecksUptoCard : Claim7 := { stood := { row := cycleChecksUptoRow, standIns := [], harness := (true, "47df84fd7565d59d845517ecb669555ec99b4a97f6c166cbe71b884f4395414f"), looks := false }, kinds := [], alts := [], laidByText := true, laidKinds := [.widerDeep, .data], laidTests := true, laidLooks := .later }
def CycleChecksUptoCardSaid : Prop := Claim7.holds Tryd.pinned (.plain (OpenSpec.upto cycleChecksSpec)) cycleChecksUptoCard
end Rows
end Go.Proofs.YtbecabkdnjkkeaaDoor

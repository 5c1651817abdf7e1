/-
  DERIVED. GIVEN WITH THE SEED: THE CARDS: each row of YtbhgchhoeokjhabDoorRows.lean that lists a variable, with what it lists TIED to the program's text (the seventh form; the later family's looks); each row that meets fmt, with fmt's text TOLD by the authors' own Lean function (tested against real Go, not proved from fmt's source: count such statements apart). THE CARD IS WHAT COUNTS. Prove the row's statement (the work); the ties are given (YtbhgchhoeokjhabDoorTie.lean); close each card by the builder's one call (the guide's Derived/Test/ToyasCard.lean, 'card_holds'). Laid BY PROGRAM, IN A SANDBOX (cutbox-door.mjs). By AI agents, Wed Nov 11 2026. No macro, syntax, notation, axiom, sorry.
-/
import Derived.Test.YtbhgchhoeokjhabDoorRows
import GoSem.ClaimSeven
namespace Go.Proofs.YtbhgchhoeokjhabDoor
namespace Rows

/-- THE TIED CARD OF 'weirlaw10.StateSetLaws'. -/
def stateSetLawsCard : Claim7 := { stood := { row := stateSetLawsRow, standIns := [], harness := (true, "138c47165d301446426162397010d0d2004041a79cf5cda0f9eff76fb95ad553"), looks := false }, kinds := [], alts := [], laidByText := true, laidKinds := [.data, .data, .data], laidTests := true, laidLooks := .later }
def StateSetLawsCardSaid : Prop := Claim7.holds Tryd.pinned (.plain (OpenSpec.ofChange stateSetLawsSpec)) stateSetLawsCard

/-- THE TIED CARD OF 'weirlaw10.StateBack'. -/
def stateBackCard : Claim7 := { stood := { row := stateBackRow, standIns := [], harness := (true, "138c47165d301446426162397010d0d2004041a79cf5cda0f9eff76fb95ad553"), looks := false }, kinds := [], alts := [], laidByText := true, laidKinds := [.data, .data, .data], laidTests := true, laidLooks := .later }
def StateBackCardSaid : Prop := Claim7.holds Tryd.pinned (.plain (OpenSpec.ofChange stateBackSpec)) stateBackCard

/-- THE TIED CARD OF 'weirlaw10.StateProjected'. -/
def stateProjectedCard : Claim7 := { stood := { row := stateProjectedRow, standIns := [], harness := (true, "138c47165d301446426162397010d0d2004041a79cf5cda0f9eff76fb95ad553"), looks := false }, kinds := [], alts := [], laidByText := true, laidKinds := [.data, .data, .data], laidTests := true, laidLooks := .later }
def StateProjectedCardSaid : Prop := Claim7.holds Tryd.pinned (.plain (OpenSpec.ofChange stateProjectedSpec)) stateProjectedCard

/-- THE SECOND FORM's CARD OF 'weirlaw10.StateSetLaws'. -/
def stateSetLawsUptoCard : Claim7 := { stood := { row := stateSetLawsUptoRow, standIns := [], harness := (true, "138c47165d301446426162397010d0d2004041a79cf5cda0f9eff76fb95ad553"), looks := false }, kinds := [], alts := [], laidByText := true, laidKinds := [.data, .data, .data], laidTests := true, laidLooks := .later }
def StateSetLawsUptoCardSaid : Prop := Claim7.holds Tryd.pinned (.plain (OpenSpec.upto stateSetLawsSpec)) stateSetLawsUptoCard

/-- THE SECOND FORM's CARD OF 'weirlaw10.StateBack'. -/
def stateBackUptoCard : Claim7 := { stood := { row := stateBackUptoRow, standIns := [], harness := (true, "138c47165d301446426162397010d0d2004041a79cf5cda0f9eff76fb95ad553"), looks := false }, kinds := [], alts := [], laidByText := true, laidKinds := [.data, .data, .data], laidTests := true, laidLooks := .later }
def StateBackUptoCardSaid : Prop := Claim7.holds Tryd.pinned (.plain (OpenSpec.upto stateBackSpec)) stateBackUptoCard

/-- THE SECOND FORM's CARD OF 'weirlaw10.StateProjected'. -/
def stateProjectedUptoCard : Claim7 := { stood := { row := stateProjectedUptoRow, standIns := [], harness := (true, "138c47165d301446426162397010d0d2004041a79cf5cda0f9eff76fb95ad553"), looks := false }, kinds := [], alts := [], laidByText := true, laidKinds := [.data, .data, .data], laidTests := true, laidLooks := .later }
def StateProjectedUptoCardSaid : Prop := Claim7.holds Tryd.pinned (.plain (OpenSpec.upto stateProjectedSpec)) stateProjectedUptoCard
end Rows
end Go.Proofs.YtbhgchhoeokjhabDoor

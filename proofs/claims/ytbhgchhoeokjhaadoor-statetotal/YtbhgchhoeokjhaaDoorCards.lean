/-
  DERIVED. GIVEN WITH THE SEED: THE CARDS: each row of YtbhgchhoeokjhaaDoorRows.lean that lists a variable, with what it lists TIED to the program's text (the seventh form; the later family's looks); each row that meets fmt, with fmt's text TOLD by the authors' own Lean function (tested against real Go, not proved from fmt's source: count such statements apart). THE CARD IS WHAT COUNTS. Prove the row's statement (the work); the ties are given (YtbhgchhoeokjhaaDoorTie.lean); close each card by the builder's one call (the guide's Derived/Test/ToyasCard.lean, 'card_holds'). Laid BY PROGRAM, IN A SANDBOX (cutbox-door.mjs). By AI agents, Wed Nov 11 2026. No macro, syntax, notation, axiom, sorry.
-/
import Derived.Test.YtbhgchhoeokjhaaDoorRows
import GoSem.ClaimSeven
namespace Go.Proofs.YtbhgchhoeokjhaaDoor
namespace Rows

/-- THE TIED CARD OF 'weirlaw10.StateTexts'. -/
def stateTextsCard : Claim7 := { stood := { row := stateTextsRow, standIns := [], harness := (true, "cd503d01be0e4fafa4ee1bf2d3dc5f78f020ee65388920197e6bca51506c3860"), looks := false }, kinds := [], alts := [], laidByText := true, laidKinds := [.data, .data, .data], laidTests := true, laidLooks := .later }
def StateTextsCardSaid : Prop := Claim7.holds Tryd.pinned (.plain (OpenSpec.ofChange stateTextsSpec)) stateTextsCard

/-- THE TIED CARD OF 'weirlaw10.StateTotal'. -/
def stateTotalCard : Claim7 := { stood := { row := stateTotalRow, standIns := [], harness := (true, "cd503d01be0e4fafa4ee1bf2d3dc5f78f020ee65388920197e6bca51506c3860"), looks := false }, kinds := [], alts := [], laidByText := true, laidKinds := [.data, .data, .data], laidTests := true, laidLooks := .later }
def StateTotalCardSaid : Prop := Claim7.holds Tryd.pinned (.plain (OpenSpec.ofChange stateTotalSpec)) stateTotalCard

/-- THE SECOND FORM's CARD OF 'weirlaw10.StateTexts'. -/
def stateTextsUptoCard : Claim7 := { stood := { row := stateTextsUptoRow, standIns := [], harness := (true, "cd503d01be0e4fafa4ee1bf2d3dc5f78f020ee65388920197e6bca51506c3860"), looks := false }, kinds := [], alts := [], laidByText := true, laidKinds := [.data, .data, .data], laidTests := true, laidLooks := .later }
def StateTextsUptoCardSaid : Prop := Claim7.holds Tryd.pinned (.plain (OpenSpec.upto stateTextsSpec)) stateTextsUptoCard

/-- THE SECOND FORM's CARD OF 'weirlaw10.StateTotal'. -/
def stateTotalUptoCard : Claim7 := { stood := { row := stateTotalUptoRow, standIns := [], harness := (true, "cd503d01be0e4fafa4ee1bf2d3dc5f78f020ee65388920197e6bca51506c3860"), looks := false }, kinds := [], alts := [], laidByText := true, laidKinds := [.data, .data, .data], laidTests := true, laidLooks := .later }
def StateTotalUptoCardSaid : Prop := Claim7.holds Tryd.pinned (.plain (OpenSpec.upto stateTotalSpec)) stateTotalUptoCard
end Rows
end Go.Proofs.YtbhgchhoeokjhaaDoor

/-
  DERIVED. GIVEN WITH THE SEED: THE CARDS: each row of YtlmnlfnodbfgiaaDoorRows.lean that lists a variable, with what it lists TIED to the program's text (the seventh form; the later family's looks); each row that meets fmt, with fmt's text TOLD by the authors' own Lean function (tested against real Go, not proved from fmt's source: count such statements apart). THE CARD IS WHAT COUNTS. Prove the row's statement (the work); the ties are given (YtlmnlfnodbfgiaaDoorTie.lean); close each card by the builder's one call (the guide's Derived/Test/ToyasCard.lean, 'card_holds'). Laid BY PROGRAM, IN A SANDBOX (cutbox-door.mjs). By AI agents, Wed Nov 11 2026. No macro, syntax, notation, axiom, sorry.
-/
import Derived.Test.YtlmnlfnodbfgiaaDoorRows
import GoSem.ClaimSeven
namespace Go.Proofs.YtlmnlfnodbfgiaaDoor
namespace Rows

/-- THE TIED CARD OF 'weirlaw04.WordTexts'. -/
def wordTextsCard : Claim7 := { stood := { row := wordTextsRow, standIns := [], harness := (true, "c1aca5f85ba0d028a461f53da01c8850e72f305896d2ca4b76e26fb6b17bd15a"), looks := false }, kinds := [], alts := [], laidByText := true, laidKinds := [.data, .data, .data], laidTests := true, laidLooks := .later }
def WordTextsCardSaid : Prop := Claim7.holds Tryd.pinned (.plain (OpenSpec.ofChange wordTextsSpec)) wordTextsCard

/-- THE TIED CARD OF 'weirlaw04.WordBack'. -/
def wordBackCard : Claim7 := { stood := { row := wordBackRow, standIns := [], harness := (true, "c1aca5f85ba0d028a461f53da01c8850e72f305896d2ca4b76e26fb6b17bd15a"), looks := false }, kinds := [], alts := [], laidByText := true, laidKinds := [.data, .data, .data], laidTests := true, laidLooks := .later }
def WordBackCardSaid : Prop := Claim7.holds Tryd.pinned (.plain (OpenSpec.ofChange wordBackSpec)) wordBackCard

/-- THE TIED CARD OF 'weirlaw04.WordLongest'. -/
def wordLongestCard : Claim7 := { stood := { row := wordLongestRow, standIns := [], harness := (true, "c1aca5f85ba0d028a461f53da01c8850e72f305896d2ca4b76e26fb6b17bd15a"), looks := false }, kinds := [], alts := [], laidByText := true, laidKinds := [.data, .data, .data], laidTests := true, laidLooks := .later }
def WordLongestCardSaid : Prop := Claim7.holds Tryd.pinned (.plain (OpenSpec.ofChange wordLongestSpec)) wordLongestCard

/-- THE TIED CARD OF 'weirlaw04.WordCodes'. -/
def wordCodesCard : Claim7 := { stood := { row := wordCodesRow, standIns := [], harness := (true, "c1aca5f85ba0d028a461f53da01c8850e72f305896d2ca4b76e26fb6b17bd15a"), looks := false }, kinds := [], alts := [], laidByText := true, laidKinds := [.data, .data, .data], laidTests := true, laidLooks := .later }
def WordCodesCardSaid : Prop := Claim7.holds Tryd.pinned (.plain (OpenSpec.ofChange wordCodesSpec)) wordCodesCard

/-- THE SECOND FORM's CARD OF 'weirlaw04.WordTexts'. -/
def wordTextsUptoCard : Claim7 := { stood := { row := wordTextsUptoRow, standIns := [], harness := (true, "c1aca5f85ba0d028a461f53da01c8850e72f305896d2ca4b76e26fb6b17bd15a"), looks := false }, kinds := [], alts := [], laidByText := true, laidKinds := [.data, .data, .data], laidTests := true, laidLooks := .later }
def WordTextsUptoCardSaid : Prop := Claim7.holds Tryd.pinned (.plain (OpenSpec.upto wordTextsSpec)) wordTextsUptoCard

/-- THE SECOND FORM's CARD OF 'weirlaw04.WordBack'. -/
def wordBackUptoCard : Claim7 := { stood := { row := wordBackUptoRow, standIns := [], harness := (true, "c1aca5f85ba0d028a461f53da01c8850e72f305896d2ca4b76e26fb6b17bd15a"), looks := false }, kinds := [], alts := [], laidByText := true, laidKinds := [.data, .data, .data], laidTests := true, laidLooks := .later }
def WordBackUptoCardSaid : Prop := Claim7.holds Tryd.pinned (.plain (OpenSpec.upto wordBackSpec)) wordBackUptoCard

/-- THE SECOND FORM's CARD OF 'weirlaw04.WordLongest'. -/
def wordLongestUptoCard : Claim7 := { stood := { row := wordLongestUptoRow, standIns := [], harness := (true, "c1aca5f85ba0d028a461f53da01c8850e72f305896d2ca4b76e26fb6b17bd15a"), looks := false }, kinds := [], alts := [], laidByText := true, laidKinds := [.data, .data, .data], laidTests := true, laidLooks := .later }
def WordLongestUptoCardSaid : Prop := Claim7.holds Tryd.pinned (.plain (OpenSpec.upto wordLongestSpec)) wordLongestUptoCard

/-- THE SECOND FORM's CARD OF 'weirlaw04.WordCodes'. -/
def wordCodesUptoCard : Claim7 := { stood := { row := wordCodesUptoRow, standIns := [], harness := (true, "c1aca5f85ba0d028a461f53da01c8850e72f305896d2ca4b76e26fb6b17bd15a"), looks := false }, kinds := [], alts := [], laidByText := true, laidKinds := [.data, .data, .data], laidTests := true, laidLooks := .later }
def WordCodesUptoCardSaid : Prop := Claim7.holds Tryd.pinned (.plain (OpenSpec.upto wordCodesSpec)) wordCodesUptoCard
end Rows
end Go.Proofs.YtlmnlfnodbfgiaaDoor

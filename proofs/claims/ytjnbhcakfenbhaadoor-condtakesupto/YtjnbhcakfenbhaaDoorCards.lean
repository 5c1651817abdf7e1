/-
  DERIVED. GIVEN WITH THE SEED: THE CARDS: each row of YtjnbhcakfenbhaaDoorRows.lean that lists a variable, with what it lists TIED to the program's text (the seventh form; the later family's looks); each row that meets fmt, with fmt's text TOLD by the authors' own Lean function (tested against real Go, not proved from fmt's source: count such statements apart). THE CARD IS WHAT COUNTS. Prove the row's statement (the work); the ties are given (YtjnbhcakfenbhaaDoorTie.lean); close each card by the builder's one call (the guide's Derived/Test/ToyasCard.lean, 'card_holds'). Laid BY PROGRAM, IN A SANDBOX (cutbox-door.mjs). By AI agents, Wed Nov 11 2026. No macro, syntax, notation, axiom, sorry.
-/
import Derived.Test.YtjnbhcakfenbhaaDoorRows
import GoSem.ClaimSeven
namespace Go.Proofs.YtjnbhcakfenbhaaDoor
namespace Rows

/-- THE TIED CARD OF 'weirlaw06.CondTexts'. -/
def condTextsCard : Claim7 := { stood := { row := condTextsRow, standIns := [], harness := (true, "8d25dbe042cf26dc24db159c4b81f75a70a1c988e661b89ea65626af052e0b1f"), looks := true }, kinds := [], alts := [], laidByText := true, laidKinds := [.data, .data, .data], laidTests := true, laidLooks := .later }
def CondTextsCardSaid : Prop := Claim7.holds Tryd.pinned (.plain (OpenSpec.ofChange condTextsSpec)) condTextsCard

/-- THE TIED CARD OF 'weirlaw06.CondTakes'. -/
def condTakesCard : Claim7 := { stood := { row := condTakesRow, standIns := [], harness := (true, "8d25dbe042cf26dc24db159c4b81f75a70a1c988e661b89ea65626af052e0b1f"), looks := true }, kinds := [], alts := [], laidByText := true, laidKinds := [.handle], laidTests := true, laidLooks := .later }
def CondTakesCardSaid : Prop := Claim7.holds Tryd.pinned (.plain (OpenSpec.ofChange condTakesSpec)) condTakesCard

/-- THE SECOND FORM's CARD OF 'weirlaw06.CondTexts'. -/
def condTextsUptoCard : Claim7 := { stood := { row := condTextsUptoRow, standIns := [], harness := (true, "8d25dbe042cf26dc24db159c4b81f75a70a1c988e661b89ea65626af052e0b1f"), looks := true }, kinds := [], alts := [], laidByText := true, laidKinds := [.data, .data, .data], laidTests := true, laidLooks := .later }
def CondTextsUptoCardSaid : Prop := Claim7.holds Tryd.pinned (.plain (OpenSpec.upto condTextsSpec)) condTextsUptoCard

/-- THE SECOND FORM's CARD OF 'weirlaw06.CondTakes'. -/
def condTakesUptoCard : Claim7 := { stood := { row := condTakesUptoRow, standIns := [], harness := (true, "8d25dbe042cf26dc24db159c4b81f75a70a1c988e661b89ea65626af052e0b1f"), looks := true }, kinds := [], alts := [], laidByText := true, laidKinds := [.handle], laidTests := true, laidLooks := .later }
def CondTakesUptoCardSaid : Prop := Claim7.holds Tryd.pinned (.plain (OpenSpec.upto condTakesSpec)) condTakesUptoCard
end Rows
end Go.Proofs.YtjnbhcakfenbhaaDoor

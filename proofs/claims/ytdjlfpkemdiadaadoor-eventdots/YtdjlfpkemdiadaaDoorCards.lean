/-
  DERIVED. GIVEN WITH THE SEED: THE CARDS: each row of YtdjlfpkemdiadaaDoorRows.lean that lists a variable, with what it lists TIED to the program's text (the seventh form; the later family's looks); each row that meets fmt, with fmt's text TOLD by the authors' own Lean function (tested against real Go, not proved from fmt's source: count such statements apart). THE CARD IS WHAT COUNTS. Prove the row's statement (the work); the ties are given (YtdjlfpkemdiadaaDoorTie.lean); close each card by the builder's one call (the guide's Derived/Test/ToyasCard.lean, 'card_holds'). Laid BY PROGRAM, IN A SANDBOX (cutbox-door.mjs). By AI agents, Wed Nov 11 2026. No macro, syntax, notation, axiom, sorry.
-/
import Derived.Test.YtdjlfpkemdiadaaDoorRows
import GoSem.ClaimSeven
namespace Go.Proofs.YtdjlfpkemdiadaaDoor
namespace Rows

/-- THE TIED CARD OF 'weirlaw17.EventShapes'. -/
def eventShapesCard : Claim7 := { stood := { row := eventShapesRow, standIns := [], harness := (true, "ed9fb67672d555f21976a84c271f40351e4b7550892784f0fb2cffacbe9c2382"), looks := false }, kinds := [], alts := [], laidByText := true, laidKinds := [.data, .data, .data], laidTests := true, laidLooks := .later }
def EventShapesCardSaid : Prop := Claim7.holds Tryd.pinned (.plain (OpenSpec.ofChange eventShapesSpec)) eventShapesCard

/-- THE TIED CARD OF 'weirlaw17.EventOrders'. -/
def eventOrdersCard : Claim7 := { stood := { row := eventOrdersRow, standIns := [], harness := (true, "ed9fb67672d555f21976a84c271f40351e4b7550892784f0fb2cffacbe9c2382"), looks := false }, kinds := [], alts := [], laidByText := true, laidKinds := [.data, .data, .data], laidTests := true, laidLooks := .later }
def EventOrdersCardSaid : Prop := Claim7.holds Tryd.pinned (.plain (OpenSpec.ofChange eventOrdersSpec)) eventOrdersCard

/-- THE TIED CARD OF 'weirlaw17.EventDots'. -/
def eventDotsCard : Claim7 := { stood := { row := eventDotsRow, standIns := [], harness := (true, "ed9fb67672d555f21976a84c271f40351e4b7550892784f0fb2cffacbe9c2382"), looks := false }, kinds := [], alts := [], laidByText := true, laidKinds := [.data, .data, .data], laidTests := true, laidLooks := .later }
def EventDotsCardSaid : Prop := Claim7.holds Tryd.pinned (.plain (OpenSpec.ofChange eventDotsSpec)) eventDotsCard

/-- THE SECOND FORM's CARD OF 'weirlaw17.EventShapes'. -/
def eventShapesUptoCard : Claim7 := { stood := { row := eventShapesUptoRow, standIns := [], harness := (true, "ed9fb67672d555f21976a84c271f40351e4b7550892784f0fb2cffacbe9c2382"), looks := false }, kinds := [], alts := [], laidByText := true, laidKinds := [.data, .data, .data], laidTests := true, laidLooks := .later }
def EventShapesUptoCardSaid : Prop := Claim7.holds Tryd.pinned (.plain (OpenSpec.upto eventShapesSpec)) eventShapesUptoCard

/-- THE SECOND FORM's CARD OF 'weirlaw17.EventOrders'. -/
def eventOrdersUptoCard : Claim7 := { stood := { row := eventOrdersUptoRow, standIns := [], harness := (true, "ed9fb67672d555f21976a84c271f40351e4b7550892784f0fb2cffacbe9c2382"), looks := false }, kinds := [], alts := [], laidByText := true, laidKinds := [.data, .data, .data], laidTests := true, laidLooks := .later }
def EventOrdersUptoCardSaid : Prop := Claim7.holds Tryd.pinned (.plain (OpenSpec.upto eventOrdersSpec)) eventOrdersUptoCard

/-- THE SECOND FORM's CARD OF 'weirlaw17.EventDots'. -/
def eventDotsUptoCard : Claim7 := { stood := { row := eventDotsUptoRow, standIns := [], harness := (true, "ed9fb67672d555f21976a84c271f40351e4b7550892784f0fb2cffacbe9c2382"), looks := false }, kinds := [], alts := [], laidByText := true, laidKinds := [.data, .data, .data], laidTests := true, laidLooks := .later }
def EventDotsUptoCardSaid : Prop := Claim7.holds Tryd.pinned (.plain (OpenSpec.upto eventDotsSpec)) eventDotsUptoCard
end Rows
end Go.Proofs.YtdjlfpkemdiadaaDoor

/-
  DERIVED. GIVEN WITH THE SEED: THE CARDS: each row of YtdneaaegllpnlaaDoorRows.lean that lists a variable, with what it lists TIED to the program's text (the seventh form; the later family's looks); each row that meets fmt, with fmt's text TOLD by the authors' own Lean function (tested against real Go, not proved from fmt's source: count such statements apart). THE CARD IS WHAT COUNTS. Prove the row's statement (the work); the ties are given (YtdneaaegllpnlaaDoorTie.lean); close each card by the builder's one call (the guide's Derived/Test/ToyasCard.lean, 'card_holds'). Laid BY PROGRAM, IN A SANDBOX (cutbox-door.mjs). By AI agents, Wed Nov 11 2026. No macro, syntax, notation, axiom, sorry.
-/
import Derived.Test.YtdneaaegllpnlaaDoorRows
import GoSem.ClaimSeven
namespace Go.Proofs.YtdneaaegllpnlaaDoor
namespace Rows

/-- THE TIED CARD OF 'weirlaw17.EventLists'. -/
def eventListsCard : Claim7 := { stood := { row := eventListsRow, standIns := [], harness := (true, "8556d9abdbbef06bb3f95cd183f936669d39b991311c998ac4cde02a92d27276"), looks := false }, kinds := [], alts := [], laidByText := true, laidKinds := [.data, .data, .data], laidTests := true, laidLooks := .later }
def EventListsCardSaid : Prop := Claim7.holds Tryd.pinned (.plain (OpenSpec.ofChange eventListsSpec)) eventListsCard

/-- THE TIED CARD OF 'weirlaw17.EventRelations'. -/
def eventRelationsCard : Claim7 := { stood := { row := eventRelationsRow, standIns := [], harness := (true, "8556d9abdbbef06bb3f95cd183f936669d39b991311c998ac4cde02a92d27276"), looks := false }, kinds := [], alts := [], laidByText := true, laidKinds := [.data], laidTests := true, laidLooks := .later }
def EventRelationsCardSaid : Prop := Claim7.holds Tryd.pinned (.plain (OpenSpec.ofChange eventRelationsSpec)) eventRelationsCard

/-- THE TIED CARD OF 'weirlaw17.EventReads'. -/
def eventReadsCard : Claim7 := { stood := { row := eventReadsRow, standIns := [], harness := (true, "8556d9abdbbef06bb3f95cd183f936669d39b991311c998ac4cde02a92d27276"), looks := false }, kinds := [], alts := [], laidByText := true, laidKinds := [.data], laidTests := true, laidLooks := .later }
def EventReadsCardSaid : Prop := Claim7.holds Tryd.pinned (.plain (OpenSpec.ofChange eventReadsSpec)) eventReadsCard

/-- THE TIED CARD OF 'weirlaw17.EventDots'. -/
def eventDotsCard : Claim7 := { stood := { row := eventDotsRow, standIns := [], harness := (true, "8556d9abdbbef06bb3f95cd183f936669d39b991311c998ac4cde02a92d27276"), looks := false }, kinds := [], alts := [], laidByText := true, laidKinds := [.data, .data, .data], laidTests := true, laidLooks := .later }
def EventDotsCardSaid : Prop := Claim7.holds Tryd.pinned (.plain (OpenSpec.ofChange eventDotsSpec)) eventDotsCard

/-- THE TIED CARD OF 'weirlaw17.EventShapes'. -/
def eventShapesCard : Claim7 := { stood := { row := eventShapesRow, standIns := [], harness := (true, "8556d9abdbbef06bb3f95cd183f936669d39b991311c998ac4cde02a92d27276"), looks := false }, kinds := [], alts := [], laidByText := true, laidKinds := [.data, .data, .data], laidTests := true, laidLooks := .later }
def EventShapesCardSaid : Prop := Claim7.holds Tryd.pinned (.plain (OpenSpec.ofChange eventShapesSpec)) eventShapesCard

/-- THE TIED CARD OF 'weirlaw17.EventOrders'. -/
def eventOrdersCard : Claim7 := { stood := { row := eventOrdersRow, standIns := [], harness := (true, "8556d9abdbbef06bb3f95cd183f936669d39b991311c998ac4cde02a92d27276"), looks := false }, kinds := [], alts := [], laidByText := true, laidKinds := [.data, .data, .data], laidTests := true, laidLooks := .later }
def EventOrdersCardSaid : Prop := Claim7.holds Tryd.pinned (.plain (OpenSpec.ofChange eventOrdersSpec)) eventOrdersCard

/-- THE SECOND FORM's CARD OF 'weirlaw17.EventLists'. -/
def eventListsUptoCard : Claim7 := { stood := { row := eventListsUptoRow, standIns := [], harness := (true, "8556d9abdbbef06bb3f95cd183f936669d39b991311c998ac4cde02a92d27276"), looks := false }, kinds := [], alts := [], laidByText := true, laidKinds := [.data, .data, .data], laidTests := true, laidLooks := .later }
def EventListsUptoCardSaid : Prop := Claim7.holds Tryd.pinned (.plain (OpenSpec.upto eventListsSpec)) eventListsUptoCard

/-- THE SECOND FORM's CARD OF 'weirlaw17.EventRelations'. -/
def eventRelationsUptoCard : Claim7 := { stood := { row := eventRelationsUptoRow, standIns := [], harness := (true, "8556d9abdbbef06bb3f95cd183f936669d39b991311c998ac4cde02a92d27276"), looks := false }, kinds := [], alts := [], laidByText := true, laidKinds := [.data], laidTests := true, laidLooks := .later }
def EventRelationsUptoCardSaid : Prop := Claim7.holds Tryd.pinned (.plain (OpenSpec.upto eventRelationsSpec)) eventRelationsUptoCard

/-- THE SECOND FORM's CARD OF 'weirlaw17.EventReads'. -/
def eventReadsUptoCard : Claim7 := { stood := { row := eventReadsUptoRow, standIns := [], harness := (true, "8556d9abdbbef06bb3f95cd183f936669d39b991311c998ac4cde02a92d27276"), looks := false }, kinds := [], alts := [], laidByText := true, laidKinds := [.data], laidTests := true, laidLooks := .later }
def EventReadsUptoCardSaid : Prop := Claim7.holds Tryd.pinned (.plain (OpenSpec.upto eventReadsSpec)) eventReadsUptoCard

/-- THE SECOND FORM's CARD OF 'weirlaw17.EventDots'. -/
def eventDotsUptoCard : Claim7 := { stood := { row := eventDotsUptoRow, standIns := [], harness := (true, "8556d9abdbbef06bb3f95cd183f936669d39b991311c998ac4cde02a92d27276"), looks := false }, kinds := [], alts := [], laidByText := true, laidKinds := [.data, .data, .data], laidTests := true, laidLooks := .later }
def EventDotsUptoCardSaid : Prop := Claim7.holds Tryd.pinned (.plain (OpenSpec.upto eventDotsSpec)) eventDotsUptoCard

/-- THE SECOND FORM's CARD OF 'weirlaw17.EventShapes'. -/
def eventShapesUptoCard : Claim7 := { stood := { row := eventShapesUptoRow, standIns := [], harness := (true, "8556d9abdbbef06bb3f95cd183f936669d39b991311c998ac4cde02a92d27276"), looks := false }, kinds := [], alts := [], laidByText := true, laidKinds := [.data, .data, .data], laidTests := true, laidLooks := .later }
def EventShapesUptoCardSaid : Prop := Claim7.holds Tryd.pinned (.plain (OpenSpec.upto eventShapesSpec)) eventShapesUptoCard

/-- THE SECOND FORM's CARD OF 'weirlaw17.EventOrders'. -/
def eventOrdersUptoCard : Claim7 := { stood := { row := eventOrdersUptoRow, standIns := [], harness := (true, "8556d9abdbbef06bb3f95cd183f936669d39b991311c998ac4cde02a92d27276"), looks := false }, kinds := [], alts := [], laidByText := true, laidKinds := [.data, .data, .data], laidTests := true, laidLooks := .later }
def EventOrdersUptoCardSaid : Prop := Claim7.holds Tryd.pinned (.plain (OpenSpec.upto eventOrdersSpec)) eventOrdersUptoCard
end Rows
end Go.Proofs.YtdneaaegllpnlaaDoor

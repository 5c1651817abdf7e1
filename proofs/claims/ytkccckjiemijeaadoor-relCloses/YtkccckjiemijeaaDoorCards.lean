/-
  DERIVED. GIVEN WITH THE SEED: THE CARDS: each row of YtkccckjiemijeaaDoorRows.lean that lists a variable, with what it lists TIED to the program's text (the seventh form; the later family's looks); each row that meets fmt, with fmt's text TOLD by the authors' own Lean function (tested against real Go, not proved from fmt's source: count such statements apart). THE CARD IS WHAT COUNTS. Prove the row's statement (the work); the ties are given (YtkccckjiemijeaaDoorTie.lean); close each card by the builder's one call (the guide's Derived/Test/ToyasCard.lean, 'card_holds'). Laid BY PROGRAM, IN A SANDBOX (cutbox-door.mjs). By AI agents, Wed Nov 11 2026. No macro, syntax, notation, axiom, sorry.
-/
import Derived.Test.YtkccckjiemijeaaDoorRows
import GoSem.ClaimSeven
namespace Go.Proofs.YtkccckjiemijeaaDoor
namespace Rows

/-- THE TIED CARD OF 'weirlaw02.RelMakes'. -/
def relMakesCard : Claim7 := { stood := { row := relMakesRow, standIns := [], harness := (true, "4059ff687261fa2e96134aa52340d38a1ed6aa176810fa227fa81ffc2a1e0e3a"), looks := false }, kinds := [], alts := [], laidByText := true, laidKinds := [.data], laidTests := true, laidLooks := .later }
def RelMakesCardSaid : Prop := Claim7.holds Tryd.pinned (.plain (OpenSpec.ofChange relMakesSpec)) relMakesCard

/-- THE TIED CARD OF 'weirlaw02.RelWalks'. -/
def relWalksCard : Claim7 := { stood := { row := relWalksRow, standIns := [], harness := (true, "4059ff687261fa2e96134aa52340d38a1ed6aa176810fa227fa81ffc2a1e0e3a"), looks := false }, kinds := [], alts := [], laidByText := true, laidKinds := [.data], laidTests := true, laidLooks := .later }
def RelWalksCardSaid : Prop := Claim7.holds Tryd.pinned (.plain (OpenSpec.ofChange relWalksSpec)) relWalksCard

/-- THE TIED CARD OF 'weirlaw02.RelOperates'. -/
def relOperatesCard : Claim7 := { stood := { row := relOperatesRow, standIns := [], harness := (true, "4059ff687261fa2e96134aa52340d38a1ed6aa176810fa227fa81ffc2a1e0e3a"), looks := false }, kinds := [], alts := [], laidByText := true, laidKinds := [.data], laidTests := true, laidLooks := .later }
def RelOperatesCardSaid : Prop := Claim7.holds Tryd.pinned (.plain (OpenSpec.ofChange relOperatesSpec)) relOperatesCard

/-- THE TIED CARD OF 'weirlaw02.RelCloses'. -/
def relClosesCard : Claim7 := { stood := { row := relClosesRow, standIns := [], harness := (true, "4059ff687261fa2e96134aa52340d38a1ed6aa176810fa227fa81ffc2a1e0e3a"), looks := false }, kinds := [], alts := [], laidByText := true, laidKinds := [.data], laidTests := true, laidLooks := .later }
def RelClosesCardSaid : Prop := Claim7.holds Tryd.pinned (.plain (OpenSpec.ofChange relClosesSpec)) relClosesCard

/-- THE TIED CARD OF 'weirlaw02.RelCycles'. -/
def relCyclesCard : Claim7 := { stood := { row := relCyclesRow, standIns := [], harness := (true, "4059ff687261fa2e96134aa52340d38a1ed6aa176810fa227fa81ffc2a1e0e3a"), looks := false }, kinds := [], alts := [], laidByText := true, laidKinds := [.data], laidTests := true, laidLooks := .later }
def RelCyclesCardSaid : Prop := Claim7.holds Tryd.pinned (.plain (OpenSpec.ofChange relCyclesSpec)) relCyclesCard

/-- THE TIED CARD OF 'weirlaw02.RelOrders'. -/
def relOrdersCard : Claim7 := { stood := { row := relOrdersRow, standIns := [], harness := (true, "4059ff687261fa2e96134aa52340d38a1ed6aa176810fa227fa81ffc2a1e0e3a"), looks := false }, kinds := [], alts := [], laidByText := true, laidKinds := [.data], laidTests := true, laidLooks := .later }
def RelOrdersCardSaid : Prop := Claim7.holds Tryd.pinned (.plain (OpenSpec.ofChange relOrdersSpec)) relOrdersCard

/-- THE SECOND FORM's CARD OF 'weirlaw02.RelMakes'. -/
def relMakesUptoCard : Claim7 := { stood := { row := relMakesUptoRow, standIns := [], harness := (true, "4059ff687261fa2e96134aa52340d38a1ed6aa176810fa227fa81ffc2a1e0e3a"), looks := false }, kinds := [], alts := [], laidByText := true, laidKinds := [.data], laidTests := true, laidLooks := .later }
def RelMakesUptoCardSaid : Prop := Claim7.holds Tryd.pinned (.plain (OpenSpec.upto relMakesSpec)) relMakesUptoCard

/-- THE SECOND FORM's CARD OF 'weirlaw02.RelWalks'. -/
def relWalksUptoCard : Claim7 := { stood := { row := relWalksUptoRow, standIns := [], harness := (true, "4059ff687261fa2e96134aa52340d38a1ed6aa176810fa227fa81ffc2a1e0e3a"), looks := false }, kinds := [], alts := [], laidByText := true, laidKinds := [.data], laidTests := true, laidLooks := .later }
def RelWalksUptoCardSaid : Prop := Claim7.holds Tryd.pinned (.plain (OpenSpec.upto relWalksSpec)) relWalksUptoCard

/-- THE SECOND FORM's CARD OF 'weirlaw02.RelOperates'. -/
def relOperatesUptoCard : Claim7 := { stood := { row := relOperatesUptoRow, standIns := [], harness := (true, "4059ff687261fa2e96134aa52340d38a1ed6aa176810fa227fa81ffc2a1e0e3a"), looks := false }, kinds := [], alts := [], laidByText := true, laidKinds := [.data], laidTests := true, laidLooks := .later }
def RelOperatesUptoCardSaid : Prop := Claim7.holds Tryd.pinned (.plain (OpenSpec.upto relOperatesSpec)) relOperatesUptoCard

/-- THE SECOND FORM's CARD OF 'weirlaw02.RelCloses'. -/
def relClosesUptoCard : Claim7 := { stood := { row := relClosesUptoRow, standIns := [], harness := (true, "4059ff687261fa2e96134aa52340d38a1ed6aa176810fa227fa81ffc2a1e0e3a"), looks := false }, kinds := [], alts := [], laidByText := true, laidKinds := [.data], laidTests := true, laidLooks := .later }
def RelClosesUptoCardSaid : Prop := Claim7.holds Tryd.pinned (.plain (OpenSpec.upto relClosesSpec)) relClosesUptoCard

/-- THE SECOND FORM's CARD OF 'weirlaw02.RelCycles'. -/
def relCyclesUptoCard : Claim7 := { stood := { row := relCyclesUptoRow, standIns := [], harness := (true, "4059ff687261fa2e96134aa52340d38a1ed6aa176810fa227fa81ffc2a1e0e3a"), looks := false }, kinds := [], alts := [], laidByText := true, laidKinds := [.data], laidTests := true, laidLooks := .later }
def RelCyclesUptoCardSaid : Prop := Claim7.holds Tryd.pinned (.plain (OpenSpec.upto relCyclesSpec)) relCyclesUptoCard

/-- THE SECOND FORM's CARD OF 'weirlaw02.RelOrders'. -/
def relOrdersUptoCard : Claim7 := { stood := { row := relOrdersUptoRow, standIns := [], harness := (true, "4059ff687261fa2e96134aa52340d38a1ed6aa176810fa227fa81ffc2a1e0e3a"), looks := false }, kinds := [], alts := [], laidByText := true, laidKinds := [.data], laidTests := true, laidLooks := .later }
def RelOrdersUptoCardSaid : Prop := Claim7.holds Tryd.pinned (.plain (OpenSpec.upto relOrdersSpec)) relOrdersUptoCard
end Rows
end Go.Proofs.YtkccckjiemijeaaDoor

/-
  DERIVED. GIVEN WITH THE SEED: THE CARDS: each row of YtkccckjiemijeabDoorRows.lean that lists a variable, with what it lists TIED to the program's text (the seventh form; the later family's looks); each row that meets fmt, with fmt's text TOLD by the authors' own Lean function (tested against real Go, not proved from fmt's source: count such statements apart). THE CARD IS WHAT COUNTS. Prove the row's statement (the work); the ties are given (YtkccckjiemijeabDoorTie.lean); close each card by the builder's one call (the guide's Derived/Test/ToyasCard.lean, 'card_holds'). Laid BY PROGRAM, IN A SANDBOX (cutbox-door.mjs). By AI agents, Wed Nov 11 2026. No macro, syntax, notation, axiom, sorry.
-/
import Derived.Test.YtkccckjiemijeabDoorRows
import GoSem.ClaimSeven
namespace Go.Proofs.YtkccckjiemijeabDoor
namespace Rows

/-- THE TIED CARD OF 'weirlaw02.RelLaws'. -/
def relLawsCard : Claim7 := { stood := { row := relLawsRow, standIns := [], harness := (true, "5f261e4119f02895a40af6c4e754a240f146d9872a7239e50879fc336d9d1cd1"), looks := false }, kinds := [], alts := [], laidByText := true, laidKinds := [.data], laidTests := true, laidLooks := .later }
def RelLawsCardSaid : Prop := Claim7.holds Tryd.pinned (.plain (OpenSpec.ofChange relLawsSpec)) relLawsCard

/-- THE TIED CARD OF 'weirlaw02.RelLeast'. -/
def relLeastCard : Claim7 := { stood := { row := relLeastRow, standIns := [], harness := (true, "5f261e4119f02895a40af6c4e754a240f146d9872a7239e50879fc336d9d1cd1"), looks := false }, kinds := [], alts := [], laidByText := true, laidKinds := [.data], laidTests := true, laidLooks := .later }
def RelLeastCardSaid : Prop := Claim7.holds Tryd.pinned (.plain (OpenSpec.ofChange relLeastSpec)) relLeastCard

/-- THE TIED CARD OF 'weirlaw02.RelRound'. -/
def relRoundCard : Claim7 := { stood := { row := relRoundRow, standIns := [], harness := (true, "5f261e4119f02895a40af6c4e754a240f146d9872a7239e50879fc336d9d1cd1"), looks := false }, kinds := [], alts := [], laidByText := true, laidKinds := [.data], laidTests := true, laidLooks := .later }
def RelRoundCardSaid : Prop := Claim7.holds Tryd.pinned (.plain (OpenSpec.ofChange relRoundSpec)) relRoundCard

/-- THE TIED CARD OF 'weirlaw02.RelExtends'. -/
def relExtendsCard : Claim7 := { stood := { row := relExtendsRow, standIns := [], harness := (true, "5f261e4119f02895a40af6c4e754a240f146d9872a7239e50879fc336d9d1cd1"), looks := false }, kinds := [], alts := [], laidByText := true, laidKinds := [.data], laidTests := true, laidLooks := .later }
def RelExtendsCardSaid : Prop := Claim7.holds Tryd.pinned (.plain (OpenSpec.ofChange relExtendsSpec)) relExtendsCard

/-- THE TIED CARD OF 'weirlaw02.RelReduces'. -/
def relReducesCard : Claim7 := { stood := { row := relReducesRow, standIns := [], harness := (true, "5f261e4119f02895a40af6c4e754a240f146d9872a7239e50879fc336d9d1cd1"), looks := false }, kinds := [], alts := [], laidByText := true, laidKinds := [.data], laidTests := true, laidLooks := .later }
def RelReducesCardSaid : Prop := Claim7.holds Tryd.pinned (.plain (OpenSpec.ofChange relReducesSpec)) relReducesCard

/-- THE SECOND FORM's CARD OF 'weirlaw02.RelLaws'. -/
def relLawsUptoCard : Claim7 := { stood := { row := relLawsUptoRow, standIns := [], harness := (true, "5f261e4119f02895a40af6c4e754a240f146d9872a7239e50879fc336d9d1cd1"), looks := false }, kinds := [], alts := [], laidByText := true, laidKinds := [.data], laidTests := true, laidLooks := .later }
def RelLawsUptoCardSaid : Prop := Claim7.holds Tryd.pinned (.plain (OpenSpec.upto relLawsSpec)) relLawsUptoCard

/-- THE SECOND FORM's CARD OF 'weirlaw02.RelLeast'. -/
def relLeastUptoCard : Claim7 := { stood := { row := relLeastUptoRow, standIns := [], harness := (true, "5f261e4119f02895a40af6c4e754a240f146d9872a7239e50879fc336d9d1cd1"), looks := false }, kinds := [], alts := [], laidByText := true, laidKinds := [.data], laidTests := true, laidLooks := .later }
def RelLeastUptoCardSaid : Prop := Claim7.holds Tryd.pinned (.plain (OpenSpec.upto relLeastSpec)) relLeastUptoCard

/-- THE SECOND FORM's CARD OF 'weirlaw02.RelRound'. -/
def relRoundUptoCard : Claim7 := { stood := { row := relRoundUptoRow, standIns := [], harness := (true, "5f261e4119f02895a40af6c4e754a240f146d9872a7239e50879fc336d9d1cd1"), looks := false }, kinds := [], alts := [], laidByText := true, laidKinds := [.data], laidTests := true, laidLooks := .later }
def RelRoundUptoCardSaid : Prop := Claim7.holds Tryd.pinned (.plain (OpenSpec.upto relRoundSpec)) relRoundUptoCard

/-- THE SECOND FORM's CARD OF 'weirlaw02.RelExtends'. -/
def relExtendsUptoCard : Claim7 := { stood := { row := relExtendsUptoRow, standIns := [], harness := (true, "5f261e4119f02895a40af6c4e754a240f146d9872a7239e50879fc336d9d1cd1"), looks := false }, kinds := [], alts := [], laidByText := true, laidKinds := [.data], laidTests := true, laidLooks := .later }
def RelExtendsUptoCardSaid : Prop := Claim7.holds Tryd.pinned (.plain (OpenSpec.upto relExtendsSpec)) relExtendsUptoCard

/-- THE SECOND FORM's CARD OF 'weirlaw02.RelReduces'. -/
def relReducesUptoCard : Claim7 := { stood := { row := relReducesUptoRow, standIns := [], harness := (true, "5f261e4119f02895a40af6c4e754a240f146d9872a7239e50879fc336d9d1cd1"), looks := false }, kinds := [], alts := [], laidByText := true, laidKinds := [.data], laidTests := true, laidLooks := .later }
def RelReducesUptoCardSaid : Prop := Claim7.holds Tryd.pinned (.plain (OpenSpec.upto relReducesSpec)) relReducesUptoCard
end Rows
end Go.Proofs.YtkccckjiemijeabDoor

/-
  DERIVED. GIVEN WITH THE SEED: THE CARDS: each row of YtkjaphmcagifpaaDoorRows.lean that lists a variable, with what it lists TIED to the program's text (the seventh form; the later family's looks); each row that meets fmt, with fmt's text TOLD by the authors' own Lean function (tested against real Go, not proved from fmt's source: count such statements apart). THE CARD IS WHAT COUNTS. Prove the row's statement (the work); the ties are given (YtkjaphmcagifpaaDoorTie.lean); close each card by the builder's one call (the guide's Derived/Test/ToyasCard.lean, 'card_holds'). Laid BY PROGRAM, IN A SANDBOX (cutbox-door.mjs). By AI agents, Wed Nov 11 2026. No macro, syntax, notation, axiom, sorry.
-/
import Derived.Test.YtkjaphmcagifpaaDoorRows
import GoSem.ClaimSeven
namespace Go.Proofs.YtkjaphmcagifpaaDoor
namespace Rows

/-- THE TIED CARD OF 'weirlaw01.SetsOnes'. -/
def setsOnesCard : Claim7 := { stood := { row := setsOnesRow, standIns := [], harness := (true, "062021a75133fc56a00c84114ff7924bcace07f3af25b16ffa36d05141ee19da"), looks := false }, kinds := [], alts := [], laidByText := true, laidKinds := [.data], laidTests := true, laidLooks := .later }
def SetsOnesCardSaid : Prop := Claim7.holds Tryd.pinned (.plain (OpenSpec.ofChange setsOnesSpec)) setsOnesCard

/-- THE TIED CARD OF 'weirlaw01.SetsLists'. -/
def setsListsCard : Claim7 := { stood := { row := setsListsRow, standIns := [], harness := (true, "062021a75133fc56a00c84114ff7924bcace07f3af25b16ffa36d05141ee19da"), looks := false }, kinds := [], alts := [], laidByText := true, laidKinds := [.data, .data, .data], laidTests := true, laidLooks := .later }
def SetsListsCardSaid : Prop := Claim7.holds Tryd.pinned (.plain (OpenSpec.ofChange setsListsSpec)) setsListsCard

/-- THE TIED CARD OF 'weirlaw01.SetsWalks'. -/
def setsWalksCard : Claim7 := { stood := { row := setsWalksRow, standIns := [], harness := (true, "062021a75133fc56a00c84114ff7924bcace07f3af25b16ffa36d05141ee19da"), looks := false }, kinds := [], alts := [], laidByText := true, laidKinds := [.data], laidTests := true, laidLooks := .later }
def SetsWalksCardSaid : Prop := Claim7.holds Tryd.pinned (.plain (OpenSpec.ofChange setsWalksSpec)) setsWalksCard

/-- THE TIED CARD OF 'weirlaw01.SetsLeast'. -/
def setsLeastCard : Claim7 := { stood := { row := setsLeastRow, standIns := [], harness := (true, "062021a75133fc56a00c84114ff7924bcace07f3af25b16ffa36d05141ee19da"), looks := false }, kinds := [], alts := [], laidByText := true, laidKinds := [.data], laidTests := true, laidLooks := .later }
def SetsLeastCardSaid : Prop := Claim7.holds Tryd.pinned (.plain (OpenSpec.ofChange setsLeastSpec)) setsLeastCard

/-- THE TIED CARD OF 'weirlaw01.SetsBack'. -/
def setsBackCard : Claim7 := { stood := { row := setsBackRow, standIns := [], harness := (true, "062021a75133fc56a00c84114ff7924bcace07f3af25b16ffa36d05141ee19da"), looks := false }, kinds := [], alts := [], laidByText := true, laidKinds := [.data, .data, .data], laidTests := true, laidLooks := .later }
def SetsBackCardSaid : Prop := Claim7.holds Tryd.pinned (.plain (OpenSpec.ofChange setsBackSpec)) setsBackCard

/-- THE TIED CARD OF 'weirlaw01.SetsCounts'. -/
def setsCountsCard : Claim7 := { stood := { row := setsCountsRow, standIns := [], harness := (true, "062021a75133fc56a00c84114ff7924bcace07f3af25b16ffa36d05141ee19da"), looks := false }, kinds := [], alts := [], laidByText := true, laidKinds := [.data, .data, .data], laidTests := true, laidLooks := .later }
def SetsCountsCardSaid : Prop := Claim7.holds Tryd.pinned (.plain (OpenSpec.ofChange setsCountsSpec)) setsCountsCard

/-- THE SECOND FORM's CARD OF 'weirlaw01.SetsOnes'. -/
def setsOnesUptoCard : Claim7 := { stood := { row := setsOnesUptoRow, standIns := [], harness := (true, "062021a75133fc56a00c84114ff7924bcace07f3af25b16ffa36d05141ee19da"), looks := false }, kinds := [], alts := [], laidByText := true, laidKinds := [.data], laidTests := true, laidLooks := .later }
def SetsOnesUptoCardSaid : Prop := Claim7.holds Tryd.pinned (.plain (OpenSpec.upto setsOnesSpec)) setsOnesUptoCard

/-- THE SECOND FORM's CARD OF 'weirlaw01.SetsLists'. -/
def setsListsUptoCard : Claim7 := { stood := { row := setsListsUptoRow, standIns := [], harness := (true, "062021a75133fc56a00c84114ff7924bcace07f3af25b16ffa36d05141ee19da"), looks := false }, kinds := [], alts := [], laidByText := true, laidKinds := [.data, .data, .data], laidTests := true, laidLooks := .later }
def SetsListsUptoCardSaid : Prop := Claim7.holds Tryd.pinned (.plain (OpenSpec.upto setsListsSpec)) setsListsUptoCard

/-- THE SECOND FORM's CARD OF 'weirlaw01.SetsWalks'. -/
def setsWalksUptoCard : Claim7 := { stood := { row := setsWalksUptoRow, standIns := [], harness := (true, "062021a75133fc56a00c84114ff7924bcace07f3af25b16ffa36d05141ee19da"), looks := false }, kinds := [], alts := [], laidByText := true, laidKinds := [.data], laidTests := true, laidLooks := .later }
def SetsWalksUptoCardSaid : Prop := Claim7.holds Tryd.pinned (.plain (OpenSpec.upto setsWalksSpec)) setsWalksUptoCard

/-- THE SECOND FORM's CARD OF 'weirlaw01.SetsLeast'. -/
def setsLeastUptoCard : Claim7 := { stood := { row := setsLeastUptoRow, standIns := [], harness := (true, "062021a75133fc56a00c84114ff7924bcace07f3af25b16ffa36d05141ee19da"), looks := false }, kinds := [], alts := [], laidByText := true, laidKinds := [.data], laidTests := true, laidLooks := .later }
def SetsLeastUptoCardSaid : Prop := Claim7.holds Tryd.pinned (.plain (OpenSpec.upto setsLeastSpec)) setsLeastUptoCard

/-- THE SECOND FORM's CARD OF 'weirlaw01.SetsBack'. -/
def setsBackUptoCard : Claim7 := { stood := { row := setsBackUptoRow, standIns := [], harness := (true, "062021a75133fc56a00c84114ff7924bcace07f3af25b16ffa36d05141ee19da"), looks := false }, kinds := [], alts := [], laidByText := true, laidKinds := [.data, .data, .data], laidTests := true, laidLooks := .later }
def SetsBackUptoCardSaid : Prop := Claim7.holds Tryd.pinned (.plain (OpenSpec.upto setsBackSpec)) setsBackUptoCard

/-- THE SECOND FORM's CARD OF 'weirlaw01.SetsCounts'. -/
def setsCountsUptoCard : Claim7 := { stood := { row := setsCountsUptoRow, standIns := [], harness := (true, "062021a75133fc56a00c84114ff7924bcace07f3af25b16ffa36d05141ee19da"), looks := false }, kinds := [], alts := [], laidByText := true, laidKinds := [.data, .data, .data], laidTests := true, laidLooks := .later }
def SetsCountsUptoCardSaid : Prop := Claim7.holds Tryd.pinned (.plain (OpenSpec.upto setsCountsSpec)) setsCountsUptoCard
end Rows
end Go.Proofs.YtkjaphmcagifpaaDoor

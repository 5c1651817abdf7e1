/-
  NARROWER THAN 'FOR EVERY INPUT', by the rows' own cells (each row's printed sentence says how): RelMakes: laid · RelWalks: laid · RelOperates: laid · RelCloses: laid · RelCycles: laid · RelOrders: laid.
  DERIVED. THE GIVEN ROWS OF THIS SEAT. 6 by the template 'for every input the law returns true; each argument reads behind the call as it read before'; 0 by the template 'total and deterministic' (their statements: YtkccckjiemijeaaDoorTotals.lean).
  GIVEN WITH THE SEED: the statements are not yours to turn. If you find one false, say at which input.
  Laid BY PROGRAM, IN A SANDBOX (cutbox-rows.mjs): the forced cells as the released guide's own fill.sh prints them over the translation 92f6f699b0e5f7d5… (all of the seat's roots in one cut). By AI agents, Wed Nov 11 2026. No macro, syntax, notation, axiom, sorry.
-/
import Derived.Test.YtkccckjiemijeaaDoorChecked
import GoSem.Claim
import GoSem.ClaimJoined
import GoSem.ClaimMapViews
import Derived.JoinedTies
import Derived.KernelRfl
namespace Go.Proofs.YtkccckjiemijeaaDoor
/- THE CELL 'sum', in the pinned program and in every row, IS THE sha256 OF THE DUMP (.gsa) THAT YtkccckjiemijeaaDoorProg.lean LOADS. Nothing in Lean hashes anything: it is a label: what it is worth is what the hold of that sum in a sandbox is worth. -/
noncomputable def Tryd.pinned : Pinned := { name := "ytkccckjiemijeaadoor", sum := "92f6f699b0e5f7d548bb86eb2b41e9b50f6647f7d29bdcffee9376728229b6b3", checked := Tryd.checked }
namespace Rows
def none {H : Type} : Left H := { results := [], args := [] }

/- WHAT THE LISTED PACKAGE-LEVEL VARIABLES READ AS WHEN THE CALL BEGINS. Each datum BY PROGRAM (the guide's laid-datum.mjs) off the statement by which the dump's own 'gosem.cut.vars' lays the variable. In a bare row this is a premise. The card (YtkccckjiemijeaaDoorCards.lean) ties it to the program's text. -/
def laid_math_bits_deBruijn64tab {H : Type} : DataW H := .agg [.lit (.int .u8 0), .lit (.int .u8 1), .lit (.int .u8 56), .lit (.int .u8 2), .lit (.int .u8 57), .lit (.int .u8 49), .lit (.int .u8 28), .lit (.int .u8 3), .lit (.int .u8 61), .lit (.int .u8 58), .lit (.int .u8 42), .lit (.int .u8 50), .lit (.int .u8 38), .lit (.int .u8 29), .lit (.int .u8 17), .lit (.int .u8 4), .lit (.int .u8 62), .lit (.int .u8 47), .lit (.int .u8 59), .lit (.int .u8 36), .lit (.int .u8 45), .lit (.int .u8 43), .lit (.int .u8 51), .lit (.int .u8 22), .lit (.int .u8 53), .lit (.int .u8 39), .lit (.int .u8 33), .lit (.int .u8 30), .lit (.int .u8 24), .lit (.int .u8 18), .lit (.int .u8 12), .lit (.int .u8 5), .lit (.int .u8 63), .lit (.int .u8 55), .lit (.int .u8 48), .lit (.int .u8 27), .lit (.int .u8 60), .lit (.int .u8 41), .lit (.int .u8 37), .lit (.int .u8 16), .lit (.int .u8 46), .lit (.int .u8 35), .lit (.int .u8 44), .lit (.int .u8 21), .lit (.int .u8 52), .lit (.int .u8 32), .lit (.int .u8 23), .lit (.int .u8 11), .lit (.int .u8 54), .lit (.int .u8 26), .lit (.int .u8 40), .lit (.int .u8 15), .lit (.int .u8 34), .lit (.int .u8 20), .lit (.int .u8 31), .lit (.int .u8 10), .lit (.int .u8 25), .lit (.int .u8 14), .lit (.int .u8 19), .lit (.int .u8 9), .lit (.int .u8 13), .lit (.int .u8 8), .lit (.int .u8 7), .lit (.int .u8 6)]

/-- 'weirlaw02.RelMakes': WHATEVER THE INPUT: true; the input reads as it did. -/
def relMakesSpec : ChangeSpec := { name := "relMakes", fn := fun _ => fun
  | [d1, d2, d3, d4, d5] => { results := [.lit (.bool true)], args := [d1, d2, d3, d4, d5] }
  | _ => none }
def relMakesRow : OpenClaim := { program := "ytkccckjiemijeaadoor", sum := "92f6f699b0e5f7d548bb86eb2b41e9b50f6647f7d29bdcffee9376728229b6b3", func := "weir/weirlaw02.RelMakes", spec := "relMakes", unfollowed := true, recurses := true, named := ["math/bits.deBruijn64tab"], apart := false, laid := [("math/bits.deBruijn64tab", laid_math_bits_deBruijn64tab)] }
def RelMakesSaid : Prop := relMakesRow.holds Tryd.pinned (OpenSpec.ofChange relMakesSpec)

/-- ITS FALSE NEIGHBOUR: 'it returns false'. Refute it at one input. -/
def relMakesWrong : ChangeSpec := { name := "relMakes", fn := fun _ => fun
  | [d1, d2, d3, d4, d5] => { results := [.lit (.bool false)], args := [d1, d2, d3, d4, d5] }
  | _ => none }
def RelMakesWrongFalsely : Prop := relMakesRow.holds Tryd.pinned (OpenSpec.ofChange relMakesWrong)

/-- 'weirlaw02.RelWalks': WHATEVER THE INPUT: true; the input reads as it did. -/
def relWalksSpec : ChangeSpec := { name := "relWalks", fn := fun _ => fun
  | [d1, d2, d3, d4] => { results := [.lit (.bool true)], args := [d1, d2, d3, d4] }
  | _ => none }
def relWalksRow : OpenClaim := { program := "ytkccckjiemijeaadoor", sum := "92f6f699b0e5f7d548bb86eb2b41e9b50f6647f7d29bdcffee9376728229b6b3", func := "weir/weirlaw02.RelWalks", spec := "relWalks", unfollowed := true, recurses := true, named := ["math/bits.deBruijn64tab"], apart := false, laid := [("math/bits.deBruijn64tab", laid_math_bits_deBruijn64tab)] }
def RelWalksSaid : Prop := relWalksRow.holds Tryd.pinned (OpenSpec.ofChange relWalksSpec)

/-- ITS FALSE NEIGHBOUR: 'it returns false'. Refute it at one input. -/
def relWalksWrong : ChangeSpec := { name := "relWalks", fn := fun _ => fun
  | [d1, d2, d3, d4] => { results := [.lit (.bool false)], args := [d1, d2, d3, d4] }
  | _ => none }
def RelWalksWrongFalsely : Prop := relWalksRow.holds Tryd.pinned (OpenSpec.ofChange relWalksWrong)

/-- 'weirlaw02.RelOperates': WHATEVER THE INPUT: true; the input reads as it did. -/
def relOperatesSpec : ChangeSpec := { name := "relOperates", fn := fun _ => fun
  | [d1, d2, d3, d4] => { results := [.lit (.bool true)], args := [d1, d2, d3, d4] }
  | _ => none }
def relOperatesRow : OpenClaim := { program := "ytkccckjiemijeaadoor", sum := "92f6f699b0e5f7d548bb86eb2b41e9b50f6647f7d29bdcffee9376728229b6b3", func := "weir/weirlaw02.RelOperates", spec := "relOperates", unfollowed := true, recurses := true, named := ["math/bits.deBruijn64tab"], apart := false, laid := [("math/bits.deBruijn64tab", laid_math_bits_deBruijn64tab)] }
def RelOperatesSaid : Prop := relOperatesRow.holds Tryd.pinned (OpenSpec.ofChange relOperatesSpec)

/-- ITS FALSE NEIGHBOUR: 'it returns false'. Refute it at one input. -/
def relOperatesWrong : ChangeSpec := { name := "relOperates", fn := fun _ => fun
  | [d1, d2, d3, d4] => { results := [.lit (.bool false)], args := [d1, d2, d3, d4] }
  | _ => none }
def RelOperatesWrongFalsely : Prop := relOperatesRow.holds Tryd.pinned (OpenSpec.ofChange relOperatesWrong)

/-- 'weirlaw02.RelCloses': WHATEVER THE INPUT: true; the input reads as it did. -/
def relClosesSpec : ChangeSpec := { name := "relCloses", fn := fun _ => fun
  | [d] => { results := [.lit (.bool true)], args := [d] }
  | _ => none }
def relClosesRow : OpenClaim := { program := "ytkccckjiemijeaadoor", sum := "92f6f699b0e5f7d548bb86eb2b41e9b50f6647f7d29bdcffee9376728229b6b3", func := "weir/weirlaw02.RelCloses", spec := "relCloses", unfollowed := true, recurses := true, named := ["math/bits.deBruijn64tab"], apart := false, laid := [("math/bits.deBruijn64tab", laid_math_bits_deBruijn64tab)] }
def RelClosesSaid : Prop := relClosesRow.holds Tryd.pinned (OpenSpec.ofChange relClosesSpec)

/-- ITS FALSE NEIGHBOUR: 'it returns false'. Refute it at one input. -/
def relClosesWrong : ChangeSpec := { name := "relCloses", fn := fun _ => fun
  | [d] => { results := [.lit (.bool false)], args := [d] }
  | _ => none }
def RelClosesWrongFalsely : Prop := relClosesRow.holds Tryd.pinned (OpenSpec.ofChange relClosesWrong)

/-- 'weirlaw02.RelCycles': WHATEVER THE INPUT: true; the input reads as it did. -/
def relCyclesSpec : ChangeSpec := { name := "relCycles", fn := fun _ => fun
  | [d] => { results := [.lit (.bool true)], args := [d] }
  | _ => none }
def relCyclesRow : OpenClaim := { program := "ytkccckjiemijeaadoor", sum := "92f6f699b0e5f7d548bb86eb2b41e9b50f6647f7d29bdcffee9376728229b6b3", func := "weir/weirlaw02.RelCycles", spec := "relCycles", unfollowed := true, recurses := true, named := ["math/bits.deBruijn64tab"], apart := false, laid := [("math/bits.deBruijn64tab", laid_math_bits_deBruijn64tab)] }
def RelCyclesSaid : Prop := relCyclesRow.holds Tryd.pinned (OpenSpec.ofChange relCyclesSpec)

/-- ITS FALSE NEIGHBOUR: 'it returns false'. Refute it at one input. -/
def relCyclesWrong : ChangeSpec := { name := "relCycles", fn := fun _ => fun
  | [d] => { results := [.lit (.bool false)], args := [d] }
  | _ => none }
def RelCyclesWrongFalsely : Prop := relCyclesRow.holds Tryd.pinned (OpenSpec.ofChange relCyclesWrong)

/-- 'weirlaw02.RelOrders': WHATEVER THE INPUT: true; the input reads as it did. -/
def relOrdersSpec : ChangeSpec := { name := "relOrders", fn := fun _ => fun
  | [d1, d2] => { results := [.lit (.bool true)], args := [d1, d2] }
  | _ => none }
def relOrdersRow : OpenClaim := { program := "ytkccckjiemijeaadoor", sum := "92f6f699b0e5f7d548bb86eb2b41e9b50f6647f7d29bdcffee9376728229b6b3", func := "weir/weirlaw02.RelOrders", spec := "relOrders", unfollowed := true, recurses := true, named := ["math/bits.deBruijn64tab"], apart := false, laid := [("math/bits.deBruijn64tab", laid_math_bits_deBruijn64tab)] }
def RelOrdersSaid : Prop := relOrdersRow.holds Tryd.pinned (OpenSpec.ofChange relOrdersSpec)

/-- ITS FALSE NEIGHBOUR: 'it returns false'. Refute it at one input. -/
def relOrdersWrong : ChangeSpec := { name := "relOrders", fn := fun _ => fun
  | [d1, d2] => { results := [.lit (.bool false)], args := [d1, d2] }
  | _ => none }
def RelOrdersWrongFalsely : Prop := relOrdersRow.holds Tryd.pinned (OpenSpec.ofChange relOrdersWrong)

/- THE SECOND FORM. 'bulk': how many values and letters a reading holds, each counted each time it is reached (what is shared counts as often as it is met; a slice's spare places count too). A statement '..UptoSaid' is the law's where the arguments, and the package variables that the reading takes, are together of bulk at most 1048576: NARROWER than '..Said'. Prove '..Said' where nothing that the law and all that it calls make is longer than what came in: it says more and counts as full. Else prove '..UptoSaid'. A law counts once. -/
mutual
def uptoBulk {H : Type} : DataW H → Nat
  | .lit (.string bytes) => bytes.length + 1
  | .lit _ => 1
  | .nil => 1
  | .ptr d => uptoBulk d + 1
  | .slice elems spare => uptoBulkAll elems + uptoBulkAll spare + 1
  | .agg parts => uptoBulkAll parts + 1
  | .iface _ d => uptoBulk d + 1
  | .map entries => uptoBulkEntries entries + 1
  | .held _ => 1
def uptoBulkAll {H : Type} : List (DataW H) → Nat
  | [] => 0
  | d :: r => uptoBulk d + uptoBulkAll r
def uptoBulkEntries {H : Type} : List (Lit × DataW H) → Nat
  | [] => 0
  | x :: r => uptoBulkEntry x + uptoBulkEntries r
def uptoBulkEntry {H : Type} : Lit × DataW H → Nat
  | (.string bytes, d) => bytes.length + uptoBulk d + 1
  | (_, d) => uptoBulk d + 1
 end
def uptoSmall : (H : Type) → List (DataW H) → Bool := fun _ ds => decide (uptoBulkAll ds ≤ 1048576)
def OpenSpec.upto (s : _root_.Go.ChangeSpec) : _root_.Go.OpenSpec := { _root_.Go.OpenSpec.ofChange s with cond := some uptoSmall }

/-- 'weirlaw02.RelMakes', WHERE WHAT IT READS IS OF BULK AT MOST 1048576: true; the input reads as it did. -/
def relMakesUptoRow : OpenClaim := { program := "ytkccckjiemijeaadoor", sum := "92f6f699b0e5f7d548bb86eb2b41e9b50f6647f7d29bdcffee9376728229b6b3", func := "weir/weirlaw02.RelMakes", spec := "relMakes", unfollowed := true, recurses := true, named := ["math/bits.deBruijn64tab"], apart := false, laid := [("math/bits.deBruijn64tab", laid_math_bits_deBruijn64tab)], narrowed := true }
def RelMakesUptoSaid : Prop := relMakesUptoRow.holds Tryd.pinned (OpenSpec.upto relMakesSpec)

/-- 'weirlaw02.RelWalks', WHERE WHAT IT READS IS OF BULK AT MOST 1048576: true; the input reads as it did. -/
def relWalksUptoRow : OpenClaim := { program := "ytkccckjiemijeaadoor", sum := "92f6f699b0e5f7d548bb86eb2b41e9b50f6647f7d29bdcffee9376728229b6b3", func := "weir/weirlaw02.RelWalks", spec := "relWalks", unfollowed := true, recurses := true, named := ["math/bits.deBruijn64tab"], apart := false, laid := [("math/bits.deBruijn64tab", laid_math_bits_deBruijn64tab)], narrowed := true }
def RelWalksUptoSaid : Prop := relWalksUptoRow.holds Tryd.pinned (OpenSpec.upto relWalksSpec)

/-- 'weirlaw02.RelOperates', WHERE WHAT IT READS IS OF BULK AT MOST 1048576: true; the input reads as it did. -/
def relOperatesUptoRow : OpenClaim := { program := "ytkccckjiemijeaadoor", sum := "92f6f699b0e5f7d548bb86eb2b41e9b50f6647f7d29bdcffee9376728229b6b3", func := "weir/weirlaw02.RelOperates", spec := "relOperates", unfollowed := true, recurses := true, named := ["math/bits.deBruijn64tab"], apart := false, laid := [("math/bits.deBruijn64tab", laid_math_bits_deBruijn64tab)], narrowed := true }
def RelOperatesUptoSaid : Prop := relOperatesUptoRow.holds Tryd.pinned (OpenSpec.upto relOperatesSpec)

/-- 'weirlaw02.RelCloses', WHERE WHAT IT READS IS OF BULK AT MOST 1048576: true; the input reads as it did. -/
def relClosesUptoRow : OpenClaim := { program := "ytkccckjiemijeaadoor", sum := "92f6f699b0e5f7d548bb86eb2b41e9b50f6647f7d29bdcffee9376728229b6b3", func := "weir/weirlaw02.RelCloses", spec := "relCloses", unfollowed := true, recurses := true, named := ["math/bits.deBruijn64tab"], apart := false, laid := [("math/bits.deBruijn64tab", laid_math_bits_deBruijn64tab)], narrowed := true }
def RelClosesUptoSaid : Prop := relClosesUptoRow.holds Tryd.pinned (OpenSpec.upto relClosesSpec)

/-- 'weirlaw02.RelCycles', WHERE WHAT IT READS IS OF BULK AT MOST 1048576: true; the input reads as it did. -/
def relCyclesUptoRow : OpenClaim := { program := "ytkccckjiemijeaadoor", sum := "92f6f699b0e5f7d548bb86eb2b41e9b50f6647f7d29bdcffee9376728229b6b3", func := "weir/weirlaw02.RelCycles", spec := "relCycles", unfollowed := true, recurses := true, named := ["math/bits.deBruijn64tab"], apart := false, laid := [("math/bits.deBruijn64tab", laid_math_bits_deBruijn64tab)], narrowed := true }
def RelCyclesUptoSaid : Prop := relCyclesUptoRow.holds Tryd.pinned (OpenSpec.upto relCyclesSpec)

/-- 'weirlaw02.RelOrders', WHERE WHAT IT READS IS OF BULK AT MOST 1048576: true; the input reads as it did. -/
def relOrdersUptoRow : OpenClaim := { program := "ytkccckjiemijeaadoor", sum := "92f6f699b0e5f7d548bb86eb2b41e9b50f6647f7d29bdcffee9376728229b6b3", func := "weir/weirlaw02.RelOrders", spec := "relOrders", unfollowed := true, recurses := true, named := ["math/bits.deBruijn64tab"], apart := false, laid := [("math/bits.deBruijn64tab", laid_math_bits_deBruijn64tab)], narrowed := true }
def RelOrdersUptoSaid : Prop := relOrdersUptoRow.holds Tryd.pinned (OpenSpec.upto relOrdersSpec)

end Rows
end Go.Proofs.YtkccckjiemijeaaDoor

/-
  NARROWER THAN 'FOR EVERY INPUT', by the rows' own cells (each row's printed sentence says how): CycleParses: laid.
  DERIVED. THE GIVEN ROWS OF THIS SEAT. 1 by the template 'for every input the law returns true; each argument reads behind the call as it read before'; 0 by the template 'total and deterministic' (their statements: YtopnbemodlcknaaDoorTotals.lean).
  GIVEN WITH THE SEED: the statements are not yours to turn. If you find one false, say at which input.
  Laid BY PROGRAM, IN A SANDBOX (cutbox-rows.mjs): the forced cells as the released guide's own fill.sh prints them over the translation a450e384106eb62b… (all of the seat's roots in one cut). By AI agents, Wed Nov 11 2026. No macro, syntax, notation, axiom, sorry.
-/
import Derived.Test.YtopnbemodlcknaaDoorChecked
import GoSem.Claim
import GoSem.ClaimJoined
import GoSem.ClaimMapViews
import Derived.JoinedTies
import Derived.KernelRfl
namespace Go.Proofs.YtopnbemodlcknaaDoor
/- THE CELL 'sum', in the pinned program and in every row, IS THE sha256 OF THE DUMP (.gsa) THAT YtopnbemodlcknaaDoorProg.lean LOADS. Nothing in Lean hashes anything: it is a label: what it is worth is what the hold of that sum in a sandbox is worth. -/
noncomputable def Tryd.pinned : Pinned := { name := "ytopnbemodlcknaadoor", sum := "a450e384106eb62b699d709759d1b36296523f388bdf1d82372377f65beec8ce", checked := Tryd.checked }
namespace Rows
def none {H : Type} : Left H := { results := [], args := [] }

/- WHAT THE LISTED PACKAGE-LEVEL VARIABLES READ AS WHEN THE CALL BEGINS. Each datum BY PROGRAM (the guide's laid-datum.mjs) off the statement by which the dump's own 'gosem.cut.vars' lays the variable. In a bare row this is a premise. The card (YtopnbemodlcknaaDoorCards.lean) ties it to the program's text. -/
def laid_weir_weirref26_Names {H : Type} : DataW H := .agg [.lit (.string [82, 102, 101]), .lit (.string [82, 102, 105]), .lit (.string [70, 114, 101]), .lit (.string [70, 114, 105]), .lit (.string [67, 111, 101]), .lit (.string [67, 111, 105]), .lit (.string [80, 111, 100, 82, 82]), .lit (.string [80, 111, 100, 82, 87]), .lit (.string [80, 111, 100, 87, 82]), .lit (.string [80, 111, 100, 87, 87]), .lit (.string [80, 111, 115, 82, 82]), .lit (.string [80, 111, 115, 82, 87]), .lit (.string [80, 111, 115, 87, 82]), .lit (.string [80, 111, 115, 87, 87]), .lit (.string [77, 70, 101, 110, 99, 101, 100, 82, 82]), .lit (.string [77, 70, 101, 110, 99, 101, 100, 82, 87]), .lit (.string [77, 70, 101, 110, 99, 101, 100, 87, 82]), .lit (.string [77, 70, 101, 110, 99, 101, 100, 87, 87])]
def laid_weir_cycle_edges {H : Type} : DataW H := .agg [.agg [.lit (.string [82, 102, 101]), .lit (.int .i64 0), .lit (.int .i64 0), .lit (.int .i64 1), .lit (.bool true)], .agg [.lit (.string [82, 102, 105]), .lit (.int .i64 0), .lit (.int .i64 0), .lit (.int .i64 1), .lit (.bool false)], .agg [.lit (.string [70, 114, 101]), .lit (.int .i64 1), .lit (.int .i64 1), .lit (.int .i64 0), .lit (.bool true)], .agg [.lit (.string [70, 114, 105]), .lit (.int .i64 1), .lit (.int .i64 1), .lit (.int .i64 0), .lit (.bool false)], .agg [.lit (.string [67, 111, 101]), .lit (.int .i64 2), .lit (.int .i64 0), .lit (.int .i64 0), .lit (.bool true)], .agg [.lit (.string [67, 111, 105]), .lit (.int .i64 2), .lit (.int .i64 0), .lit (.int .i64 0), .lit (.bool false)], .agg [.lit (.string [80, 111, 100, 82, 82]), .lit (.int .i64 3), .lit (.int .i64 1), .lit (.int .i64 1), .lit (.bool false)], .agg [.lit (.string [80, 111, 100, 82, 87]), .lit (.int .i64 3), .lit (.int .i64 1), .lit (.int .i64 0), .lit (.bool false)], .agg [.lit (.string [80, 111, 100, 87, 82]), .lit (.int .i64 3), .lit (.int .i64 0), .lit (.int .i64 1), .lit (.bool false)], .agg [.lit (.string [80, 111, 100, 87, 87]), .lit (.int .i64 3), .lit (.int .i64 0), .lit (.int .i64 0), .lit (.bool false)], .agg [.lit (.string [80, 111, 115, 82, 82]), .lit (.int .i64 4), .lit (.int .i64 1), .lit (.int .i64 1), .lit (.bool false)], .agg [.lit (.string [80, 111, 115, 82, 87]), .lit (.int .i64 4), .lit (.int .i64 1), .lit (.int .i64 0), .lit (.bool false)], .agg [.lit (.string [80, 111, 115, 87, 82]), .lit (.int .i64 4), .lit (.int .i64 0), .lit (.int .i64 1), .lit (.bool false)], .agg [.lit (.string [80, 111, 115, 87, 87]), .lit (.int .i64 4), .lit (.int .i64 0), .lit (.int .i64 0), .lit (.bool false)], .agg [.lit (.string [77, 70, 101, 110, 99, 101, 100, 82, 82]), .lit (.int .i64 5), .lit (.int .i64 1), .lit (.int .i64 1), .lit (.bool false)], .agg [.lit (.string [77, 70, 101, 110, 99, 101, 100, 82, 87]), .lit (.int .i64 5), .lit (.int .i64 1), .lit (.int .i64 0), .lit (.bool false)], .agg [.lit (.string [77, 70, 101, 110, 99, 101, 100, 87, 82]), .lit (.int .i64 5), .lit (.int .i64 0), .lit (.int .i64 1), .lit (.bool false)], .agg [.lit (.string [77, 70, 101, 110, 99, 101, 100, 87, 87]), .lit (.int .i64 5), .lit (.int .i64 0), .lit (.int .i64 0), .lit (.bool false)]]

/-- 'weirlaw26.CycleParses': WHATEVER THE INPUT: true; the input reads as it did. -/
def cycleParsesSpec : ChangeSpec := { name := "cycleParses", fn := fun _ => fun
  | [d] => { results := [.lit (.bool true)], args := [d] }
  | _ => none }
def cycleParsesRow : OpenClaim := { program := "ytopnbemodlcknaadoor", sum := "a450e384106eb62b699d709759d1b36296523f388bdf1d82372377f65beec8ce", func := "weir/weirlaw26.CycleParses", spec := "cycleParses", inPlace := ["internal/bytealg.CountString", "internal/bytealg.IndexByteString", "internal/bytealg.IndexString"], unfollowed := true, recurses := true, named := ["weir/weirref26.Names", "weir/cycle.edges", "internal/bytealg.MaxLen"], apart := false, laid := [("weir/weirref26.Names", laid_weir_weirref26_Names), ("weir/cycle.edges", laid_weir_cycle_edges)] }
def CycleParsesSaid : Prop := cycleParsesRow.holds Tryd.pinned (OpenSpec.ofChange cycleParsesSpec)

/-- ITS FALSE NEIGHBOUR: 'it returns false'. Refute it at one input. -/
def cycleParsesWrong : ChangeSpec := { name := "cycleParses", fn := fun _ => fun
  | [d] => { results := [.lit (.bool false)], args := [d] }
  | _ => none }
def CycleParsesWrongFalsely : Prop := cycleParsesRow.holds Tryd.pinned (OpenSpec.ofChange cycleParsesWrong)

/- THE SECOND FORM. 'bulk': how many values and letters a reading holds, each counted each time it is reached (what is shared counts as often as it is met; a slice's spare places count too). A statement '..UptoSaid' is the law's where the arguments, and the package variables that the reading takes, are together of bulk at most 1048576: NARROWER than '..Said'. Prove '..Said' where nothing that the law and all that it calls make is longer than what came in: it says more and counts as full. Else prove '..UptoSaid'. A law counts once. -/
mutual
def uptoBulk {H : Type} : DataW H → Nat
  | .lit (.string bytes) => bytes.length + 1
  | .lit _ => 1
  | .nil => 1
  | .ptr d => uptoBulk d + 1
  | .slice elems spare => uptoBulkAll elems + uptoBulkAll spare + 1
  | .agg parts => uptoBulkAll parts + 1
  | .iface _ d => uptoBulk d + 1
  | .map entries => uptoBulkEntries entries + 1
  | .held _ => 1
def uptoBulkAll {H : Type} : List (DataW H) → Nat
  | [] => 0
  | d :: r => uptoBulk d + uptoBulkAll r
def uptoBulkEntries {H : Type} : List (Lit × DataW H) → Nat
  | [] => 0
  | x :: r => uptoBulkEntry x + uptoBulkEntries r
def uptoBulkEntry {H : Type} : Lit × DataW H → Nat
  | (.string bytes, d) => bytes.length + uptoBulk d + 1
  | (_, d) => uptoBulk d + 1
 end
def uptoSmall : (H : Type) → List (DataW H) → Bool := fun _ ds => decide (uptoBulkAll ds ≤ 1048576)
def OpenSpec.upto (s : _root_.Go.ChangeSpec) : _root_.Go.OpenSpec := { _root_.Go.OpenSpec.ofChange s with cond := some uptoSmall }

/-- 'weirlaw26.CycleParses', WHERE WHAT IT READS IS OF BULK AT MOST 1048576: true; the input reads as it did. -/
def cycleParsesUptoRow : OpenClaim := { program := "ytopnbemodlcknaadoor", sum := "a450e384106eb62b699d709759d1b36296523f388bdf1d82372377f65beec8ce", func := "weir/weirlaw26.CycleParses", spec := "cycleParses", inPlace := ["internal/bytealg.CountString", "internal/bytealg.IndexByteString", "internal/bytealg.IndexString"], unfollowed := true, recurses := true, named := ["weir/weirref26.Names", "weir/cycle.edges", "internal/bytealg.MaxLen"], apart := false, laid := [("weir/weirref26.Names", laid_weir_weirref26_Names), ("weir/cycle.edges", laid_weir_cycle_edges)], narrowed := true }
def CycleParsesUptoSaid : Prop := cycleParsesUptoRow.holds Tryd.pinned (OpenSpec.upto cycleParsesSpec)

end Rows
end Go.Proofs.YtopnbemodlcknaaDoor

/-
  No cell of these rows narrows 'for every input' (looked for: loops, veiled, ifaces, maps, wideKeys, modest, calm, conditions, laid).
  DERIVED. THE GIVEN ROWS OF THIS SEAT. 6 by the template 'for every input the law returns true; each argument reads behind the call as it read before'; 0 by the template 'total and deterministic' (their statements: YtichcopjdfdnkaaTotals.lean).
  GIVEN WITH THE SEED: the statements are not yours to turn. If you find one false, say at which input.
  Laid BY PROGRAM, IN A SANDBOX (cutbox-rows.mjs): the forced cells as the released guide's own fill.sh prints them over the translation d1ac1505384c07e6… (all of the seat's roots in one cut). By AI agents, Wed Nov 11 2026. No macro, syntax, notation, axiom, sorry.
-/
import Derived.Test.YtichcopjdfdnkaaChecked
import GoSem.Claim
import GoSem.ClaimJoined
import GoSem.ClaimMapViews
import Derived.JoinedTies
import Derived.KernelRfl
namespace Go.Proofs.Ytichcopjdfdnkaa
/- THE CELL 'sum', in the pinned program and in every row, IS THE sha256 OF THE DUMP (.gsa) THAT YtichcopjdfdnkaaProg.lean LOADS. Nothing in Lean hashes anything: it is a label: what it is worth is what the hold of that sum in a sandbox is worth. -/
noncomputable def Try.pinned : Pinned := { name := "ytichcopjdfdnkaa", sum := "d1ac1505384c07e6af3035a8d789b6d2f0fecdc6141b25698f51422c0db62eb5", checked := Try.checked }
namespace Rows
def none {H : Type} : Left H := { results := [], args := [] }

/-- 'weirlaw09.ProgClasses': WHATEVER THE INPUT: true; the input reads as it did. -/
def progClassesSpec : ChangeSpec := { name := "progClasses", fn := fun _ => fun
  | [d1, d2] => { results := [.lit (.bool true)], args := [d1, d2] }
  | _ => none }
def progClassesRow : OpenClaim := { program := "ytichcopjdfdnkaa", sum := "d1ac1505384c07e6af3035a8d789b6d2f0fecdc6141b25698f51422c0db62eb5", func := "weir/weirlaw09.ProgClasses", spec := "progClasses", plainKeys := false, apart := false }
def ProgClassesSaid : Prop := progClassesRow.holds Try.pinned (OpenSpec.ofChange progClassesSpec)

/-- ITS FALSE NEIGHBOUR: 'it returns false'. Refute it at one input. -/
def progClassesWrong : ChangeSpec := { name := "progClasses", fn := fun _ => fun
  | [d1, d2] => { results := [.lit (.bool false)], args := [d1, d2] }
  | _ => none }
def ProgClassesWrongFalsely : Prop := progClassesRow.holds Try.pinned (OpenSpec.ofChange progClassesWrong)

/-- 'weirlaw09.ProgChecks': WHATEVER THE INPUT: true; the input reads as it did. -/
def progChecksSpec : ChangeSpec := { name := "progChecks", fn := fun _ => fun
  | [d] => { results := [.lit (.bool true)], args := [d] }
  | _ => none }
def progChecksRow : OpenClaim := { program := "ytichcopjdfdnkaa", sum := "d1ac1505384c07e6af3035a8d789b6d2f0fecdc6141b25698f51422c0db62eb5", func := "weir/weirlaw09.ProgChecks", spec := "progChecks", inPlace := ["internal/bytealg.IndexByteString", "internal/bytealg.IndexString"], unfollowed := true, recurses := true, named := ["internal/bytealg.MaxLen"], plainKeys := false, apart := false }
def ProgChecksSaid : Prop := progChecksRow.holds Try.pinned (OpenSpec.ofChange progChecksSpec)

/-- ITS FALSE NEIGHBOUR: 'it returns false'. Refute it at one input. -/
def progChecksWrong : ChangeSpec := { name := "progChecks", fn := fun _ => fun
  | [d] => { results := [.lit (.bool false)], args := [d] }
  | _ => none }
def ProgChecksWrongFalsely : Prop := progChecksRow.holds Try.pinned (OpenSpec.ofChange progChecksWrong)

/-- 'weirlaw09.ProgValid': WHATEVER THE INPUT: true; the input reads as it did. -/
def progValidSpec : ChangeSpec := { name := "progValid", fn := fun _ => fun
  | [d1, d2] => { results := [.lit (.bool true)], args := [d1, d2] }
  | _ => none }
def progValidRow : OpenClaim := { program := "ytichcopjdfdnkaa", sum := "d1ac1505384c07e6af3035a8d789b6d2f0fecdc6141b25698f51422c0db62eb5", func := "weir/weirlaw09.ProgValid", spec := "progValid", unfollowed := true, recurses := true, plainKeys := false, apart := false }
def ProgValidSaid : Prop := progValidRow.holds Try.pinned (OpenSpec.ofChange progValidSpec)

/-- ITS FALSE NEIGHBOUR: 'it returns false'. Refute it at one input. -/
def progValidWrong : ChangeSpec := { name := "progValid", fn := fun _ => fun
  | [d1, d2] => { results := [.lit (.bool false)], args := [d1, d2] }
  | _ => none }
def ProgValidWrongFalsely : Prop := progValidRow.holds Try.pinned (OpenSpec.ofChange progValidWrong)

/-- 'weirlaw09.ProgRuns': WHATEVER THE INPUT: true; the input reads as it did. -/
def progRunsSpec : ChangeSpec := { name := "progRuns", fn := fun _ => fun
  | [d] => { results := [.lit (.bool true)], args := [d] }
  | _ => none }
def progRunsRow : OpenClaim := { program := "ytichcopjdfdnkaa", sum := "d1ac1505384c07e6af3035a8d789b6d2f0fecdc6141b25698f51422c0db62eb5", func := "weir/weirlaw09.ProgRuns", spec := "progRuns", unfollowed := true, recurses := true, plainKeys := false, apart := false }
def ProgRunsSaid : Prop := progRunsRow.holds Try.pinned (OpenSpec.ofChange progRunsSpec)

/-- ITS FALSE NEIGHBOUR: 'it returns false'. Refute it at one input. -/
def progRunsWrong : ChangeSpec := { name := "progRuns", fn := fun _ => fun
  | [d] => { results := [.lit (.bool false)], args := [d] }
  | _ => none }
def ProgRunsWrongFalsely : Prop := progRunsRow.holds Try.pinned (OpenSpec.ofChange progRunsWrong)

/-- 'weirlaw09.ProgBack': WHATEVER THE INPUT: true; the input reads as it did. -/
def progBackSpec : ChangeSpec := { name := "progBack", fn := fun _ => fun
  | [d1, d2] => { results := [.lit (.bool true)], args := [d1, d2] }
  | _ => none }
def progBackRow : OpenClaim := { program := "ytichcopjdfdnkaa", sum := "d1ac1505384c07e6af3035a8d789b6d2f0fecdc6141b25698f51422c0db62eb5", func := "weir/weirlaw09.ProgBack", spec := "progBack", inPlace := ["internal/bytealg.IndexByteString", "internal/bytealg.IndexString"], unfollowed := true, recurses := true, named := ["internal/bytealg.MaxLen"], plainKeys := false, apart := false }
def ProgBackSaid : Prop := progBackRow.holds Try.pinned (OpenSpec.ofChange progBackSpec)

/-- ITS FALSE NEIGHBOUR: 'it returns false'. Refute it at one input. -/
def progBackWrong : ChangeSpec := { name := "progBack", fn := fun _ => fun
  | [d1, d2] => { results := [.lit (.bool false)], args := [d1, d2] }
  | _ => none }
def ProgBackWrongFalsely : Prop := progBackRow.holds Try.pinned (OpenSpec.ofChange progBackWrong)

/-- 'weirlaw09.ProgValues': WHATEVER THE INPUT: true; the input reads as it did. -/
def progValuesSpec : ChangeSpec := { name := "progValues", fn := fun _ => fun
  | [d1, d2] => { results := [.lit (.bool true)], args := [d1, d2] }
  | _ => none }
def progValuesRow : OpenClaim := { program := "ytichcopjdfdnkaa", sum := "d1ac1505384c07e6af3035a8d789b6d2f0fecdc6141b25698f51422c0db62eb5", func := "weir/weirlaw09.ProgValues", spec := "progValues", inPlace := ["internal/bytealg.IndexByteString", "internal/bytealg.IndexString"], unfollowed := true, recurses := true, named := ["internal/bytealg.MaxLen"], plainKeys := false, apart := false }
def ProgValuesSaid : Prop := progValuesRow.holds Try.pinned (OpenSpec.ofChange progValuesSpec)

/-- ITS FALSE NEIGHBOUR: 'it returns false'. Refute it at one input. -/
def progValuesWrong : ChangeSpec := { name := "progValues", fn := fun _ => fun
  | [d1, d2] => { results := [.lit (.bool false)], args := [d1, d2] }
  | _ => none }
def ProgValuesWrongFalsely : Prop := progValuesRow.holds Try.pinned (OpenSpec.ofChange progValuesWrong)

/- THE SECOND FORM. 'bulk': how many values and letters a reading holds, each counted each time it is reached (what is shared counts as often as it is met; a slice's spare places count too). A statement '..UptoSaid' is the law's where the arguments, and the package variables that the reading takes, are together of bulk at most 1048576: NARROWER than '..Said'. Prove '..Said' where nothing that the law and all that it calls make is longer than what came in: it says more and counts as full. Else prove '..UptoSaid'. A law counts once. -/
mutual
def uptoBulk {H : Type} : DataW H → Nat
  | .lit (.string bytes) => bytes.length + 1
  | .lit _ => 1
  | .nil => 1
  | .ptr d => uptoBulk d + 1
  | .slice elems spare => uptoBulkAll elems + uptoBulkAll spare + 1
  | .agg parts => uptoBulkAll parts + 1
  | .iface _ d => uptoBulk d + 1
  | .map entries => uptoBulkEntries entries + 1
  | .held _ => 1
def uptoBulkAll {H : Type} : List (DataW H) → Nat
  | [] => 0
  | d :: r => uptoBulk d + uptoBulkAll r
def uptoBulkEntries {H : Type} : List (Lit × DataW H) → Nat
  | [] => 0
  | x :: r => uptoBulkEntry x + uptoBulkEntries r
def uptoBulkEntry {H : Type} : Lit × DataW H → Nat
  | (.string bytes, d) => bytes.length + uptoBulk d + 1
  | (_, d) => uptoBulk d + 1
 end
def uptoSmall : (H : Type) → List (DataW H) → Bool := fun _ ds => decide (uptoBulkAll ds ≤ 1048576)
def OpenSpec.upto (s : _root_.Go.ChangeSpec) : _root_.Go.OpenSpec := { _root_.Go.OpenSpec.ofChange s with cond := some uptoSmall }

/-- 'weirlaw09.ProgClasses', WHERE WHAT IT READS IS OF BULK AT MOST 1048576: true; the input reads as it did. -/
def progClassesUptoRow : OpenClaim := { program := "ytichcopjdfdnkaa", sum := "d1ac1505384c07e6af3035a8d789b6d2f0fecdc6141b25698f51422c0db62eb5", func := "weir/weirlaw09.ProgClasses", spec := "progClasses", plainKeys := false, apart := false, narrowed := true }
def ProgClassesUptoSaid : Prop := progClassesUptoRow.holds Try.pinned (OpenSpec.upto progClassesSpec)

/-- 'weirlaw09.ProgChecks', WHERE WHAT IT READS IS OF BULK AT MOST 1048576: true; the input reads as it did. -/
def progChecksUptoRow : OpenClaim := { program := "ytichcopjdfdnkaa", sum := "d1ac1505384c07e6af3035a8d789b6d2f0fecdc6141b25698f51422c0db62eb5", func := "weir/weirlaw09.ProgChecks", spec := "progChecks", inPlace := ["internal/bytealg.IndexByteString", "internal/bytealg.IndexString"], unfollowed := true, recurses := true, named := ["internal/bytealg.MaxLen"], plainKeys := false, apart := false, narrowed := true }
def ProgChecksUptoSaid : Prop := progChecksUptoRow.holds Try.pinned (OpenSpec.upto progChecksSpec)

/-- 'weirlaw09.ProgValid', WHERE WHAT IT READS IS OF BULK AT MOST 1048576: true; the input reads as it did. -/
def progValidUptoRow : OpenClaim := { program := "ytichcopjdfdnkaa", sum := "d1ac1505384c07e6af3035a8d789b6d2f0fecdc6141b25698f51422c0db62eb5", func := "weir/weirlaw09.ProgValid", spec := "progValid", unfollowed := true, recurses := true, plainKeys := false, apart := false, narrowed := true }
def ProgValidUptoSaid : Prop := progValidUptoRow.holds Try.pinned (OpenSpec.upto progValidSpec)

/-- 'weirlaw09.ProgRuns', WHERE WHAT IT READS IS OF BULK AT MOST 1048576: true; the input reads as it did. -/
def progRunsUptoRow : OpenClaim := { program := "ytichcopjdfdnkaa", sum := "d1ac1505384c07e6af3035a8d789b6d2f0fecdc6141b25698f51422c0db62eb5", func := "weir/weirlaw09.ProgRuns", spec := "progRuns", unfollowed := true, recurses := true, plainKeys := false, apart := false, narrowed := true }
def ProgRunsUptoSaid : Prop := progRunsUptoRow.holds Try.pinned (OpenSpec.upto progRunsSpec)

/-- 'weirlaw09.ProgBack', WHERE WHAT IT READS IS OF BULK AT MOST 1048576: true; the input reads as it did. -/
def progBackUptoRow : OpenClaim := { program := "ytichcopjdfdnkaa", sum := "d1ac1505384c07e6af3035a8d789b6d2f0fecdc6141b25698f51422c0db62eb5", func := "weir/weirlaw09.ProgBack", spec := "progBack", inPlace := ["internal/bytealg.IndexByteString", "internal/bytealg.IndexString"], unfollowed := true, recurses := true, named := ["internal/bytealg.MaxLen"], plainKeys := false, apart := false, narrowed := true }
def ProgBackUptoSaid : Prop := progBackUptoRow.holds Try.pinned (OpenSpec.upto progBackSpec)

/-- 'weirlaw09.ProgValues', WHERE WHAT IT READS IS OF BULK AT MOST 1048576: true; the input reads as it did. -/
def progValuesUptoRow : OpenClaim := { program := "ytichcopjdfdnkaa", sum := "d1ac1505384c07e6af3035a8d789b6d2f0fecdc6141b25698f51422c0db62eb5", func := "weir/weirlaw09.ProgValues", spec := "progValues", inPlace := ["internal/bytealg.IndexByteString", "internal/bytealg.IndexString"], unfollowed := true, recurses := true, named := ["internal/bytealg.MaxLen"], plainKeys := false, apart := false, narrowed := true }
def ProgValuesUptoSaid : Prop := progValuesUptoRow.holds Try.pinned (OpenSpec.upto progValuesSpec)

end Rows
end Go.Proofs.Ytichcopjdfdnkaa

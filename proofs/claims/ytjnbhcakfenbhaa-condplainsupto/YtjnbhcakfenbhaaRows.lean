/-
  No cell of these rows narrows 'for every input' (looked for: loops, veiled, ifaces, maps, wideKeys, modest, calm, conditions, laid).
  DERIVED. THE GIVEN ROWS OF THIS SEAT. 2 by the template 'for every input the law returns true; each argument reads behind the call as it read before'; 0 by the template 'total and deterministic' (their statements: YtjnbhcakfenbhaaTotals.lean).
  GIVEN WITH THE SEED: the statements are not yours to turn. If you find one false, say at which input.
  Laid BY PROGRAM, IN A SANDBOX (cutbox-rows.mjs): the forced cells as the released guide's own fill.sh prints them over the translation d1d3c79cd250fb42… (all of the seat's roots in one cut). By AI agents, Wed Nov 11 2026. No macro, syntax, notation, axiom, sorry.
-/
import Derived.Test.YtjnbhcakfenbhaaChecked
import GoSem.Claim
import GoSem.ClaimJoined
import GoSem.ClaimMapViews
import Derived.JoinedTies
import Derived.KernelRfl
namespace Go.Proofs.Ytjnbhcakfenbhaa
/- THE CELL 'sum', in the pinned program and in every row, IS THE sha256 OF THE DUMP (.gsa) THAT YtjnbhcakfenbhaaProg.lean LOADS. Nothing in Lean hashes anything: it is a label: what it is worth is what the hold of that sum in a sandbox is worth. -/
noncomputable def Try.pinned : Pinned := { name := "ytjnbhcakfenbhaa", sum := "d1d3c79cd250fb42a3b643584124e61667ea84b9cf0ff8dcd1e7366f7a9f6732", checked := Try.checked }
namespace Rows
def none {H : Type} : Left H := { results := [], args := [] }

/-- 'weirlaw06.CondAsks': WHATEVER THE INPUT: true; the input reads as it did. -/
def condAsksSpec : ChangeSpec := { name := "condAsks", fn := fun _ => fun
  | [d1, d2] => { results := [.lit (.bool true)], args := [d1, d2] }
  | _ => none }
def condAsksRow : OpenClaim := { program := "ytjnbhcakfenbhaa", sum := "d1d3c79cd250fb42a3b643584124e61667ea84b9cf0ff8dcd1e7366f7a9f6732", func := "weir/weirlaw06.CondAsks", spec := "condAsks", inPlace := ["internal/bytealg.abigen_runtime_cmpstring"], unfollowed := true, recurses := true, apart := false }
def CondAsksSaid : Prop := condAsksRow.holds Try.pinned (OpenSpec.ofChange condAsksSpec)

/-- ITS FALSE NEIGHBOUR: 'it returns false'. Refute it at one input. -/
def condAsksWrong : ChangeSpec := { name := "condAsks", fn := fun _ => fun
  | [d1, d2] => { results := [.lit (.bool false)], args := [d1, d2] }
  | _ => none }
def CondAsksWrongFalsely : Prop := condAsksRow.holds Try.pinned (OpenSpec.ofChange condAsksWrong)

/-- 'weirlaw06.CondPlains': WHATEVER THE INPUT: true; the input reads as it did. -/
def condPlainsSpec : ChangeSpec := { name := "condPlains", fn := fun _ => fun
  | [d] => { results := [.lit (.bool true)], args := [d] }
  | _ => none }
def condPlainsRow : OpenClaim := { program := "ytjnbhcakfenbhaa", sum := "d1d3c79cd250fb42a3b643584124e61667ea84b9cf0ff8dcd1e7366f7a9f6732", func := "weir/weirlaw06.CondPlains", spec := "condPlains", unfollowed := true, recurses := true, apart := false }
def CondPlainsSaid : Prop := condPlainsRow.holds Try.pinned (OpenSpec.ofChange condPlainsSpec)

/-- ITS FALSE NEIGHBOUR: 'it returns false'. Refute it at one input. -/
def condPlainsWrong : ChangeSpec := { name := "condPlains", fn := fun _ => fun
  | [d] => { results := [.lit (.bool false)], args := [d] }
  | _ => none }
def CondPlainsWrongFalsely : Prop := condPlainsRow.holds Try.pinned (OpenSpec.ofChange condPlainsWrong)

/- THE SECOND FORM. 'bulk': how many values and letters a reading holds, each counted each time it is reached (what is shared counts as often as it is met; a slice's spare places count too). A statement '..UptoSaid' is the law's where the arguments, and the package variables that the reading takes, are together of bulk at most 1048576: NARROWER than '..Said'. Prove '..Said' where nothing that the law and all that it calls make is longer than what came in: it says more and counts as full. Else prove '..UptoSaid'. A law counts once. -/
mutual
def uptoBulk {H : Type} : DataW H → Nat
  | .lit (.string bytes) => bytes.length + 1
  | .lit _ => 1
  | .nil => 1
  | .ptr d => uptoBulk d + 1
  | .slice elems spare => uptoBulkAll elems + uptoBulkAll spare + 1
  | .agg parts => uptoBulkAll parts + 1
  | .iface _ d => uptoBulk d + 1
  | .map entries => uptoBulkEntries entries + 1
  | .held _ => 1
def uptoBulkAll {H : Type} : List (DataW H) → Nat
  | [] => 0
  | d :: r => uptoBulk d + uptoBulkAll r
def uptoBulkEntries {H : Type} : List (Lit × DataW H) → Nat
  | [] => 0
  | x :: r => uptoBulkEntry x + uptoBulkEntries r
def uptoBulkEntry {H : Type} : Lit × DataW H → Nat
  | (.string bytes, d) => bytes.length + uptoBulk d + 1
  | (_, d) => uptoBulk d + 1
 end
def uptoSmall : (H : Type) → List (DataW H) → Bool := fun _ ds => decide (uptoBulkAll ds ≤ 1048576)
def OpenSpec.upto (s : _root_.Go.ChangeSpec) : _root_.Go.OpenSpec := { _root_.Go.OpenSpec.ofChange s with cond := some uptoSmall }

/-- 'weirlaw06.CondAsks', WHERE WHAT IT READS IS OF BULK AT MOST 1048576: true; the input reads as it did. -/
def condAsksUptoRow : OpenClaim := { program := "ytjnbhcakfenbhaa", sum := "d1d3c79cd250fb42a3b643584124e61667ea84b9cf0ff8dcd1e7366f7a9f6732", func := "weir/weirlaw06.CondAsks", spec := "condAsks", inPlace := ["internal/bytealg.abigen_runtime_cmpstring"], unfollowed := true, recurses := true, apart := false, narrowed := true }
def CondAsksUptoSaid : Prop := condAsksUptoRow.holds Try.pinned (OpenSpec.upto condAsksSpec)

/-- 'weirlaw06.CondPlains', WHERE WHAT IT READS IS OF BULK AT MOST 1048576: true; the input reads as it did. -/
def condPlainsUptoRow : OpenClaim := { program := "ytjnbhcakfenbhaa", sum := "d1d3c79cd250fb42a3b643584124e61667ea84b9cf0ff8dcd1e7366f7a9f6732", func := "weir/weirlaw06.CondPlains", spec := "condPlains", unfollowed := true, recurses := true, apart := false, narrowed := true }
def CondPlainsUptoSaid : Prop := condPlainsUptoRow.holds Try.pinned (OpenSpec.upto condPlainsSpec)

end Rows
end Go.Proofs.Ytjnbhcakfenbhaa

/- Several texts in one: PI, X1. -/
import Derived.Test.YtegpnicajlndlaaQaj
import Derived.Test.YtegpnicajlndlaaQac
import Derived.Lib.LastIndexByte
/- Index of both sides. -/
namespace Go.Proofs.Ytegpnicajlndlaa
open Go.RowKit M
set_option linter.unusedSimpArgs false
set_option linter.unusedVariables false

def idxO : Option Nat → Int
  | some j => j
  | none => -1
end Go.Proofs.Ytegpnicajlndlaa
/- Names, and the lines and columns of places: plain mathematics of texts. -/
namespace Go.Proofs.Ytegpnicajlndlaa.M
set_option linter.unusedSimpArgs false
set_option linter.unusedVariables false

/-- Letters, digits, bytes that may stand within names and numbers, blanks: by their number. -/
def letN (n : Nat) : Bool := decide (97 ≤ n ∧ n ≤ 122 ∨ 65 ≤ n ∧ n ≤ 90 ∨ n = 95)
def digN (n : Nat) : Bool := decide (48 ≤ n ∧ n ≤ 57)
def innN (n : Nat) : Bool := letN n || digN n || decide (n = 46)
/-- A + or - that may stand in a name. -/
def joinsB : List UInt8 → Bool
  | a :: b :: _ => decide (a.toNat = 43 ∨ a.toNat = 45) && (letN b.toNat || digN b.toNat)
  | _ => false
/-- How far a name goes on. -/
def nameRun : List UInt8 → Nat
  | [] => 0
  | c :: r => if innN c.toNat || joinsB (c :: r) then 1 + nameRun r else 0
/-- How long the name is with which a text begins. -/
def nameLen : List UInt8 → Nat
  | [] => 0
  | c :: r => if letN c.toNat then 1 + nameRun r else 0
end Go.Proofs.Ytegpnicajlndlaa.M

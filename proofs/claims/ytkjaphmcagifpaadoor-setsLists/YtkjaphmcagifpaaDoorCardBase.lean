/- What the cards of this seat share: the library's table as the laid variables give it, and a start that meets the condition. -/
import Derived.Test.YtkjaphmcagifpaaDoorOnes
import Derived.Test.YtkjaphmcagifpaaDoorTie
import Derived.Test.YtkjaphmcagifpaaDoorCards
import Derived.ProofKit
import Derived.OpenShut
import Derived.LaidMore
import Derived.Lib.LaidTab
import Derived.Stop.Joined
import Derived.Stop.LaidErr
import Derived.SevenTiedAt
namespace Go.Proofs.YtkjaphmcagifpaaDoor
open Go.ChangeShapes Go.WideShapes Go.ChangeAt Go.RowKit M
set_option linter.unusedSimpArgs false
set_option linter.unusedVariables false

theorem own : ownKnob Tryd.prog.godebug = none := by kernel_rfl
theorem laidOut : laidOutB Tryd.prog = true := by kernel_rfl
theorem gTab : Tryd.prog.globalNamed "math/bits.deBruijn64tab" = some 0 := by kernel_rfl
theorem tTab : (Tryd.prog.globals[0]?).map (·.type) = some 88 := by kernel_rfl
theorem cells88 : Tryd.prog.cellsOf 88 = 64 := by kernel_rfl
theorem cells5 : Tryd.prog.cellsOf 5 = 1 := by kernel_rfl

theorem tab_of_met {W : World} {rest : List (String × DataW Unit)} (h1 : laidMet Tryd.prog (("math/bits.deBruijn64tab", Lib.tabData .u8 (Lib.deBruijn64tab.map fun n : Nat => (n : Int))) :: rest) W) : TabAt W := by
  have h2 := Lib.tabIs_of_head gTab tTab Tryd.underlying88 Tryd.underlying5 cells5 cells88 h1
  intro j hj
  have h3 := h2.cell gTab j (by rw [List.length_map]; exact hj)
  rw [h3]
  have hl : j < Lib.deBruijn64tab.length := hj
  simp [hl]

theorem tab_of_laid {W : World} (h : laidMetH Tryd.prog Rows.setsOnesRow.laid W) : TabAt W := by
  rw [MakeChecks.laidMetH_plain _ _ _ (by kernel_rfl)] at h
  exact tab_of_met h

theorem tab_of_laid3 {W : World} (h : laidMetH Tryd.prog Rows.setsBackRow.laid W) : TabAt W := by
  rw [MakeChecks.laidMetH_plain _ _ _ (by kernel_rfl)] at h
  exact tab_of_met (laidMet.tail h)

theorem door_met (os : Os) (args : Array Value) : laidMetH Tryd.prog Rows.setsOnesRow.laid ((World.doorLaid Tryd.prog 400 os).forCall (fun _ _ => 0) ⟨#[], args, []⟩).memory :=
  laidMetH_of_parts3 (fuel := 8) (laidMet_of_run' 8 (by kernel_rfl) (by kernel_rfl)) (by kernel_rfl) (by kernel_rfl)
theorem door_met3 (os : Os) (args : Array Value) : laidMetH Tryd.prog Rows.setsBackRow.laid ((World.doorLaid Tryd.prog 400 os).forCall (fun _ _ => 0) ⟨#[], args, []⟩).memory :=
  laidMetH_of_parts3 (fuel := 8) (laidMet_of_run' 8 (by kernel_rfl) (by kernel_rfl)) (by kernel_rfl) (by kernel_rfl)
end Go.Proofs.YtkjaphmcagifpaaDoor

/- What the cards of this seat share: the library's tables as the laid variables give them, and a start that meets the condition. -/
import Derived.Test.YtlmnlfnodbfgiaaDoorF3
import Derived.Test.YtlmnlfnodbfgiaaDoorTie
import Derived.Test.YtlmnlfnodbfgiaaDoorCards
import Derived.ProofKit
import Derived.OpenShut
import Derived.LaidMore
import Derived.Lib.LaidTab
import Derived.Stop.Joined
import Derived.Stop.LaidErr
import Derived.SevenTiedAt
namespace Go.Proofs.YtlmnlfnodbfgiaaDoor
open Go.ChangeShapes Go.WideShapes Go.ChangeAt Go.RowKit M
set_option linter.unusedSimpArgs false
set_option linter.unusedVariables false

theorem own : ownKnob Tryd.prog.godebug = none := by kernel_rfl
theorem laidOut : laidOutB Tryd.prog = true := by kernel_rfl
theorem gTab : Tryd.prog.globalNamed "math/bits.deBruijn64tab" = some 2 := by kernel_rfl
theorem tTab : (Tryd.prog.globals[2]?).map (·.type) = some 69 := by kernel_rfl
theorem cells69 : Tryd.prog.cellsOf 69 = 64 := by kernel_rfl
theorem cells5 : Tryd.prog.cellsOf 5 = 1 := by kernel_rfl
theorem gTen : Tryd.prog.globalNamed "internal/strconv.uint64pow10" = some 0 := by kernel_rfl
theorem tTen : (Tryd.prog.globals[0]?).map (·.type) = some 62 := by kernel_rfl
theorem cells62 : Tryd.prog.cellsOf 62 = 20 := by kernel_rfl
theorem cells39 : Tryd.prog.cellsOf 39 = 1 := by kernel_rfl

theorem tab_of_met {W : World} {rest : List (String × DataW Unit)} (h1 : laidMet Tryd.prog (("math/bits.deBruijn64tab", Lib.tabData .u8 (Lib.deBruijn64tab.map fun n : Nat => (n : Int))) :: rest) W) : TabAt W := by
  have h2 := Lib.tabIs_of_head gTab tTab Tryd.underlying69 Tryd.underlying5 cells5 cells69 h1
  intro j hj
  have h3 := h2.cell gTab j (by rw [List.length_map]; exact hj)
  rw [h3]
  have hl : j < Lib.deBruijn64tab.length := hj
  simp [hl]
theorem ten_of_met {W : World} {rest : List (String × DataW Unit)} (h1 : laidMet Tryd.prog (("internal/strconv.uint64pow10", Lib.tabData .u64 Lib.pow10Tab) :: rest) W) : Tab10 W :=
  Lib.tabIs_of_head gTen tTen Tryd.underlying62 Tryd.underlying39 cells39 cells62 h1

theorem tabs_of_laid {W : World} (h : laidMetH Tryd.prog Rows.wordCodesRow.laid W) : Tabs W := by
  rw [MakeChecks.laidMetH_plain _ _ _ (by kernel_rfl)] at h
  exact ⟨ten_of_met (laidMet.tail (laidMet.tail h)), tab_of_met (laidMet.tail h)⟩

theorem door_met (os : Os) (args : Array Value) : laidMetH Tryd.prog Rows.wordCodesRow.laid ((World.doorLaid Tryd.prog 400 os).forCall (fun _ _ => 0) ⟨#[], args, []⟩).memory :=
  laidMetH_of_parts3 (fuel := 8) (laidMet_of_run' 8 (by kernel_rfl) (by kernel_rfl)) (by kernel_rfl) (by kernel_rfl)
end Go.Proofs.YtlmnlfnodbfgiaaDoor

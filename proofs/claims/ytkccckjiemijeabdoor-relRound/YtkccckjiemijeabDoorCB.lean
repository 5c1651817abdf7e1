/- What the cards of this seat share: the library's table as the laid variable gives it, a start that meets the condition, a relation as an argument. -/
import Derived.Test.YtkccckjiemijeabDoorV2
import Derived.Test.YtkccckjiemijeabDoorTie
import Derived.Test.YtkccckjiemijeabDoorCards
import Derived.ProofKit
import Derived.OpenShut
import Derived.LaidMore
import Derived.Lib.LaidTab
import Derived.Stop.Joined
import Derived.Stop.LaidErr
import Derived.SevenTiedAt
import Derived.SizedLaws
import Derived.ChangeOld
import Derived.Lib.SmallJoins
import Derived.Deep.SlicePairs
namespace Go.Proofs.YtkccckjiemijeabDoor
open Go.ChangeShapes Go.WideShapes Go.ChangeAt Go.RowKit M
set_option linter.unusedSimpArgs false
set_option linter.unusedVariables false

theorem own : ownKnob Tryd.prog.godebug = none := by kernel_rfl
theorem laidOut : laidOutB Tryd.prog = true := by kernel_rfl
theorem gTab : Tryd.prog.globalNamed "math/bits.deBruijn64tab" = some 0 := by kernel_rfl
theorem tTab : (Tryd.prog.globals[0]?).map (·.type) = some 85 := by kernel_rfl
theorem cells99 : Tryd.prog.cellsOf 85 = 64 := by kernel_rfl
theorem cells5 : Tryd.prog.cellsOf 5 = 1 := by kernel_rfl
theorem cells25 : Tryd.prog.cellsOf 25 = 65 := by kernel_rfl
theorem cells23 : Tryd.prog.cellsOf 23 = 64 := by kernel_rfl
theorem cells3 : Tryd.prog.cellsOf 3 = 1 := by kernel_rfl
theorem cells29 : Tryd.prog.cellsOf 59 = 2 := by kernel_rfl
theorem bytes29 : Tryd.prog.bytesOf 59 = 16 := by kernel_rfl

theorem tab_of_met {W : World} {rest : List (String × DataW Unit)} (h1 : laidMet Tryd.prog (("math/bits.deBruijn64tab", Lib.tabData .u8 (Lib.deBruijn64tab.map fun n : Nat => (n : Int))) :: rest) W) : TabAt W := by
  have h2 := Lib.tabIs_of_head gTab tTab Tryd.underlying85 Tryd.underlying5 cells5 cells99 h1
  intro j hj
  have h3 := h2.cell gTab j (by rw [List.length_map]; exact hj)
  rw [h3]
  have hl : j < Lib.deBruijn64tab.length := hj
  simp [hl]

theorem tab_of_laid {W : World} (h : laidMetH Tryd.prog Rows.relLawsRow.laid W) : TabAt W := by
  rw [MakeChecks.laidMetH_plain _ _ _ (by kernel_rfl)] at h
  exact tab_of_met h

theorem door_met (os : Os) (args : Array Value) : laidMetH Tryd.prog Rows.relLawsRow.laid ((World.doorLaid Tryd.prog 400 os).forCall (fun _ _ => 0) ⟨#[], args, []⟩).memory :=
  laidMetH_of_parts3 (fuel := 8) (laidMet_of_run' 8 (by kernel_rfl) (by kernel_rfl)) (by kernel_rfl) (by kernel_rfl)

theorem lt_of_cell {W : World} {a : Addr} {v : Value} (h : W.cell? a = some v) : a.block < W.heap.size := World.block_lt_of_cell? W _ h

/-- The rows of a relation that came in. -/
def rowOf (cs : List Value) (i : Nat) : Nat := match cs[1 + i]? with
  | some (.int _ z) => z.toNat
  | _ => 0

theorem open_rel {H : Type} {enc : TypeId × Value → H} {W : World} {r : Reach} {b0 base : Nat} {spare : Nat → Bool} {held : Bool} {v : Value} {d : DataW H} {p : List MemPlace}
    (hv : Value.okWide Tryd.prog W r b0 25 v) (h : DataW.Trod enc Tryd.prog W base spare held 25 v d p) : ∃ n f, v = relv n f ∧ Wf f := by
  obtain ⟨cs, rfl, hsz⟩ := okWide_struct Tryd.underlying25 hv
  rw [cells25] at hsz
  obtain ⟨fuel, hf⟩ := h
  obtain ⟨y0, y1, m, hx, hl, h0, h1⟩ := trod_struct2 Tryd.underlying25 hf
  dsimp only at h0 h1
  obtain ⟨n, hc0, _, hw0⟩ := DataW.trod_int Tryd.underlying3 h0
  obtain ⟨xs, m', _, _, hl1, hxl, hall⟩ := DataW.trod_array Tryd.underlying23 h1
  have hcs : (Value.agg cs).cells.toList = cs.toList := rfl
  rw [hcs] at hc0 hall
  rw [cells3, List.drop_zero] at hc0
  have key : ∀ i, i < 64 → ∃ z : Int, cs.toList[1 + i]? = some (.int .u64 z) ∧ 0 ≤ z ∧ z < 18446744073709551616 := by
    intro i hi
    have h2 := hall i hi
    rw [List.getElem?_eq_getElem (by omega)] at h2
    obtain ⟨z, hz, _, hw⟩ := DataW.trod_int Tryd.underlying22 h2
    rw [cells22, cells23, Nat.mul_one] at hz
    have hb := bounds_u64 hw
    refine ⟨z, ?_, by omega, by omega⟩
    have h3 : (List.take 1 (List.drop i (List.take 64 (List.drop 1 cs.toList))))[0]? = some (.int .u64 z) := by rw [hz]; rfl
    rw [Nat.add_comm 1 i]
    simpa [List.getElem?_take, List.getElem?_drop, hi] using h3
  refine ⟨n, rowOf cs.toList, ?_, ?_⟩
  · show Value.agg cs = Value.agg (cellsR n (rowOf cs.toList))
    congr 1
    apply Array.ext_getElem?
    intro j
    cases j with
    | zero =>
      rw [cellsR_n]
      have h3 : (List.take 1 cs.toList)[0]? = some (.int .i64 n) := by rw [hc0]; rfl
      simpa [List.getElem?_take] using h3
    | succ j =>
      by_cases hj : j < 64
      · rw [Nat.add_comm, cellsR_row _ _ _ hj]
        obtain ⟨z, hz, hz0, _⟩ := key j hj
        have : rowOf cs.toList j = z.toNat := by unfold rowOf; rw [hz]
        rw [this]
        have e : ((z.toNat : Nat) : Int) = z := by omega
        rw [e, ← hz]
        simp
      · have h1 : cs[j + 1]? = none := by rw [Array.getElem?_eq_none_iff]; omega
        have h2 : (cellsR n (rowOf cs.toList))[j + 1]? = none := by rw [Array.getElem?_eq_none_iff, cellsR_size]; omega
        rw [h1, h2]
  · intro i
    by_cases hi : i < 64
    · obtain ⟨z, hz, _, hz1⟩ := key i hi
      unfold rowOf; rw [hz]; dsimp only; omega
    · have : cs.toList[1 + i]? = none := by rw [List.getElem?_eq_none_iff, Array.length_toList]; omega
      unfold rowOf; rw [this]; dsimp only; omega
end Go.Proofs.YtkccckjiemijeabDoor

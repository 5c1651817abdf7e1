/- Class and Register, of the program and of the reference. -/
import Derived.Test.YtdjlfpkemdiadaaDoorQI
namespace Go.Proofs.YtdjlfpkemdiadaaDoor
open Go.RowKit M
set_option linter.unusedSimpArgs false
set_option linter.unusedVariables false

def classV (e : Int) : Int := if 40 ≤ e ∧ e ≤ 79 then 1 else if 90 ≤ e ∧ e ≤ 94 then 2 else if (95 ≤ e ∧ e ≤ 98) ∨ e = 1 ∨ e = 2 then 3 else 0
def regL : List (List UInt8) := [[69, 65, 88], [69, 66, 88], [69, 67, 88], [69, 68, 88], [69, 83, 73], [69, 68, 73], [69, 66, 80], [69, 83, 80], [82, 56], [82, 57], [82, 49, 48], [82, 49, 49], [82, 49, 50], [82, 49, 51], [82, 49, 52], [82, 49, 53]]
def regB (s : ByteArray) : Bool := decide (s.data.toList ∈ regL)
set_option maxRecDepth 100000 in
set_option maxHeartbeats 1000000 in
theorem register_any (s : ByteArray) (w : World) : Calls Tryd.prog 67 #[.string s] w fun en w' => en = .returned (.bool (regB s)) ∧ w' = w := by
  go_enter Tryd.func67, Tryd.ntmps67
  go_wp2
  all_goals
    go_ret
    refine ⟨?_, rfl⟩
    simp only [toL, beq_iff_eq, beq_eq_false_iff_ne, ne_eq] at *
    first | (exfalso; contradiction) | (simp only [regB, regL, List.mem_cons, List.not_mem_nil, or_false, *]; first | rfl | decide | simp)
def regS (k : Nat) : ByteArray := ⟨(regL.getD k []).toArray⟩
def regC : List Value := regL.map fun l => .string ⟨l.toArray⟩
theorem regC_at (k : Nat) (h : k < 16) : regC[k]? = some (.string (regS k)) := by
  have hl : regL.length = 16 := rfl
  rw [regC, List.getElem?_map, List.getElem?_eq_getElem (by omega)]
  simp only [Option.map_some, regS, List.getD_eq_getElem?_getD]
  rw [List.getElem?_eq_getElem (by omega)]
  rfl
theorem regS_eq (k : Nat) (h : k < 16) (s : ByteArray) : ((regS k).toList == s.toList) = true ↔ regL[k]? = some s.data.toList := by
  rw [toL, toL]
  have e : (regS k).data.toList = regL.getD k [] := by simp [regS]
  rw [e, List.getD_eq_getElem?_getD]
  have hl : regL.length = 16 := rfl
  rw [List.getElem?_eq_getElem (by omega)]
  simp
end Go.Proofs.YtdjlfpkemdiadaaDoor

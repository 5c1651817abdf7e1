/- A final state as an argument: what a reading of one says. -/
import Derived.Test.YtimdmiefjnokmaaVB
import Derived.ProofKit
import Derived.OpenShut
import Derived.SizedLaws
import Derived.Lib.RowBridge
import Derived.ChangeMaps5
import Derived.ChangeOld
namespace Go.Proofs.Ytimdmiefjnokmaa
open Go.ChangeShapes Go.WideShapes Go.ChangeAt Go.RowKit M
set_option linter.unusedSimpArgs false
set_option linter.unusedVariables false

theorem cells2 : Try.prog.cellsOf 2 = 1 := by kernel_rfl
theorem cells3 : Try.prog.cellsOf 3 = 1 := by kernel_rfl
theorem cellsF : Try.prog.cellsOf 25 = 49 := by kernel_rfl
theorem cellsV : Try.prog.cellsOf 23 = 48 := by kernel_rfl
theorem take_one {cs : List Value} {v : Value} {i : Nat} (h : List.take 1 (List.drop i cs) = [v]) : cs[i]? = some v := by
  have := congrArg List.head? h
  simpa [List.head?_take, List.head?_drop] using this
def intV : Value → Int | .int _ z => z | _ => 0
/-- A final state, read. -/
theorem open_fin {H : Type} {enc : TypeId × Value → H} {W : World} (fuel : Nat) (cs : List Value) (x : DataW H × List MemPlace) (h : DataW.trod enc Try.prog W 0 (fun _ => true) true fuel 25 cs = some x) :
    ∃ f : FS, cs = encF f ∧ Wf f := by
  obtain ⟨ys, n, _, hx, hcl, hyl, hall⟩ := DataW.trod_struct Try.underlying25 h
  rw [cellsF] at hcl
  match ys, hyl, hx, hall with
  | [y0, y1], _, hx, hall =>
    have g0 : DataW.trod enc Try.prog W 0 (fun _ => true) true n 3 (List.take (Try.prog.cellsOf 3) (List.drop 0 cs)) = some y0 := hall 0 _ rfl
    have g1 : DataW.trod enc Try.prog W 0 (fun _ => true) true n 23 (List.take (Try.prog.cellsOf 23) (List.drop 1 cs)) = some y1 := hall 1 _ rfl
    rw [cells3] at g0
    rw [cellsV] at g1
    obtain ⟨N, e0, _, _⟩ := DataW.trod_int Try.underlying3 g0
    obtain ⟨zs, m, _, _, hl1, hzl, hal⟩ := DataW.trod_array Try.underlying23 g1
    have key : ∀ i, i < 48 → ∃ z : Int, cs[1 + i]? = some (.int .i64 z) ∧ -9223372036854775808 ≤ z ∧ z ≤ 9223372036854775807 := by
      intro i hi
      have h2 := hal i hi
      rw [List.getElem?_eq_getElem (by omega)] at h2
      obtain ⟨z, hz, _, hw⟩ := DataW.trod_int Try.underlying2 h2
      rw [cells2, Nat.mul_one] at hz
      have hb := bounds_i64 hw
      refine ⟨z, ?_, by omega, by omega⟩
      have h3 : (List.take 1 (List.drop i (List.take 48 (List.drop 1 cs))))[0]? = some (.int .i64 z) := by rw [hz]; rfl
      rw [Nat.add_comm 1 i]
      simpa [List.getElem?_take, List.getElem?_drop, hi] using h3
    refine ⟨⟨N, (cs.drop 1).map intV, by rw [List.length_map, List.length_drop, hcl]⟩, ?_, ?_⟩
    · refine List.ext_getElem? fun j => ?_
      cases j with
      | zero => rw [take_one e0]; rfl
      | succ j =>
        by_cases hj : j < 48
        · obtain ⟨z, hz, _, _⟩ := key j hj
          rw [encF_get _ _ hj, Nat.add_comm j 1, hz]
          congr 2
          simp [List.getD_eq_getElem?_getD, hz, Nat.add_comm, intV, List.getElem?_map, List.getElem?_drop, Nat.add_comm 1 j ▸ hz]
        · rw [List.getElem?_eq_none (by omega), List.getElem?_eq_none (by rw [encF_len]; omega)]
    · intro v hv
      obtain ⟨u, hu, rfl⟩ := List.mem_map.1 hv
      obtain ⟨i, hi, rfl⟩ := List.getElem_of_mem hu
      rw [List.length_drop, hcl] at hi
      obtain ⟨z, hz, h1, h2⟩ := key i (by omega)
      rw [List.getElem_drop]
      rw [List.getElem?_eq_getElem (by omega)] at hz
      injection hz with hz
      rw [hz]
      exact ⟨h1, h2⟩
end Go.Proofs.Ytimdmiefjnokmaa

/- Class and Register, of the program and of the reference. -/
import Derived.Test.YtdneaaegllpnlaaDoorKB
namespace Go.Proofs.YtdneaaegllpnlaaDoor
open Go.RowKit M
set_option linter.unusedSimpArgs false
set_option linter.unusedVariables false

def classV (e : Int) : Int := if 40 ≤ e ∧ e ≤ 79 then 1 else if 90 ≤ e ∧ e ≤ 94 then 2 else if (95 ≤ e ∧ e ≤ 98) ∨ e = 1 ∨ e = 2 then 3 else 0
def regL : List (List UInt8) := [[69, 65, 88], [69, 66, 88], [69, 67, 88], [69, 68, 88], [69, 83, 73], [69, 68, 73], [69, 66, 80], [69, 83, 80], [82, 56], [82, 57], [82, 49, 48], [82, 49, 49], [82, 49, 50], [82, 49, 51], [82, 49, 52], [82, 49, 53]]
def regB (s : ByteArray) : Bool := decide (s.data.toList ∈ regL)
set_option maxRecDepth 100000 in
set_option maxHeartbeats 1000000 in
theorem register_any (s : ByteArray) (w : World) : Calls Tryd.prog 105 #[.string s] w fun en w' => en = .returned (.bool (regB s)) ∧ w' = w := by
  go_enter Tryd.func105, Tryd.ntmps105
  go_wp2
  all_goals
    go_ret
    refine ⟨?_, rfl⟩
    simp only [toL, beq_iff_eq, beq_eq_false_iff_ne, ne_eq] at *
    first | (exfalso; contradiction) | (simp only [regB, regL, List.mem_cons, List.not_mem_nil, or_false, *]; first | rfl | decide | simp)
def regS (k : Nat) : ByteArray := ⟨(regL.getD k []).toArray⟩
def regC : List Value := regL.map fun l => .string ⟨l.toArray⟩
theorem regC_at (k : Nat) (h : k < 16) : regC[k]? = some (.string (regS k)) := by
  have hl : regL.length = 16 := rfl
  rw [regC, List.getElem?_map, List.getElem?_eq_getElem (by omega)]
  simp only [Option.map_some, regS, List.getD_eq_getElem?_getD]
  rw [List.getElem?_eq_getElem (by omega)]
  rfl
theorem info16 : (Tryd.prog.info? 147).map (·.size) = some 16 := by kernel_rfl
theorem zero16 (w : World) : (zeroValue 147).run Tryd.prog w = .ok (.agg (List.replicate 16 (Value.string ⟨#[]⟩)).toArray) w := by
  have h : Tryd.t147.zero = some (.agg (List.replicate 16 (Value.string ⟨#[]⟩)).toArray) := by kernel_rfl
  simp [go_sem, zeroValue, h]
theorem regS_eq (k : Nat) (h : k < 16) (s : ByteArray) : ((regS k).toList == s.toList) = true ↔ regL[k]? = some s.data.toList := by
  rw [toL, toL]
  have e : (regS k).data.toList = regL.getD k [] := by simp [regS]
  rw [e, List.getD_eq_getElem?_getD]
  have hl : regL.length = 16 := rfl
  rw [List.getElem?_eq_getElem (by omega)]
  simp
set_option maxRecDepth 100000 in
set_option maxHeartbeats 1000000 in
theorem rregister_any (s : ByteArray) (w : World) : Calls Tryd.prog 108 #[.string s] w fun en w' => en = .returned (.bool (regB s)) ∧ Below w.heap.size w w' := by
  have t1 : True := trivial
  have t2 : True := trivial
  go_enter Tryd.func108, Tryd.ntmps108
  go_wp2_with (first
    | (clear t1; refine wpList_allocS rfl 147 rfl (List.replicate 16 (Value.string ⟨#[]⟩)) zero16 ?_; intro W1 b1 F1 C1; have B1 := F1.trans (Below.refl _ w) (Nat.le_refl _); have h1 : w.heap.size ≤ b1 := Nat.le_of_eq F1.at'.symm; clear F1)
    | (clear t2; refine wpList_storeS rfl 147 _ _ rfl rfl regC rfl C1 (by decide) info16 (by simp [regC, regL, Value.oneCell']) ?_; intro W2 U2 C2x; have C2 : IsS W2 b1 147 regC := C2x; have B2 := U2.trans B1 h1; clear U2 C1 C2x))
  go_loop [4] (fun i => ∃ k : Nat, k ≤ 16 ∧ i = .int .i64 k ∧ ∀ j, j < k → regL[j]? ≠ some s.data.toList) (fun i => 16 - (intOf i).toNat)
  case atStart => exact ⟨0, Nat.zero_le _, rfl, fun j hj => absurd hj (by omega)⟩
  case round =>
    obtain ⟨k, hk, rfl, hno⟩ := hrel
    have HNO : Hid (∀ j, j < k → regL[j]? ≠ some s.data.toList) := hno
    clear hno
    by_cases hlt : k < 16
    · have hc : W2.cell? ⟨b1, k, none⟩ = some (.string (regS k)) := (C2.cell k).trans (regC_at k hlt)
      have HQ : Hid (((regS k).toList == s.toList) = true ↔ regL[k]? = some s.data.toList) := regS_eq k hlt s
      obtain ⟨S, hS⟩ : ∃ S, regS k = S := ⟨_, rfl⟩
      rw [hS] at hc HQ
      clear hS
      by_cases heq : (S.toList == s.toList) = true
      · have hm : Hid (s.data.toList ∈ regL) := List.mem_of_getElem? (HQ.out.1 heq)
        go_wp2
        go_ret
        refine ⟨?_, B2⟩
        rw [show regB s = true from decide_eq_true hm.out]
        rfl
      · have hf : (S.toList == s.toList) = false := by simpa using heq
        have hn : Hid (regL[k]? ≠ some s.data.toList) := fun e => heq (HQ.out.2 e)
        clear heq
        go_wp2
        go_round
        case rel => exact ⟨k + 1, by omega, by go_num, fun j hj => by
          rcases Nat.lt_or_ge j k with h | h
          · exact HNO.out j h
          · have : j = k := by omega
            subst this; exact hn.out⟩
        case measure => simp [intOf]; omega
    · go_wp2
      go_ret
      refine ⟨?_, B2⟩
      have : regB s = false := decide_eq_false fun hm => by
        obtain ⟨j, hj⟩ := List.getElem?_of_mem hm
        have : j < 16 := (List.getElem?_eq_some_iff.1 hj).1
        exact HNO.out j (by omega) hj
      rw [this]
      rfl
end Go.Proofs.YtdneaaegllpnlaaDoor

/- numberOf of the program, Number of the reference. -/
import Derived.Test.YtbecabkdnjkkeaaDoorC1
namespace Go.Proofs.YtbecabkdnjkkeaaDoor
open Go Go.RowKit M
set_option linter.unusedSimpArgs false
set_option linter.unusedVariables false

theorem str_eq {s x : ByteArray} (h : x = s) : (x.toList == s.toList) = true := by rw [h]; simp
theorem str_ne {s x : ByteArray} (h : x ≠ s) : (x.toList == s.toList) = false := by
  rw [Bool.eq_false_iff]; intro e; refine h ?_
  have e := eq_of_beq e
  rw [toL, toL] at e
  cases x; cases s; simp at e; simpa using e
/-- What numberOf answers. -/
def noV (s : ByteArray) : Value := .tuple #[.int .i64 ((if nuF s < 18 then nuF s else 0 : Nat) : Int), .bool (decide (nuF s < 18))]
theorem noV_yes {s : ByteArray} {k : Nat} (h : nuF s = k) (hk : k < 18) : noV s = .tuple #[.int .i64 (k : Int), .bool true] := by unfold noV; rw [h, if_pos hk, decide_eq_true hk]
theorem noV_no {s : ByteArray} (h : nuF s = 18) : noV s = .tuple #[.int .i64 0, .bool false] := by unfold noV; rw [h]; rfl
set_option maxRecDepth 100000 in
set_option maxHeartbeats 2000000 in
theorem numberOf_any (s : ByteArray) (w : World) (hE : EdAt w) : Calls Tryd.prog 30 #[.string s] w fun e w' => e = .returned (noV s) ∧ Below w.heap.size w w' := by
  have HE : Hid (EdAt w) := hE
  have hr := hE.1
  clear hE
  go_enter Tryd.func30, Tryd.ntmps30
  have ta : True := trivial
  go_wp2_with (first
    | (clear ta; refine wpList_load_mid rfl _ _ rfl 0 0 rfl EDL _ hr Tryd.underlying50 rfl infoEdges ?_))
  clear hr
  go_loopw [7] (fun i wr => ∃ k : Nat, k ≤ 18 ∧ i = .int .i64 (k : Int) ∧ Hid (Below w.heap.size w wr) ∧ Hid (k ≤ nuF s)) (fun i _ => 18 - (intOf i).toNat)
  case atStart => exact ⟨0, Nat.zero_le _, rfl, Below.refl _ _, Nat.zero_le _⟩
  case round =>
    obtain ⟨k, hk, rfl, HB, HK⟩ := hrel
    by_cases hlt : k < 18
    · have hki : (k : Int) < 18 := by omega
      have hix := fun W => idx_edge hlt W
      have HR : Hid (EdAt wr) := HE.out.below HB.out
      by_cases hq : nmF k = s
      · have hb := str_eq hq
        have HV : Hid (noV s = .tuple #[.int .i64 (k : Int), .bool true]) := noV_yes (nu_hit HK.out hlt hq) hlt
        have tb : True := trivial
        have tc : True := trivial
        go_wp2_with (first
          | (clear tb; refine wpList_allocS rfl _ rfl _ zeroEdge ?_; intro W1 b F1 I1)
          | (clear tc; refine wpList_storeW rfl _ _ _ rfl rfl (edL k) rfl I1 rfl infoEdge (ed_one k) ?_; intro W2 U2 I2)
          | (refine wpList_loadO rfl _ _ rfl rfl I2 (v := .string (nmF k)) rfl (fun w h => ld9 w h) ?_))
        exact bodyPost_ret (v := .tuple #[.int .i64 (k : Int), .bool true]) (by simp [results, Tryd.results30, go_sem]) rfl ⟨congrArg Ending.returned HV.out.symm, U2.trans (F1.trans HB.out HB.out.size) (by rw [F1.at']; exact HB.out.size)⟩
      · have hb := str_ne hq
        have HK2 : Hid (k + 1 ≤ nuF s) := nu_miss HK.out hlt hq
        have tb : True := trivial
        have tc : True := trivial
        go_wp2_with (first
          | (clear tb; refine wpList_allocS rfl _ rfl _ zeroEdge ?_; intro W1 b F1 I1)
          | (clear tc; refine wpList_storeW rfl _ _ _ rfl rfl (edL k) rfl I1 rfl infoEdge (ed_one k) ?_; intro W2 U2 I2)
          | (refine wpList_loadO rfl _ _ rfl rfl I2 (v := .string (nmF k)) rfl (fun w h => ld9 w h) ?_))
        go_roundw
        case rel => exact ⟨k + 1, by omega, by go_num, U2.trans (F1.trans HB.out HB.out.size) (by rw [F1.at']; exact HB.out.size), HK2⟩
        case measure => simp [intOf]; omega
    · have e : k = 18 := by omega
      subst e
      have HV : Hid (noV s = .tuple #[.int .i64 0, .bool false]) := noV_no (Nat.le_antisymm (nu_le s) HK.out)
      go_wp2
      exact bodyPost_ret (v := .tuple #[.int .i64 0, .bool false]) (by simp [results, Tryd.results30, go_sem]) rfl ⟨congrArg Ending.returned HV.out.symm, HB.out⟩
/-- What Number answers. -/
def nuI (s : ByteArray) : Int := if nuF s < 18 then (nuF s : Int) else -1
theorem nuI_yes {s : ByteArray} {k : Nat} (h : nuF s = k) (hk : k < 18) : nuI s = (k : Int) := by unfold nuI; rw [h, if_pos hk]
theorem nuI_no {s : ByteArray} (h : nuF s = 18) : nuI s = -1 := by unfold nuI; rw [h]; rfl
set_option maxRecDepth 100000 in
set_option maxHeartbeats 2000000 in
theorem number_any (s : ByteArray) (w : World) (hN : NmAt w) : Calls Tryd.prog 14 #[.string s] w fun e w' => e = .returned (.int .i64 (nuI s)) ∧ w' = w := by
  have HN : Hid (NmAt w) := hN
  clear hN
  go_enter Tryd.func14, Tryd.ntmps14
  go_wp2
  go_loop [3] (fun i => ∃ k : Nat, k ≤ 18 ∧ i = .int .i64 (k : Int) ∧ Hid (k ≤ nuF s)) (fun i => 18 - (intOf i).toNat)
  case atStart => exact ⟨0, Nat.zero_le _, rfl, Nat.zero_le _⟩
  case round =>
    obtain ⟨k, hk, rfl, HK⟩ := hrel
    by_cases hlt : k < 18
    · have hki : (k : Int) < 18 := by omega
      have hc := HN.out.cell hlt
      by_cases hq : nmF k = s
      · have hb := str_eq hq
        have HV : Hid (nuI s = (k : Int)) := nuI_yes (nu_hit HK.out hlt hq) hlt
        clear hq
        go_wp2
        go_ret
        exact ⟨ret_int HV.out.symm, rfl⟩
      · have hb := str_ne hq
        have HK2 : Hid (k + 1 ≤ nuF s) := nu_miss HK.out hlt hq
        go_wp2
        go_round
        case rel => exact ⟨k + 1, by omega, by go_num, HK2⟩
        case measure => simp [intOf]; omega
    · have e : k = 18 := by omega
      subst e
      have HV : Hid (nuI s = -1) := nuI_no (Nat.le_antisymm (nu_le s) HK.out)
      go_wp2
      go_ret
      exact ⟨ret_int HV.out.symm, rfl⟩
end Go.Proofs.YtbecabkdnjkkeaaDoor

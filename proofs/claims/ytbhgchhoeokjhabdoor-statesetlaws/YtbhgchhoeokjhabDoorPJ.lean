/- Project of the program. -/
import Derived.Test.YtbhgchhoeokjhabDoorHP
import Derived.Test.YtbhgchhoeokjhabDoorQA
namespace Go.Proofs.YtbhgchhoeokjhabDoor
open Go Go.RowKit M
set_option linter.unusedSimpArgs false
set_option linter.unusedVariables false

set_option maxRecDepth 100000 in
set_option maxHeartbeats 2000000 in
theorem within_any (a : Option Addr) (cap : Nat) (ks : List Int) (hn : ks.length ≤ 4611686018427387903) (n : Int) (w : World) (hS : NumS w a ks) :
    Calls Tryd.prog 34 #[.slice a ks.length cap, .int .i64 n] w fun e w' => e = .returned (.bool (inB ks n)) ∧ w' = w := by
  have hsz : ((ks.length : Nat) : Int) ≤ 4611686018427387903 := by omega
  go_enter Tryd.func34, Tryd.ntmps34
  go_wp2
  go_loop [9] (fun i => ∃ k : Nat, k ≤ ks.length ∧ i = .int .i64 (k : Int) ∧ Hid (∀ j, j < k → 0 ≤ ks.getD j 0 ∧ ks.getD j 0 < n)) (fun i => ks.length - (intOf i).toNat)
  case atStart => exact ⟨0, Nat.zero_le _, rfl, fun j hj => absurd hj (Nat.not_lt_zero _)⟩
  case round =>
    obtain ⟨k, hk, rfl, HA⟩ := hrel
    by_cases hlt : k < ks.length
    · obtain ⟨b, o, rfl, HB, HX⟩ := hS.at k hlt
      have HN : Hid (¬ (0 ≤ ks.getD k 0 ∧ ks.getD k 0 < n) → inB ks n = false) := fun h => inB_no hlt h
      have HY : Hid ((0 ≤ ks.getD k 0 ∧ ks.getD k 0 < n) → ∀ j, j < k + 1 → 0 ≤ ks.getD j 0 ∧ ks.getD j 0 < n) := fun h j hj => by
        rcases Nat.lt_succ_iff_lt_or_eq.1 hj with h' | h'
        · exact HA.out j h'
        · rw [h']; exact h
      have hiX : (k : Int) < (ks.length : Int) := by omega
      generalize ks.getD k 0 = z at *
      clear HA hS
      by_cases h1 : z < 0
      · have HV : Hid (inB ks n = false) := HN.out (by omega)
        clear HN HY
        go_wp2
        go_ret
        exact ⟨ret_bool HV.out.symm, rfl⟩
      · by_cases h2 : n ≤ z
        · have HV : Hid (inB ks n = false) := HN.out (by omega)
          clear HN HY
          go_wp2
          go_ret
          exact ⟨ret_bool HV.out.symm, rfl⟩
        · have HV : Hid (∀ j, j < k + 1 → 0 ≤ ks.getD j 0 ∧ ks.getD j 0 < n) := HY.out (by omega)
          clear HN HY
          go_wp2
          go_round
          case rel => exact ⟨k + 1, by omega, by go_num, HV⟩
          case measure => simp [intOf]; omega
    · have e : k = ks.length := by omega
      subst e
      have HV : Hid (inB ks n = true) := inB_yes HA.out
      clear HA hS hlt
      go_wp2
      go_ret
      exact ⟨ret_bool HV.out.symm, rfl⟩
set_option maxRecDepth 100000 in
set_option maxHeartbeats 2000000 in
theorem part_any (x : FS) (a : Option Addr) (cap : Nat) (ks : List Int) (hn : ks.length ≤ 48) (hx : x.n ≤ 48) (hin : inB ks x.n = true) (w : World) (hS : NumS w a ks) :
    Calls Tryd.prog 35 #[.agg (encF x).toArray, .slice a ks.length cap] w fun e w' => e = .returned (.agg (encF (prjF ks x)).toArray) ∧ Below w.heap.size w w' := by
  have hsz : ((ks.length : Nat) : Int) ≤ 48 := by omega
  have hv : ∀ w b, IsS w b 27 (encF x) → ∀ j, j < 48 → w.cell? ⟨b, 1 + j, none⟩ = some (.int .i64 (x.v.getD j 0)) := fun w b I j hj => by
    rw [I.cell, show 1 + j = j + 1 by omega, encF_get x _ (by omega)]
  have ta : True := trivial
  have tb : True := trivial
  have tc : True := trivial
  have HS : Hid (NumS w a ks) := hS
  clear hS
  go_enter Tryd.func35, Tryd.ntmps35
  go_wp2_with (first
    | (clear ta; refine wpList_boxS rfl _ _ rfl (encF x) rfl ?_; intro w1 b1 F1 I1)
    | (clear tb; refine wpList_allocS rfl _ rfl (encF FS.zero) zeroF ?_; intro w2 b2 F2 I2; have J2 := I1.fresh F2)
    | (refine wpList_buildNF rfl _ rfl (ks.length : Int) rfl ?_)
    | (clear tc; refine wpList_allocS rfl _ rfl (encF FS.zero) zeroF ?_; intro w3 b3 F3 I3; have K3 := I2.fresh F3; have J3 := J2.fresh F3; have ts : True := trivial)
    | (clear ts; refine wpList_storeF rfl _ _ rfl rfl rfl I3 ?_; intro w4 U4 I4; have K4 := K3.upd U4 (by have := I2.lt; rw [F3.at']; omega); have J4 := J3.upd U4 (by have := J2.lt; rw [F3.at']; omega)))
  have hb1 : b1 < b2 := by have := I1.lt; rw [F2.at']; omega
  have hb2 : b2 < b3 := by have := I2.lt; rw [F3.at']; omega
  have hw1 : w.heap.size ≤ b1 := by rw [F1.at']; exact Nat.le_refl _
  have B4 : Below w.heap.size w w4 := U4.trans (Below.then (Below.then (fresh_b F1) (fresh_b F2)) (fresh_b F3)) (by omega)
  clear F1 F2 F3 U4 I1 I2 I3 J2 J3 K3
  go_loopw [13] (fun i wr => ∃ k : Nat, k ≤ ks.length ∧ i = .int .i64 (k : Int) ∧ IsS wr b3 27 (encF (mkF (ks.length : Int) ((ks.take k).map fun k => x.v.getD k.toNat 0))) ∧ IsS wr b2 27 (encF FS.zero) ∧ IsS wr b1 27 (encF x) ∧ Below w.heap.size w wr) (fun i _ => ks.length - (intOf i).toNat)
  case atStart => exact ⟨0, Nat.zero_le _, rfl, by simpa using I4, K4, J4, B4⟩
  case round =>
    obtain ⟨k, hk, rfl, IR, KR, JR, BR⟩ := hrel
    clear I4 K4 J4 B4
    by_cases hlt : k < ks.length
    · obtain ⟨b, o, rfl, HB, HX⟩ := NumS.at (HS.out.below BR) k hlt
      have hz := inB_at hin k hlt
      obtain ⟨z, hzk⟩ : ∃ z : Nat, ks.getD k 0 = (z : Int) := ⟨(ks.getD k 0).toNat, by omega⟩
      have HC := hv wr b1 JR z (by omega)
      have HP : Hid ((ks.take (k + 1)).map (fun k => x.v.getD k.toNat 0) = (ks.take k).map (fun k => x.v.getD k.toNat 0) ++ [x.v.getD z 0]) := by
        show _ = _
        rw [prj_take ks x k hlt, hzk, Int.toNat_natCast]
      rw [hzk] at HX
      have hz48 : (z : Int) < 48 := by omega
      have hzN : z < 48 := by omega
      have hk48 : (k : Int) < 48 := by omega
      have hkN : k < 48 := by omega
      have hlm : ((ks.take k).map (fun k => x.v.getD k.toNat 0)).length = k := by rw [List.length_map, List.length_take]; omega
      have HSet : Hid ((encF (mkF (ks.length : Int) ((ks.take k).map fun k => x.v.getD k.toNat 0))).set (1 + k) (.int .i64 (x.v.getD z 0)) = encF (mkF (ks.length : Int) ((ks.take (k + 1)).map fun k => x.v.getD k.toNat 0))) := by
        show _ = _
        rw [HP.out]
        have := encF_set (ks.length : Int) ((ks.take k).map fun k => x.v.getD k.toNat 0) (x.v.getD z 0) (by omega)
        rw [hlm] at this
        exact this
      have hiX : (k : Int) < (ks.length : Int) := by omega
      generalize x.v.getD z 0 = y at *
      clear hzk hz HP hlm hv
      go_wp2_with (first
        | (refine wpList_store1 rfl 2 _ _ rfl rfl (.int .i64 y) rfl IR (by rw [encF_len]; omega) info2 rfl ?_; intro w5 U5 I5; rw [HSet.out] at I5))
      go_roundw
      case rel => exact ⟨k + 1, by omega, by go_num, I5, KR.upd U5 (by omega), JR.upd U5 (by omega), U5.trans BR (by omega)⟩
      case measure => simp [intOf]; omega
    · have e : k = ks.length := by omega
      subst e
      rw [List.take_length] at IR
      have IP : IsS wr b3 27 (encF (prjF ks x)) := IR
      clear IR hv hlt HS
      go_wp2_with (first
        | (refine wpList_loadF rfl _ rfl rfl IP ?_)
        | (refine wpList_storeF rfl _ _ rfl rfl rfl KR ?_; intro w5 U5 I5))
      exact ret_S rfl rfl rfl I5 _ Tryd.underlying27 rfl (infoFx _) ⟨rfl, U5.trans BR (by omega)⟩
end Go.Proofs.YtbhgchhoeokjhabDoor

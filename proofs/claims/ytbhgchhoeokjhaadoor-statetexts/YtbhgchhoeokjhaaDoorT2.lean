/- StateTexts: the law. -/
import Derived.Test.YtbhgchhoeokjhaaDoorT1
namespace Go.Proofs.YtbhgchhoeokjhaaDoor
open Go.RowKit M
set_option linter.unusedSimpArgs false
set_option linter.unusedVariables false

def wgt (rs : List RF) : Nat := (rs.map fun r => 1 + r.2.size).sum
theorem wgt_take (rs : List RF) (k : Nat) (h : k < rs.length) : wgt (rs.take (k + 1)) = wgt (rs.take k) + (1 + (rs.getD k (0, ⟨#[]⟩)).2.size) := by
  unfold wgt
  rw [List.take_succ_eq_append_getElem h, List.map_append, List.sum_append]
  simp [h]
theorem wgt_le (rs : List RF) (k : Nat) : wgt (rs.take k) ≤ wgt rs := by
  unfold wgt
  have := sum_take_le (rs.map fun r => 1 + r.2.size) k
  rwa [← List.map_take] at this
theorem wgt_sizes (rs : List RF) : (rs.map (·.2.size)).sum + rs.length = wgt rs := by
  unfold wgt
  induction rs with
  | nil => rfl
  | cons r rs ih => simp only [List.map_cons, List.sum_cons, List.length_cons]; omega
set_option maxRecDepth 100000 in
set_option maxHeartbeats 2000000 in
theorem light_any (a : Option Addr) (cap : Nat) (rs : List RF) (hs : ∀ r ∈ rs, r.2.size ≤ maxLen) (hnn : rs.length ≤ 4611686018427387903) (w : World) (hS : RfS w a rs) :
    Calls Tryd.prog 5 #[.slice a rs.length cap] w fun e w' => e = .returned (.bool (decide (wgt rs ≤ 100000))) ∧ w' = w := by
  have hnz : ((rs.length : Nat) : Int) ≤ 4611686018427387903 := by omega
  go_enter Tryd.func5, Tryd.ntmps5
  go_wp2
  go_loop [3, 4] (fun q i => ∃ (k : Nat) (z : Int), k ≤ rs.length ∧ i = .int .i64 (k : Int) ∧ q = .int .i64 z ∧ z ≤ 100000 ∧ -9223372036854775808 ≤ z ∧ Hid (z = 100000 - (wgt (rs.take k) : Int))) (fun _ i => rs.length - (intOf i).toNat)
  case atStart => exact ⟨0, 100000, Nat.zero_le _, rfl, rfl, by omega, by omega, rfl⟩
  case round =>
    obtain ⟨k, z, hk, rfl, rfl, hz1, hz2, HZ⟩ := hrel
    by_cases hlt : k < rs.length
    · have hkI : (k : Int) < (rs.length : Int) := by omega
      by_cases hz0 : 0 ≤ z
      · obtain ⟨b, o, rfl, HB, HN⟩ := RfS.at hS k hlt
        have HW := wgt_take rs k hlt
        have hsz : (rs.getD k (0, ⟨#[]⟩)).2.size ≤ maxLen := by
          rw [List.getD_eq_getElem?_getD, List.getElem?_eq_getElem hlt]; exact hs _ (List.getElem_mem hlt)
        have cN := HN 1 (.string (rs.getD k (0, ⟨#[]⟩)).2) rfl
        generalize (rs.getD k (0, ⟨#[]⟩)).2 = nm at *
        unfold maxLen at hsz
        have hszI : (nm.size : Int) ≤ 9223372036854775807 := by omega
        have HZ' : Hid (z - 1 - (nm.size : Int) = 100000 - (wgt (rs.take (k + 1)) : Int)) := by show _ = _; rw [HW, HZ.out]; omega
        clear HW HZ hS hs HN
        go_wp2
        go_round
        case rel => exact ⟨k + 1, z - 1 - (nm.size : Int), by omega, by go_num, by first | rfl | go_num, by omega, by omega, HZ'⟩
        case measure => simp [intOf]; omega
      · have HV : Hid (decide (wgt rs ≤ 100000) = false) := by
          have h1 := wgt_le rs k
          have h2 := HZ.out
          show _ = _
          rw [decide_eq_false_iff_not]; omega
        clear HZ hS hs
        go_wp2
        go_ret
        exact ⟨by rw [HV.out]; first | rfl | (congr 2; done) | (congr 2; simp; done) | (congr 2; simp; omega), rfl⟩
    · have e : k = rs.length := by omega
      subst e
      have h2 := HZ.out
      rw [List.take_length] at h2
      by_cases hz0 : 0 ≤ z
      · have HV : Hid (decide (wgt rs ≤ 100000) = true) := by show _ = _; rw [decide_eq_true_eq]; omega
        clear HZ hS hs hlt h2
        go_wp2
        go_ret
        exact ⟨by rw [HV.out]; first | rfl | (congr 2; done) | (congr 2; simp; done) | (congr 2; simp; omega), rfl⟩
      · have HV : Hid (decide (wgt rs ≤ 100000) = false) := by show _ = _; rw [decide_eq_false_iff_not]; omega
        clear HZ hS hs hlt h2
        go_wp2
        go_ret
        exact ⟨by rw [HV.out]; first | rfl | (congr 2; done) | (congr 2; simp; done) | (congr 2; simp; omega), rfl⟩
theorem num_any (e : Int) (w : World) : Calls Tryd.prog 8 #[.int .i64 e] w fun x w' => x = .returned (.int .i64 e) ∧ w' = w := by
  go_enter Tryd.func8, Tryd.ntmps8
  go_wp2
  go_ret
  exact ⟨rfl, rfl⟩
theorem txtV_form (x : FS) (rs : List RF) : ∃ (s : ByteArray) (e : Int), txtV x rs = .tuple #[.string s, .int .i64 e] := by
  unfold txtV
  split
  · exact ⟨_, _, rfl⟩
  · exact ⟨_, _, rfl⟩
set_option maxRecDepth 100000 in
set_option maxHeartbeats 2000000 in
theorem texts_any (x : FS) (hx : Wf x) (a : Option Addr) (cap : Nat) (rs : List RF) (hr : ∀ r ∈ rs, Wr r) (hs : ∀ r ∈ rs, r.2.size ≤ maxLen) (hnn : rs.length ≤ 4611686018427387903) (w : World) (hS : RfS w a rs) (hT : Tab10 w) :
    Calls Tryd.prog 3 #[.agg (encF x).toArray, .slice a rs.length cap] w fun e w' => e = .returned (.bool true) ∧ Below w.heap.size w w' := by
  have hL := fun W (h : RfS W a rs) => light_any a cap rs hs hnn W h
  have ta : True := trivial
  have HS : Hid (RfS w a rs) := hS
  by_cases hw : wgt rs ≤ 100000
  · have hsum : (rs.map (·.2.size)).sum ≤ 100000 := by have := wgt_sizes rs; omega
    have h1 := fun W (h : RfS W a rs) (t : Tab10 W) => txt_any x hx a cap rs hr hsum hnn W h t
    have h2 := fun W (h : RfS W a rs) => rtxt_any x hx a cap rs hr hsum hnn W h
    obtain ⟨s, g, hd⟩ := txtV_form x rs
    simp only [hd] at h1 h2
    rw [decide_eq_true hw] at hL
    clear hd hsum hw hs hr hS
    go_enter Tryd.func3, Tryd.ntmps3
    go_wp2_with (first
      | (clear ta; refine wpList_boxS rfl _ _ rfl (encF x) rfl ?_; intro w1 b1 F1 I1; have B1 := fresh_b F1)
      | (go_at_call 5; refine (hL _ (Seg.below HS.out B1)).mono ?_; rintro e w' ⟨rfl, hw'⟩; replace hw' := hw'.symm; subst hw'; clear hL)
      | (go_at_call 6; refine (h1 _ (Seg.below HS.out B1) (hT.below B1)).mono ?_; rintro e w2 ⟨rfl, B2⟩; have I2 := I1.grown B2; clear h1; have B02 := Below.then B1 B2)
      | (go_at_call 7; refine (h2 _ (Seg.below HS.out B02)).mono ?_; rintro e w3 ⟨rfl, B3⟩; clear h2)
      | (refine wpList_loadF rfl _ rfl rfl I1 ?_)
      | (refine wpList_loadF rfl _ rfl rfl I2 ?_)
      | (go_at_call 8; refine (num_any _ _).mono ?_; rintro e w' ⟨rfl, hw'⟩; replace hw' := hw'.symm; subst hw'))
    go_ret
    exact ⟨rfl, Below.then B02 B3⟩
  · rw [decide_eq_false hw] at hL
    clear hw hs hr hS
    go_enter Tryd.func3, Tryd.ntmps3
    go_wp2_with (first
      | (clear ta; refine wpList_boxS rfl _ _ rfl (encF x) rfl ?_; intro w1 b1 F1 I1; have B1 := fresh_b F1)
      | (go_at_call 5; refine (hL _ (Seg.below HS.out B1)).mono ?_; rintro e w' ⟨rfl, hw'⟩; replace hw' := hw'.symm; subst hw'; clear hL))
    go_ret
    exact ⟨rfl, B1⟩
end Go.Proofs.YtbhgchhoeokjhaaDoor

/- Of the reference: Canon. -/
import Derived.Test.YtbecabkdnjkkeaaDoorC8
namespace Go.Proofs.YtbecabkdnjkkeaaDoor
open Go Go.RowKit M
set_option linter.unusedSimpArgs false
set_option linter.unusedVariables false

theorem map_forth {b : List Nat} (h : ∀ x ∈ b, x < 18) : (b.map nmF).map nuF = b := by
  rw [List.map_map]
  conv => rhs; rw [← List.map_id b]
  exact List.map_congr_left fun x hx => nu_nm x (h x hx)
/-- The best so far, in memory, by names. -/
def BestS (w : World) (B : Nat) (v : Value) (n : Nat) : Option (List Nat) → Prop
  | none => v = .slice none 0 0
  | some b => ∃ g c, v = .slice (some ⟨g, 0, none⟩) n c ∧ w.ownsRow B 9 1 v n ((b.map nmF).flatMap strE)
theorem BestS.below {w W : World} {B n : Nat} {v : Value} {o : Option (List Nat)} (h : BestS w B v n o) (hB : Below w.heap.size w W) : BestS W B v n o := by
  cases o with
  | none => exact h
  | some b => obtain ⟨g, c, e, h2⟩ := h; exact ⟨g, c, e, own_below h2 hB⟩
set_option maxRecDepth 100000 in
set_option maxHeartbeats 8000000 in
theorem rcanon_any (L : List ByteArray) (n c : Nat) (a : Option Addr) (hl : L.length = n) (hn : n ≤ 8796093022208) (hc : n ≤ c) (w : World) (hN : NmAt w) (hS : Seg w a (L.flatMap strE)) :
    Calls Tryd.prog 8 #[.slice a n c] w (CanA w L) := by
  have hC := rcheck_any L n c a hl hn w hN hS
  obtain ⟨A, hA⟩ : ∃ A, CanA w L = A := ⟨_, rfl⟩
  by_cases hz : (chk L).2 = 0
  · obtain ⟨h16, h2, hlt⟩ := chk_zero hz
    have HA : Hid (∀ v w', BestS w' w.heap.size v n (bst (L.map nuF) n) → Below w.heap.size w w' → A (.returned (.tuple #[v, .int .i64 0])) w') := by
      rw [← hA]; intro v w' h1 h2
      refine ⟨v, by rw [hz], ?_, h2⟩
      unfold canS canN
      rw [if_pos hz, hl]
      cases hb : bst (L.map nuF) n with
      | none =>
        rw [hb] at h1
        have e : v = .slice none 0 0 := h1
        rw [e]; exact own_nil _ _ _ _
      | some b =>
        rw [hb] at h1
        obtain ⟨g, c', e, h3⟩ := h1
        have hbl := (bst_in n b hb).1
        show w'.ownsRow w.heap.size 9 1 v (b.map nmF).length _
        rw [List.length_map, hbl, List.length_map, hl]; exact h3
    rw [hz] at hC
    rw [hl] at h16
    rw [hA]
    clear hA hz
    generalize (chk L).1 = i0 at *
    have HL : Hid (L.length = n) := hl
    have HN : Hid (NmAt w) := hN
    have HS : Hid (Seg w a (L.flatMap strE)) := hS
    have HV : Hid (∀ s ∈ L, nuF s < 18) := hlt
    have hnI : (n : Int) ≤ 16 := by omega
    have hz0 : ((0 : Int) != 0) = false := rfl
    clear hl hN hS hlt h2
    go_enter Tryd.func8, Tryd.ntmps8
    go_wp2_with (first
      | (go_at_call 6; refine hC.mono ?_; rintro e' w' ⟨rfl, hw'⟩; replace hw' := hw'.symm; subst hw'))
    clear hC
    go_loopw [6, 7] (fun v i wr => ∃ k : Nat, k ≤ n ∧ i = .int .i64 (k : Int) ∧ Hid (Below w.heap.size w wr) ∧ Hid (BestS wr w.heap.size v n (bst (L.map nuF) k))) (fun _ i _ => n - (intOf i).toNat)
    case atStart => exact ⟨0, Nat.zero_le _, rfl, Below.refl _ _, (rfl : _ = _)⟩
    case round =>
      obtain ⟨k, hk, rfl, HB, HF⟩ := hrel
      by_cases hlt : k < n
      · have hki : (k : Int) < n := by omega
        have hpN : prv n k < n := prv_lt (by omega)
        obtain ⟨t, ht⟩ : ∃ t, L[prv n k]? = some t := ⟨_, List.getElem?_eq_getElem (by rw [HL.out]; exact hpN)⟩
        obtain ⟨b1, o1, rfl, hb1, hc1⟩ := seg_cell (HS.out.below HB.out) (str_at ht)
        have htl : (turnN L k)[n - 1]? = some t := by
          have h1 := turn_last (l := L) (k := k) (by rw [HL.out]; exact hlt) ⟨#[]⟩
          rw [HL.out, List.getD_eq_getElem?_getD, List.getD_eq_getElem?_getD, ht] at h1
          have h2 : (turnN L k).length = n := by rw [turn_len, HL.out]
          rw [List.getElem?_eq_getElem (by omega)] at h1 ⊢
          exact congrArg some h1
        have ht18 := HV.out t (List.mem_of_getElem? ht)
        have hT := fun W h => turn_any L n c b1 o1 k HL.out (by omega) hc hlt W h
        have q1 := fun W h => number_any t W h
        rw [nuI_yes rfl ht18] at q1
        have e3 := fun W => rout_any ht18 W
        have HX : Hid ((L.map nuF).getD (prv (L.map nuF).length k) 0 = nuF t) := by
          show _ = _; rw [List.length_map, HL.out, List.getD_eq_getElem?_getD, List.getElem?_map, ht]; rfl
        have HTM : Hid (turnN L k = (turnN (L.map nuF) k).map nmF) := by show _ = _; rw [turn_map, map_back HV.out]
        have HTN : Hid ((turnN L k).map nuF = turnN (L.map nuF) k) := turn_map _ _ _
        have HTV : Hid (∀ s ∈ turnN L k, nuF s < 18) := fun s hs => HV.out s (turn_mem hs)
        have HTL : Hid ((turnN L k).length = n) := by show _ = _; rw [turn_len, HL.out]
        have HBL : Hid (∀ b, bst (L.map nuF) k = some b → b.length = n ∧ ∀ x ∈ b, x < 18) := fun b e => by
          obtain ⟨h1, h2⟩ := bst_in k b e
          refine ⟨by rw [h1, List.length_map, HL.out], fun x hx => ?_⟩
          obtain ⟨s, hs, rfl⟩ := List.mem_map.1 (h2 x hx)
          exact HV.out s hs
        have HKN : Hid (outF (nuF t) = false → bst (L.map nuF) (k + 1) = bst (L.map nuF) k) := fun h => bst_no (by rw [HX.out]; exact h)
        have HKF : Hid (outF (nuF t) = true → bst (L.map nuF) k = none → bst (L.map nuF) (k + 1) = some (turnN (L.map nuF) k)) := fun h e => bst_first (by rw [HX.out]; exact h) e
        have HKL : Hid (outF (nuF t) = true → ∀ b, bst (L.map nuF) k = some b → lexF (turnN (L.map nuF) k) b = true → bst (L.map nuF) (k + 1) = some (turnN (L.map nuF) k)) := fun h b e h' => bst_less (by rw [HX.out]; exact h) e h'
        have HKK : Hid (outF (nuF t) = true → ∀ b, bst (L.map nuF) k = some b → lexF (turnN (L.map nuF) k) b = false → bst (L.map nuF) (k + 1) = some b) := fun h b e h' => bst_keep (by rw [HX.out]; exact h) e h'
        have hn1 : ((n : Int) - 1) < n := by omega
        have hn2 : ((n : Int) - 1).toNat = n - 1 := by omega
        have hn3 : (0 : Int) ≤ (n : Int) - 1 := by omega
        have h0n : 0 < n := by omega
        have hNR : Hid (NmAt wr) := HN.out.below HB.out
        clear hc1 ht ht18 HX hpN
        generalize L.map nuF = ns at *
        generalize turnN L k = tn at *
        generalize turnN ns k = tm at *
        generalize nuF t = x at *
        obtain ⟨m1, hm1⟩ : ∃ m, n - 1 = m := ⟨_, rfl⟩
        rw [hm1] at hn2 htl
        have hn4 : (n : Int) - 1 = (m1 : Int) := by omega
        rw [hn4] at hn1 hn3
        clear hm1 hn2
        have hm1N : m1 < n := by omega
        cases ho : outF x with
        | false =>
          have HK : Hid (bst ns (k + 1) = bst ns k) := HKN.out ho
          rw [ho] at e3
          clear HKN HKF HKL HKK HBL HTM HTN HTV HTL
          have t1 : True := trivial
          have t2 : True := trivial
          have t3 : True := trivial
          have t4 : True := trivial
          go_wp2_with (first
            | (clear t1; go_at_call 21; refine (hT _ (HS.out.below HB.out)).mono ?_; rintro e W1 ⟨v1, rfl, O1, B1⟩; obtain ⟨g1, c1, rfl⟩ := own_openN O1 h0n; obtain ⟨b9, o9, e9, hb9, hc9⟩ := seg_cell (own_seg O1) (str_at htl); cases e9; simp only [Nat.zero_add] at hc9)
            | (clear t2; go_at_call 14; refine (q1 _ (hNR.out.below B1)).mono ?_; rintro e' w' ⟨rfl, hw'⟩; replace hw' := hw'.symm; subst hw')
            | (clear t3; go_at_call 17; refine (e3 _).mono ?_; rintro e' w' ⟨rfl, hw'⟩; replace hw' := hw'.symm; subst hw'))
          go_roundw
          case rel => exact ⟨k + 1, by omega, by go_num, Below.then HB.out B1, by rw [HK.out]; exact HF.out.below B1⟩
          case measure => simp [intOf]; omega
        | true =>
          rw [ho] at e3
          have HKF' := HKF.out ho
          have HKL' := HKL.out ho
          have HKK' := HKK.out ho
          clear HKN HKF HKL HKK ho
          cases hb : bst ns k with
          | none =>
            have e6 : u6 = .slice none 0 0 := by have := HF.out; rw [hb] at this; exact this
            subst e6
            have HK : Hid (bst ns (k + 1) = some tm) := HKF' hb
            have hq : ∀ w, (binOp .eql 22 (.slice none 0 0) (.slice none 0 0)).run Tryd.prog w = .ok (.bool true) w := fun w => Lib.run_eql_slice_nil w _ _ none 0 0 0 0 Tryd.underlying22
            clear HKF' HKL' HKK' HBL HTN HTV HTL HF hb
            have t1 : True := trivial
            have t2 : True := trivial
            have t3 : True := trivial
            have t4 : True := trivial
            go_wp2_with (first
              | (clear t1; go_at_call 21; refine (hT _ (HS.out.below HB.out)).mono ?_; rintro e W1 ⟨v1, rfl, O1, B1⟩; obtain ⟨g1, c1, rfl⟩ := own_openN O1 h0n; obtain ⟨b9, o9, e9, hb9, hc9⟩ := seg_cell (own_seg O1) (str_at htl); cases e9; simp only [Nat.zero_add] at hc9)
              | (clear t2; go_at_call 14; refine (q1 _ (hNR.out.below B1)).mono ?_; rintro e' w' ⟨rfl, hw'⟩; replace hw' := hw'.symm; subst hw')
              | (clear t3; go_at_call 17; refine (e3 _).mono ?_; rintro e' w' ⟨rfl, hw'⟩; replace hw' := hw'.symm; subst hw'))
            go_roundw
            case rel => exact ⟨k + 1, by omega, by go_num, Below.then HB.out B1, by rw [HK.out]; exact ⟨_, _, rfl, by rw [← HTM.out]; exact own_raise O1 HB.out.size⟩⟩
            case measure => simp [intOf]; omega
          | some b =>
            have hbv := HF.out
            rw [hb] at hbv
            obtain ⟨g3, c3, rfl, O3⟩ := hbv
            have HO3 : Hid (wr.ownsRow w.heap.size 9 1 (.slice (some ⟨g3, 0, none⟩) n c3) n ((b.map nmF).flatMap strE)) := O3
            obtain ⟨hbl, hbx⟩ := HBL.out b hb
            have hq : ∀ w, (binOp .eql 22 (.slice (some ⟨g3, 0, none⟩) n c3) (.slice none 0 0)).run Tryd.prog w = .ok (.bool false) w := fun w => Lib.run_eql_slice_nil w _ _ (some ⟨g3, 0, none⟩) n c3 0 0 Tryd.underlying22
            have hbf := map_forth hbx
            have hcmp := fun W (cc gg : Nat) h0 h1 h2 => below_any tn (b.map nmF) n cc c3 (some ⟨gg, 0, none⟩) (some ⟨g3, 0, none⟩) HTL.out (by rw [List.length_map]; exact hbl) (by omega) HTV.out (fun s hs => by obtain ⟨y, hy, rfl⟩ := List.mem_map.1 hs; rw [nu_nm y (hbx y hy)]; exact hbx y hy) W h0 h1 h2
            simp only [hbf, HTN.out] at hcmp
            cases hlx : lexF tm b with
            | true =>
              have HK : Hid (bst ns (k + 1) = some tm) := HKL' b hb hlx
              simp only [hlx] at hcmp
              clear HKF' HKL' HKK' HBL HTN HTV HTL HF hb hbl hbx hbf hlx O3
              have t1 : True := trivial
              have t2 : True := trivial
              have t3 : True := trivial
              have t4 : True := trivial
              go_wp2_with (first
                | (clear t1; go_at_call 21; refine (hT _ (HS.out.below HB.out)).mono ?_; rintro e W1 ⟨v1, rfl, O1, B1⟩; obtain ⟨g1, c1, rfl⟩ := own_openN O1 h0n; obtain ⟨b9, o9, e9, hb9, hc9⟩ := seg_cell (own_seg O1) (str_at htl); cases e9; simp only [Nat.zero_add] at hc9)
                | (clear t2; go_at_call 14; refine (q1 _ (hNR.out.below B1)).mono ?_; rintro e' w' ⟨rfl, hw'⟩; replace hw' := hw'.symm; subst hw')
                | (clear t3; go_at_call 17; refine (e3 _).mono ?_; rintro e' w' ⟨rfl, hw'⟩; replace hw' := hw'.symm; subst hw')
                | (clear t4; go_at_call 22; refine (hcmp _ c1 g1 (hNR.out.below B1) (own_seg O1) (own_seg (own_below HO3.out B1))).mono ?_; rintro e' w' ⟨rfl, hw'⟩; replace hw' := hw'.symm; subst hw'))
              go_roundw
              case rel => exact ⟨k + 1, by omega, by go_num, Below.then HB.out B1, by rw [HK.out]; exact ⟨_, _, rfl, by rw [← HTM.out]; exact own_raise O1 HB.out.size⟩⟩
              case measure => simp [intOf]; omega
            | false =>
              have HK : Hid (bst ns (k + 1) = some b) := HKK' b hb hlx
              simp only [hlx] at hcmp
              clear HKF' HKL' HKK' HBL HTN HTV HTL HF hb hbl hbx hbf hlx O3
              have t1 : True := trivial
              have t2 : True := trivial
              have t3 : True := trivial
              have t4 : True := trivial
              go_wp2_with (first
                | (clear t1; go_at_call 21; refine (hT _ (HS.out.below HB.out)).mono ?_; rintro e W1 ⟨v1, rfl, O1, B1⟩; obtain ⟨g1, c1, rfl⟩ := own_openN O1 h0n; obtain ⟨b9, o9, e9, hb9, hc9⟩ := seg_cell (own_seg O1) (str_at htl); cases e9; simp only [Nat.zero_add] at hc9)
                | (clear t2; go_at_call 14; refine (q1 _ (hNR.out.below B1)).mono ?_; rintro e' w' ⟨rfl, hw'⟩; replace hw' := hw'.symm; subst hw')
                | (clear t3; go_at_call 17; refine (e3 _).mono ?_; rintro e' w' ⟨rfl, hw'⟩; replace hw' := hw'.symm; subst hw')
                | (clear t4; go_at_call 22; refine (hcmp _ c1 g1 (hNR.out.below B1) (own_seg O1) (own_seg (own_below HO3.out B1))).mono ?_; rintro e' w' ⟨rfl, hw'⟩; replace hw' := hw'.symm; subst hw'))
              go_roundw
              case rel => exact ⟨k + 1, by omega, by go_num, Below.then HB.out B1, by rw [HK.out]; exact ⟨_, _, rfl, own_below HO3.out B1⟩⟩
              case measure => simp [intOf]; omega
      · have e : k = n := by omega
        subst e
        go_wp2
        exact HA.out _ _ HF.out HB.out
  · have hne : ((chk L).2 != 0) = true := by simpa using hz
    have HA : Hid (A (.returned (.tuple #[.slice none 0 0, .int .i64 (chk L).2])) w) := by
      rw [← hA]
      refine ⟨_, rfl, ?_, Below.refl _ _⟩
      unfold canS
      rw [if_neg hz]; exact own_nil _ _ _ _
    rw [hA]
    clear hA hz hl
    generalize (chk L).1 = i at *
    generalize (chk L).2 = z at *
    go_enter Tryd.func8, Tryd.ntmps8
    go_wp2_with (first
      | (go_at_call 6; refine hC.mono ?_; rintro e' w' ⟨rfl, hw'⟩; replace hw' := hw'.symm; subst hw'))
    exact HA.out
end Go.Proofs.YtbecabkdnjkkeaaDoor

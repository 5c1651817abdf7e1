/- Cross of the reference. -/
import Derived.Test.YtimdmiefjnokmaaVM
namespace Go.Proofs.Ytimdmiefjnokmaa
open Go Go.RowKit M
set_option linter.unusedSimpArgs false
set_option linter.unusedVariables false

set_option maxRecDepth 100000 in
set_option maxHeartbeats 4000000 in
theorem rcross_any (a1 a2 : Option Addr) (c1 c2 : Nat) (l m : List FS) (hl : l.length ≤ 4611686018427387903) (hm : m.length ≤ 4611686018427387903) (w : World) (hS1 : Seg w a1 (flatF l)) (hS2 : Seg w a2 (flatF m)) :
    Calls Try.prog 5 #[.slice a1 l.length c1, .slice a2 m.length c2] w fun e w' => e = .returned (crossV l m) ∧ Below w.heap.size w w' := by
  have hR1 := fun W (h : Seg W a1 (flatF l)) => rrises_any a1 c1 l hl W h
  have hR2 := fun W (h : Seg W a2 (flatF m)) => rrises_any a2 c2 m hm W h
  have HS1 : Hid (Seg w a1 (flatF l)) := hS1
  have HS2 : Hid (Seg w a2 (flatF m)) := hS2
  clear hS1 hS2
  obtain ⟨n1, hn1⟩ : ∃ n, l.length = n := ⟨_, rfl⟩
  obtain ⟨n2, hn2⟩ : ∃ n, m.length = n := ⟨_, rfl⟩
  rw [hn1] at hl
  rw [hn2] at hm
  simp only [hn1] at hR1
  simp only [hn2] at hR2
  rw [hn1, hn2]
  have HN1 : Hid (l.length = n1) := hn1
  have HN2 : Hid (m.length = n2) := hn2
  clear hn1 hn2
  have ta : True := trivial
  cases s1 : setB l with
  | false =>
    have HV : Hid (crossV l m = tupF FS.zero 0 100) := crossV_no1 s1
    simp only [s1] at hR1
    clear hR2 s1
    go_enter Try.func5, Try.ntmps5
    go_wp2_with (first
      | (clear ta; refine wpList_allocS rfl _ rfl (encF FS.zero) zeroF ?_; intro W1 b4 F1 I1; have B1 := fresh_b F1; have hb4 : w.heap.size ≤ b4 := (by rw [F1.at']; exact Nat.le_refl _))
      | (go_at_call 8; refine (hR1 _ (HS1.out.below B1)).mono ?_; rintro e W2 ⟨rfl, B2⟩; have I2 := I1.grown B2; have B12 := Below.then B1 B2)
      | (refine wpList_build0F rfl rfl ?_)
      | (refine wpList_storeF rfl _ _ rfl rfl rfl I2 ?_; intro W3 U3 I3))
    exact ret_S3 rfl rfl rfl I3 _ Try.underlying25 rfl (infoFx _) _ _ rfl rfl ⟨congrArg Ending.returned HV.out.symm, U3.trans B12 hb4⟩
  | true =>
    have HY1 : Hid (setB l = true) := s1
    simp only [s1] at hR1
    clear s1
    cases s2 : setB m with
    | false =>
      have HV : Hid (crossV l m = tupF FS.zero 0 100) := crossV_no2 s2
      simp only [s2] at hR2
      clear s2
      go_enter Try.func5, Try.ntmps5
      go_wp2_with (first
        | (clear ta; refine wpList_allocS rfl _ rfl (encF FS.zero) zeroF ?_; intro W1 b4 F1 I1; have B1 := fresh_b F1; have hb4 : w.heap.size ≤ b4 := (by rw [F1.at']; exact Nat.le_refl _); have tb : True := trivial)
        | (clear tb; go_at_call 8; refine (hR1 _ (HS1.out.below B1)).mono ?_; rintro e W2 ⟨rfl, B2⟩; have I2 := I1.grown B2; have B12 := Below.then B1 B2; have tc : True := trivial)
        | (clear tc; go_at_call 8; refine (hR2 _ (HS2.out.below B12)).mono ?_; rintro e W3 ⟨rfl, B3⟩; have I3 := I2.grown B3; have B13 := Below.then B12 B3)
        | (refine wpList_build0F rfl rfl ?_)
        | (refine wpList_storeF rfl _ _ rfl rfl rfl I3 ?_; intro W4 U4 I4))
      exact ret_S3 rfl rfl rfl I4 _ Try.underlying25 rfl (infoFx _) _ _ rfl rfl ⟨congrArg Ending.returned HV.out.symm, U4.trans B13 hb4⟩
    | true =>
      have HY2 : Hid (setB m = true) := s2
      simp only [s2] at hR2
      clear s2
      go_enter Try.func5, Try.ntmps5
      go_wp2_with (first
        | (clear ta; refine wpList_allocS rfl _ rfl (encF FS.zero) zeroF ?_; intro W1 b4 F1 I1; have B1 := fresh_b F1; have hb4 : w.heap.size ≤ b4 := (by rw [F1.at']; exact Nat.le_refl _); have tb : True := trivial)
        | (clear tb; go_at_call 8; refine (hR1 _ (HS1.out.below B1)).mono ?_; rintro e W2 ⟨rfl, B2⟩; have I2 := I1.grown B2; have B12 := Below.then B1 B2; have tc : True := trivial)
        | (clear tc; go_at_call 8; refine (hR2 _ (HS2.out.below B12)).mono ?_; rintro e W3 ⟨rfl, B3⟩; have I3 := I2.grown B3; have B13 := Below.then B12 B3))
      have T1 : Hid (Seg W3 a1 (flatF l)) := HS1.out.below B13
      have T2 : Hid (Seg W3 a2 (flatF m)) := HS2.out.below B13
      clear hR1 hR2 HS1 HS2 I1 I2 B1 B2 B3 B12 F1
      go_loopw [7] (fun i wr => ∃ k : Nat, (k ≤ n1 ∧ k ≤ n2) ∧ i = .int .i64 (k : Int) ∧ Below W3.heap.size W3 wr ∧ Hid (CrAt l m k)) (fun i _ => n1 - (intOf i).toNat)
      case atStart => exact ⟨0, ⟨Nat.zero_le _, Nat.zero_le _⟩, rfl, Below.refl _ _, CrAt.zero l m⟩
      case round =>
        obtain ⟨k, ⟨hk1, hk2⟩, rfl, BR, HC⟩ := hrel
        have IR := I3.grown BR
        have BW : Below w.heap.size w wr := Below.then B13 BR
        have T1R : Hid (Seg wr a1 (flatF l)) := T1.out.below BR
        have T2R : Hid (Seg wr a2 (flatF m)) := T2.out.below BR
        clear I3 T1 T2
        by_cases h1 : k < n1
        · obtain ⟨b1, o1, rfl, HB1, HX1⟩ := seg_elem T1R.out k (by rw [HN1.out]; omega)
          have h1N : k < n1 := h1
          have h1I : (k : Int) < (n1 : Int) := by omega
          have e1 : ¬ ((k : Int) = (n1 : Int)) := by omega
          have f1 : ((k : Int) == (n1 : Int)) = false := by simpa using e1
          have d1 : decide ((k : Int) < (n1 : Int)) = true := by simpa using h1I
          by_cases h2 : k < n2
          · obtain ⟨b2, o2, rfl, HB2, HX2⟩ := seg_elem T2R.out k (by rw [HN2.out]; omega)
            have h2N : k < n2 := h2
            have h2I : (k : Int) < (n2 : Int) := by omega
            have e2 : ¬ ((k : Int) = (n2 : Int)) := by omega
            have f2 : ((k : Int) == (n2 : Int)) = false := by simpa using e2
            have HQ : Hid _ := HC.out.both (by rw [HN1.out]; omega) (by rw [HN2.out]; omega)
            have HNx : Hid (cmpF (l.getD k FS.zero) (m.getD k FS.zero) = 0 → CrAt l m (k + 1)) := fun h => HC.out.next (by rw [HN1.out]; omega) (by rw [HN2.out]; omega) h
            have hK := fun W => rcompare_ans (l.getD k FS.zero) (m.getD k FS.zero) W
            generalize l.getD k FS.zero = X at *
            generalize m.getD k FS.zero = Y at *
            generalize hcc : cmpF X Y = c at *
            clear HC T1R T2R h1 h2 hk1 hk2 hcc
            by_cases hc1 : c < 0
            · have HV : Hid (crossV l m = tupF X 1 0) := crossV_yes HY1.out HY2.out (by rw [HQ.out, if_pos hc1])
              have hd : decide (c < 0) = true := by simpa using hc1
              clear HQ HNx
              go_wp2
              refine grow_allW (by kernel_rfl) (by kernel_rfl) ?_
              refine WG.put rfl (v := .slice (some ⟨b1, o1, none⟩) n1 c1) (fun w => by first | rfl | (go_simp; done) | (simp [go_sem]; done)) ?_
              simp only [Act.put, List.setIfInBounds_toArray, List.set_cons_succ, List.set_cons_zero]
              refine WG.put rfl (v := .int .i64 (k : Int)) (fun w => by first | rfl | (go_simp; done) | (simp [go_sem]; done)) ?_
              simp only [Act.put, List.setIfInBounds_toArray, List.set_cons_succ, List.set_cons_zero]
              refine WG.put rfl (v := .pointer (some ⟨b1, o1 + k * 49, none⟩)) (fun w => by first | rfl | (go_simp; done) | (simp [go_sem, h1N, h1I]; done)) ?_
              simp only [Act.put, List.setIfInBounds_toArray, List.set_cons_succ, List.set_cons_zero]
              refine WG.elem (x := X) rfl _ rfl rfl HB1 HX1 ?_
              simp only [Act.put, List.setIfInBounds_toArray, List.set_cons_succ, List.set_cons_zero]
              refine WG.put rfl (v := .slice (some ⟨b2, o2, none⟩) n2 c2) (fun w => by first | rfl | (go_simp; done) | (simp [go_sem]; done)) ?_
              simp only [Act.put, List.setIfInBounds_toArray, List.set_cons_succ, List.set_cons_zero]
              refine WG.put rfl (v := .int .i64 (k : Int)) (fun w => by first | rfl | (go_simp; done) | (simp [go_sem]; done)) ?_
              simp only [Act.put, List.setIfInBounds_toArray, List.set_cons_succ, List.set_cons_zero]
              refine WG.put rfl (v := .pointer (some ⟨b2, o2 + k * 49, none⟩)) (fun w => by first | rfl | (go_simp; done) | (simp [go_sem, h2N, h2I]; done)) ?_
              simp only [Act.put, List.setIfInBounds_toArray, List.set_cons_succ, List.set_cons_zero]
              refine WG.elem (x := Y) rfl _ rfl rfl HB2 HX2 ?_
              simp only [Act.put, List.setIfInBounds_toArray, List.set_cons_succ, List.set_cons_zero]
              refine WG.call rfl (v := .int .i64 c) (fun w _ => hK w) (fun w => by first | rfl | (go_simp; done) | (simp [go_sem]; done)) ?_
              simp only [Act.put, List.setIfInBounds_toArray, List.set_cons_succ, List.set_cons_zero]
              refine WG.put rfl (v := .int .i64 c) (fun w => by first | rfl | (go_simp; done) | (simp [go_sem]; done)) ?_
              simp only [Act.put, List.setIfInBounds_toArray, List.set_cons_succ, List.set_cons_zero]
              refine WG.nil ?_
              intro w5 B5
              have HX1b := range_grow HX1 HB1 B5
              have HX2b := range_grow HX2 HB2 B5
              have I5 := IR.grown B5
              have B5w := Below.then BW B5
              go_wp2_with (first | (refine wpList_loadE (x := X) rfl _ rfl rfl HX1b ?_) | (refine wpList_storeF rfl _ _ rfl rfl rfl I5 ?_; intro w7 U7 I7))
              exact ret_S3 rfl rfl rfl I7 _ Try.underlying25 rfl (infoFx _) _ _ rfl rfl ⟨congrArg Ending.returned HV.out.symm, U7.trans B5w hb4⟩
            · have hd : decide (c < 0) = false := by simpa using hc1
              by_cases hc2 : 0 < c
              · have HV : Hid (crossV l m = tupF Y 2 0) := crossV_yes HY1.out HY2.out (by rw [HQ.out, if_neg hc1, if_pos hc2])
                have hd2 : decide (0 < c) = true := by simpa using hc2
                clear HQ HNx
                go_wp2
                refine grow_allW (by kernel_rfl) (by kernel_rfl) ?_
                refine WG.put rfl (v := .slice (some ⟨b1, o1, none⟩) n1 c1) (fun w => by first | rfl | (go_simp; done) | (simp [go_sem]; done)) ?_
                simp only [Act.put, List.setIfInBounds_toArray, List.set_cons_succ, List.set_cons_zero]
                refine WG.put rfl (v := .int .i64 (k : Int)) (fun w => by first | rfl | (go_simp; done) | (simp [go_sem]; done)) ?_
                simp only [Act.put, List.setIfInBounds_toArray, List.set_cons_succ, List.set_cons_zero]
                refine WG.put rfl (v := .pointer (some ⟨b1, o1 + k * 49, none⟩)) (fun w => by first | rfl | (go_simp; done) | (simp [go_sem, h1N, h1I]; done)) ?_
                simp only [Act.put, List.setIfInBounds_toArray, List.set_cons_succ, List.set_cons_zero]
                refine WG.elem (x := X) rfl _ rfl rfl HB1 HX1 ?_
                simp only [Act.put, List.setIfInBounds_toArray, List.set_cons_succ, List.set_cons_zero]
                refine WG.put rfl (v := .slice (some ⟨b2, o2, none⟩) n2 c2) (fun w => by first | rfl | (go_simp; done) | (simp [go_sem]; done)) ?_
                simp only [Act.put, List.setIfInBounds_toArray, List.set_cons_succ, List.set_cons_zero]
                refine WG.put rfl (v := .int .i64 (k : Int)) (fun w => by first | rfl | (go_simp; done) | (simp [go_sem]; done)) ?_
                simp only [Act.put, List.setIfInBounds_toArray, List.set_cons_succ, List.set_cons_zero]
                refine WG.put rfl (v := .pointer (some ⟨b2, o2 + k * 49, none⟩)) (fun w => by first | rfl | (go_simp; done) | (simp [go_sem, h2N, h2I]; done)) ?_
                simp only [Act.put, List.setIfInBounds_toArray, List.set_cons_succ, List.set_cons_zero]
                refine WG.elem (x := Y) rfl _ rfl rfl HB2 HX2 ?_
                simp only [Act.put, List.setIfInBounds_toArray, List.set_cons_succ, List.set_cons_zero]
                refine WG.call rfl (v := .int .i64 c) (fun w _ => hK w) (fun w => by first | rfl | (go_simp; done) | (simp [go_sem]; done)) ?_
                simp only [Act.put, List.setIfInBounds_toArray, List.set_cons_succ, List.set_cons_zero]
                refine WG.put rfl (v := .int .i64 c) (fun w => by first | rfl | (go_simp; done) | (simp [go_sem]; done)) ?_
                simp only [Act.put, List.setIfInBounds_toArray, List.set_cons_succ, List.set_cons_zero]
                refine WG.nil ?_
                intro w5 B5
                have HX1b := range_grow HX1 HB1 B5
                have HX2b := range_grow HX2 HB2 B5
                have I5 := IR.grown B5
                have B5w := Below.then BW B5
                go_wp2_with (first | (refine wpList_loadE (x := Y) rfl _ rfl rfl HX2b ?_) | (refine wpList_storeF rfl _ _ rfl rfl rfl I5 ?_; intro w7 U7 I7))
                exact ret_S3 rfl rfl rfl I7 _ Try.underlying25 rfl (infoFx _) _ _ rfl rfl ⟨congrArg Ending.returned HV.out.symm, U7.trans B5w hb4⟩
              · have HZ : Hid (CrAt l m (k + 1)) := HNx.out (by omega)
                have hd2 : decide (0 < c) = false := by simpa using hc2
                clear HQ HNx
                go_wp2
                refine grow_allW (by kernel_rfl) (by kernel_rfl) ?_
                refine WG.put rfl (v := .slice (some ⟨b1, o1, none⟩) n1 c1) (fun w => by first | rfl | (go_simp; done) | (simp [go_sem]; done)) ?_
                simp only [Act.put, List.setIfInBounds_toArray, List.set_cons_succ, List.set_cons_zero]
                refine WG.put rfl (v := .int .i64 (k : Int)) (fun w => by first | rfl | (go_simp; done) | (simp [go_sem]; done)) ?_
                simp only [Act.put, List.setIfInBounds_toArray, List.set_cons_succ, List.set_cons_zero]
                refine WG.put rfl (v := .pointer (some ⟨b1, o1 + k * 49, none⟩)) (fun w => by first | rfl | (go_simp; done) | (simp [go_sem, h1N, h1I]; done)) ?_
                simp only [Act.put, List.setIfInBounds_toArray, List.set_cons_succ, List.set_cons_zero]
                refine WG.elem (x := X) rfl _ rfl rfl HB1 HX1 ?_
                simp only [Act.put, List.setIfInBounds_toArray, List.set_cons_succ, List.set_cons_zero]
                refine WG.put rfl (v := .slice (some ⟨b2, o2, none⟩) n2 c2) (fun w => by first | rfl | (go_simp; done) | (simp [go_sem]; done)) ?_
                simp only [Act.put, List.setIfInBounds_toArray, List.set_cons_succ, List.set_cons_zero]
                refine WG.put rfl (v := .int .i64 (k : Int)) (fun w => by first | rfl | (go_simp; done) | (simp [go_sem]; done)) ?_
                simp only [Act.put, List.setIfInBounds_toArray, List.set_cons_succ, List.set_cons_zero]
                refine WG.put rfl (v := .pointer (some ⟨b2, o2 + k * 49, none⟩)) (fun w => by first | rfl | (go_simp; done) | (simp [go_sem, h2N, h2I]; done)) ?_
                simp only [Act.put, List.setIfInBounds_toArray, List.set_cons_succ, List.set_cons_zero]
                refine WG.elem (x := Y) rfl _ rfl rfl HB2 HX2 ?_
                simp only [Act.put, List.setIfInBounds_toArray, List.set_cons_succ, List.set_cons_zero]
                refine WG.call rfl (v := .int .i64 c) (fun w _ => hK w) (fun w => by first | rfl | (go_simp; done) | (simp [go_sem]; done)) ?_
                simp only [Act.put, List.setIfInBounds_toArray, List.set_cons_succ, List.set_cons_zero]
                refine WG.put rfl (v := .int .i64 c) (fun w => by first | rfl | (go_simp; done) | (simp [go_sem]; done)) ?_
                simp only [Act.put, List.setIfInBounds_toArray, List.set_cons_succ, List.set_cons_zero]
                refine WG.nil ?_
                intro w5 B5
                have HX1b := range_grow HX1 HB1 B5
                have HX2b := range_grow HX2 HB2 B5
                have I5 := IR.grown B5
                have B5w := Below.then BW B5
                go_wp2
                go_roundw
                case rel => exact ⟨k + 1, ⟨by omega, by omega⟩, by go_num, Below.then BR B5, HZ⟩
                case measure => simp [intOf]; omega
          · have HV : Hid (crossV l m = tupF (l.getD k FS.zero) 1 0) := crossV_yes HY1.out HY2.out (HC.out.left (by rw [HN1.out]; omega) (by rw [HN2.out]; omega))
            have e2 : k = n2 := by omega
            have h2I : ¬ ((k : Int) < (n2 : Int)) := by omega
            have f2 : ((k : Int) == (n2 : Int)) = true := by simp; omega
            generalize l.getD k FS.zero = X at *
            clear HC T1R T2R h1 h2 hk1 hk2 e2
            go_wp2_with (first | (refine wpList_loadE (x := X) rfl _ rfl rfl HX1 ?_) | (refine wpList_storeF rfl _ _ rfl rfl rfl IR ?_; intro w7 U7 I7))
            exact ret_S3 rfl rfl rfl I7 _ Try.underlying25 rfl (infoFx _) _ _ rfl rfl ⟨congrArg Ending.returned HV.out.symm, U7.trans BW hb4⟩
        · have g1 : k = n1 := by omega
          have h1I : ¬ ((k : Int) < (n1 : Int)) := by omega
          have d1 : decide ((k : Int) < (n1 : Int)) = false := by simpa using h1I
          have f1 : ((k : Int) == (n1 : Int)) = true := by simp; omega
          by_cases h2 : k < n2
          · obtain ⟨b2, o2, rfl, HB2, HX2⟩ := seg_elem T2R.out k (by rw [HN2.out]; omega)
            have HV : Hid (crossV l m = tupF (m.getD k FS.zero) 2 0) := crossV_yes HY1.out HY2.out (HC.out.right (by rw [HN1.out]; omega) (by rw [HN2.out]; omega))
            have h2I : (k : Int) < (n2 : Int) := by omega
            have d2 : decide ((k : Int) < (n2 : Int)) = true := by simpa using h2I
            generalize m.getD k FS.zero = Y at *
            clear HC T1R T2R h1 hk1 hk2 g1
            go_wp2_with (first | (refine wpList_loadE (x := Y) rfl _ rfl rfl HX2 ?_) | (refine wpList_storeF rfl _ _ rfl rfl rfl IR ?_; intro w7 U7 I7))
            exact ret_S3 rfl rfl rfl I7 _ Try.underlying25 rfl (infoFx _) _ _ rfl rfl ⟨congrArg Ending.returned HV.out.symm, U7.trans BW hb4⟩
          · have HV : Hid (crossV l m = tupF FS.zero 0 0) := crossV_yes HY1.out HY2.out (HC.out.none (by rw [HN1.out]; omega) (by rw [HN2.out]; omega))
            have h2I : ¬ ((k : Int) < (n2 : Int)) := by omega
            have d2 : decide ((k : Int) < (n2 : Int)) = false := by simpa using h2I
            clear HC T1R T2R h1 h2 hk1 hk2 g1
            go_wp2_with (first | (refine wpList_build0F rfl rfl ?_) | (refine wpList_storeF rfl _ _ rfl rfl rfl IR ?_; intro w7 U7 I7))
            exact ret_S3 rfl rfl rfl I7 _ Try.underlying25 rfl (infoFx _) _ _ rfl rfl ⟨congrArg Ending.returned HV.out.symm, U7.trans BW hb4⟩
end Go.Proofs.Ytimdmiefjnokmaa

/- cut: the longest number at the beginning of a text. -/
import Derived.Test.YtopnbemodlcknaaDoorD2
namespace Go.Proofs.YtopnbemodlcknaaDoor
open Go.RowKit M
set_option linter.unusedSimpArgs false
set_option linter.unusedVariables false

theorem bcell {W w1 : World} (hb : Below W.heap.size W w1) : (∀ b o, b < W.heap.size → w1.cell? ⟨b, o, none⟩ = W.cell? ⟨b, o, none⟩) ∧ (∀ b o, b < W.heap.size → w1.frozen? ⟨b, o, none⟩ = W.frozen? ⟨b, o, none⟩) :=
  ⟨fun b o h => hb.cell (p := ⟨b, o, none⟩) h, fun b o h => hb.frozen (p := ⟨b, o, none⟩) h⟩

theorem digF_mark {l : List UInt8} (hq : markB (l.drop (sgn l)) = true) (hn : dl 16 ((l.drop (sgn l)).drop 2) ≠ []) :
    digF l = dl 16 ((l.drop (sgn l)).drop 2) ∧ baseF l = 16 ∧ lenF l = sgn l + 2 + (dl 16 ((l.drop (sgn l)).drop 2)).length := by
  unfold digF baseF lenF bodyF
  rw [if_pos ⟨hq, hn⟩]
  exact ⟨rfl, rfl, by show sgn l + (2 + _) = _; omega⟩
theorem digF_plain {l : List UInt8} (h : ¬ (markB (l.drop (sgn l)) = true ∧ dl 16 ((l.drop (sgn l)).drop 2) ≠ [])) :
    digF l = dl 10 (l.drop (sgn l)) ∧ baseF l = 10 ∧ lenF l = sgn l + (dl 10 (l.drop (sgn l))).length := by
  unfold digF baseF lenF bodyF
  rw [if_neg h]
  exact ⟨rfl, rfl, rfl⟩
theorem emp_t {D : ByteArray} (h : D.data.toList = []) : D.toList.isEmpty = true := by rw [toL, h]; rfl
theorem emp_f {D : ByteArray} (h : D.data.toList ≠ []) : D.toList.isEmpty = false := by
  rw [toL]; cases e : D.data.toList with
  | nil => exact absurd e h
  | cons a r => rfl

/-- run's contract as a caller at b takes it. -/
def RunK (s : ByteArray) (b base : Nat) : Prop := ∀ w, Calls Tryd.prog 67 #[.string s, .int .i64 (b : Int), .int .u64 (base : Int)] w fun e w' => (∃ D : ByteArray, e = .returned (numV false base D (b + D.size)) ∧ Hid (D.data.toList = dl base (s.data.toList.drop b))) ∧ Below w.heap.size w w'
theorem runK (s : ByteArray) (hs : s.size ≤ maxLen) (b base : Nat) (hb : b ≤ s.size) (hbase : base = 10 ∨ base = 16) : RunK s b base := fun w =>
  (run_any s hs b base hb hbase w).mono fun e w' ⟨⟨D, h1, h2⟩, h3⟩ => ⟨⟨D, h1, h2⟩, h3⟩

set_option maxRecDepth 100000 in
set_option maxHeartbeats 2000000 in
theorem cut_any (s : ByteArray) (hs : s.size ≤ maxLen) (w : World) :
    Calls Tryd.prog 58 #[.string s] w fun e w' => (∃ D : ByteArray, e = .returned (numV (minusB s.data.toList) (baseF s.data.toList) D (lenF s.data.toList)) ∧ D.data.toList = digF s.data.toList) ∧ Below w.heap.size w w' := by
  have hm := fun w => hasPrefix_any s ⟨#[45]⟩ hs (by decide) w
  have e0 : (ByteArray.mk #[45]).data.toList = [45] := rfl
  rw [e0, ← minus_eq] at hm
  clear e0
  have hs' := hs
  unfold maxLen at hs'
  have hsz := sizeL s
  have hE0 : (ByteArray.mk #[]).toList.isEmpty = true := emp_t rfl
  cases hb : minusB s.data.toList with
  | true =>
      rw [hb] at hm
      have hsg : sgn s.data.toList = 1 := by unfold sgn; rw [hb]; rfl
      have h1 : 1 ≤ s.size := by have := minusB_pos hb; omega
      have hk := fun w => marked_any (s.extract 1 s.size) (by rw [ByteArray.size_extract]; omega) w
      rw [exE] at hk
      have hi : (1 : Int) ≤ s.size := by omega
      have hr10 := runK s hs 1 10 h1 (Or.inl rfl)
      have HSG : Hid (sgn s.data.toList = 1) := hsg
      have HSZ : Hid (s.size = s.data.toList.length) := hsz
      have tA : True := trivial
      have tB : True := trivial
      cases hq : markB (s.data.toList.drop 1) with
      | true =>
          rw [hq] at hk
          have h3 : 3 ≤ s.size := by have := markB_len hq; rw [List.length_drop] at this; omega
          have hr16 := runK s hs 3 16 h3 (Or.inr rfl)
          have HQ : Hid (markB (s.data.toList.drop 1) = true) := hq
          clear hq hb hsz hsg
          go_enter Tryd.func58, Tryd.ntmps58
          go_wp2_with (first
            | (have := tA; clear tA this; refine wpList_allocN rfl rfl ?_; intro W1 b1 F1 N1; have B := F1.trans (Below.refl _ _) (Nat.le_refl _); have hb1 : w.heap.size ≤ b1 := Nat.le_of_eq F1.at'.symm; clear F1)
            | (have := tB; clear tB this; refine wpList_allocN rfl rfl ?_; intro W2 b2 F2 N2; have hne : b1 ≠ b2 := Nat.ne_of_lt (Nat.lt_of_lt_of_le N1.lt (Nat.le_of_eq F2.at'.symm)); have hb2 : w.heap.size ≤ b2 := Nat.le_trans B.size (Nat.le_of_eq F2.at'.symm); replace N1 := N1.fresh F2; replace B := F2.trans B B.size; clear F2; have c2 := N2.cD)
            | (go_at_call 47; refine (hm _).mono ?_; rintro e w' ⟨rfl, hw'⟩; replace hw' := hw'.symm; subst hw'; clear hm)
            | (go_at_call 66; refine (hk _).mono ?_; rintro e w' ⟨rfl, hw'⟩; replace hw' := hw'.symm; subst hw'; clear hk)
            | (go_at_call 67; refine (hr16 _).mono ?_; rintro e W3 ⟨⟨D, rfl, HD⟩, hb3⟩; clear hr16; replace N1 := N1.grown hb3; replace N2 := N2.grown hb3; replace B := B.trans (hb3.mono B.size); clear hb3; refine Hid.out ?_))
          refine Lib.hid ?_
          by_cases hD : D.data.toList = []
          · have hE : D.toList.isEmpty = true := emp_t hD
            have HP : Hid (¬ (markB (s.data.toList.drop (sgn s.data.toList)) = true ∧ dl 16 ((s.data.toList.drop (sgn s.data.toList)).drop 2) ≠ [])) := by
              show ¬ (_ ∧ _)
              rintro ⟨-, h⟩
              refine h ?_
              rw [HSG.out, List.drop_drop]
              exact HD.out.symm.trans hD
            clear hD
            go_wp2_with (first
            | (refine wpList_storeN rfl _ _ rfl rfl rfl N2 ?_; intro W4 U4 N2x; replace N1 := N1.upd U4 hne; replace B := U4.trans B hb2; clear U4 N2; have N2 := N2x; clear N2x; have c2 := N2.cD)
            | (refine wpList_setM rfl _ _ rfl rfl rfl N2 ?_; intro W7 U7 N2x; replace N1 := N1.upd U7 hne; replace B := U7.trans B hb2; clear U7 N2; have N2 := N2x; clear N2x)
            | (refine wpList_loadN rfl _ rfl rfl N2 ?_)
            | (refine wpList_storeN rfl _ _ rfl rfl rfl N1 ?_; intro W8 U8 N1x; replace B := U8.trans B hb1; clear U8 N1; have N1 := N1x; clear N1x)
            | (go_at_call 67; refine (hr10 _).mono ?_; rintro e W3 ⟨⟨D', rfl, HD'⟩, hb3⟩; clear hr10; replace N1 := N1.grown hb3; replace N2 := N2.grown hb3; replace B := B.trans (hb3.mono B.size); clear hb3))
            have hF := digF_plain HP.out
            have hL : D'.size = (dl 10 (s.data.toList.drop 1)).length := by rw [sizeL, HD'.out]
            rw [HSG.out] at hF
            refine ret_N rfl rfl rfl N1 ⟨⟨D', ?_, ?_⟩, B⟩
            · first | (rw [hF.2.1, hF.2.2, hL]; done) | (rw [hF.2.1, hF.2.2, hL, Nat.zero_add])
            · rw [hF.1]; exact HD'.out
          · have hE : D.toList.isEmpty = false := emp_f hD
            have HP : Hid (dl 16 ((s.data.toList.drop (sgn s.data.toList)).drop 2) ≠ []) := by
              show _ ≠ _
              rw [HSG.out, List.drop_drop]
              exact fun h => hD (HD.out.trans h)
            clear hD
            go_wp2_with (first
            | (refine wpList_storeN rfl _ _ rfl rfl rfl N2 ?_; intro W4 U4 N2x; replace N1 := N1.upd U4 hne; replace B := U4.trans B hb2; clear U4 N2; have N2 := N2x; clear N2x; have c2 := N2.cD)
            | (refine wpList_setM rfl _ _ rfl rfl rfl N2 ?_; intro W7 U7 N2x; replace N1 := N1.upd U7 hne; replace B := U7.trans B hb2; clear U7 N2; have N2 := N2x; clear N2x)
            | (refine wpList_loadN rfl _ rfl rfl N2 ?_)
            | (refine wpList_storeN rfl _ _ rfl rfl rfl N1 ?_; intro W8 U8 N1x; replace B := U8.trans B hb1; clear U8 N1; have N1 := N1x; clear N1x))
            have hF := digF_mark (by rw [HSG.out]; exact HQ.out) HP.out
            have hL : D.size = (dl 16 (s.data.toList.drop 3)).length := by rw [sizeL, HD.out]
            rw [HSG.out, List.drop_drop] at hF
            refine ret_N rfl rfl rfl N1 ⟨⟨D, ?_, ?_⟩, B⟩
            · first | (rw [hF.2.1, hF.2.2, hL]; done) | (rw [hF.2.1, hF.2.2, hL, Nat.zero_add])
            · rw [hF.1]; exact HD.out
      | false =>
          rw [hq] at hk
          have HP : Hid (¬ (markB (s.data.toList.drop (sgn s.data.toList)) = true ∧ dl 16 ((s.data.toList.drop (sgn s.data.toList)).drop 2) ≠ [])) := by
            show ¬ (_ ∧ _)
            rintro ⟨h, -⟩
            rw [hsg, hq] at h
            cases h
          clear hq hb hsz hsg
          go_enter Tryd.func58, Tryd.ntmps58
          go_wp2_with (first
            | (have := tA; clear tA this; refine wpList_allocN rfl rfl ?_; intro W1 b1 F1 N1; have B := F1.trans (Below.refl _ _) (Nat.le_refl _); have hb1 : w.heap.size ≤ b1 := Nat.le_of_eq F1.at'.symm; clear F1)
            | (have := tB; clear tB this; refine wpList_allocN rfl rfl ?_; intro W2 b2 F2 N2; have hne : b1 ≠ b2 := Nat.ne_of_lt (Nat.lt_of_lt_of_le N1.lt (Nat.le_of_eq F2.at'.symm)); have hb2 : w.heap.size ≤ b2 := Nat.le_trans B.size (Nat.le_of_eq F2.at'.symm); replace N1 := N1.fresh F2; replace B := F2.trans B B.size; clear F2; have c2 := N2.cD)
            | (go_at_call 47; refine (hm _).mono ?_; rintro e w' ⟨rfl, hw'⟩; replace hw' := hw'.symm; subst hw'; clear hm)
            | (go_at_call 66; refine (hk _).mono ?_; rintro e w' ⟨rfl, hw'⟩; replace hw' := hw'.symm; subst hw'; clear hk)
            | (refine wpList_storeN rfl _ _ rfl rfl rfl N2 ?_; intro W4 U4 N2x; replace N1 := N1.upd U4 hne; replace B := U4.trans B hb2; clear U4 N2; have N2 := N2x; clear N2x; have c2 := N2.cD)
            | (refine wpList_setM rfl _ _ rfl rfl rfl N2 ?_; intro W7 U7 N2x; replace N1 := N1.upd U7 hne; replace B := U7.trans B hb2; clear U7 N2; have N2 := N2x; clear N2x)
            | (refine wpList_loadN rfl _ rfl rfl N2 ?_)
            | (refine wpList_storeN rfl _ _ rfl rfl rfl N1 ?_; intro W8 U8 N1x; replace B := U8.trans B hb1; clear U8 N1; have N1 := N1x; clear N1x)
            | (go_at_call 67; refine (hr10 _).mono ?_; rintro e W3 ⟨⟨D', rfl, HD'⟩, hb3⟩; clear hr10; replace N1 := N1.grown hb3; replace N2 := N2.grown hb3; replace B := B.trans (hb3.mono B.size); clear hb3))
          have hF := digF_plain HP.out
          have hL : D'.size = (dl 10 (s.data.toList.drop 1)).length := by rw [sizeL, HD'.out]
          rw [HSG.out] at hF
          refine ret_N rfl rfl rfl N1 ⟨⟨D', ?_, ?_⟩, B⟩
          · first | (rw [hF.2.1, hF.2.2, hL]; done) | (rw [hF.2.1, hF.2.2, hL, Nat.zero_add])
          · rw [hF.1]; exact HD'.out
  | false =>
      rw [hb] at hm
      have hsg : sgn s.data.toList = 0 := by unfold sgn; rw [hb]; rfl
      have h1 : 0 ≤ s.size := by omega
      have hk : ∀ w, Calls Tryd.prog 66 #[.string s] w fun e w' => e = .returned (.bool (markB (s.data.toList.drop 0))) ∧ w' = w := fun w => marked_any s hs w
      have hi : (0 : Int) ≤ s.size := by omega
      have hr10 := runK s hs 0 10 h1 (Or.inl rfl)
      have HSG : Hid (sgn s.data.toList = 0) := hsg
      have HSZ : Hid (s.size = s.data.toList.length) := hsz
      have tA : True := trivial
      have tB : True := trivial
      cases hq : markB (s.data.toList.drop 0) with
      | true =>
          rw [hq] at hk
          have h3 : 2 ≤ s.size := by have := markB_len hq; rw [List.length_drop] at this; omega
          have hr16 := runK s hs 2 16 h3 (Or.inr rfl)
          have HQ : Hid (markB (s.data.toList.drop 0) = true) := hq
          clear hq hb hsz hsg
          go_enter Tryd.func58, Tryd.ntmps58
          go_wp2_with (first
            | (have := tA; clear tA this; refine wpList_allocN rfl rfl ?_; intro W1 b1 F1 N1; have B := F1.trans (Below.refl _ _) (Nat.le_refl _); have hb1 : w.heap.size ≤ b1 := Nat.le_of_eq F1.at'.symm; clear F1)
            | (have := tB; clear tB this; refine wpList_allocN rfl rfl ?_; intro W2 b2 F2 N2; have hne : b1 ≠ b2 := Nat.ne_of_lt (Nat.lt_of_lt_of_le N1.lt (Nat.le_of_eq F2.at'.symm)); have hb2 : w.heap.size ≤ b2 := Nat.le_trans B.size (Nat.le_of_eq F2.at'.symm); replace N1 := N1.fresh F2; replace B := F2.trans B B.size; clear F2; have c2 := N2.cD)
            | (go_at_call 47; refine (hm _).mono ?_; rintro e w' ⟨rfl, hw'⟩; replace hw' := hw'.symm; subst hw'; clear hm)
            | (go_at_call 66; refine (hk _).mono ?_; rintro e w' ⟨rfl, hw'⟩; replace hw' := hw'.symm; subst hw'; clear hk)
            | (go_at_call 67; refine (hr16 _).mono ?_; rintro e W3 ⟨⟨D, rfl, HD⟩, hb3⟩; clear hr16; replace N1 := N1.grown hb3; replace N2 := N2.grown hb3; replace B := B.trans (hb3.mono B.size); clear hb3; refine Hid.out ?_))
          refine Lib.hid ?_
          by_cases hD : D.data.toList = []
          · have hE : D.toList.isEmpty = true := emp_t hD
            have HP : Hid (¬ (markB (s.data.toList.drop (sgn s.data.toList)) = true ∧ dl 16 ((s.data.toList.drop (sgn s.data.toList)).drop 2) ≠ [])) := by
              show ¬ (_ ∧ _)
              rintro ⟨-, h⟩
              refine h ?_
              rw [HSG.out, List.drop_drop]
              exact HD.out.symm.trans hD
            clear hD
            go_wp2_with (first
            | (refine wpList_storeN rfl _ _ rfl rfl rfl N2 ?_; intro W4 U4 N2x; replace N1 := N1.upd U4 hne; replace B := U4.trans B hb2; clear U4 N2; have N2 := N2x; clear N2x; have c2 := N2.cD)
            | (refine wpList_setM rfl _ _ rfl rfl rfl N2 ?_; intro W7 U7 N2x; replace N1 := N1.upd U7 hne; replace B := U7.trans B hb2; clear U7 N2; have N2 := N2x; clear N2x)
            | (refine wpList_loadN rfl _ rfl rfl N2 ?_)
            | (refine wpList_storeN rfl _ _ rfl rfl rfl N1 ?_; intro W8 U8 N1x; replace B := U8.trans B hb1; clear U8 N1; have N1 := N1x; clear N1x)
            | (go_at_call 67; refine (hr10 _).mono ?_; rintro e W3 ⟨⟨D', rfl, HD'⟩, hb3⟩; clear hr10; replace N1 := N1.grown hb3; replace N2 := N2.grown hb3; replace B := B.trans (hb3.mono B.size); clear hb3))
            have hF := digF_plain HP.out
            have hL : D'.size = (dl 10 (s.data.toList.drop 0)).length := by rw [sizeL, HD'.out]
            rw [HSG.out] at hF
            refine ret_N rfl rfl rfl N1 ⟨⟨D', ?_, ?_⟩, B⟩
            · first | (rw [hF.2.1, hF.2.2, hL]; done) | (rw [hF.2.1, hF.2.2, hL, Nat.zero_add])
            · rw [hF.1]; exact HD'.out
          · have hE : D.toList.isEmpty = false := emp_f hD
            have HP : Hid (dl 16 ((s.data.toList.drop (sgn s.data.toList)).drop 2) ≠ []) := by
              show _ ≠ _
              rw [HSG.out, List.drop_drop]
              exact fun h => hD (HD.out.trans h)
            clear hD
            go_wp2_with (first
            | (refine wpList_storeN rfl _ _ rfl rfl rfl N2 ?_; intro W4 U4 N2x; replace N1 := N1.upd U4 hne; replace B := U4.trans B hb2; clear U4 N2; have N2 := N2x; clear N2x; have c2 := N2.cD)
            | (refine wpList_setM rfl _ _ rfl rfl rfl N2 ?_; intro W7 U7 N2x; replace N1 := N1.upd U7 hne; replace B := U7.trans B hb2; clear U7 N2; have N2 := N2x; clear N2x)
            | (refine wpList_loadN rfl _ rfl rfl N2 ?_)
            | (refine wpList_storeN rfl _ _ rfl rfl rfl N1 ?_; intro W8 U8 N1x; replace B := U8.trans B hb1; clear U8 N1; have N1 := N1x; clear N1x))
            have hF := digF_mark (by rw [HSG.out]; exact HQ.out) HP.out
            have hL : D.size = (dl 16 (s.data.toList.drop 2)).length := by rw [sizeL, HD.out]
            rw [HSG.out, List.drop_drop] at hF
            refine ret_N rfl rfl rfl N1 ⟨⟨D, ?_, ?_⟩, B⟩
            · first | (rw [hF.2.1, hF.2.2, hL]; done) | (rw [hF.2.1, hF.2.2, hL, Nat.zero_add])
            · rw [hF.1]; exact HD.out
      | false =>
          rw [hq] at hk
          have HP : Hid (¬ (markB (s.data.toList.drop (sgn s.data.toList)) = true ∧ dl 16 ((s.data.toList.drop (sgn s.data.toList)).drop 2) ≠ [])) := by
            show ¬ (_ ∧ _)
            rintro ⟨h, -⟩
            rw [hsg, hq] at h
            cases h
          clear hq hb hsz hsg
          go_enter Tryd.func58, Tryd.ntmps58
          go_wp2_with (first
            | (have := tA; clear tA this; refine wpList_allocN rfl rfl ?_; intro W1 b1 F1 N1; have B := F1.trans (Below.refl _ _) (Nat.le_refl _); have hb1 : w.heap.size ≤ b1 := Nat.le_of_eq F1.at'.symm; clear F1)
            | (have := tB; clear tB this; refine wpList_allocN rfl rfl ?_; intro W2 b2 F2 N2; have hne : b1 ≠ b2 := Nat.ne_of_lt (Nat.lt_of_lt_of_le N1.lt (Nat.le_of_eq F2.at'.symm)); have hb2 : w.heap.size ≤ b2 := Nat.le_trans B.size (Nat.le_of_eq F2.at'.symm); replace N1 := N1.fresh F2; replace B := F2.trans B B.size; clear F2; have c2 := N2.cD)
            | (go_at_call 47; refine (hm _).mono ?_; rintro e w' ⟨rfl, hw'⟩; replace hw' := hw'.symm; subst hw'; clear hm)
            | (go_at_call 66; refine (hk _).mono ?_; rintro e w' ⟨rfl, hw'⟩; replace hw' := hw'.symm; subst hw'; clear hk)
            | (refine wpList_storeN rfl _ _ rfl rfl rfl N2 ?_; intro W4 U4 N2x; replace N1 := N1.upd U4 hne; replace B := U4.trans B hb2; clear U4 N2; have N2 := N2x; clear N2x; have c2 := N2.cD)
            | (refine wpList_setM rfl _ _ rfl rfl rfl N2 ?_; intro W7 U7 N2x; replace N1 := N1.upd U7 hne; replace B := U7.trans B hb2; clear U7 N2; have N2 := N2x; clear N2x)
            | (refine wpList_loadN rfl _ rfl rfl N2 ?_)
            | (refine wpList_storeN rfl _ _ rfl rfl rfl N1 ?_; intro W8 U8 N1x; replace B := U8.trans B hb1; clear U8 N1; have N1 := N1x; clear N1x)
            | (go_at_call 67; refine (hr10 _).mono ?_; rintro e W3 ⟨⟨D', rfl, HD'⟩, hb3⟩; clear hr10; replace N1 := N1.grown hb3; replace N2 := N2.grown hb3; replace B := B.trans (hb3.mono B.size); clear hb3))
          have hF := digF_plain HP.out
          have hL : D'.size = (dl 10 (s.data.toList.drop 0)).length := by rw [sizeL, HD'.out]
          rw [HSG.out] at hF
          refine ret_N rfl rfl rfl N1 ⟨⟨D', ?_, ?_⟩, B⟩
          · first | (rw [hF.2.1, hF.2.2, hL]; done) | (rw [hF.2.1, hF.2.2, hL, Nat.zero_add])
          · rw [hF.1]; exact HD'.out
end Go.Proofs.YtopnbemodlcknaaDoor

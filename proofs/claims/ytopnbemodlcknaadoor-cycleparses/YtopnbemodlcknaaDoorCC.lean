/- Several texts in one: P3, P4. -/
import Derived.Test.YtopnbemodlcknaaDoorCB
import Derived.Test.YtopnbemodlcknaaDoorLxK7A
import Derived.Test.YtopnbemodlcknaaDoorLxKA
import Derived.Test.YtopnbemodlcknaaDoorLxKD
import Derived.Deep.RegionWith
/- Parse, of the reference. -/
namespace Go.Proofs.YtopnbemodlcknaaDoor
open Go Go.RowKit M
set_option linter.unusedSimpArgs false
set_option linter.unusedVariables false

/-- What the reference's Parse answers. -/
def RpA (st : Lx.LS) (ts : List Lx.Tok) (w : World) (e : Ending) (w' : World) : Prop :=
  ∃ v, e = .returned (.tuple #[v, .agg (Lx.fL (stR st ts).F).toArray]) ∧ w'.ownsRow w.heap.size 9 1 v (txR st ts).length ((txR st ts).flatMap strE) ∧ Below w.heap.size w w'
set_option maxRecDepth 100000 in
set_option maxHeartbeats 8000000 in
theorem crparse_any (s : ByteArray) (hs : s.size < 4611686018427387904) (ts : List Lx.Tok) (st : Lx.LS) (hr : Lx.rounds s.data.toList = ts.map Lx.Rd.tok ++ st.rd.toList) (hlen : ts.length ≤ 1048576) (hst : st.rd = none ∨ st.F.2.2 ≠ 0) (w : World) (hN : NmAt w) :
    Calls Tryd.prog 8 #[.string s] w fun e w' => RpA st ts w e w' := by
  have cA : Hid (∀ W, Calls Tryd.prog 12 #[.string s] W fun e w' => (∃ v, e = .returned (.tuple #[v, .agg (Lx.fL st.F).toArray]) ∧ w'.ownsRow W.heap.size 44 7 v ts.length (Lx.cellsT ts)) ∧ Below W.heap.size W w') := fun W => by
    have := Lx.rtokens_any s hs ts st.rd hr (Lx.rd_not st) W
    rw [Lx.fOf_rd] at this
    exact this
  have HNm : Hid (NmAt w) := hN
  obtain ⟨A, hA⟩ : ∃ A, RpA st ts w = A := ⟨_, rfl⟩
  have HA0 : Hid (∀ w', st.F.2.2 ≠ 0 → Below w.heap.size w w' → A (.returned (.tuple #[.slice none 0 0, .agg (Lx.fL st.F).toArray])) w') := by
    rw [← hA]; intro w' h1 h3
    cases st with
    | ok p => exact absurd rfl h1
    | bad x y e => exact ⟨_, rfl, own_nil _ _ _ _, h3⟩
    | long => exact ⟨_, rfl, own_nil _ _ _ _, h3⟩
  have HA1 : Hid (∀ t w', st.rd = none → ts[badTN ts]? = some t → Below w.heap.size w w' → A (.returned (.tuple #[.slice none 0 0, .agg (Lx.fL ((t.line : Int), (t.col : Int), 260)).toArray])) w') := by
    rw [← hA]; intro t w' h1 h2 h4
    have hl := (List.getElem?_eq_some_iff.1 h2).1
    cases st with
    | ok p =>
      refine ⟨.slice none 0 0, ?_, ?_, h4⟩
      · rw [show stR (.ok p) ts = .bad (tokAt ts (badTN ts)).line (tokAt ts (badTN ts)).col 260 from if_pos hl, tokAt_some h2]; rfl
      · rw [show txR (.ok p) ts = [] from if_pos hl]; exact own_nil _ _ _ _
    | bad x y e => cases h1
    | long => cases h1
  have HA2 : Hid (∀ v w', st.rd = none → badTN ts = ts.length → w'.ownsRow w.heap.size 9 1 v ts.length ((ts.map txB).flatMap strE) → Below w.heap.size w w' → A (.returned (.tuple #[v, .agg (Lx.fL (0, 0, 0)).toArray])) w') := by
    rw [← hA]; intro v w' h1 h2 h3 h4
    have hl : ¬ (badTN ts < ts.length) := by omega
    cases st with
    | ok p =>
      refine ⟨v, ?_, ?_, h4⟩
      · rw [show stR (.ok p) ts = .ok p from if_neg hl]; rfl
      · rw [show txR (.ok p) ts = ts.map txB from if_neg hl, List.length_map]; exact h3
    | bad x y e => cases h1
    | long => cases h1
  rw [hA]
  have hF0 : st.rd = none → st.F = (0, 0, 0) := by
    intro h; cases st with
    | ok p => rfl
    | bad x y e => cases h
    | long => cases h
  obtain ⟨F, hF⟩ : ∃ F, st.F = F := ⟨_, rfl⟩
  rw [hF] at cA HA0 hst hF0
  clear hA hN hr hF
  have ta : True := trivial
  have tb : True := trivial
  have tc : True := trivial
  have td : True := trivial
  by_cases hz : F.2.2 = 0
  rotate_left
  · have hzb : (F.2.2 != 0) = true := by simpa using hz
    go_enter Tryd.func8, Tryd.ntmps8
    go_wp2_with (first
      | (clear ta; refine wpList_allocS rfl 32 rfl (Lx.fL (0, 0, 0)) Tryd.zeroValue32 ?_; intro W1 b3 F1 I1; have B1 := F_b F1; have hb3 : Hid (w.heap.size ≤ b3) := Nat.le_of_eq F1.at'.symm; have hl3 : Hid (b3 < W1.heap.size) := I1.lt; clear F1)
      | (clear tb; go_at_call 12; refine (cA.out _).mono ?_; rintro e W2 ⟨⟨v, rfl, hv⟩, B2x⟩; have B2 := Below.then B1 B2x; have I2 := I1.grown B2x; obtain ⟨a, c, rfl⟩ := own_form hv; clear B1 I1 B2x hv)
      | (clear tc; refine wpList_allocS rfl 32 rfl (Lx.fL (0, 0, 0)) Tryd.zeroValue32 ?_; intro W3 b5 F3 I3; have B3 := Below.then B2 (F_b F3); have J3 := I2.grown (F_b F3); have hb5 : Hid (b3 < b5) := (by have h1 := F3.at'; have h2 := I2.lt; show _ < _; omega); clear F3 B2 I2)
      | (clear td; refine wpList_storeS rfl 32 _ _ rfl rfl (Lx.fL F) rfl I3 (by simp [Lx.fL]) Lx.info30 (Lx.fL_one _) ?_; intro W4 U4 I4x; have I5 : IsS W4 b5 32 (Lx.fL F) := I4x; have B4 := U4.trans B3 (by have h1 := hb3.out; have h2 := hb5.out; omega); have J4 := J3.upd U4 (by have h2 := hb5.out; omega); have z2 : W4.cell? ⟨b5, 2, none⟩ = some (.int .i64 F.2.2) := I5.cell 2; clear U4 I3 I4x B3 J3))
    refine grow_tail 2 (by kernel_rfl) (by kernel_rfl) (WG.out ?_)
    simp only [List.take_succ_cons, List.take_zero, List.drop_succ_cons, List.drop_zero]
    refine WG.row rfl 32 _ rfl rfl I5 (Lx.fL F) rfl _ Tryd.underlying32 rfl Lx.info30 ?_
    simp only [Act.put, List.setIfInBounds_toArray, List.set_cons_succ, List.set_cons_zero]
    refine WG.put rfl (v := .slice none 0 0) (fun w => by first | rfl | (go_simp; done) | (simp [go_sem]; done) | (simp [execOp, go_sem]; done)) ?_
    simp only [Act.put, List.setIfInBounds_toArray, List.set_cons_succ, List.set_cons_zero]
    refine WG.nil ?_
    intro w10 B10
    have J10 := J4.grown B10
    have BB10 := Below.then B4 B10
    go_wp2_with (first
      | (refine wpList_storeS rfl 32 _ _ rfl rfl (Lx.fL F) rfl J10 (by simp [Lx.fL]) Lx.info30 (Lx.fL_one _) ?_; intro W11 U11 N11x; have N11 : IsS W11 b3 32 (Lx.fL F) := N11x; have B11 := U11.trans BB10 hb3.out))
    exact Lx.ret_TS rfl rfl rfl N11 _ Tryd.underlying32 rfl Lx.info30 _ rfl (HA0.out _ hz B11)
  have hsn : st.rd = none := by
    rcases hst with h | h
    · exact h
    · exact absurd hz h
  have hF00 := hF0 hsn
  subst hF00
  have HSN : Hid (st.rd = none) := hsn
  clear hsn hst hF0 hz
  obtain ⟨n, hn⟩ : ∃ n, ts.length = n := ⟨_, rfl⟩
  rw [hn] at hlen HA2 cA
  have HTN : Hid (ts.length = n) := hn
  have hnI : (n : Int) ≤ 1048576 := by omega
  clear hn
  go_enter Tryd.func8, Tryd.ntmps8
  go_wp2_with (first
    | (clear ta; refine wpList_allocS rfl 32 rfl (Lx.fL (0, 0, 0)) Tryd.zeroValue32 ?_; intro W1 b3 F1 I1; have B1 := F_b F1; have hb3 : Hid (w.heap.size ≤ b3) := Nat.le_of_eq F1.at'.symm; clear F1)
    | (clear tb; go_at_call 12; refine (cA.out _).mono ?_; rintro e W2 ⟨⟨v, rfl, hv⟩, B2x⟩; have B2 := Below.then B1 B2x; have I2 := I1.grown B2x; obtain ⟨a, c, rfl⟩ := own_form hv; have S2 := own_seg hv; clear B1 I1 B2x hv)
    | (clear tc; refine wpList_allocS rfl 32 rfl (Lx.fL (0, 0, 0)) Tryd.zeroValue32 ?_; intro W3 b5 F3 I3; have B3 := Below.then B2 (F_b F3); have J3 := I2.grown (F_b F3); have S3 := S2.below (F_b F3); have hb5 : Hid (b3 < b5) := (by have h1 := F3.at'; have h2 := I2.lt; show _ < _; omega); clear B2 I2)
    | (clear td; refine wpList_storeS rfl 32 _ _ rfl rfl (Lx.fL (0, 0, 0)) rfl I3 (by simp [Lx.fL]) Lx.info30 (Lx.fL_one _) ?_; intro W4 U4 I4x; have I5 : IsS W4 b5 32 (Lx.fL (0, 0, 0)) := I4x; have B4 := U4.trans B3 (by have h1 := hb3.out; have h2 := hb5.out; omega); have J4 := J3.upd U4 (by have h2 := hb5.out; omega); have S4 : Seg W4 a (Lx.cellsT ts) := seg_upd S2 F3 U4; have z2 : W4.cell? ⟨b5, 2, none⟩ = some (.int .i64 0) := I5.cell 2; clear U4 I3 I4x B3 J3 S3 S2 F3))
  have HJ : Hid (IsS W4 b3 32 (Lx.fL (0, 0, 0))) := J4
  have HS : Hid (Seg W4 a (Lx.cellsT ts)) := S4
  have HB4 : Hid (Below w.heap.size w W4) := B4
  have hl3 : Hid (b3 < W4.heap.size) := J4.lt
  clear J4 S4 B4 z2 I5 cA
  go_loopw [6, 7] (fun v6 i wr => ∃ k : Nat, k ≤ n ∧ i = .int .i64 (k : Int) ∧ (∃ a4 c4, v6 = .slice a4 k c4) ∧ Hid (Below W4.heap.size W4 wr) ∧ Hid (wr.ownsRow W4.heap.size 9 1 v6 k (((ts.take k).map txB).flatMap strE)) ∧ Hid (FstAt (badTP ts) n k)) (fun _ i _ => n - (intOf i).toNat)
  case atStart => exact ⟨0, Nat.zero_le _, rfl, ⟨_, _, rfl⟩, Below.refl _ _, own_nil _ _ _ _, FstAt.zero _ _⟩
  case round =>
    obtain ⟨k, hk, rfl, ⟨a4, c4, rfl⟩, HB, HO, HF⟩ := hrel
    by_cases hlt : k < n
    · have hki : (k : Int) < n := by omega
      obtain ⟨t, ht⟩ : ∃ t, ts[k]? = some t := ⟨_, List.getElem?_eq_getElem (by rw [HTN.out]; exact hlt)⟩
      obtain ⟨b1, o1, rfl, hb1, r0⟩ := seg_tok (HS.out.below HB.out) ht
      have BW := Below.then HB4.out HB.out
      have hNn := number_any (txB t) wr (HNm.out.below BW)
      have z0 : wr.cell? ⟨b1, o1 + k * 7, none⟩ = some (.int .i64 (t.kind : Int)) := r0 0 _ rfl
      have z1 : wr.cell? ⟨b1, o1 + k * 7 + 1, none⟩ = some (.string (txB t)) := r0 1 _ rfl
      have z3 : wr.cell? ⟨b1, o1 + k * 7 + 3, none⟩ = some (.int .i64 (t.line : Int)) := r0 3 _ rfl
      have z4 : wr.cell? ⟨b1, o1 + k * 7 + 4, none⟩ = some (.int .i64 (t.col : Int)) := r0 4 _ rfl
      clear r0
      have s1 : True := trivial
      by_cases hkd : (t.kind : Int) = 1
      · have hkb : ((t.kind : Int) != 1) = false := by simpa using hkd
        by_cases hq : nuF (txB t) < 18
        · rw [nuI_yes rfl hq] at hNn
          have hbt : badT t = false := by unfold badT; simp; omega
          have HFN : Hid (FstAt (badTP ts) n (k + 1)) := HF.out.next hlt (badT_miss ht hbt)
          have HM : Hid (((ts.take (k + 1)).map txB).flatMap strE = ((ts.take k).map txB).flatMap strE ++ [.string (txB t)]) := by
            show _ = _; rw [take_at ht, List.map_append, List.map_cons, List.map_nil, str_snoc]
          have hnn : ¬ (((nuF (txB t) : Nat) : Int) < 0) := by omega
          generalize ((nuF (txB t) : Nat) : Int) = u at *
          clear hkd hbt ht hq
          go_wp2_with (first
            | (clear s1; go_at_call 13; refine hNn.mono ?_; rintro e w' ⟨rfl, hw'⟩; replace hw' := hw'.symm; subst hw')
            | (refine wpList_build1E eStr rfl _ rfl (.string (txB t)) rfl rfl ?_; intro W5 b5' F5 I5; have O5 := own_below HO.out (F_b F5); have B5 := Below.then HB.out (F_b F5))
            | (at_builtin; refine wpList_appB rfl _ _ rfl W4.heap.size _ k _ rfl O5 _ 1 [.string (txB t)] rfl (row_isS I5) rfl (str_one1 _) (by omega) B5.size ?_; intro v6 W6 O6 G6))
          have O6' := O6
          rw [← HM.out] at O6'
          obtain ⟨a5, c5, rfl⟩ := own_form O6
          go_roundw
          case rel => exact ⟨k + 1, by omega, by go_num, ⟨_, _, rfl⟩, grown_below B5 B5.size O5 G6, O6', HFN⟩
          case measure => simp [intOf]; omega
        · have h18 : nuF (txB t) = 18 := Nat.le_antisymm (nu_le _) (by omega)
          rw [nuI_no h18] at hNn
          have hbt : badT t = true := by unfold badT; simp [h18]
          have HBADT : Hid (ts[badTN ts]? = some t) := by
            have : badTN ts = k := by show fst' _ _ _ = _; rw [HTN.out]; exact HF.out.hit hlt (badT_hit ht hbt)
            show _ = _; rw [this]; exact ht
          clear hkd hbt ht hq h18
          go_wp2_with (first
            | (clear s1; go_at_call 13; refine hNn.mono ?_; rintro e w' ⟨rfl, hw'⟩; replace hw' := hw'.symm; subst hw'))
          refine grow_tail 12 (by kernel_rfl) (by kernel_rfl) (WG.out ?_)
          simp only [List.take_succ_cons, List.take_zero, List.drop_succ_cons, List.drop_zero]
          refine WG.put rfl (v := .slice (some ⟨b1, o1, none⟩) n c) (fun w => by first | rfl | (go_simp; done) | (simp [go_sem]; done) | (simp [execOp, go_sem]; done)) ?_
          simp only [Act.put, List.setIfInBounds_toArray, List.set_cons_succ, List.set_cons_zero]
          refine WG.put rfl (v := .int .i64 (k : Int)) (fun w => by first | rfl | (go_simp; done) | (simp [go_sem]; done) | (simp [execOp, go_sem]; done)) ?_
          simp only [Act.put, List.setIfInBounds_toArray, List.set_cons_succ, List.set_cons_zero]
          refine WG.put rfl (v := .pointer (some ⟨b1, o1 + k * 7, none⟩)) (fun w => by first | rfl | (go_simp; done) | (simp [go_sem, hki]; done) | (simp [execOp, go_sem, hki]; done)) ?_
          simp only [Act.put, List.setIfInBounds_toArray, List.set_cons_succ, List.set_cons_zero]
          refine WG.put rfl (v := .pointer (some ⟨b1, o1 + k * 7 + 3, none⟩)) (fun w => by first | rfl | (go_simp; done) | (simp [go_sem]; done) | (simp [execOp, go_sem]; done)) ?_
          simp only [Act.put, List.setIfInBounds_toArray, List.set_cons_succ, List.set_cons_zero]
          refine WG.cell rfl 3 _ rfl rfl z3 (fun w h => by simp [go_sem, h]) ?_
          simp only [Act.put, List.setIfInBounds_toArray, List.set_cons_succ, List.set_cons_zero]
          refine WG.put rfl (v := .slice (some ⟨b1, o1, none⟩) n c) (fun w => by first | rfl | (go_simp; done) | (simp [go_sem]; done) | (simp [execOp, go_sem]; done)) ?_
          simp only [Act.put, List.setIfInBounds_toArray, List.set_cons_succ, List.set_cons_zero]
          refine WG.put rfl (v := .int .i64 (k : Int)) (fun w => by first | rfl | (go_simp; done) | (simp [go_sem]; done) | (simp [execOp, go_sem]; done)) ?_
          simp only [Act.put, List.setIfInBounds_toArray, List.set_cons_succ, List.set_cons_zero]
          refine WG.put rfl (v := .pointer (some ⟨b1, o1 + k * 7, none⟩)) (fun w => by first | rfl | (go_simp; done) | (simp [go_sem, hki]; done) | (simp [execOp, go_sem, hki]; done)) ?_
          simp only [Act.put, List.setIfInBounds_toArray, List.set_cons_succ, List.set_cons_zero]
          refine WG.put rfl (v := .pointer (some ⟨b1, o1 + k * 7 + 4, none⟩)) (fun w => by first | rfl | (go_simp; done) | (simp [go_sem]; done) | (simp [execOp, go_sem]; done)) ?_
          simp only [Act.put, List.setIfInBounds_toArray, List.set_cons_succ, List.set_cons_zero]
          refine WG.cell rfl 3 _ rfl rfl z4 (fun w h => by simp [go_sem, h]) ?_
          simp only [Act.put, List.setIfInBounds_toArray, List.set_cons_succ, List.set_cons_zero]
          refine WG.put rfl (v := .agg (Lx.fL ((t.line : Int), (t.col : Int), 260)).toArray) (fun w => by first | rfl | (go_simp; done) | (simp [go_sem, Lx.fL]; done) | (simp [execOp, go_sem, Lx.fL]; done)) ?_
          simp only [Act.put, List.setIfInBounds_toArray, List.set_cons_succ, List.set_cons_zero]
          refine WG.put rfl (v := .slice none 0 0) (fun w => by first | rfl | (go_simp; done) | (simp [go_sem]; done) | (simp [execOp, go_sem]; done)) ?_
          simp only [Act.put, List.setIfInBounds_toArray, List.set_cons_succ, List.set_cons_zero]
          refine WG.nil ?_
          intro w10 B10
          have J10 := (HJ.out.grown HB.out).grown B10
          have BB10 := Below.then BW B10
          go_wp2_with (first
            | (refine wpList_storeS rfl 32 _ _ rfl rfl (Lx.fL ((t.line : Int), (t.col : Int), 260)) rfl J10 (by simp [Lx.fL]) Lx.info30 (Lx.fL_one _) ?_; intro W11 U11 N11x; have N11 : IsS W11 b3 32 (Lx.fL ((t.line : Int), (t.col : Int), 260)) := N11x; have B11 := U11.trans BB10 hb3.out))
          exact Lx.ret_TS rfl rfl rfl N11 _ Tryd.underlying32 rfl Lx.info30 _ rfl (HA1.out t _ HSN.out HBADT.out B11)
      · have hkb : ((t.kind : Int) != 1) = true := by simpa using hkd
        have hbt : badT t = true := by unfold badT; simp; omega
        have HBADT : Hid (ts[badTN ts]? = some t) := by
          have : badTN ts = k := by show fst' _ _ _ = _; rw [HTN.out]; exact HF.out.hit hlt (badT_hit ht hbt)
          show _ = _; rw [this]; exact ht
        clear hkd hbt ht hNn
        go_wp2
        refine grow_tail 12 (by kernel_rfl) (by kernel_rfl) (WG.out ?_)
        simp only [List.take_succ_cons, List.take_zero, List.drop_succ_cons, List.drop_zero]
        refine WG.put rfl (v := .slice (some ⟨b1, o1, none⟩) n c) (fun w => by first | rfl | (go_simp; done) | (simp [go_sem]; done) | (simp [execOp, go_sem]; done)) ?_
        simp only [Act.put, List.setIfInBounds_toArray, List.set_cons_succ, List.set_cons_zero]
        refine WG.put rfl (v := .int .i64 (k : Int)) (fun w => by first | rfl | (go_simp; done) | (simp [go_sem]; done) | (simp [execOp, go_sem]; done)) ?_
        simp only [Act.put, List.setIfInBounds_toArray, List.set_cons_succ, List.set_cons_zero]
        refine WG.put rfl (v := .pointer (some ⟨b1, o1 + k * 7, none⟩)) (fun w => by first | rfl | (go_simp; done) | (simp [go_sem, hki]; done) | (simp [execOp, go_sem, hki]; done)) ?_
        simp only [Act.put, List.setIfInBounds_toArray, List.set_cons_succ, List.set_cons_zero]
        refine WG.put rfl (v := .pointer (some ⟨b1, o1 + k * 7 + 3, none⟩)) (fun w => by first | rfl | (go_simp; done) | (simp [go_sem]; done) | (simp [execOp, go_sem]; done)) ?_
        simp only [Act.put, List.setIfInBounds_toArray, List.set_cons_succ, List.set_cons_zero]
        refine WG.cell rfl 3 _ rfl rfl z3 (fun w h => by simp [go_sem, h]) ?_
        simp only [Act.put, List.setIfInBounds_toArray, List.set_cons_succ, List.set_cons_zero]
        refine WG.put rfl (v := .slice (some ⟨b1, o1, none⟩) n c) (fun w => by first | rfl | (go_simp; done) | (simp [go_sem]; done) | (simp [execOp, go_sem]; done)) ?_
        simp only [Act.put, List.setIfInBounds_toArray, List.set_cons_succ, List.set_cons_zero]
        refine WG.put rfl (v := .int .i64 (k : Int)) (fun w => by first | rfl | (go_simp; done) | (simp [go_sem]; done) | (simp [execOp, go_sem]; done)) ?_
        simp only [Act.put, List.setIfInBounds_toArray, List.set_cons_succ, List.set_cons_zero]
        refine WG.put rfl (v := .pointer (some ⟨b1, o1 + k * 7, none⟩)) (fun w => by first | rfl | (go_simp; done) | (simp [go_sem, hki]; done) | (simp [execOp, go_sem, hki]; done)) ?_
        simp only [Act.put, List.setIfInBounds_toArray, List.set_cons_succ, List.set_cons_zero]
        refine WG.put rfl (v := .pointer (some ⟨b1, o1 + k * 7 + 4, none⟩)) (fun w => by first | rfl | (go_simp; done) | (simp [go_sem]; done) | (simp [execOp, go_sem]; done)) ?_
        simp only [Act.put, List.setIfInBounds_toArray, List.set_cons_succ, List.set_cons_zero]
        refine WG.cell rfl 3 _ rfl rfl z4 (fun w h => by simp [go_sem, h]) ?_
        simp only [Act.put, List.setIfInBounds_toArray, List.set_cons_succ, List.set_cons_zero]
        refine WG.put rfl (v := .agg (Lx.fL ((t.line : Int), (t.col : Int), 260)).toArray) (fun w => by first | rfl | (go_simp; done) | (simp [go_sem, Lx.fL]; done) | (simp [execOp, go_sem, Lx.fL]; done)) ?_
        simp only [Act.put, List.setIfInBounds_toArray, List.set_cons_succ, List.set_cons_zero]
        refine WG.put rfl (v := .slice none 0 0) (fun w => by first | rfl | (go_simp; done) | (simp [go_sem]; done) | (simp [execOp, go_sem]; done)) ?_
        simp only [Act.put, List.setIfInBounds_toArray, List.set_cons_succ, List.set_cons_zero]
        refine WG.nil ?_
        intro w10 B10
        have J10 := (HJ.out.grown HB.out).grown B10
        have BB10 := Below.then BW B10
        go_wp2_with (first
          | (refine wpList_storeS rfl 32 _ _ rfl rfl (Lx.fL ((t.line : Int), (t.col : Int), 260)) rfl J10 (by simp [Lx.fL]) Lx.info30 (Lx.fL_one _) ?_; intro W11 U11 N11x; have N11 : IsS W11 b3 32 (Lx.fL ((t.line : Int), (t.col : Int), 260)) := N11x; have B11 := U11.trans BB10 hb3.out))
        exact Lx.ret_TS rfl rfl rfl N11 _ Tryd.underlying32 rfl Lx.info30 _ rfl (HA1.out t _ HSN.out HBADT.out B11)
    · have e : n = k := by omega
      subst e
      have HM : Hid (badTN ts = n) := by
        show fst' _ _ _ = _; rw [HTN.out]; exact HF.out.done (Nat.le_refl _)
      have O := HO.out
      rw [List.take_of_length_le (by rw [HTN.out]; exact Nat.le_refl _)] at O
      have hki : ¬ ((n : Int) < (n : Int)) := by omega
      have J := HJ.out.grown HB.out
      have BW := Below.then HB4.out HB.out
      have hlr : Hid (b3 < W4.heap.size) := hl3.out
      go_wp2_with (first
        | (refine wpList_storeS rfl 32 _ _ rfl rfl (Lx.fL (0, 0, 0)) rfl J (by simp [Lx.fL]) Lx.info30 (Lx.fL_one _) ?_; intro W11 U11 N11x; have N11 : IsS W11 b3 32 (Lx.fL (0, 0, 0)) := N11x; have B11 := U11.trans BW hb3.out; have O11 := Lx.own_updN O U11 (Lx.own_ne O J (by decide))))
      exact Lx.ret_TS rfl rfl rfl N11 _ Tryd.underlying32 rfl Lx.info30 _ rfl (HA2.out _ _ HSN.out HM.out (Lx.own_base O11 HB4.out.size) B11)
end Go.Proofs.YtopnbemodlcknaaDoor
/- The law CycleParses. -/
namespace Go.Proofs.YtopnbemodlcknaaDoor
open Go Go.RowKit M
set_option linter.unusedSimpArgs false
set_option linter.unusedVariables false

theorem own_grown {W W' : World} {base e s n : Nat} {v : Value} {xs : List Value} {r : Option Nat} (h : W.ownsRow base e s v n xs) (hg : W.grownBy W' r) (hb : ∀ g, v.ownBlock = some g → some g ≠ r) : W'.ownsRow base e s v n xs := by
  refine ⟨h.1, ?_⟩
  rcases h.2 with hn | ⟨g, cap, cur, rfl, hgb, hh, rest⟩
  · exact Or.inl hn
  · exact Or.inr ⟨g, cap, cur, rfl, hgb, (hg.block g (Array.getElem?_eq_some_iff.1 hh).1 (hb g rfl)).trans hh, rest⟩
theorem own_low {W : World} {base e s n : Nat} {v : Value} {xs : List Value} (h : W.ownsRow base e s v n xs) : ∀ g, v.ownBlock = some g → base ≤ g ∧ g < W.heap.size := by
  intro g hg
  rcases h.2 with ⟨hv, _⟩ | ⟨g', cap, cur, hv, hgb, hh, rest⟩
  · rw [hv] at hg; cases hg
  · rw [hv] at hg
    have e1 : g' = g := by simpa [Value.ownBlock] using hg
    subst e1
    exact ⟨hgb, (Array.getElem?_eq_some_iff.1 hh).1⟩
theorem errI_below {r : Option Lx.Rd} {v : Value} {W W' : World} (h : Lx.ErrI r v W) (hB : Below W.heap.size W W') : Lx.ErrI r v W' := by
  cases r with
  | none => exact h
  | some r =>
    cases r with
    | tok t => exact h
    | long => exact h
    | pos x y e => obtain ⟨g, rfl, hg⟩ := h; exact ⟨g, rfl, hg.grown hB⟩
/-- An error whose block lies below. -/
theorem errI_upd {r : Option Lx.Rd} {v : Value} {W0 W W' : World} {b : Nat} (h : Lx.ErrI r v W0) (hB : Below W0.heap.size W0 W) (U : Upd W W' b) (hb : W0.heap.size ≤ b) : Lx.ErrI r v W' := by
  cases r with
  | none => exact h
  | some r =>
    cases r with
    | tok t => exact h
    | long => exact h
    | pos x y e => obtain ⟨g, rfl, hg⟩ := h; exact ⟨g, rfl, (hg.grown hB).upd U (by have := hg.lt; omega)⟩
theorem nm_seg {w : World} (h : NmAt w) : Seg w (some ⟨0, 0, none⟩) (NMS.flatMap strE) := by
  intro j v hv
  rw [show NMS.flatMap strE = NMS.map Value.string from flat1 _ _] at hv
  exact ⟨0, 0, rfl, h.2, h.1 j v hv⟩
theorem fault_law (st : Lx.LS) (ev : Value) (w : World) (h : Lx.ErrI st.rd ev w) : Calls Tryd.prog 9 #[ev] w fun e w' => e = .returned (.agg (Lx.fL st.F).toArray) ∧ Below w.heap.size w w' := by
  have hS : Hid (∀ W, Below w.heap.size w W → Calls Tryd.prog 14 #[ev] W fun en w' => en = .returned (.agg (Lx.fL st.F).toArray) ∧ Below W.heap.size W w') := fun W hB => Lx.seen_any st ev W (errI_below h hB)
  generalize st.F = F at *
  clear h
  go_enter Tryd.func9, Tryd.ntmps9
  go_wp2_with (first
    | (refine wpList_allocS rfl 32 rfl (Lx.fL (0, 0, 0)) Tryd.zeroValue32 ?_; intro W1 b F1 I1; have B1 := F_b F1; have hb : Hid (w.heap.size ≤ b) := Nat.le_of_eq F1.at'.symm; clear F1)
    | (go_at_call 14; refine (hS.out _ B1).mono ?_; rintro e W2 ⟨rfl, B2x⟩; have I2 := I1.grown B2x; have B2 := Below.then B1 B2x; clear B1 I1 B2x)
    | (refine wpList_storeS rfl 32 _ _ rfl rfl (Lx.fL F) rfl I2 (by simp [Lx.fL]) Lx.info30 (Lx.fL_one _) ?_; intro W3 U3 N3x; have N3 : IsS W3 b 32 (Lx.fL F) := N3x; have B3 := U3.trans B2 hb.out))
  exact ret_S rfl rfl rfl N3 _ Tryd.underlying32 rfl Lx.info30 ⟨rfl, B3⟩
theorem neq30 (F : Int × Int × Int) (w : World) : (binOp .neq 32 (.agg (Lx.fL F).toArray) (.agg (Lx.fL F).toArray)).run Tryd.prog w = .ok (.bool false) w := by simp [go_sem, Lx.fL]
set_option maxRecDepth 100000 in
set_option maxHeartbeats 8000000 in
theorem cycleParses_any (s : ByteArray) (hs : s.size < 4611686018427387904) (w : World) (hE : EdAt w) (hN : NmAt w) :
    Calls Tryd.prog 3 #[.string s] w fun e w' => e = .returned (.bool true) ∧ Below w.heap.size w w' := by
  obtain ⟨ts, st, hr, hlen, hst⟩ := Lx.dec_ex s.data.toList
  have cP : Hid (∀ W, EdAt W → Calls Tryd.prog 7 #[.string s] W fun e w' => PaA st ts W e w') := fun W h => cparse_any s hs ts st hr hlen W h
  have cR : Hid (∀ W, NmAt W → Calls Tryd.prog 8 #[.string s] W fun e w' => RpA st ts W e w') := fun W h => crparse_any s hs ts st hr hlen hst W h
  have cF : Hid (∀ ev W, Lx.ErrI (stR st ts).rd ev W → Calls Tryd.prog 9 #[ev] W fun e w' => e = .returned (.agg (Lx.fL (stR st ts).F).toArray) ∧ Below W.heap.size W w') := fun ev W h => fault_law _ ev W h
  have hm : (txR st ts).length ≤ 1048576 := Nat.le_trans (txR_len st ts) hlen
  unfold PaA at cP
  unfold RpA at cR
  have HE : Hid (EdAt w) := hE
  have HN : Hid (NmAt w) := hN
  have c18 : Hid (∀ W (a1 : Option Addr) (c1 : Nat), NmAt W → Seg W a1 (NMS.flatMap strE) → Calls Tryd.prog 5 #[.slice a1 18 c1, .slice (some ⟨0, 0, none⟩) 18 18] W fun e w' => e = .returned (.bool true) ∧ Below W.heap.size W w') := fun W a1 c1 h1 h2 => same_any NMS 18 c1 18 a1 _ rfl (by decide) W h2 (nm_seg h1)
  obtain ⟨m, hmE⟩ : ∃ m, (txR st ts).length = m := ⟨_, rfl⟩
  have cX : Hid (∀ W (a1 a2 : Option Addr) (c1 c2 : Nat), Seg W a1 ((txR st ts).flatMap strE) → Seg W a2 ((txR st ts).flatMap strE) → Calls Tryd.prog 5 #[.slice a1 m c1, .slice a2 m c2] W fun e w' => e = .returned (.bool true) ∧ Below W.heap.size W w') := fun W a1 a2 c1 c2 h1 h2 => same_any _ m c1 c2 a1 a2 hmE (by omega) W h1 h2
  rw [hmE] at hm cP cR
  generalize (txR st ts).flatMap strE = XS at *
  obtain ⟨rd, hrd⟩ : ∃ r, (stR st ts).rd = r := ⟨_, rfl⟩
  rw [hrd] at cP cF
  generalize (stR st ts).F = F at *
  clear hE hN hr hlen hst hmE hrd hs
  have t1 : True := trivial
  have t2 : True := trivial
  have t3 : True := trivial
  have t4 : True := trivial
  have t5 : True := trivial
  have t6 : True := trivial
  have t7 : True := trivial
  have t8 : True := trivial
  have t9 : True := trivial
  go_enter Tryd.func3, Tryd.ntmps3
  go_wp2_with (first
    | (clear t1; go_at_call 4; refine (edges_any w HE.out).mono ?_; rintro e W1 ⟨va, rfl, O1, B1⟩; obtain ⟨a1, c1, rfl⟩ := own_form O1)
    | (clear t2; go_at_call 4; refine (edges_any W1 (HE.out.below B1)).mono ?_; rintro e W2 ⟨vb, rfl, O2, B2x⟩; obtain ⟨a2, c2, rfl⟩ := own_form O2; have B2 := Below.then B1 B2x; have Oa2 := own_below O1 B2x; have hs12 : Hid (W1.heap.size ≤ W2.heap.size) := B2x.size; have hla : Hid (∀ g, (Value.slice a1 18 c1).ownBlock = some g → g < W1.heap.size) := (fun g hg => (own_low O1 g hg).2); clear B1 O1 B2x)
    | (clear t3; go_at_call 5; refine (c18.out _ a1 c1 (HN.out.below B2) (own_seg Oa2)).mono ?_; rintro e W3 ⟨rfl, B3x⟩; have B3 := Below.then B2 B3x; have Oa3 := own_below Oa2 B3x; have Ob3 := own_below O2 B3x; have hs23 : Hid (w.heap.size ≤ W3.heap.size) := B3.size; clear B2 Oa2 O2 B3x)
    | (clear t4; go_at_call 6; refine (spoil_any Oa3 hs23.out (by decide)).mono ?_; rintro e W4 ⟨rfl, G4⟩; have B4 := grown_below B3 hs23.out Oa3 G4; have Ob4 := own_grown Ob3 G4 (fun g hg he => by have h1 := (own_low Ob3 g hg).1; have h2 := hla.out g he.symm; omega); clear B3 Oa3 Ob3 G4)
    | (clear t5; go_at_call 7; refine (cP.out W4 (HE.out.below B4)).mono ?_; rintro e W5 ⟨vx, ex, rfl, Ox, Ex, B5x⟩; obtain ⟨a5, c5, rfl⟩ := own_form Ox; have B5 := Below.then B4 B5x; have Ob5 := own_below Ob4 B5x; have hB4 : Hid (w.heap.size ≤ W4.heap.size) := B4.size; have hs45 : Hid (W4.heap.size ≤ W5.heap.size) := B5x.size; have hlx : Hid (∀ g, (Value.slice a5 m c5).ownBlock = some g → g < W5.heap.size) := (fun g hg => (own_low Ox g hg).2); clear B4 Ob4 B5x)
    | (clear t6; go_at_call 7; refine (cP.out W5 (HE.out.below B5)).mono ?_; rintro e W6 ⟨vy, ey, rfl, Oy, Ey, B6x⟩; obtain ⟨a6, c6, rfl⟩ := own_form Oy; have B6 := Below.then B5 B6x; have Ob6 := own_below Ob5 B6x; have Ox6 := own_below Ox B6x; have Ex6 := errI_below Ex B6x; have hs56 : Hid (W5.heap.size ≤ W6.heap.size) := B6x.size; clear B5 Ob5 Ox Ex Ey B6x)
    | (clear t7; go_at_call 8; refine (cR.out W6 (HN.out.below B6)).mono ?_; rintro e W7 ⟨vw, rfl, Ow, B7x⟩; obtain ⟨a7, c7, rfl⟩ := own_form Ow; have B7 := Below.then B6 B7x; have hsz : Hid (W4.heap.size ≤ W7.heap.size) := Nat.le_trans hs45.out (Nat.le_trans hs56.out B7x.size); have Ob7 := own_below Ob6 B7x; have Ox7 := own_below Ox6 B7x; have Oy7 := own_below Oy B7x; have Ex7 := errI_below Ex6 B7x; clear B6 Ob6 Ox6 Oy Ex6 B7x)
    | (clear t8; refine wpList_allocS rfl 32 rfl (Lx.fL (0, 0, 0)) Tryd.zeroValue32 ?_; intro W8 b10 F8 I8; have B8 := Below.then B7 (F_b F8); have Ob8 := own_below Ob7 (F_b F8); have Ox8 := own_below Ox7 (F_b F8); have Oy8 := own_below Oy7 (F_b F8); have Ow8 := own_below Ow (F_b F8); have HE7 : Hid (Lx.ErrI rd ex W7 ∧ Below W7.heap.size W7 W8) := ⟨Ex7, F_b F8⟩; have h8 : Hid (W7.heap.size = b10) := F8.at'.symm; have h78 : Hid (w.heap.size ≤ W7.heap.size) := B7.size; have HL7 : Hid ((∀ g, (Value.slice a2 18 c2).ownBlock = some g → g < W7.heap.size) ∧ (∀ g, (Value.slice a5 m c5).ownBlock = some g → g < W7.heap.size) ∧ (∀ g, (Value.slice a6 m c6).ownBlock = some g → g < W7.heap.size) ∧ (∀ g, (Value.slice a7 m c7).ownBlock = some g → g < W7.heap.size)) := ⟨fun g hg => (own_low Ob7 g hg).2, fun g hg => (own_low Ox7 g hg).2, fun g hg => (own_low Oy7 g hg).2, fun g hg => (own_low Ow g hg).2⟩; clear B7 Ob7 Ox7 Oy7 Ow Ex7 F8)
    | (clear t9; refine wpList_storeS rfl 32 _ _ rfl rfl (Lx.fL F) rfl I8 (by simp [Lx.fL]) Lx.info30 (Lx.fL_one _) ?_; intro W9 U9 N9x; have N9 : IsS W9 b10 32 (Lx.fL F) := N9x; have B9 := U9.trans B8 (by have := h8.out; have := h78.out; omega); have Ob9 := Lx.own_updN Ob8 U9 (fun e => by have h1 := HL7.out.1 _ e; have h2 := h8.out; omega); have Ox9 := Lx.own_updN Ox8 U9 (fun e => by have h1 := HL7.out.2.1 _ e; have h2 := h8.out; omega); have Oy9 := Lx.own_updN Oy8 U9 (fun e => by have h1 := HL7.out.2.2.1 _ e; have h2 := h8.out; omega); have Ow9 := Lx.own_updN Ow8 U9 (fun e => by have h1 := HL7.out.2.2.2 _ e; have h2 := h8.out; omega); have Ex9 := errI_upd HE7.out.1 HE7.out.2 U9 (Nat.le_of_eq h8.out); clear U9 N9x I8 B8 Ob8 Ox8 Oy8 Ow8))
  go_wp2
  refine grow_allW (by kernel_rfl) (by kernel_rfl) ?_
  refine WG.put rfl (v := .slice a2 18 c2) (fun w => by first | rfl | (go_simp; done) | (simp [go_sem]; done) | (simp [execOp, go_sem]; done)) ?_
  simp only [Act.put, List.setIfInBounds_toArray, List.set_cons_succ, List.set_cons_zero]
  refine WG.put rfl (v := .slice (some ⟨0, 0, none⟩) 18 18) (fun w => by first | rfl | (go_simp; done) | (simp [go_sem]; done) | (simp [execOp, go_sem]; done)) ?_
  simp only [Act.put, List.setIfInBounds_toArray, List.set_cons_succ, List.set_cons_zero]
  refine WG.call rfl (v := .bool true) (fun w' hw' => c18.out w' a2 c2 (HN.out.below (Below.then B9 hw')) (own_seg (own_below Ob9 hw'))) (fun w => by first | rfl | (go_simp; done) | (simp [go_sem]; done) | (simp [execOp, go_sem]; done)) ?_
  simp only [Act.put, List.setIfInBounds_toArray, List.set_cons_succ, List.set_cons_zero]
  refine WG.put rfl (v := .bool false) (fun w => by first | rfl | (go_simp; done) | (simp [go_sem]; done) | (simp [execOp, go_sem]; done)) ?_
  simp only [Act.put, List.setIfInBounds_toArray, List.set_cons_succ, List.set_cons_zero]
  refine WG.put rfl (v := .bool false) (fun w => by first | rfl | (go_simp; done) | (simp [go_sem]; done) | (simp [execOp, go_sem]; done)) ?_
  simp only [Act.put, List.setIfInBounds_toArray, List.set_cons_succ, List.set_cons_zero]
  refine WG.put rfl (v := .slice a5 m c5) (fun w => by first | rfl | (go_simp; done) | (simp [go_sem]; done) | (simp [execOp, go_sem]; done)) ?_
  simp only [Act.put, List.setIfInBounds_toArray, List.set_cons_succ, List.set_cons_zero]
  refine WG.put rfl (v := .slice a7 m c7) (fun w => by first | rfl | (go_simp; done) | (simp [go_sem]; done) | (simp [execOp, go_sem]; done)) ?_
  simp only [Act.put, List.setIfInBounds_toArray, List.set_cons_succ, List.set_cons_zero]
  refine WG.call rfl (v := .bool true) (fun w' hw' => cX.out w' a5 a7 c5 c7 (own_seg (own_below Ox9 hw')) (own_seg (own_below Ow9 hw'))) (fun w => by first | rfl | (go_simp; done) | (simp [go_sem]; done) | (simp [execOp, go_sem]; done)) ?_
  simp only [Act.put, List.setIfInBounds_toArray, List.set_cons_succ, List.set_cons_zero]
  refine WG.put rfl (v := .bool false) (fun w => by first | rfl | (go_simp; done) | (simp [go_sem]; done) | (simp [execOp, go_sem]; done)) ?_
  simp only [Act.put, List.setIfInBounds_toArray, List.set_cons_succ, List.set_cons_zero]
  refine WG.put rfl (v := .bool false) (fun w => by first | rfl | (go_simp; done) | (simp [go_sem]; done) | (simp [execOp, go_sem]; done)) ?_
  simp only [Act.put, List.setIfInBounds_toArray, List.set_cons_succ, List.set_cons_zero]
  refine WG.put rfl (v := .bool false) (fun w => by first | rfl | (go_simp; done) | (simp [go_sem]; done) | (simp [execOp, go_sem]; done)) ?_
  simp only [Act.put, List.setIfInBounds_toArray, List.set_cons_succ, List.set_cons_zero]
  refine WG.put rfl (v := ex) (fun w => by first | rfl | (go_simp; done) | (simp [go_sem]; done) | (simp [execOp, go_sem]; done)) ?_
  simp only [Act.put, List.setIfInBounds_toArray, List.set_cons_succ, List.set_cons_zero]
  refine WG.call rfl (v := .agg (Lx.fL F).toArray) (fun w' hw' => cF.out ex w' (errI_below Ex9 hw')) (fun w => by first | rfl | (go_simp; done) | (simp [go_sem]; done) | (simp [execOp, go_sem]; done)) ?_
  simp only [Act.put, List.setIfInBounds_toArray, List.set_cons_succ, List.set_cons_zero]
  refine WG.row rfl 32 _ rfl rfl N9 (Lx.fL F) rfl _ Tryd.underlying32 rfl Lx.info30 ?_
  simp only [Act.put, List.setIfInBounds_toArray, List.set_cons_succ, List.set_cons_zero]
  refine WG.put rfl (v := .bool false) (fun w => by first | rfl | (go_simp; done) | (simp [go_sem, Lx.fL]; done) | (simp [execOp, go_sem, Lx.fL]; done)) ?_
  simp only [Act.put, List.setIfInBounds_toArray, List.set_cons_succ, List.set_cons_zero]
  refine WG.put rfl (v := .bool false) (fun w => by first | rfl | (go_simp; done) | (simp [go_sem]; done) | (simp [execOp, go_sem]; done)) ?_
  simp only [Act.put, List.setIfInBounds_toArray, List.set_cons_succ, List.set_cons_zero]
  refine WG.nil ?_
  intro w10 B10x
  have B10 := Below.then B9 B10x
  have Ox10 := own_below Ox9 B10x
  have Oy10 := own_below Oy9 B10x
  have Ow10 := own_below Ow9 B10x
  have hsw : Hid (w.heap.size ≤ w10.heap.size) := B10.size
  have hs4 : Hid (W4.heap.size ≤ w10.heap.size) := (by have h1 := B10x.size; have h2 := h8.out; have h3 := N9.lt; have h4 := hsz.out; show _ ≤ _; omega)
  clear B9 Ox9 Oy9 Ow9 Ob9 Ex9 B10x N9
  have u1 : True := trivial
  go_wp2_with (first
    | (clear u1; go_at_call 6; refine (spoil_any Ox10 hs4.out hm).mono ?_; rintro e W11 ⟨rfl, G11⟩; have B11 := grown_below B10 hsw.out (Lx.own_base Ox10 hB4.out) G11; have Oy11 := own_grown Oy10 G11 (fun g hg he => by have h1 := (own_low Oy10 g hg).1; have h2 := hlx.out g he.symm; omega); have Ow11 := own_grown Ow10 G11 (fun g hg he => by have h1 := (own_low Ow10 g hg).1; have h2 := hlx.out g he.symm; have h3 := hs56.out; omega)))
  clear Ox10 Oy10 Ow10 G11 B10
  have BD : Below W11.heap.size W11 W11.drew := ⟨rfl, rfl, rfl, Nat.le_refl _, fun _ _ => rfl⟩
  have Oy12 := own_below Oy11 BD
  have Ow12 := own_below Ow11 BD
  have B11d := Below.then B11 BD
  clear BD Oy11 Ow11 B11
  have v1 : True := trivial
  have v2 : True := trivial
  have v3 : True := trivial
  go_region_with (first
    | (clear v1; go_at_call 5; refine (cX.out _ a6 a7 c6 c7 (own_seg Oy12) (own_seg Ow12)).mono ?_; rintro e W12 ⟨rfl, B12x⟩; have B12 := Below.then B11d B12x)
    | (clear v2; go_at_call 4; refine (edges_any _ (HE.out.below B12)).mono ?_; rintro e W13 ⟨vz, rfl, O13, B13x⟩; obtain ⟨a13, c13, rfl⟩ := own_form O13; have B13 := Below.then B12 B13x)
    | (clear v3; go_at_call 5; refine (c18.out _ a13 c13 (HN.out.below B13) (own_seg O13)).mono ?_; rintro e W14 ⟨rfl, B14x⟩; have B14 := Below.then B13 B14x))
  all_goals
    go_wp2
    go_ret
    exact ⟨rfl, B14⟩
end Go.Proofs.YtopnbemodlcknaaDoor

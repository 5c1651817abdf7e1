/- Straight, of the reference. -/
import Derived.Test.YtmoieckmbimgoaaR7
namespace Go.Proofs.Ytmoieckmbimgoaa
open Go.RowKit M
set_option linter.unusedSimpArgs false
set_option linter.unusedVariables false

set_option maxRecDepth 100000 in
set_option maxHeartbeats 8000000 in
theorem rstraight_any (g : GR) (hf : g.Few) (bn bg : Nat) (S : ByteArray) (hS1 : S.size ≤ 1) (ks : List PK) (n : Nat) (hn0 : ks.length = n) (hn : n ≤ 2000) (al : Option Addr) (cl : Nat) (w : World) (hM : MG w g bn bg) (hL : Seg w al (ks.flatMap pkL)) :
    Calls Try.prog 17 #[.agg (mcL S g bn bg).toArray, .slice al n cl] w fun e w' => StA w (S :: plS (stepM g) S ks) (plP (stepM g) S ks) e w' := by
  have hT := fun W (h : MG W g bn bg) (hl : Seg W al (ks.flatMap pkL)) => rtaken_any g hf bn bg S hS1 ks n hn0 hn al cl W h hl
  have hMN : (plP (stepM g) S ks).length ≤ 2000 := Nat.le_trans (plP_len ks S) (by omega)
  have hR := fun W a c (h : MG W g bn bg) (hl : Seg W a ((plP (stepM g) S ks).flatMap pkL)) => rreplay_any g hf bn bg S hS1 (plP (stepM g) S ks) (plP (stepM g) S ks).length rfl hMN a c W h hl
  have hml : (mcL S g bn bg).length = 4 := rfl
  generalize mcL S g bn bg = mc at hR hT hml ⊢
  have HMl : Hid (mc.length = 4) := hml
  have HM : Hid (MG w g bn bg) := hM
  have HL : Hid (Seg w al (ks.flatMap pkL)) := hL
  have hSL : (S :: plS (stepM g) S ks).length = (plP (stepM g) S ks).length + 1 := by rw [List.length_cons, plS_len]
  simp only [sts_pl] at hR
  generalize hSSe : S :: plS (stepM g) S ks = SS at hR hSL ⊢
  generalize tkF (stepM g) S (plP (stepM g) S ks) = tks at hR
  generalize plP (stepM g) S ks = PP at hR hT hMN hSL ⊢
  obtain ⟨M, hPM⟩ : ∃ M, PP.length = M := ⟨_, rfl⟩
  rw [hPM] at hMN hSL hR
  have HSL : Hid (SS.length = M + 1) := hSL
  have HPM : Hid (PP.length = M) := hPM
  have HT : Hid (∀ W, MG W g bn bg → Seg W al (ks.flatMap pkL) → Calls Try.prog 16 #[.agg mc.toArray, .slice al n cl] W fun e w' => ∃ v, e = .returned v ∧ w'.ownsRow W.heap.size 35 3 v M (PP.flatMap pkL) ∧ Below W.heap.size W w') := by
    intro W h1 h2
    have := hT W h1 h2
    unfold TkA at this
    rw [hPM] at this
    exact this
  have HR : Hid (∀ W a c, MG W g bn bg → Seg W a (PP.flatMap pkL) → Calls Try.prog 8 #[.agg mc.toArray, .slice a M c] W fun e w' => ∃ v1 v2, e = .returned (.tuple #[v1, v2]) ∧ w'.ownsRow W.heap.size 9 1 v1 (M + 1) (SS.flatMap strE) ∧ w'.ownsRow W.heap.size 4 1 v2 tks.length (tks.flatMap bolE) ∧ Below W.heap.size W w') := by
    intro W a c h1 h2
    have := hR W a c h1 h2
    unfold RepA at this
    rw [hSL] at this
    exact this
  obtain ⟨A, hA⟩ : ∃ A, StA w SS PP = A := ⟨_, rfl⟩
  have HA : Hid (∀ R v w' m, m = R.length → StrR SS PP 0 R → w'.ownsRow w.heap.size 35 3 v m (R.flatMap pkL) → Below w.heap.size w w' → A (.returned v) w') := by rw [← hA]; exact fun R v w' m hm h1 h2 h3 => ⟨R, v, h1, rfl, by rw [← hm]; exact h2, h3⟩
  rw [hA]
  obtain ⟨N, hN⟩ : ∃ N, M + 1 = N := ⟨_, rfl⟩
  have HMN : Hid (M + 1 = N) := hN
  rw [hN] at HR
  have hN2 : N ≤ 2001 := by omega
  clear hA hM hf hml hL hS1 hn0 hR hT hSL hPM hSSe hN
  have t1 : True := trivial
  have t2 : True := trivial
  have t3 : True := trivial
  go_enter Try.func17, Try.ntmps17
  go_wp2_with (first
    | (clear t1; refine wpList_boxS rfl 32 _ rfl mc rfl ?_; intro W1 b1 F1 C1; have B1 := F_b F1; clear F1)
    | (clear t2; refine wpList_loadW rfl 32 _ rfl rfl C1 _ Try.underlying32 rfl (by rw [HMl.out]; exact infoMc) ?_)
    | (go_at_call 16; refine (HT.out _ (HM.out.below B1) (HL.out.below B1)).mono ?_; rintro e W2 ⟨v1, rfl, O2, D2⟩; have B2 := Below.then B1 D2; have C2 := C1.grown D2; have P2 := own_raise O2 B1.size; obtain ⟨ap, cp, evp, sgp, _⟩ := own_row P2; subst evp; clear O2 D2 C1)
    | (clear t3; refine wpList_loadW rfl 32 _ rfl rfl C2 _ Try.underlying32 rfl (by rw [HMl.out]; exact infoMc) ?_)
    | (go_at_call 8; refine (HR.out _ ap cp (HM.out.below B2) sgp).mono ?_; rintro e W3 ⟨v3, v4, rfl, O3, Q3, D3⟩; have B3 := Below.then B2 D3; have P3 := own_below P2 D3; have S3 := own_raise O3 B2.size; obtain ⟨ag, cg, evs⟩ := own_form S3; subst evs; clear O3 Q3 D3 C2 P2 sgp))
  have HP3 : Hid (W3.ownsRow w.heap.size 35 3 (.slice ap M cp) M (PP.flatMap pkL) ∧ W3.ownsRow w.heap.size 9 1 (.slice ag N cg) N (SS.flatMap strE) ∧ Below w.heap.size w W3) := ⟨P3, S3, B3⟩
  clear P3 S3 B3
  go_loopw [1, 5, 7] (fun v1 v5 v7 wr => ∃ (i p L L1 : Nat) (ts : List ByteArray) (tp : List PK), v7 = .int .i64 (i : Int) ∧ (∃ a5 c5, v5 = .slice a5 L c5) ∧ (∃ a1 c1, v1 = .slice a1 L1 c1) ∧ L ≤ 2001 ∧ L1 ≤ 2000 ∧ L = i + (N - p) ∧ p ≤ N ∧ Hid (L = ts.length ∧ L1 = tp.length ∧ Cut SS PP M i p ts tp) ∧ Hid (wr.ownsRow w.heap.size 9 1 v5 L (ts.flatMap strE)) ∧ Hid (wr.ownsRow w.heap.size 35 3 v1 L1 (tp.flatMap pkL)) ∧ Hid (Below w.heap.size w wr)) (fun _ v5 v7 _ => lenW v5 - (intOf v7).toNat)
  case atStart => exact ⟨0, 0, N, M, SS, PP, rfl, ⟨_, _, rfl⟩, ⟨_, _, rfl⟩, hN2, hMN, by omega, Nat.zero_le _, ⟨by rw [HSL.out, HMN.out], HPM.out.symm, Cut.zero SS PP M⟩, HP3.out.2.1, HP3.out.1, HP3.out.2.2⟩
  case round =>
    obtain ⟨i, p, L, L1, ts, tp, rfl, ⟨a5, c5, rfl⟩, ⟨a1, c1, rfl⟩, hL2, hL12, hLe, hpN, HC, HO5, HO1, HB⟩ := hrel
    have HLE : Hid (L = i + (N - p)) := hLe
    clear hLe
    by_cases hlp : p < N
    · have hiL : i < L := by have := HLE.out; omega
      have hiLi : (i : Int) < L := by omega
      have hpM : p ≤ M := by have := HMN.out; omega
      obtain ⟨g5, d5, ev5, hcap5, sg5⟩ := own_open HO5.out (by omega)
      cases ev5
      obtain ⟨x0, hx0⟩ : ∃ x, ts[i]? = some x := ⟨_, List.getElem?_eq_getElem (by rw [← HC.out.1]; exact hiL)⟩
      have HX0 : Hid (ts[i]? = some x0) := hx0
      obtain ⟨_, _, ea0, hg5, yi0⟩ := sg5 i _ (str_at hx0)
      cases ea0
      rw [Nat.zero_add] at yi0
      have HYI : Hid (wr.cell? ⟨g5, i, none⟩ = some (.string x0)) := yi0
      have HSG : Hid (Seg wr (some ⟨g5, 0, none⟩) (ts.flatMap strE)) := sg5
      clear hx0 yi0 sg5
      obtain ⟨WR, eWR⟩ : ∃ x, x = wr := ⟨_, rfl⟩
      subst eWR
      have HG5 : Hid (g5 < WR.heap.size) := hg5
      clear hg5
      go_wp2_with fail
      go_loopw [8, 9] (fun v8 v9 w2 => ∃ (lq kk : Nat), v8 = .int .i64 (lq : Int) ∧ v9 = .int .i64 (kk : Int) ∧ i ≤ lq ∧ lq < kk ∧ kk ≤ L ∧ Hid (ts[lq]? = some x0 ∧ ∀ j, lq < j → j < kk → ts[j]? ≠ some x0) ∧ Hid (Below WR.heap.size WR w2)) (fun _ v9 _ => L - (intOf v9).toNat)
      case atStart => exact ⟨i, i + 1, rfl, by go_num, Nat.le_refl _, by omega, by omega, ⟨HX0.out, fun j h1 h2 => by omega⟩, Below.refl _ _⟩
      case round =>
        obtain ⟨lq, kk, rfl, rfl, hil, hlk, hkL, HQ, HB2⟩ := hrel
        obtain ⟨WQ, eWQ⟩ : ∃ x, x = wr := ⟨_, rfl⟩
        subst eWQ
        by_cases hkk : kk < L
        · have hkki : (kk : Int) < L := by omega
          obtain ⟨x, hx⟩ : ∃ x, ts[kk]? = some x := ⟨_, List.getElem?_eq_getElem (by rw [← HC.out.1]; exact hkk)⟩
          have HX : Hid (ts[kk]? = some x) := hx
          obtain ⟨_, _, ea1, _, yk0⟩ := HSG.out kk _ (str_at hx)
          cases ea1
          rw [Nat.zero_add] at yk0
          have yk := cell_grow yk0 HB2.out
          have yi := cell_grow HYI.out HB2.out
          clear hx yk0
          by_cases hxx : x = x0
          · subst hxx
            go_wp2_with fail
            refine grow_allW (by kernel_rfl) (by kernel_rfl) ?_
            refine WG.put rfl (v := (.slice (some ⟨g5, 0, none⟩) L c5)) (fun w => by first | rfl | (go_simp; done) | (simp [go_sem]; done) | (simp [execOp, go_sem]; done)) ?_
            simp only [Act.put, List.setIfInBounds_toArray, List.set_cons_succ, List.set_cons_zero]
            refine WG.put rfl (v := (.int .i64 (kk : Int))) (fun w => by first | rfl | (go_simp; done) | (simp [go_sem]; done) | (simp [execOp, go_sem]; done)) ?_
            simp only [Act.put, List.setIfInBounds_toArray, List.set_cons_succ, List.set_cons_zero]
            refine WG.put rfl (v := (.pointer (some ⟨g5, kk, none⟩))) (fun w => by first | rfl | (go_simp; done) | (simp [go_sem, hkki]; done) | (simp [execOp, go_sem, hkki]; done)) ?_
            simp only [Act.put, List.setIfInBounds_toArray, List.set_cons_succ, List.set_cons_zero]
            refine WG.cell rfl 9 _ rfl rfl yk (fun w h => by simp [go_sem, h]) ?_
            simp only [Act.put, List.setIfInBounds_toArray, List.set_cons_succ, List.set_cons_zero]
            refine WG.put rfl (v := (.slice (some ⟨g5, 0, none⟩) L c5)) (fun w => by first | rfl | (go_simp; done) | (simp [go_sem]; done) | (simp [execOp, go_sem]; done)) ?_
            simp only [Act.put, List.setIfInBounds_toArray, List.set_cons_succ, List.set_cons_zero]
            refine WG.put rfl (v := (.int .i64 (i : Int))) (fun w => by first | rfl | (go_simp; done) | (simp [go_sem]; done) | (simp [execOp, go_sem]; done)) ?_
            simp only [Act.put, List.setIfInBounds_toArray, List.set_cons_succ, List.set_cons_zero]
            refine WG.put rfl (v := (.pointer (some ⟨g5, i, none⟩))) (fun w => by first | rfl | (go_simp; done) | (simp [go_sem, hiLi]; done) | (simp [execOp, go_sem, hiLi]; done)) ?_
            simp only [Act.put, List.setIfInBounds_toArray, List.set_cons_succ, List.set_cons_zero]
            refine WG.cell rfl 9 _ rfl rfl yi (fun w h => by simp [go_sem, h]) ?_
            simp only [Act.put, List.setIfInBounds_toArray, List.set_cons_succ, List.set_cons_zero]
            refine WG.put rfl (v := (.bool true)) (fun w => by first | rfl | (go_simp; done) | (simp [go_sem]; done) | (simp [execOp, go_sem]; done)) ?_
            simp only [Act.put, List.setIfInBounds_toArray, List.set_cons_succ, List.set_cons_zero]
            refine WG.nil ?_
            intro W5 B5
            have HB5 : Hid (Below WR.heap.size WR W5) := Below.then HB2.out B5
            clear yk yi B5
            go_wp2_with fail
            go_roundw
            case rel => exact ⟨kk, kk + 1, rfl, by go_num, by omega, by omega, by omega, ⟨HX.out, fun j h1 h2 => by omega⟩, HB5⟩
            case measure => simp [intOf]; omega
          · have hne := toList_ne hxx
            have HNE : Hid (∀ j, j = kk → ts[j]? ≠ some x0) := fun j hj e => by subst hj; rw [HX.out] at e; exact hxx (Option.some.inj e)
            go_wp2_with fail
            refine grow_allW (by kernel_rfl) (by kernel_rfl) ?_
            refine WG.put rfl (v := (.slice (some ⟨g5, 0, none⟩) L c5)) (fun w => by first | rfl | (go_simp; done) | (simp [go_sem]; done) | (simp [execOp, go_sem]; done)) ?_
            simp only [Act.put, List.setIfInBounds_toArray, List.set_cons_succ, List.set_cons_zero]
            refine WG.put rfl (v := (.int .i64 (kk : Int))) (fun w => by first | rfl | (go_simp; done) | (simp [go_sem]; done) | (simp [execOp, go_sem]; done)) ?_
            simp only [Act.put, List.setIfInBounds_toArray, List.set_cons_succ, List.set_cons_zero]
            refine WG.put rfl (v := (.pointer (some ⟨g5, kk, none⟩))) (fun w => by first | rfl | (go_simp; done) | (simp [go_sem, hkki]; done) | (simp [execOp, go_sem, hkki]; done)) ?_
            simp only [Act.put, List.setIfInBounds_toArray, List.set_cons_succ, List.set_cons_zero]
            refine WG.cell rfl 9 _ rfl rfl yk (fun w h => by simp [go_sem, h]) ?_
            simp only [Act.put, List.setIfInBounds_toArray, List.set_cons_succ, List.set_cons_zero]
            refine WG.put rfl (v := (.slice (some ⟨g5, 0, none⟩) L c5)) (fun w => by first | rfl | (go_simp; done) | (simp [go_sem]; done) | (simp [execOp, go_sem]; done)) ?_
            simp only [Act.put, List.setIfInBounds_toArray, List.set_cons_succ, List.set_cons_zero]
            refine WG.put rfl (v := (.int .i64 (i : Int))) (fun w => by first | rfl | (go_simp; done) | (simp [go_sem]; done) | (simp [execOp, go_sem]; done)) ?_
            simp only [Act.put, List.setIfInBounds_toArray, List.set_cons_succ, List.set_cons_zero]
            refine WG.put rfl (v := (.pointer (some ⟨g5, i, none⟩))) (fun w => by first | rfl | (go_simp; done) | (simp [go_sem, hiLi]; done) | (simp [execOp, go_sem, hiLi]; done)) ?_
            simp only [Act.put, List.setIfInBounds_toArray, List.set_cons_succ, List.set_cons_zero]
            refine WG.cell rfl 9 _ rfl rfl yi (fun w h => by simp [go_sem, h]) ?_
            simp only [Act.put, List.setIfInBounds_toArray, List.set_cons_succ, List.set_cons_zero]
            refine WG.put rfl (v := (.bool false)) (fun w => by first | rfl | (go_simp; done) | (simp [go_sem, hne]; done) | (simp [execOp, go_sem, hne]; done)) ?_
            simp only [Act.put, List.setIfInBounds_toArray, List.set_cons_succ, List.set_cons_zero]
            refine WG.nil ?_
            intro W5 B5
            have HB5 : Hid (Below WR.heap.size WR W5) := Below.then HB2.out B5
            clear yk yi B5
            clear hne
            go_wp2_with fail
            go_roundw
            case rel => exact ⟨lq, kk + 1, rfl, by go_num, by omega, by omega, by omega, ⟨HQ.out.1, fun j h1 h2 => (by
              by_cases hj : j = kk
              · exact HNE.out j hj
              · exact HQ.out.2 j h1 (by omega))⟩, HB5⟩
            case measure => simp [intOf]; omega
        · have e : kk = L := by omega
          subst e
          have hkki : ¬ (kk : Int) < kk := by omega
          have HLA : Hid (LastAt SS p (p + (lq - i))) := by
            have hc := HC.out.2.2
            have hl := hc.lenS HSL.out
            have hle := HLE.out
            have hmn := HMN.out
            have g0 : ts[i + (lq - i)]? = SS[p + (lq - i)]? := hc.get (lq - i)
            have g1 : ts[i + 0]? = SS[p + 0]? := hc.get 0
            rw [show i + (lq - i) = lq by omega, HQ.out.1] at g0
            rw [Nat.add_zero, Nat.add_zero, HX0.out] at g1
            refine ⟨by omega, by rw [HSL.out]; omega, by rw [← g0, ← g1], fun j hj => ?_⟩
            by_cases hjl : j < SS.length
            · left
              have g2 : ts[i + (j - p)]? = SS[p + (j - p)]? := hc.get (j - p)
              rw [show p + (j - p) = j by omega] at g2
              rw [← g2, ← g1]
              rw [HSL.out] at hjl
              exact HQ.out.2 _ (by omega) (by omega)
            · right; omega
          by_cases hli : i < lq
          · skip
            have hgt : (i : Int) < lq := by omega
            have hl1 := HC.out.2.2.lenP HPM.out hpM
            have hle := HLE.out
            have hmn := HMN.out
            have hl1e := HC.out.2.1
            obtain ⟨g1, d1, ev1, hcap1, sg1⟩ := own_open HO1.out (by omega)
            cases ev1
            have hicx : i ≤ c5 := by omega
            have hlLx : lq ≤ kk := by omega
            have hLcx : kk ≤ c5 := hcap5
            have hicy : i ≤ c1 := by omega
            have hlLy : lq ≤ L1 := by omega
            have hLcy : L1 ≤ c1 := hcap1
            have HSG1 : Hid (Seg WR (some ⟨g1, 0, none⟩) (tp.flatMap pkL)) := sg1
            have LAx : Hid (((ts.take i).flatMap strE).length = i * 1) := by show _ = _; rw [flat_lenK strE 1 strE1, List.length_take, ← HC.out.1]; omega
            have LBx : Hid (((ts.drop lq).flatMap strE).length = (kk - lq) * 1) := by show _ = _; rw [flat_lenK strE 1 strE1, List.length_drop, ← HC.out.1]
            have LAy : Hid (((tp.take i).flatMap pkL).length = i * 3) := by show _ = _; rw [flat_lenK pkL 3 pkL3, List.length_take, ← HC.out.2.1]; omega
            have LBy : Hid (((tp.drop lq).flatMap pkL).length = (L1 - lq) * 3) := by show _ = _; rw [flat_lenK pkL 3 pkL3, List.length_drop, ← HC.out.2.1]
            have RAx : Hid (RowV WQ (.slice (some ⟨g5, 0, none⟩) i c5) i ((ts.take i).flatMap strE)) := by show RowV _ _ _ _; rw [← flat_take strE 1 strE1]; exact row_head (L := kk) (HSG.out.below HB2.out)
            have RBx : Hid (RowV WQ (.slice (some (cutA g5 c5 lq 1)) (kk - lq) (c5 - lq)) (kk - lq) ((ts.drop lq).flatMap strE)) := by show RowV _ _ _ _; rw [← flat_drop strE 1 strE1]; exact row_cut (HSG.out.below HB2.out) (by rw [flat_lenK strE 1 strE1, ← HC.out.1]) hlLx hLcx
            have RAw : Hid (RowV WQ (.slice (some ⟨g1, 0, none⟩) i c1) i ((tp.take i).flatMap pkL)) := by show RowV _ _ _ _; rw [← flat_take pkL 3 pkL3]; exact row_head (L := L1) (HSG1.out.below HB2.out)
            have RBw : Hid (RowV WQ (.slice (some (cutA g1 c1 lq 3)) (L1 - lq) (c1 - lq)) (L1 - lq) ((tp.drop lq).flatMap pkL)) := by show RowV _ _ _ _; rw [← flat_drop pkL 3 pkL3]; exact row_cut (HSG1.out.below HB2.out) (by rw [flat_lenK pkL 3 pkL3, ← HC.out.2.1]) hlLy hLcy
            have HC2 : Hid (Cut SS PP M (i + 1) (p + (lq - i) + 1) (ts.take i ++ ts.drop lq) (tp.take i ++ tp.drop lq)) := by
              have := HC.out.2.2.next HSL.out HPM.out hpM HLA.out
              rw [show i + (p + (lq - i) - p) = lq by omega] at this
              exact this
            have HNums : Hid (lq ≤ i + (M - p) ∧ L1 = i + (M - p)) := ⟨by omega, by omega⟩
            clear hl1 hle hmn hl1e sg1
            go_wp2_with fail
            refine region_invA 9 (fun a0 listed a' w' => ∃ x47 x48 x49 x50 x51 x52 x53 x54 x55 : Value, a' = (((((((((a0.put (some 47) x47).put (some 48) x48).put (some 49) x49).put (some 50) x50).put (some 51) x51).put (some 52) x52).put (some 53) x53).put (some 54) x54).put (some 55) x55) ∧ Hid (Below WQ.heap.size WQ w') ∧ (listed.getD 4 false = true → listed.getD 0 false = true) ∧ (listed.getD 4 false = true → listed.getD 3 false = true) ∧ (listed.getD 8 false = true → listed.getD 4 false = true) ∧ (listed.getD 8 false = true → listed.getD 0 false = true) ∧ (listed.getD 0 false = true → listed.getD 4 false = false → w'.ownsRow WQ.heap.size 9 1 x47 0 []) ∧ (listed.getD 1 false = true → x48 = (.slice (some ⟨g5, 0, none⟩) kk c5)) ∧ (listed.getD 2 false = true → x49 = (.int .i64 (i : Int))) ∧ (listed.getD 3 false = true → x50 = .slice (some ⟨g5, 0, none⟩) i c5) ∧ (listed.getD 4 false = true → listed.getD 8 false = false → w'.ownsRow WQ.heap.size 9 1 x51 (0 + i) ([] ++ ((ts.take i).flatMap strE))) ∧ (listed.getD 5 false = true → x52 = (.slice (some ⟨g5, 0, none⟩) kk c5)) ∧ (listed.getD 6 false = true → x53 = (.int .i64 (lq : Int))) ∧ (listed.getD 7 false = true → x54 = .slice (some (cutA g5 c5 lq 1)) (kk - lq) (c5 - lq)) ∧ (listed.getD 8 false = true → w'.ownsRow WQ.heap.size 9 1 x55 (0 + i + (kk - lq)) ([] ++ ((ts.take i).flatMap strE) ++ ((ts.drop lq).flatMap strE)))) (by kernel_rfl) (by kernel_rfl) ?i0x ?istepx ?iendx
            case i0x => exact ⟨_, _, _, _, _, _, _, _, _, by first | (simp only [Act.put, List.setIfInBounds_toArray, List.set_cons_succ, List.set_cons_zero]; done) | (simp only [Act.put, List.setIfInBounds_toArray, List.set_cons_succ, List.set_cons_zero]; rfl) | rfl, below_drew (Below.refl _ _), fun h => (not_rep h).elim, fun h => (not_rep h).elim, fun h => (not_rep h).elim, fun h => (not_rep h).elim, fun h => (not_rep h).elim, fun h => (not_rep h).elim, fun h => (not_rep h).elim, fun h => (not_rep h).elim, fun h => (not_rep h).elim, fun h => (not_rep h).elim, fun h => (not_rep h).elim, fun h => (not_rep h).elim, fun h => (not_rep h).elim⟩
            case istepx =>
              rintro i listed a' w' hi hr ⟨x47, x48, x49, x50, x51, x52, x53, x54, x55, rfl, HBw, m4_0, m4_3, m8_4, m8_0, d0, d1, d2, d3, d4, d5, d6, d7, d8⟩
              obtain ⟨hun, oj, hoj, hwt⟩ := mem_ready.1 hr
              simp only [Act.put, List.setIfInBounds_toArray, List.set_cons_succ, List.set_cons_zero]
              have hcase : i = 0 ∨ i = 1 ∨ i = 2 ∨ i = 3 ∨ i = 4 ∨ i = 5 ∨ i = 6 ∨ i = 7 ∨ i = 8 := by omega
              rcases hcase with rfl | rfl | rfl | rfl | rfl | rfl | rfl | rfl | rfl
              · have hoj2 := hoj
                obtain rfl := Option.some.inj hoj
                refine wpOp_value hoj2 rfl (exec_build0 eStr rfl) ?_
                have B9 := F_b (Fresh.alloc w' (.cells #[] 9))
                exact ⟨_, x48, x49, x50, x51, x52, x53, x54, x55, by first | (simp only [Act.put, List.setIfInBounds_toArray, List.set_cons_succ, List.set_cons_zero]; done) | (simp only [Act.put, List.setIfInBounds_toArray, List.set_cons_succ, List.set_cons_zero]; rfl) | rfl, hb_then HBw B9, fun h => keepT (m4_0 (keep (by decide) h)), fun h => keepT (m4_3 (keep (by decide) h)), fun h => keepT (m8_4 (keep (by decide) h)), fun h => keepT (m8_0 (keep (by decide) h)), fun _ _ => (own_raise (own_build0 eStr w') HBw.out.size), fun h => (d1 (keep (by decide) h)), fun h => (d2 (keep (by decide) h)), fun h => (d3 (keep (by decide) h)), fun h => absurd (m4_0 (keep (by decide) h)) (by rw [getD_both hun]; simp), fun h => (d5 (keep (by decide) h)), fun h => (d6 (keep (by decide) h)), fun h => (d7 (keep (by decide) h)), fun h => absurd (m8_0 (keep (by decide) h)) (by rw [getD_both hun]; simp)⟩
              · have hoj2 := hoj
                obtain rfl := Option.some.inj hoj
                refine wpOp_value hoj2 rfl (v := (.slice (some ⟨g5, 0, none⟩) kk c5)) (w' := w') (by first | rfl | (go_simp; done) | (simp [go_sem]; done) | (simp [execOp, go_sem]; done)) ?_
                exact ⟨x47, (.slice (some ⟨g5, 0, none⟩) kk c5), x49, x50, x51, x52, x53, x54, x55, by first | (simp only [Act.put, List.setIfInBounds_toArray, List.set_cons_succ, List.set_cons_zero]; done) | (simp only [Act.put, List.setIfInBounds_toArray, List.set_cons_succ, List.set_cons_zero]; rfl) | rfl, HBw, fun h => keepT (m4_0 (keep (by decide) h)), fun h => keepT (m4_3 (keep (by decide) h)), fun h => keepT (m8_4 (keep (by decide) h)), fun h => keepT (m8_0 (keep (by decide) h)), fun h h2 => (d0 (keep (by decide) h) (keepG (by decide) h2)), fun _ => rfl, fun h => (d2 (keep (by decide) h)), fun h => (d3 (keep (by decide) h)), fun h h2 => (d4 (keep (by decide) h) (keepG (by decide) h2)), fun h => (d5 (keep (by decide) h)), fun h => (d6 (keep (by decide) h)), fun h => (d7 (keep (by decide) h)), fun h => (d8 (keep (by decide) h))⟩
              · have hoj2 := hoj
                obtain rfl := Option.some.inj hoj
                refine wpOp_value hoj2 rfl (v := (.int .i64 (i : Int))) (w' := w') (by first | rfl | (go_simp; done) | (simp [go_sem]; done) | (simp [execOp, go_sem]; done)) ?_
                exact ⟨x47, x48, (.int .i64 (i : Int)), x50, x51, x52, x53, x54, x55, by first | (simp only [Act.put, List.setIfInBounds_toArray, List.set_cons_succ, List.set_cons_zero]; done) | (simp only [Act.put, List.setIfInBounds_toArray, List.set_cons_succ, List.set_cons_zero]; rfl) | rfl, HBw, fun h => keepT (m4_0 (keep (by decide) h)), fun h => keepT (m4_3 (keep (by decide) h)), fun h => keepT (m8_4 (keep (by decide) h)), fun h => keepT (m8_0 (keep (by decide) h)), fun h h2 => (d0 (keep (by decide) h) (keepG (by decide) h2)), fun h => (d1 (keep (by decide) h)), fun _ => rfl, fun h => (d3 (keep (by decide) h)), fun h h2 => (d4 (keep (by decide) h) (keepG (by decide) h2)), fun h => (d5 (keep (by decide) h)), fun h => (d6 (keep (by decide) h)), fun h => (d7 (keep (by decide) h)), fun h => (d8 (keep (by decide) h))⟩
              · have hoj2 := hoj
                obtain rfl := Option.some.inj hoj
                have e1 := d1 (hwt ⟨1, .data⟩ (by simp) rfl)
                have e2 := d2 (hwt ⟨2, .data⟩ (by simp) rfl)
                subst e1 e2
                refine wpOp_value hoj2 rfl (exec_sliceH _ _ rfl rfl rfl (run_headS g5 kk c5 i hicx w')) ?_
                exact ⟨x47, _, _, _, x51, x52, x53, x54, x55, by first | (simp only [Act.put, List.setIfInBounds_toArray, List.set_cons_succ, List.set_cons_zero]; done) | (simp only [Act.put, List.setIfInBounds_toArray, List.set_cons_succ, List.set_cons_zero]; rfl) | rfl, HBw, fun h => keepT (m4_0 (keep (by decide) h)), fun h => keepT (m4_3 (keep (by decide) h)), fun h => keepT (m8_4 (keep (by decide) h)), fun h => keepT (m8_0 (keep (by decide) h)), fun h h2 => (d0 (keep (by decide) h) (keepG (by decide) h2)), fun h => (d1 (keep (by decide) h)), fun h => (d2 (keep (by decide) h)), fun _ => rfl, fun h => absurd (m4_3 (keep (by decide) h)) (by rw [getD_both hun]; simp), fun h => (d5 (keep (by decide) h)), fun h => (d6 (keep (by decide) h)), fun h => (d7 (keep (by decide) h)), fun h => (d8 (keep (by decide) h))⟩
              · have hoj2 := hoj
                obtain rfl := Option.some.inj hoj
                have e0 := d0 (hwt ⟨0, .data⟩ (by simp) rfl) (getD_both hun)
                have e3 := d3 (hwt ⟨3, .data⟩ (by simp) rfl)
                subst e3
                obtain ⟨v9, w9, hr9, O9, G9⟩ := run_appM eStr WQ.heap.size _ 0 _ e0 _ i ((ts.take i).flatMap strE) (RAx.out.below HBw.out) (LAx.out) (str_oneL _) (by omega) HBw.out.size _
                refine wpOp_value hoj2 rfl (exec_app _ _ rfl rfl rfl hr9) ?_
                have HBa : Hid (Below WQ.heap.size WQ w9) := grown_below HBw.out HBw.out.size e0 G9
                exact ⟨x47, x48, x49, _, _, x52, x53, x54, x55, by first | (simp only [Act.put, List.setIfInBounds_toArray, List.set_cons_succ, List.set_cons_zero]; done) | (simp only [Act.put, List.setIfInBounds_toArray, List.set_cons_succ, List.set_cons_zero]; rfl) | rfl, HBa, fun _ => keepT (hwt ⟨0, .data⟩ (by simp) rfl), fun _ => keepT (hwt ⟨3, .data⟩ (by simp) rfl), fun h => keepT (m8_4 (keep (by decide) h)), fun h => keepT (m8_0 (keep (by decide) h)), fun _ h => absurd h (by rw [nowU hun]; simp), fun h => (d1 (keep (by decide) h)), fun h => (d2 (keep (by decide) h)), fun h => (d3 (keep (by decide) h)), fun _ _ => O9, fun h => (d5 (keep (by decide) h)), fun h => (d6 (keep (by decide) h)), fun h => (d7 (keep (by decide) h)), fun h => absurd (m8_4 (keep (by decide) h)) (by rw [getD_both hun]; simp)⟩
              · have hoj2 := hoj
                obtain rfl := Option.some.inj hoj
                refine wpOp_value hoj2 rfl (v := (.slice (some ⟨g5, 0, none⟩) kk c5)) (w' := w') (by first | rfl | (go_simp; done) | (simp [go_sem]; done) | (simp [execOp, go_sem]; done)) ?_
                exact ⟨x47, x48, x49, x50, x51, (.slice (some ⟨g5, 0, none⟩) kk c5), x53, x54, x55, by first | (simp only [Act.put, List.setIfInBounds_toArray, List.set_cons_succ, List.set_cons_zero]; done) | (simp only [Act.put, List.setIfInBounds_toArray, List.set_cons_succ, List.set_cons_zero]; rfl) | rfl, HBw, fun h => keepT (m4_0 (keep (by decide) h)), fun h => keepT (m4_3 (keep (by decide) h)), fun h => keepT (m8_4 (keep (by decide) h)), fun h => keepT (m8_0 (keep (by decide) h)), fun h h2 => (d0 (keep (by decide) h) (keepG (by decide) h2)), fun h => (d1 (keep (by decide) h)), fun h => (d2 (keep (by decide) h)), fun h => (d3 (keep (by decide) h)), fun h h2 => (d4 (keep (by decide) h) (keepG (by decide) h2)), fun _ => rfl, fun h => (d6 (keep (by decide) h)), fun h => (d7 (keep (by decide) h)), fun h => (d8 (keep (by decide) h))⟩
              · have hoj2 := hoj
                obtain rfl := Option.some.inj hoj
                refine wpOp_value hoj2 rfl (v := (.int .i64 (lq : Int))) (w' := w') (by first | rfl | (go_simp; done) | (simp [go_sem]; done) | (simp [execOp, go_sem]; done)) ?_
                exact ⟨x47, x48, x49, x50, x51, x52, (.int .i64 (lq : Int)), x54, x55, by first | (simp only [Act.put, List.setIfInBounds_toArray, List.set_cons_succ, List.set_cons_zero]; done) | (simp only [Act.put, List.setIfInBounds_toArray, List.set_cons_succ, List.set_cons_zero]; rfl) | rfl, HBw, fun h => keepT (m4_0 (keep (by decide) h)), fun h => keepT (m4_3 (keep (by decide) h)), fun h => keepT (m8_4 (keep (by decide) h)), fun h => keepT (m8_0 (keep (by decide) h)), fun h h2 => (d0 (keep (by decide) h) (keepG (by decide) h2)), fun h => (d1 (keep (by decide) h)), fun h => (d2 (keep (by decide) h)), fun h => (d3 (keep (by decide) h)), fun h h2 => (d4 (keep (by decide) h) (keepG (by decide) h2)), fun h => (d5 (keep (by decide) h)), fun _ => rfl, fun h => (d7 (keep (by decide) h)), fun h => (d8 (keep (by decide) h))⟩
              · have hoj2 := hoj
                obtain rfl := Option.some.inj hoj
                have e5 := d5 (hwt ⟨5, .data⟩ (by simp) rfl)
                have e6 := d6 (hwt ⟨6, .data⟩ (by simp) rfl)
                subst e5 e6
                refine wpOp_value hoj2 rfl (exec_sliceL _ _ rfl rfl rfl (run_cutS g5 kk c5 lq hlLx hLcx w')) ?_
                exact ⟨x47, x48, x49, x50, x51, _, _, _, x55, by first | (simp only [Act.put, List.setIfInBounds_toArray, List.set_cons_succ, List.set_cons_zero]; done) | (simp only [Act.put, List.setIfInBounds_toArray, List.set_cons_succ, List.set_cons_zero]; rfl) | rfl, HBw, fun h => keepT (m4_0 (keep (by decide) h)), fun h => keepT (m4_3 (keep (by decide) h)), fun h => keepT (m8_4 (keep (by decide) h)), fun h => keepT (m8_0 (keep (by decide) h)), fun h h2 => (d0 (keep (by decide) h) (keepG (by decide) h2)), fun h => (d1 (keep (by decide) h)), fun h => (d2 (keep (by decide) h)), fun h => (d3 (keep (by decide) h)), fun h h2 => (d4 (keep (by decide) h) (keepG (by decide) h2)), fun h => (d5 (keep (by decide) h)), fun h => (d6 (keep (by decide) h)), fun _ => rfl, fun h => (d8 (keep (by decide) h))⟩
              · have hoj2 := hoj
                obtain rfl := Option.some.inj hoj
                have e4 := d4 (hwt ⟨4, .data⟩ (by simp) rfl) (getD_both hun)
                have e7 := d7 (hwt ⟨7, .data⟩ (by simp) rfl)
                subst e7
                obtain ⟨v9, w9, hr9, O9, G9⟩ := run_appM eStr WQ.heap.size _ (0 + i) _ e4 _ (kk - lq) ((ts.drop lq).flatMap strE) (RBx.out.below HBw.out) (LBx.out) (str_oneL _) (by omega) HBw.out.size _
                refine wpOp_value hoj2 rfl (exec_app _ _ rfl rfl rfl hr9) ?_
                have HBa : Hid (Below WQ.heap.size WQ w9) := grown_below HBw.out HBw.out.size e4 G9
                exact ⟨x47, x48, x49, x50, x51, x52, x53, _, _, by first | (simp only [Act.put, List.setIfInBounds_toArray, List.set_cons_succ, List.set_cons_zero]; done) | (simp only [Act.put, List.setIfInBounds_toArray, List.set_cons_succ, List.set_cons_zero]; rfl) | rfl, HBa, fun h => keepT (m4_0 (keep (by decide) h)), fun h => keepT (m4_3 (keep (by decide) h)), fun _ => keepT (hwt ⟨4, .data⟩ (by simp) rfl), fun _ => keepT (m4_0 (hwt ⟨4, .data⟩ (by simp) rfl)), fun _ h => absurd (keepG (by decide) h) (by rw [(hwt ⟨4, .data⟩ (by simp) rfl)]; simp), fun h => (d1 (keep (by decide) h)), fun h => (d2 (keep (by decide) h)), fun h => (d3 (keep (by decide) h)), fun _ h => absurd h (by rw [nowU hun]; simp), fun h => (d5 (keep (by decide) h)), fun h => (d6 (keep (by decide) h)), fun h => (d7 (keep (by decide) h)), fun _ => O9⟩
            case iendx =>
              rintro a' w' ⟨x47, x48, x49, x50, x51, x52, x53, x54, x55, rfl, HBw, m4_0, m4_3, m8_4, m8_0, d0, d1, d2, d3, d4, d5, d6, d7, d8⟩
              replace d1 := d1 rfl
              replace d2 := d2 rfl
              replace d3 := d3 rfl
              replace d5 := d5 rfl
              replace d6 := d6 rfl
              replace d7 := d7 rfl
              replace d8 := d8 rfl
              clear m4_0 m4_3 m8_4 m8_0 d0 d4
              simp only [Act.put, List.setIfInBounds_toArray, List.set_cons_succ, List.set_cons_zero]
              simp only [List.drop_succ_cons, List.drop_zero]
              have HS6 : Hid (w'.ownsRow WQ.heap.size 9 1 x55 (0 + i + (kk - lq)) ([] ++ ((ts.take i).flatMap strE) ++ ((ts.drop lq).flatMap strE))) := d8
              have HB6 : Hid (Below WQ.heap.size WQ w') := HBw
              obtain ⟨a6, c6, ev6⟩ := own_form HS6.out
              subst ev6
              obtain ⟨W6, eW6⟩ : ∃ x, x = w' := ⟨_, rfl⟩
              subst eW6
              have RAy : Hid (RowV W6 (.slice (some ⟨g1, 0, none⟩) i c1) i ((tp.take i).flatMap pkL)) := RAw.out.below HB6.out
              have RBy : Hid (RowV W6 (.slice (some (cutA g1 c1 lq 3)) (L1 - lq) (c1 - lq)) (L1 - lq) ((tp.drop lq).flatMap pkL)) := RBw.out.below HB6.out
              clear d1 d2 d3 d5 d6 d7 d8 HBw
              go_wp2_with fail
              refine region_invA 9 (fun a0 listed a' w' => ∃ x56 x57 x58 x59 x60 x61 x62 x63 x64 : Value, a' = (((((((((a0.put (some 56) x56).put (some 57) x57).put (some 58) x58).put (some 59) x59).put (some 60) x60).put (some 61) x61).put (some 62) x62).put (some 63) x63).put (some 64) x64) ∧ Hid (Below W6.heap.size W6 w') ∧ (listed.getD 4 false = true → listed.getD 0 false = true) ∧ (listed.getD 4 false = true → listed.getD 3 false = true) ∧ (listed.getD 8 false = true → listed.getD 4 false = true) ∧ (listed.getD 8 false = true → listed.getD 0 false = true) ∧ (listed.getD 0 false = true → listed.getD 4 false = false → w'.ownsRow W6.heap.size 35 3 x56 0 []) ∧ (listed.getD 1 false = true → x57 = (.slice (some ⟨g1, 0, none⟩) L1 c1)) ∧ (listed.getD 2 false = true → x58 = (.int .i64 (i : Int))) ∧ (listed.getD 3 false = true → x59 = .slice (some ⟨g1, 0, none⟩) i c1) ∧ (listed.getD 4 false = true → listed.getD 8 false = false → w'.ownsRow W6.heap.size 35 3 x60 (0 + i) ([] ++ ((tp.take i).flatMap pkL))) ∧ (listed.getD 5 false = true → x61 = (.slice (some ⟨g1, 0, none⟩) L1 c1)) ∧ (listed.getD 6 false = true → x62 = (.int .i64 (lq : Int))) ∧ (listed.getD 7 false = true → x63 = .slice (some (cutA g1 c1 lq 3)) (L1 - lq) (c1 - lq)) ∧ (listed.getD 8 false = true → w'.ownsRow W6.heap.size 35 3 x64 (0 + i + (L1 - lq)) ([] ++ ((tp.take i).flatMap pkL) ++ ((tp.drop lq).flatMap pkL)))) (by kernel_rfl) (by kernel_rfl) ?i0y ?istepy ?iendy
              case i0y => exact ⟨_, _, _, _, _, _, _, _, _, by first | (simp only [Act.put, List.setIfInBounds_toArray, List.set_cons_succ, List.set_cons_zero]; done) | (simp only [Act.put, List.setIfInBounds_toArray, List.set_cons_succ, List.set_cons_zero]; rfl) | rfl, below_drew (Below.refl _ _), fun h => (not_rep h).elim, fun h => (not_rep h).elim, fun h => (not_rep h).elim, fun h => (not_rep h).elim, fun h => (not_rep h).elim, fun h => (not_rep h).elim, fun h => (not_rep h).elim, fun h => (not_rep h).elim, fun h => (not_rep h).elim, fun h => (not_rep h).elim, fun h => (not_rep h).elim, fun h => (not_rep h).elim, fun h => (not_rep h).elim⟩
              case istepy =>
                rintro i listed a' w' hi hr ⟨x56, x57, x58, x59, x60, x61, x62, x63, x64, rfl, HBw, m4_0, m4_3, m8_4, m8_0, d0, d1, d2, d3, d4, d5, d6, d7, d8⟩
                obtain ⟨hun, oj, hoj, hwt⟩ := mem_ready.1 hr
                simp only [Act.put, List.setIfInBounds_toArray, List.set_cons_succ, List.set_cons_zero]
                have hcase : i = 0 ∨ i = 1 ∨ i = 2 ∨ i = 3 ∨ i = 4 ∨ i = 5 ∨ i = 6 ∨ i = 7 ∨ i = 8 := by omega
                rcases hcase with rfl | rfl | rfl | rfl | rfl | rfl | rfl | rfl | rfl
                · have hoj2 := hoj
                  obtain rfl := Option.some.inj hoj
                  refine wpOp_value hoj2 rfl (exec_build0 ePk rfl) ?_
                  have B9 := F_b (Fresh.alloc w' (.cells #[] 35))
                  exact ⟨_, x57, x58, x59, x60, x61, x62, x63, x64, by first | (simp only [Act.put, List.setIfInBounds_toArray, List.set_cons_succ, List.set_cons_zero]; done) | (simp only [Act.put, List.setIfInBounds_toArray, List.set_cons_succ, List.set_cons_zero]; rfl) | rfl, hb_then HBw B9, fun h => keepT (m4_0 (keep (by decide) h)), fun h => keepT (m4_3 (keep (by decide) h)), fun h => keepT (m8_4 (keep (by decide) h)), fun h => keepT (m8_0 (keep (by decide) h)), fun _ _ => (own_raise (own_build0 ePk w') HBw.out.size), fun h => (d1 (keep (by decide) h)), fun h => (d2 (keep (by decide) h)), fun h => (d3 (keep (by decide) h)), fun h => absurd (m4_0 (keep (by decide) h)) (by rw [getD_both hun]; simp), fun h => (d5 (keep (by decide) h)), fun h => (d6 (keep (by decide) h)), fun h => (d7 (keep (by decide) h)), fun h => absurd (m8_0 (keep (by decide) h)) (by rw [getD_both hun]; simp)⟩
                · have hoj2 := hoj
                  obtain rfl := Option.some.inj hoj
                  refine wpOp_value hoj2 rfl (v := (.slice (some ⟨g1, 0, none⟩) L1 c1)) (w' := w') (by first | rfl | (go_simp; done) | (simp [go_sem]; done) | (simp [execOp, go_sem]; done)) ?_
                  exact ⟨x56, (.slice (some ⟨g1, 0, none⟩) L1 c1), x58, x59, x60, x61, x62, x63, x64, by first | (simp only [Act.put, List.setIfInBounds_toArray, List.set_cons_succ, List.set_cons_zero]; done) | (simp only [Act.put, List.setIfInBounds_toArray, List.set_cons_succ, List.set_cons_zero]; rfl) | rfl, HBw, fun h => keepT (m4_0 (keep (by decide) h)), fun h => keepT (m4_3 (keep (by decide) h)), fun h => keepT (m8_4 (keep (by decide) h)), fun h => keepT (m8_0 (keep (by decide) h)), fun h h2 => (d0 (keep (by decide) h) (keepG (by decide) h2)), fun _ => rfl, fun h => (d2 (keep (by decide) h)), fun h => (d3 (keep (by decide) h)), fun h h2 => (d4 (keep (by decide) h) (keepG (by decide) h2)), fun h => (d5 (keep (by decide) h)), fun h => (d6 (keep (by decide) h)), fun h => (d7 (keep (by decide) h)), fun h => (d8 (keep (by decide) h))⟩
                · have hoj2 := hoj
                  obtain rfl := Option.some.inj hoj
                  refine wpOp_value hoj2 rfl (v := (.int .i64 (i : Int))) (w' := w') (by first | rfl | (go_simp; done) | (simp [go_sem]; done) | (simp [execOp, go_sem]; done)) ?_
                  exact ⟨x56, x57, (.int .i64 (i : Int)), x59, x60, x61, x62, x63, x64, by first | (simp only [Act.put, List.setIfInBounds_toArray, List.set_cons_succ, List.set_cons_zero]; done) | (simp only [Act.put, List.setIfInBounds_toArray, List.set_cons_succ, List.set_cons_zero]; rfl) | rfl, HBw, fun h => keepT (m4_0 (keep (by decide) h)), fun h => keepT (m4_3 (keep (by decide) h)), fun h => keepT (m8_4 (keep (by decide) h)), fun h => keepT (m8_0 (keep (by decide) h)), fun h h2 => (d0 (keep (by decide) h) (keepG (by decide) h2)), fun h => (d1 (keep (by decide) h)), fun _ => rfl, fun h => (d3 (keep (by decide) h)), fun h h2 => (d4 (keep (by decide) h) (keepG (by decide) h2)), fun h => (d5 (keep (by decide) h)), fun h => (d6 (keep (by decide) h)), fun h => (d7 (keep (by decide) h)), fun h => (d8 (keep (by decide) h))⟩
                · have hoj2 := hoj
                  obtain rfl := Option.some.inj hoj
                  have e1 := d1 (hwt ⟨1, .data⟩ (by simp) rfl)
                  have e2 := d2 (hwt ⟨2, .data⟩ (by simp) rfl)
                  subst e1 e2
                  refine wpOp_value hoj2 rfl (exec_sliceH _ _ rfl rfl rfl (run_headP g1 L1 c1 i hicy w')) ?_
                  exact ⟨x56, _, _, _, x60, x61, x62, x63, x64, by first | (simp only [Act.put, List.setIfInBounds_toArray, List.set_cons_succ, List.set_cons_zero]; done) | (simp only [Act.put, List.setIfInBounds_toArray, List.set_cons_succ, List.set_cons_zero]; rfl) | rfl, HBw, fun h => keepT (m4_0 (keep (by decide) h)), fun h => keepT (m4_3 (keep (by decide) h)), fun h => keepT (m8_4 (keep (by decide) h)), fun h => keepT (m8_0 (keep (by decide) h)), fun h h2 => (d0 (keep (by decide) h) (keepG (by decide) h2)), fun h => (d1 (keep (by decide) h)), fun h => (d2 (keep (by decide) h)), fun _ => rfl, fun h => absurd (m4_3 (keep (by decide) h)) (by rw [getD_both hun]; simp), fun h => (d5 (keep (by decide) h)), fun h => (d6 (keep (by decide) h)), fun h => (d7 (keep (by decide) h)), fun h => (d8 (keep (by decide) h))⟩
                · have hoj2 := hoj
                  obtain rfl := Option.some.inj hoj
                  have e0 := d0 (hwt ⟨0, .data⟩ (by simp) rfl) (getD_both hun)
                  have e3 := d3 (hwt ⟨3, .data⟩ (by simp) rfl)
                  subst e3
                  obtain ⟨v9, w9, hr9, O9, G9⟩ := run_appM ePk W6.heap.size _ 0 _ e0 _ i ((tp.take i).flatMap pkL) (RAy.out.below HBw.out) (LAy.out) (pk_oneL _) (by omega) HBw.out.size _
                  refine wpOp_value hoj2 rfl (exec_app _ _ rfl rfl rfl hr9) ?_
                  have HBa : Hid (Below W6.heap.size W6 w9) := grown_below HBw.out HBw.out.size e0 G9
                  exact ⟨x56, x57, x58, _, _, x61, x62, x63, x64, by first | (simp only [Act.put, List.setIfInBounds_toArray, List.set_cons_succ, List.set_cons_zero]; done) | (simp only [Act.put, List.setIfInBounds_toArray, List.set_cons_succ, List.set_cons_zero]; rfl) | rfl, HBa, fun _ => keepT (hwt ⟨0, .data⟩ (by simp) rfl), fun _ => keepT (hwt ⟨3, .data⟩ (by simp) rfl), fun h => keepT (m8_4 (keep (by decide) h)), fun h => keepT (m8_0 (keep (by decide) h)), fun _ h => absurd h (by rw [nowU hun]; simp), fun h => (d1 (keep (by decide) h)), fun h => (d2 (keep (by decide) h)), fun h => (d3 (keep (by decide) h)), fun _ _ => O9, fun h => (d5 (keep (by decide) h)), fun h => (d6 (keep (by decide) h)), fun h => (d7 (keep (by decide) h)), fun h => absurd (m8_4 (keep (by decide) h)) (by rw [getD_both hun]; simp)⟩
                · have hoj2 := hoj
                  obtain rfl := Option.some.inj hoj
                  refine wpOp_value hoj2 rfl (v := (.slice (some ⟨g1, 0, none⟩) L1 c1)) (w' := w') (by first | rfl | (go_simp; done) | (simp [go_sem]; done) | (simp [execOp, go_sem]; done)) ?_
                  exact ⟨x56, x57, x58, x59, x60, (.slice (some ⟨g1, 0, none⟩) L1 c1), x62, x63, x64, by first | (simp only [Act.put, List.setIfInBounds_toArray, List.set_cons_succ, List.set_cons_zero]; done) | (simp only [Act.put, List.setIfInBounds_toArray, List.set_cons_succ, List.set_cons_zero]; rfl) | rfl, HBw, fun h => keepT (m4_0 (keep (by decide) h)), fun h => keepT (m4_3 (keep (by decide) h)), fun h => keepT (m8_4 (keep (by decide) h)), fun h => keepT (m8_0 (keep (by decide) h)), fun h h2 => (d0 (keep (by decide) h) (keepG (by decide) h2)), fun h => (d1 (keep (by decide) h)), fun h => (d2 (keep (by decide) h)), fun h => (d3 (keep (by decide) h)), fun h h2 => (d4 (keep (by decide) h) (keepG (by decide) h2)), fun _ => rfl, fun h => (d6 (keep (by decide) h)), fun h => (d7 (keep (by decide) h)), fun h => (d8 (keep (by decide) h))⟩
                · have hoj2 := hoj
                  obtain rfl := Option.some.inj hoj
                  refine wpOp_value hoj2 rfl (v := (.int .i64 (lq : Int))) (w' := w') (by first | rfl | (go_simp; done) | (simp [go_sem]; done) | (simp [execOp, go_sem]; done)) ?_
                  exact ⟨x56, x57, x58, x59, x60, x61, (.int .i64 (lq : Int)), x63, x64, by first | (simp only [Act.put, List.setIfInBounds_toArray, List.set_cons_succ, List.set_cons_zero]; done) | (simp only [Act.put, List.setIfInBounds_toArray, List.set_cons_succ, List.set_cons_zero]; rfl) | rfl, HBw, fun h => keepT (m4_0 (keep (by decide) h)), fun h => keepT (m4_3 (keep (by decide) h)), fun h => keepT (m8_4 (keep (by decide) h)), fun h => keepT (m8_0 (keep (by decide) h)), fun h h2 => (d0 (keep (by decide) h) (keepG (by decide) h2)), fun h => (d1 (keep (by decide) h)), fun h => (d2 (keep (by decide) h)), fun h => (d3 (keep (by decide) h)), fun h h2 => (d4 (keep (by decide) h) (keepG (by decide) h2)), fun h => (d5 (keep (by decide) h)), fun _ => rfl, fun h => (d7 (keep (by decide) h)), fun h => (d8 (keep (by decide) h))⟩
                · have hoj2 := hoj
                  obtain rfl := Option.some.inj hoj
                  have e5 := d5 (hwt ⟨5, .data⟩ (by simp) rfl)
                  have e6 := d6 (hwt ⟨6, .data⟩ (by simp) rfl)
                  subst e5 e6
                  refine wpOp_value hoj2 rfl (exec_sliceL _ _ rfl rfl rfl (run_cutP g1 L1 c1 lq hlLy hLcy w')) ?_
                  exact ⟨x56, x57, x58, x59, x60, _, _, _, x64, by first | (simp only [Act.put, List.setIfInBounds_toArray, List.set_cons_succ, List.set_cons_zero]; done) | (simp only [Act.put, List.setIfInBounds_toArray, List.set_cons_succ, List.set_cons_zero]; rfl) | rfl, HBw, fun h => keepT (m4_0 (keep (by decide) h)), fun h => keepT (m4_3 (keep (by decide) h)), fun h => keepT (m8_4 (keep (by decide) h)), fun h => keepT (m8_0 (keep (by decide) h)), fun h h2 => (d0 (keep (by decide) h) (keepG (by decide) h2)), fun h => (d1 (keep (by decide) h)), fun h => (d2 (keep (by decide) h)), fun h => (d3 (keep (by decide) h)), fun h h2 => (d4 (keep (by decide) h) (keepG (by decide) h2)), fun h => (d5 (keep (by decide) h)), fun h => (d6 (keep (by decide) h)), fun _ => rfl, fun h => (d8 (keep (by decide) h))⟩
                · have hoj2 := hoj
                  obtain rfl := Option.some.inj hoj
                  have e4 := d4 (hwt ⟨4, .data⟩ (by simp) rfl) (getD_both hun)
                  have e7 := d7 (hwt ⟨7, .data⟩ (by simp) rfl)
                  subst e7
                  obtain ⟨v9, w9, hr9, O9, G9⟩ := run_appM ePk W6.heap.size _ (0 + i) _ e4 _ (L1 - lq) ((tp.drop lq).flatMap pkL) (RBy.out.below HBw.out) (LBy.out) (pk_oneL _) (by omega) HBw.out.size _
                  refine wpOp_value hoj2 rfl (exec_app _ _ rfl rfl rfl hr9) ?_
                  have HBa : Hid (Below W6.heap.size W6 w9) := grown_below HBw.out HBw.out.size e4 G9
                  exact ⟨x56, x57, x58, x59, x60, x61, x62, _, _, by first | (simp only [Act.put, List.setIfInBounds_toArray, List.set_cons_succ, List.set_cons_zero]; done) | (simp only [Act.put, List.setIfInBounds_toArray, List.set_cons_succ, List.set_cons_zero]; rfl) | rfl, HBa, fun h => keepT (m4_0 (keep (by decide) h)), fun h => keepT (m4_3 (keep (by decide) h)), fun _ => keepT (hwt ⟨4, .data⟩ (by simp) rfl), fun _ => keepT (m4_0 (hwt ⟨4, .data⟩ (by simp) rfl)), fun _ h => absurd (keepG (by decide) h) (by rw [(hwt ⟨4, .data⟩ (by simp) rfl)]; simp), fun h => (d1 (keep (by decide) h)), fun h => (d2 (keep (by decide) h)), fun h => (d3 (keep (by decide) h)), fun _ h => absurd h (by rw [nowU hun]; simp), fun h => (d5 (keep (by decide) h)), fun h => (d6 (keep (by decide) h)), fun h => (d7 (keep (by decide) h)), fun _ => O9⟩
              case iendy =>
                rintro a' w' ⟨x56, x57, x58, x59, x60, x61, x62, x63, x64, rfl, HBw, m4_0, m4_3, m8_4, m8_0, d0, d1, d2, d3, d4, d5, d6, d7, d8⟩
                replace d1 := d1 rfl
                replace d2 := d2 rfl
                replace d3 := d3 rfl
                replace d5 := d5 rfl
                replace d6 := d6 rfl
                replace d7 := d7 rfl
                replace d8 := d8 rfl
                clear m4_0 m4_3 m8_4 m8_0 d0 d4
                simp only [Act.put, List.setIfInBounds_toArray, List.set_cons_succ, List.set_cons_zero]
                simp only [List.drop_succ_cons, List.drop_zero]
                have HP7 : Hid (w'.ownsRow W6.heap.size 35 3 x64 (0 + i + (L1 - lq)) ([] ++ ((tp.take i).flatMap pkL) ++ ((tp.drop lq).flatMap pkL))) := d8
                obtain ⟨a7, c7, ev7⟩ := own_form HP7.out
                subst ev7
                have HBZ : Hid (Below w.heap.size w w') := Below.then (Below.then (Below.then HB.out HB2.out) HB6.out) HBw.out
                have HO5' : Hid (w'.ownsRow w.heap.size 9 1 (.slice a6 (0 + i + (kk - lq)) c6) (0 + i + (kk - lq)) ((ts.take i ++ ts.drop lq).flatMap strE)) := (by
                  show World.ownsRow _ _ _ _ _ _ _
                  rw [List.flatMap_append]
                  have := own_below HS6.out HBw.out
                  rw [List.nil_append] at this
                  exact own_raise this (Below.then HB.out HB2.out).size)
                have HO1' : Hid (w'.ownsRow w.heap.size 35 3 (.slice a7 (0 + i + (L1 - lq)) c7) (0 + i + (L1 - lq)) ((tp.take i ++ tp.drop lq).flatMap pkL)) := (by
                  show World.ownsRow _ _ _ _ _ _ _
                  rw [List.flatMap_append]
                  have := HP7.out
                  rw [List.nil_append] at this
                  exact own_raise this (Below.then (Below.then HB.out HB2.out) HB6.out).size)
                have HCC : Hid (0 + i + (kk - lq) = (ts.take i ++ ts.drop lq).length ∧ 0 + i + (L1 - lq) = (tp.take i ++ tp.drop lq).length ∧ Cut SS PP M (i + 1) (p + (lq - i) + 1) (ts.take i ++ ts.drop lq) (tp.take i ++ tp.drop lq)) := ⟨(by rw [List.length_append, List.length_take, List.length_drop, ← HC.out.1]; omega), (by rw [List.length_append, List.length_take, List.length_drop, ← HC.out.2.1]; omega), HC2.out⟩
                have HQQ : Hid (0 + i + (kk - lq) = i + 1 + (N - (p + (lq - i) + 1)) ∧ p + (lq - i) + 1 ≤ N) := (by have := HLE.out; have := HMN.out; have := HNums.out; exact ⟨by omega, by omega⟩)
                clear d1 d2 d3 d5 d6 d7 d8 HBw
                go_wp2_with fail
                go_roundw
                case rel => exact ⟨i + 1, p + (lq - i) + 1, 0 + i + (kk - lq), 0 + i + (L1 - lq), _, _, by go_num, ⟨_, _, rfl⟩, ⟨_, _, rfl⟩, by omega, by omega, HQQ.out.1, HQQ.out.2, HCC, HO5', HO1', HBZ⟩
                case measure => simp only [lenW, intOf]; omega
          · have e : lq = i := by omega
            subst e
            have hgt : ¬ ((lq : Int) < lq) := by omega
            have HC2 : Hid (Cut SS PP M (lq + 1) (p + 1) ts tp) := HC.out.2.2.same HSL.out HPM.out hpM (by have := HLA.out; rw [Nat.sub_self, Nat.add_zero] at this; exact this)
            go_wp2_with fail
            go_roundw
            case rel => exact ⟨lq + 1, p + 1, kk, L1, ts, tp, by go_num, ⟨_, _, rfl⟩, ⟨_, _, rfl⟩, hL2, hL12, by have := HLE.out; omega, by omega, ⟨HC.out.1, HC.out.2.1, HC2.out⟩, own_below HO5.out HB2.out, own_below HO1.out HB2.out, Below.then HB.out HB2.out⟩
            case measure => simp only [lenW, intOf]; have := HLE.out; omega
    · have e : p = N := by omega
      subst e
      have hiL : ¬ (i : Int) < L := by have := HLE.out; omega
      have HZ : Hid (StrR SS PP 0 tp) := (by have h := HC.out.2.2; rw [← HMN.out] at h; exact h.fin HPM.out)
      go_wp2_with fail
      exact HA.out tp _ _ _ HC.out.2.1 HZ.out HO1.out HB.out
end Go.Proofs.Ytmoieckmbimgoaa

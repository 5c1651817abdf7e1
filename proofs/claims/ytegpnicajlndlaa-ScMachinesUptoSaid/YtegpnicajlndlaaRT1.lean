/- RT1 -/
import Derived.Test.YtegpnicajlndlaaRT0
namespace Go.Proofs.Ytegpnicajlndlaa
open Go.RowKit M
set_option linter.unusedSimpArgs false
set_option linter.unusedVariables false
theorem rputX (v : Int) (W : World) (X : ByteArray) (hX : X = ⟨(M.putL v).toArray⟩) (h : I64 v) : Calls Try.prog 58 #[.int .i64 v] W fun e w' => e = .returned (.string X) ∧ Below W.heap.size W w' := by
 subst hX
 exact rput_any v h.1 h.2 W
theorem cod_add {S S' X : ByteArray} {vs : List Int} {v : Int} (hS : S = codS vs) (hX : X = ⟨(M.putL v).toArray⟩) (hS' : S' = codS (vs ++ [v])) : S ++ X = S' := by rw [hS, hX, hS', codS_snoc]
theorem cod_sz {S X : ByteArray} {vs : List Int} {v : Int} (hS : S = codS vs) (hX : X = ⟨(M.putL v).toArray⟩) (h : I64 v ∧ (cod vs).length ≤ 1099511627776) : S.size + X.size ≤ 9223372036854775807 := by
 have h1 := (M.putL_len h.1.1 h.1.2).2
 have h2 : X.size = (M.putL v).length := by rw [hX]; rfl
 have h3 : S.size = (cod vs).length := by rw [hS]; rfl
 omega
set_option maxRecDepth 100000 in
set_option maxHeartbeats 8000000 in
theorem rtext_any (s : ST) (n : Nat) (hn : s.pc.length = n) (hf : s.Few) (hw : Wid s) (hl : s.ph.length = n ∧ s.regs.length = n ∧ s.buf.length = n) (vt vr vl vi vj vpc vph vrg vmm vbf : Value) (w : World) (hS : STV w s vpc vph vrg vmm vbf) :
    Calls Try.prog 21 #[.agg #[vt, vr, vl, vi, vj], .agg #[vpc, vph, vrg, vmm, vbf, .int .i64 s.lock]] w fun e w' => e = .returned (.string ⟨(textS s).toArray⟩) ∧ Below w.heap.size w w' := by
 have hnF : n ≤ 1048576 := by rw [← hn]; exact hf.pc
 have hmF := hf.mm
 obtain ⟨l1, l2, l3⟩ := hl
 have HPR : Hid (∀ vs v, Pre s (vs ++ [v]) → I64 v ∧ (cod vs).length ≤ 1099511627776) := fun vs v h => pre_put hf ⟨by omega, by omega⟩ hw h
 obtain ⟨ap, cp, ep, SP, _⟩ := hS.pc
 obtain ⟨ah, ch, eh, SH, _⟩ := hS.ph
 obtain ⟨ag, cg, eg⟩ := hS.rg.form
 obtain ⟨am, cm, em, SM, _⟩ := hS.mm
 obtain ⟨ab, cb, eb⟩ := hS.bf.form
 rw [hn] at ep
 rw [l1] at eh
 rw [l2] at eg
 rw [l3] at eb
 subst ep eh eg em eb
 obtain ⟨nm, hnm⟩ : ∃ k, s.mem.length = k := ⟨_, rfl⟩
 obtain ⟨lk, hlk⟩ : ∃ k, s.lock = k := ⟨_, rfl⟩
 rw [hnm] at hS hmF ⊢
 rw [hlk]
 have HT : Hid ((⟨(textS s).toArray⟩ : ByteArray) = codS (thsV s n ++ s.mem ++ s.buf.flatMap bfV ++ [lk])) := by show _ = _; unfold textS codS cod valsS; rw [hn, hlk]; simp
 generalize hTT : (⟨(textS s).toArray⟩ : ByteArray) = TT at HT ⊢
 clear hTT
 have HS : Hid (STV w s (.slice ap n cp) (.slice ah n ch) (.slice ag n cg) (.slice am nm cm) (.slice ab n cb)) := hS
 have HSP : Hid (Seg w ap (s.pc.flatMap intE)) := SP
 have HSH : Hid (Seg w ah (s.ph.flatMap intE)) := SH
 have HSM : Hid (Seg w am (s.mem.flatMap intE)) := SM
 have HF : Hid (s.Few ∧ Wid s) := ⟨hf, hw⟩
 have HL : Hid (s.pc.length = n ∧ s.ph.length = n ∧ s.regs.length = n ∧ s.buf.length = n ∧ s.mem.length = nm ∧ s.lock = lk) := ⟨hn, l1, l2, l3, hnm, hlk⟩
 clear hS SP SH SM hf hw hn l1 l2 l3 hnm hlk
 have hPut := rputX
 have hnI : (n : Int) ≤ 1048576 := by omega
 have hmI : (nm : Int) ≤ 1048576 := by omega
 have t1 : True := trivial
 have t2 : True := trivial
 go_enter Try.func21, Try.ntmps21
 go_wp2_with (first
  | (clear t1; refine wpList_boxS rfl 28 _ rfl [vt, vr, vl, vi, vj] rfl ?_; intro W0 b2 F0 C0; have B0 := F_b F0; clear F0 C0)
  | (clear t2; refine wpList_boxS rfl 32 _ rfl [.slice ap n cp, .slice ah n ch, .slice ag n cg, .slice am nm cm, .slice ab n cb, .int .i64 lk] rfl ?_; intro W1 b3 F1 C1; have B1 := F1.trans B0 B0.size; clear F1 B0))
 have HB1 : Hid (Below w.heap.size w W1) := B1
 have HC1 : Hid (IsS W1 b3 32 [.slice ap n cp, .slice ah n ch, .slice ag n cg, .slice am nm cm, .slice ab n cb, .int .i64 lk]) := C1
 clear C1 B1
 go_loopw [6, 5] (fun i t wr => ∃ (k : Nat) (S : ByteArray), k ≤ n ∧ i = .int .i64 (k : Int) ∧ t = .string S ∧ Hid (S = codS (thsV s k)) ∧ Hid (Below W1.heap.size W1 wr)) (fun i _ _ => n - (intOf i).toNat)
 case atStart => exact ⟨0, ⟨#[]⟩, by omega, rfl, rfl, rfl, Below.refl _ _⟩
 case round =>
  obtain ⟨k, S0, hk, rfl, rfl, HTx, HFr⟩ := hrel
  have C := HC1.out.grown HFr.out
  have B := Below.then HB1.out HFr.out
  obtain ⟨x0, x1, x2, x3, x4, x5⟩ := st6 C
  by_cases hlt : k < n
  · have hki : (k : Int) < n := by omega
    obtain ⟨e1, e2, e3, e4, e5, e6⟩ := HL.out
    obtain ⟨pj, hpj⟩ : ∃ x, s.pc[k]? = some x := ⟨_, List.getElem?_eq_getElem (by omega)⟩
    obtain ⟨hj, hhj⟩ : ∃ x, s.ph[k]? = some x := ⟨_, List.getElem?_eq_getElem (by omega)⟩
    obtain ⟨rg, hrg⟩ : ∃ x, s.regs[k]? = some x := ⟨_, List.getElem?_eq_getElem (by omega)⟩
    have HPX : Hid (Pre s (thsV s k ++ (pj :: hj :: rg))) := by
     show Pre s _
     have := pre_ths s (i := k + 1) (by omega)
     rw [thsV_succ, thV_of hpj hhj hrg] at this
     exact this
    have HNX : Hid (thsV s (k + 1) = thsV s k ++ [pj] ++ [hj] ++ rg) := by show _ = _; rw [thsV_succ, thV_of hpj hhj hrg]; simp
    have pr1 : Pre s (thsV s k ++ [pj]) := by have := HPX.out; rw [show thsV s k ++ (pj :: hj :: rg) = thsV s k ++ [pj] ++ (hj :: rg) by simp] at this; exact this.left
    have pr2 : Pre s (thsV s k ++ [pj] ++ [hj]) := by have := HPX.out; rw [show thsV s k ++ (pj :: hj :: rg) = thsV s k ++ [pj] ++ [hj] ++ rg by simp] at this; exact this.left
    have prp := (HPR.out _ _ pr1).1
    have prh := (HPR.out _ _ pr2).1
    obtain ⟨bp, op, ep, hbp, yp⟩ := HSP.out.int hpj
    obtain ⟨bh, oh, eh, hbh, yh⟩ := HSH.out.int hhj
    obtain ⟨bg, og, aj, cj, eg, hbg, yg, SG, _⟩ := HS.out.rg.at k rg hrg
    subst ep eh eg
    obtain ⟨lr, hlr⟩ : ∃ q, rg.length = q := ⟨_, rfl⟩
    rw [hlr] at yg
    have hlr20 : lr ≤ 1048576 := by rw [← hlr]; exact flat_row HF.out.1.rr hrg
    have hlrI : (lr : Int) ≤ 1048576 := by omega
    have HLR : Hid (rg.length = lr) := hlr
    have HSG : Hid (Seg w aj (rg.flatMap intE)) := SG
    have yp0 : wr.cell? ⟨bp, op + k, none⟩ = some (.int .i64 pj) := by rw [B.cell (p := ⟨bp, op + k, none⟩) hbp]; exact yp
    have yh0 : wr.cell? ⟨bh, oh + k, none⟩ = some (.int .i64 hj) := by rw [B.cell (p := ⟨bh, oh + k, none⟩) hbh]; exact yh
    obtain ⟨X1, hX1⟩ : ∃ X : ByteArray, X = ⟨(M.putL pj).toArray⟩ := ⟨_, rfl⟩
    obtain ⟨X2, hX2⟩ : ∃ X : ByteArray, X = ⟨(M.putL hj).toArray⟩ := ⟨_, rfl⟩
    obtain ⟨S1, e1'⟩ : ∃ S : ByteArray, S = codS (thsV s k ++ [pj]) := ⟨_, rfl⟩
    obtain ⟨S2, e2'⟩ : ∃ S : ByteArray, S = codS (thsV s k ++ [pj] ++ [hj]) := ⟨_, rfl⟩
    have hS1 : S0 ++ X1 = S1 := cod_add HTx.out hX1 e1'
    have hS2 : S1 ++ X2 = S2 := cod_add e1' hX2 e2'
    have hz1 := cod_sz HTx.out hX1 (HPR.out _ _ pr1)
    have hz2 := cod_sz e1' hX2 (HPR.out _ _ pr2)
    have HYG : Hid (bg < w.heap.size ∧ w.cell? ⟨bg, og + k, none⟩ = some (.slice aj (lr : Nat) cj)) := ⟨hbg, yg⟩
    have HS2 : Hid (S2 = codS (thsV s k ++ [pj] ++ [hj] ++ rg.take 0)) := by show _ = _; rw [e2']; simp
    clear e1 e2 e3 e4 e5 e6 hpj hhj hrg hlr SG e1' e2' yp yh yg pr1 pr2 HTx
    go_wp2_with fail
    clear x0 x1 x2 x3 x4 x5
    refine grow_allW (by kernel_rfl) (by kernel_rfl) ?_
    refine WG.put rfl (v := (.string S0)) (fun w => by first | rfl | (go_simp; done) | (simp [go_sem, hki]; done) | (simp [execOp, go_sem, hki]; done)) ?_; simp only [sP]
    refine WG.put rfl (v := (.pointer (some ⟨b3, 0, none⟩))) (fun w => by first | rfl | (go_simp; done) | (simp [go_sem, hki]; done) | (simp [execOp, go_sem, hki]; done)) ?_; simp only [sP]
    refine WG.load1 rfl 29 _ rfl rfl (C) (v := (.slice (some ⟨bp, op, none⟩) n cp)) rfl (fun w h => by simp [go_sem, h]) ?_; simp only [sP]
    refine WG.put rfl (v := (.int .i64 (k : Int))) (fun w => by first | rfl | (go_simp; done) | (simp [go_sem, hki]; done) | (simp [execOp, go_sem, hki]; done)) ?_; simp only [sP]
    refine WG.put rfl (v := (.pointer (some ⟨bp, op + k, none⟩))) (fun w => by first | rfl | (go_simp; done) | (simp [go_sem, hki]; done) | (simp [execOp, go_sem, hki]; done)) ?_; simp only [sP]
    refine WG.cell rfl 3 _ rfl rfl (yp0) (fun w h => by simp [go_sem, h]) ?_; simp only [sP]
    refine WG.call rfl (f := 58) (v := (.string X1)) (fun W _ => hPut pj W X1 hX1 prp) (fun w => by first | rfl | (go_simp; done) | (simp [execOp, go_sem]; done)) ?_; simp only [sP]
    refine WG.put rfl (v := (.string S1)) (fun w => by first | rfl | (go_simp; done) | (simp [go_sem, hS1, hz1, hki]; done) | (simp [execOp, go_sem, hS1, hz1, hki]; done)) ?_; simp only [sP]
    refine WG.put rfl (v := (.pointer (some ⟨b3, 1, none⟩))) (fun w => by first | rfl | (go_simp; done) | (simp [go_sem, hki]; done) | (simp [execOp, go_sem, hki]; done)) ?_; simp only [sP]
    refine WG.load1 rfl 29 _ rfl rfl (C) (v := (.slice (some ⟨bh, oh, none⟩) n ch)) rfl (fun w h => by simp [go_sem, h]) ?_; simp only [sP]
    refine WG.put rfl (v := (.int .i64 (k : Int))) (fun w => by first | rfl | (go_simp; done) | (simp [go_sem, hki]; done) | (simp [execOp, go_sem, hki]; done)) ?_; simp only [sP]
    refine WG.put rfl (v := (.pointer (some ⟨bh, oh + k, none⟩))) (fun w => by first | rfl | (go_simp; done) | (simp [go_sem, hki]; done) | (simp [execOp, go_sem, hki]; done)) ?_; simp only [sP]
    refine WG.cell rfl 3 _ rfl rfl (yh0) (fun w h => by simp [go_sem, h]) ?_; simp only [sP]
    refine WG.call rfl (f := 58) (v := (.string X2)) (fun W _ => hPut hj W X2 hX2 prh) (fun w => by first | rfl | (go_simp; done) | (simp [execOp, go_sem]; done)) ?_; simp only [sP]
    refine WG.put rfl (v := (.string S2)) (fun w => by first | rfl | (go_simp; done) | (simp [go_sem, hS2, hz2, hki]; done) | (simp [execOp, go_sem, hS2, hz2, hki]; done)) ?_; simp only [sP]
    refine WG.put rfl (v := (.string S2)) (fun w => by first | rfl | (go_simp; done) | (simp [go_sem, hki]; done) | (simp [execOp, go_sem, hki]; done)) ?_; simp only [sP]
    refine WG.nil ?_
    intro W3 B3
    have HF3 : Hid (Below W1.heap.size W1 W3) := Below.then HFr.out B3
    clear B B3 C yp0 yh0 hS1 hS2 hX1 hX2 hz1 hz2 HFr
    go_wp2_with fail
    obtain ⟨WR, hWR⟩ : ∃ W, W = wr := ⟨_, rfl⟩
    subst hWR
    go_loopw [7, 5] (fun i t wr => ∃ (q : Nat) (S : ByteArray), q ≤ lr ∧ i = .int .i64 (q : Int) ∧ t = .string S ∧ Hid (S = codS (thsV s k ++ [pj] ++ [hj] ++ rg.take q)) ∧ Hid (Below W1.heap.size W1 wr)) (fun i _ _ => lr - (intOf i).toNat)
    case atStart => exact ⟨0, S2, by omega, rfl, rfl, HS2, HF3⟩
    case round =>
     obtain ⟨q, S3, hq, rfl, rfl, HTq, HFq⟩ := hrel
     have C := HC1.out.grown HFq.out
     have Bq := Below.then HB1.out HFq.out
     obtain ⟨x0, x1, x2, x3, x4, x5⟩ := st6 C
     have yg0 : wr.cell? ⟨bg, og + k, none⟩ = some (.slice aj (lr : Nat) cj) := by rw [Bq.cell (p := ⟨bg, og + k, none⟩) HYG.out.1]; exact HYG.out.2
     by_cases hqt : q < lr
     · have hqi : (q : Int) < lr := by omega
       obtain ⟨x, hx⟩ : ∃ x, rg[q]? = some x := ⟨_, List.getElem?_eq_getElem (by rw [HLR.out]; exact hqt)⟩
       obtain ⟨bx, ox, ex, hbx, yx⟩ := HSG.out.int hx
       subst ex
       have yx0 : wr.cell? ⟨bx, ox + q, none⟩ = some (.int .i64 x) := by rw [Bq.cell (p := ⟨bx, ox + q, none⟩) hbx]; exact yx
       have prq : Pre s (thsV s k ++ [pj] ++ [hj] ++ rg.take q ++ [x]) := by
        have := HPX.out
        rw [show thsV s k ++ (pj :: hj :: rg) = thsV s k ++ [pj] ++ [hj] ++ rg.take q ++ [x] ++ rg.drop (q + 1) by
         rw [List.append_assoc _ [x], List.singleton_append, ← dropS_cons hx, List.append_assoc _ (rg.take q), List.take_append_drop]; simp] at this
        exact this.left
       have prx := (HPR.out _ _ prq).1
       have HTK : Hid (rg.take (q + 1) = rg.take q ++ [x]) := takeS_snoc hx
       obtain ⟨X1, hX1⟩ : ∃ X : ByteArray, X = ⟨(M.putL x).toArray⟩ := ⟨_, rfl⟩
       obtain ⟨S4, e4'⟩ : ∃ S : ByteArray, S = codS (thsV s k ++ [pj] ++ [hj] ++ rg.take q ++ [x]) := ⟨_, rfl⟩
       have hS4 : S3 ++ X1 = S4 := cod_add HTq.out hX1 e4'
       have hz4 := cod_sz HTq.out hX1 (HPR.out _ _ prq)
       have HS4 : Hid (S4 = codS (thsV s k ++ [pj] ++ [hj] ++ rg.take (q + 1))) := by show _ = _; rw [HTK.out, ← List.append_assoc]; exact e4'
       have hp := fun W => hPut x W X1 hX1 prx
       clear hx yx prq e4' hX1 HTq
       go_wp2_with (go_at_call 58; refine (hp _).mono ?_; rintro e W4 ⟨rfl, B4⟩; have F4 := Below.then HFq.out B4)
       go_roundw
       case rel => exact ⟨q + 1, S4, by omega, by go_num, by first | rfl | rw [hS4], HS4, F4⟩
       case measure => simp [intOf]; omega
     · obtain rfl : q = lr := by omega
       have hqi : ¬ (q : Int) < q := by omega
       have HTr : Hid (S3 = codS (thsV s (k + 1))) := by
        show _ = _
        have := HTq.out
        rw [List.take_of_length_le (by rw [HLR.out]; exact Nat.le_refl _), ← HNX.out] at this
        exact this
       clear HTq
       go_wp2_with fail
       go_roundw
       case rel => exact ⟨k + 1, S3, by omega, by go_num, rfl, HTr, HFq⟩
       case measure => simp [intOf]; omega
  · obtain rfl : k = n := by omega
    have hki : ¬ (k : Int) < k := by omega
    go_wp2_with fail
    have HT3 : Hid (S0 = codS (thsV s k ++ s.mem.take 0)) := by show _ = _; rw [HTx.out]; simp
    clear C B x0 x1 x2 x3 x4 x5
    obtain ⟨WR, hWR⟩ : ∃ W, W = wr := ⟨_, rfl⟩
    subst hWR
    go_loopw [8, 5] (fun i t wr => ∃ (q : Nat) (S : ByteArray), q ≤ nm ∧ i = .int .i64 (q : Int) ∧ t = .string S ∧ Hid (S = codS (thsV s k ++ s.mem.take q)) ∧ Hid (Below W1.heap.size W1 wr)) (fun i _ _ => nm - (intOf i).toNat)
    case atStart => exact ⟨0, S0, by omega, rfl, rfl, HT3, HFr⟩
    case round =>
     obtain ⟨q, S3, hq, rfl, rfl, HTq, HFq⟩ := hrel
     have C := HC1.out.grown HFq.out
     have Bq := Below.then HB1.out HFq.out
     obtain ⟨x0, x1, x2, x3, x4, x5⟩ := st6 C
     by_cases hqt : q < nm
     · have hqi : (q : Int) < nm := by omega
       obtain ⟨x, hx⟩ : ∃ x, s.mem[q]? = some x := ⟨_, List.getElem?_eq_getElem (by rw [HL.out.2.2.2.2.1]; exact hqt)⟩
       obtain ⟨bx, ox, ex, hbx, yx⟩ := HSM.out.int hx
       subst ex
       have yx0 : wr.cell? ⟨bx, ox + q, none⟩ = some (.int .i64 x) := by rw [Bq.cell (p := ⟨bx, ox + q, none⟩) hbx]; exact yx
       have HTK : Hid (s.mem.take (q + 1) = s.mem.take q ++ [x]) := takeS_snoc hx
       have prq : Pre s (thsV s k ++ s.mem.take q ++ [x]) := by
        have := pre_mem s (q + 1)
        rw [HL.out.1, HTK.out, ← List.append_assoc] at this
        exact this
       have prx := (HPR.out _ _ prq).1
       obtain ⟨X1, hX1⟩ : ∃ X : ByteArray, X = ⟨(M.putL x).toArray⟩ := ⟨_, rfl⟩
       obtain ⟨S4, e4'⟩ : ∃ S : ByteArray, S = codS (thsV s k ++ s.mem.take q ++ [x]) := ⟨_, rfl⟩
       have hS4 : S3 ++ X1 = S4 := cod_add HTq.out hX1 e4'
       have hz4 := cod_sz HTq.out hX1 (HPR.out _ _ prq)
       have HS4 : Hid (S4 = codS (thsV s k ++ s.mem.take (q + 1))) := by show _ = _; rw [HTK.out, ← List.append_assoc]; exact e4'
       have hp := fun W => hPut x W X1 hX1 prx
       clear hx yx prq e4' hX1 HTq
       go_wp2_with (go_at_call 58; refine (hp _).mono ?_; rintro e W4 ⟨rfl, B4⟩; have F4 := Below.then HFq.out B4)
       go_roundw
       case rel => exact ⟨q + 1, S4, by omega, by go_num, by first | rfl | rw [hS4], HS4, F4⟩
       case measure => simp [intOf]; omega
     · obtain rfl : q = nm := by omega
       have hqi : ¬ (q : Int) < q := by omega
       have HT4 : Hid (S3 = codS (thsV s k ++ s.mem ++ (s.buf.take 0).flatMap bfV)) := by
        show _ = _
        have := HTq.out
        rw [List.take_of_length_le (by rw [HL.out.2.2.2.2.1]; exact Nat.le_refl _)] at this
        rw [this]; simp
       clear HTq
       go_wp2_with fail
       clear C Bq x0 x1 x2 x3 x4 x5
       obtain ⟨WR2, hWR2⟩ : ∃ W, W = wr := ⟨_, rfl⟩
       subst hWR2
       go_loopw [9, 5] (fun i t wr => ∃ (j : Nat) (S : ByteArray), j ≤ k ∧ i = .int .i64 (j : Int) ∧ t = .string S ∧ Hid (S = codS (thsV s k ++ s.mem ++ (s.buf.take j).flatMap bfV)) ∧ Hid (Below W1.heap.size W1 wr)) (fun i _ _ => k - (intOf i).toNat)
       case atStart => exact ⟨0, S3, by omega, rfl, rfl, HT4, HFq⟩
       case round =>
        obtain ⟨j, S5, hj, rfl, rfl, HTj, HFj⟩ := hrel
        have Bj := Below.then HB1.out HFj.out
        have Cj := HC1.out.grown HFj.out
        obtain ⟨x0, x1, x2, x3, x4, x5⟩ := st6 Cj
        by_cases hjt : j < k
        · have hji : (j : Int) < k := by omega
          obtain ⟨bf, hbf⟩ : ∃ x, s.buf[j]? = some x := ⟨_, List.getElem?_eq_getElem (by rw [HL.out.2.2.2.1]; exact hjt)⟩
          obtain ⟨bb, ob, aj, cj, eb, hbb, yb, SB, _⟩ := HS.out.bf.at j bf hbf
          subst eb
          obtain ⟨lb, hlb⟩ : ∃ q, bf.length = q := ⟨_, rfl⟩
          rw [hlb] at yb
          have hlb20 : lb ≤ 1048576 := by rw [← hlb]; exact flat_row HF.out.1.bb hbf
          have hlbI : (lb : Int) ≤ 1048576 := by omega
          have HLB : Hid (bf.length = lb) := hlb
          have HSB : Hid (Seg w aj (bf.flatMap wrE)) := SB
          have HYB : Hid (bb < w.heap.size ∧ w.cell? ⟨bb, ob + j, none⟩ = some (.slice aj (lb : Nat) cj)) := ⟨hbb, yb⟩
          have yb0 : wr.cell? ⟨bb, ob + j, none⟩ = some (.slice aj (lb : Nat) cj) := by rw [Bj.cell (p := ⟨bb, ob + j, none⟩) hbb]; exact yb
          have HPX : Hid (Pre s (thsV s k ++ s.mem ++ (s.buf.take j).flatMap bfV ++ ([(lb : Int)] ++ wrV bf))) := by
           show Pre s _
           have := pre_buf s (j + 1)
           rw [HL.out.1, takeS_snoc hbf, List.flatMap_append] at this
           simp only [List.flatMap_cons, List.flatMap_nil, List.append_nil] at this
           rw [← List.append_assoc] at this
           unfold bfV at this
           rw [hlb] at this
           exact this
          have HNX : Hid (thsV s k ++ s.mem ++ (s.buf.take (j + 1)).flatMap bfV = thsV s k ++ s.mem ++ (s.buf.take j).flatMap bfV ++ [(lb : Int)] ++ wrV bf) := by
           show _ = _
           rw [takeS_snoc hbf, List.flatMap_append]
           simp only [List.flatMap_cons, List.flatMap_nil, List.append_nil]
           unfold bfV
           rw [hlb]
           simp
          obtain ⟨V1, eV1⟩ : ∃ V, V = thsV s k ++ s.mem ++ (s.buf.take j).flatMap bfV := ⟨_, rfl⟩
          rw [← eV1] at HTj HPX HNX
          have pr1 : Pre s (V1 ++ [(lb : Int)]) := by have := HPX.out; rw [← List.append_assoc] at this; exact this.left
          have prx := (HPR.out _ _ pr1).1
          obtain ⟨X1, hX1⟩ : ∃ X : ByteArray, X = ⟨(M.putL (lb : Int)).toArray⟩ := ⟨_, rfl⟩
          obtain ⟨S6, e6'⟩ : ∃ S : ByteArray, S = codS (V1 ++ [(lb : Int)]) := ⟨_, rfl⟩
          have hS6 : S5 ++ X1 = S6 := cod_add HTj.out hX1 e6'
          have hz6 := cod_sz HTj.out hX1 (HPR.out _ _ pr1)
          have HS6 : Hid (S6 = codS (V1 ++ [(lb : Int)] ++ wrV (bf.take 0))) := by show _ = _; rw [e6']; simp [wrV]
          have hp := fun W => hPut (lb : Int) W X1 hX1 prx
          clear hbf hlb SB yb eV1 HTj Cj pr1 hX1 e6'
          go_wp2_with (go_at_call 58; refine (hp _).mono ?_; rintro e W2 ⟨rfl, B2⟩)
          have HF2 : Hid (Below W1.heap.size W1 W2) := Below.then HFj.out B2
          clear B2 Bj yb0 HFj x0 x1 x2 x3 x4 x5 hp
          obtain ⟨WR3, hWR3⟩ : ∃ W, W = wr := ⟨_, rfl⟩
          subst hWR3
          go_loopw [10, 5] (fun i t wr => ∃ (q : Nat) (S : ByteArray), q ≤ lb ∧ i = .int .i64 (q : Int) ∧ t = .string S ∧ Hid (S = codS (V1 ++ [(lb : Int)] ++ wrV (bf.take q))) ∧ Hid (Below W1.heap.size W1 wr)) (fun i _ _ => lb - (intOf i).toNat)
          case atStart => exact ⟨0, S6, by omega, rfl, by first | rfl | rw [hS6], HS6, HF2⟩
          case round =>
           obtain ⟨q, S0, hq, rfl, rfl, HTq, HFq⟩ := hrel
           have C := HC1.out.grown HFq.out
           have Bq := Below.then HB1.out HFq.out
           obtain ⟨x0, x1, x2, x3, x4, x5⟩ := st6 C
           have yb0 : wr.cell? ⟨bb, ob + j, none⟩ = some (.slice aj (lb : Nat) cj) := by rw [Bq.cell (p := ⟨bb, ob + j, none⟩) HYB.out.1]; exact HYB.out.2
           by_cases hqt : q < lb
           · have hqi : (q : Int) < lb := by omega
             obtain ⟨x, hx⟩ : ∃ x, bf[q]? = some x := ⟨_, List.getElem?_eq_getElem (by rw [HLB.out]; exact hqt)⟩
             obtain ⟨g1, o1, ex, hbx, hc⟩ := HSB.out.wr hx
             subst ex
             obtain ⟨xa, xb⟩ := x
             have hcx : ∀ (i : Nat) u, ([.int .i64 xa, .int .i64 xb] : List Value)[i]? = some u → wr.cell? ⟨g1, o1 + q * 2 + i, none⟩ = some u := fun i u hu => by rw [Bq.cell (p := ⟨g1, o1 + q * 2 + i, none⟩) hbx]; exact hc i u hu
             have HTK : Hid (wrV (bf.take (q + 1)) = wrV (bf.take q) ++ [xa] ++ [xb]) := by show _ = _; rw [takeS_snoc hx, wrV_snoc, List.append_assoc]
             have hpr0 : Pre s (V1 ++ [(lb : Int)] ++ wrV (bf.take q) ++ [xa] ++ [xb]) := by
              have := HPX.out
              rw [show V1 ++ ([(lb : Int)] ++ wrV bf) = V1 ++ [(lb : Int)] ++ wrV (bf.take q) ++ [xa] ++ [xb] ++ wrV (bf.drop (q + 1)) by
               have e : wrV bf = wrV (bf.take q) ++ ([xa] ++ ([xb] ++ wrV (bf.drop (q + 1)))) := by
                conv => lhs; rw [← List.take_append_drop q bf, dropS_cons hx]
                unfold wrV
                rw [List.flatMap_append, List.flatMap_cons]
                rfl
               rw [e]; simp] at this
              exact this.left
             have prb := (HPR.out _ _ hpr0).1
             have pra := (HPR.out _ _ hpr0.left).1
             obtain ⟨X1, hX1⟩ : ∃ X : ByteArray, X = ⟨(M.putL xa).toArray⟩ := ⟨_, rfl⟩
             obtain ⟨X2, hX2⟩ : ∃ X : ByteArray, X = ⟨(M.putL xb).toArray⟩ := ⟨_, rfl⟩
             obtain ⟨S1, e1'⟩ : ∃ S : ByteArray, S = codS (V1 ++ [(lb : Int)] ++ wrV (bf.take q) ++ [xa]) := ⟨_, rfl⟩
             obtain ⟨S2, e2'⟩ : ∃ S : ByteArray, S = codS (V1 ++ [(lb : Int)] ++ wrV (bf.take q) ++ [xa] ++ [xb]) := ⟨_, rfl⟩
             have hS1 : S0 ++ X1 = S1 := cod_add HTq.out hX1 e1'
             have hS2 : S1 ++ X2 = S2 := cod_add e1' hX2 e2'
             have hz1 := cod_sz HTq.out hX1 (HPR.out _ _ hpr0.left)
             have hz2 := cod_sz e1' hX2 (HPR.out _ _ hpr0)
             have HS2 : Hid (S2 = codS (V1 ++ [(lb : Int)] ++ wrV (bf.take (q + 1)))) := by show _ = _; rw [HTK.out, ← List.append_assoc, ← List.append_assoc]; exact e2'
             clear hx hc hpr0 e1' e2' HTq
             go_wp2_with fail
             clear x0 x1 x2 x3 x4 x5
             refine grow_allW (by kernel_rfl) (by kernel_rfl) ?_
             refine WG.put rfl (v := (.string S0)) (fun w => by first | rfl | (go_simp; done) | (simp [go_sem, hji, hqi]; done) | (simp [execOp, go_sem, hji, hqi]; done)) ?_; simp only [sP]
             refine WG.put rfl (v := (.pointer (some ⟨b3, 4, none⟩))) (fun w => by first | rfl | (go_simp; done) | (simp [go_sem, hji, hqi]; done) | (simp [execOp, go_sem, hji, hqi]; done)) ?_; simp only [sP]
             refine WG.load1 rfl 30 _ rfl rfl (C) (v := (.slice (some ⟨bb, ob, none⟩) k cb)) rfl (fun w h => by simp [go_sem, h]) ?_; simp only [sP]
             refine WG.put rfl (v := (.int .i64 (j : Int))) (fun w => by first | rfl | (go_simp; done) | (simp [go_sem, hji, hqi]; done) | (simp [execOp, go_sem, hji, hqi]; done)) ?_; simp only [sP]
             refine WG.put rfl (v := (.pointer (some ⟨bb, ob + j, none⟩))) (fun w => by first | rfl | (go_simp; done) | (simp [go_sem, hji, hqi]; done) | (simp [execOp, go_sem, hji, hqi]; done)) ?_; simp only [sP]
             refine WG.cell rfl 48 _ rfl rfl (yb0) (fun w h => by simp [go_sem, h]) ?_; simp only [sP]
             refine WG.put rfl (v := (.int .i64 (q : Int))) (fun w => by first | rfl | (go_simp; done) | (simp [go_sem, hji, hqi]; done) | (simp [execOp, go_sem, hji, hqi]; done)) ?_; simp only [sP]
             refine WG.put rfl (v := (.pointer (some ⟨g1, o1 + q * 2, none⟩))) (fun w => by first | rfl | (go_simp; done) | (simp [go_sem, hji, hqi]; done) | (simp [execOp, go_sem, hji, hqi]; done)) ?_; simp only [sP]
             refine WG.put rfl (v := (.pointer (some ⟨g1, o1 + q * 2 + 0, none⟩))) (fun w => by first | rfl | (go_simp; done) | (simp [go_sem, hji, hqi]; done) | (simp [execOp, go_sem, hji, hqi]; done)) ?_; simp only [sP]
             refine WG.cell rfl 3 _ rfl rfl (hcx 0 _ rfl) (fun w h => ldcI w h) ?_; simp only [sP]
             refine WG.call rfl (f := 58) (v := (.string X1)) (fun W _ => hPut xa W X1 hX1 pra) (fun w => by first | rfl | (go_simp; done) | (simp [execOp, go_sem]; done)) ?_; simp only [sP]
             refine WG.put rfl (v := (.string S1)) (fun w => by first | rfl | (go_simp; done) | (simp [go_sem, hS1, hz1, hji, hqi]; done) | (simp [execOp, go_sem, hS1, hz1, hji, hqi]; done)) ?_; simp only [sP]
             refine WG.put rfl (v := (.pointer (some ⟨b3, 4, none⟩))) (fun w => by first | rfl | (go_simp; done) | (simp [go_sem, hji, hqi]; done) | (simp [execOp, go_sem, hji, hqi]; done)) ?_; simp only [sP]
             refine WG.load1 rfl 30 _ rfl rfl (C) (v := (.slice (some ⟨bb, ob, none⟩) k cb)) rfl (fun w h => by simp [go_sem, h]) ?_; simp only [sP]
             refine WG.put rfl (v := (.int .i64 (j : Int))) (fun w => by first | rfl | (go_simp; done) | (simp [go_sem, hji, hqi]; done) | (simp [execOp, go_sem, hji, hqi]; done)) ?_; simp only [sP]
             refine WG.put rfl (v := (.pointer (some ⟨bb, ob + j, none⟩))) (fun w => by first | rfl | (go_simp; done) | (simp [go_sem, hji, hqi]; done) | (simp [execOp, go_sem, hji, hqi]; done)) ?_; simp only [sP]
             refine WG.cell rfl 48 _ rfl rfl (yb0) (fun w h => by simp [go_sem, h]) ?_; simp only [sP]
             refine WG.put rfl (v := (.int .i64 (q : Int))) (fun w => by first | rfl | (go_simp; done) | (simp [go_sem, hji, hqi]; done) | (simp [execOp, go_sem, hji, hqi]; done)) ?_; simp only [sP]
             refine WG.put rfl (v := (.pointer (some ⟨g1, o1 + q * 2, none⟩))) (fun w => by first | rfl | (go_simp; done) | (simp [go_sem, hji, hqi]; done) | (simp [execOp, go_sem, hji, hqi]; done)) ?_; simp only [sP]
             refine WG.put rfl (v := (.pointer (some ⟨g1, o1 + q * 2 + 1, none⟩))) (fun w => by first | rfl | (go_simp; done) | (simp [go_sem, hji, hqi]; done) | (simp [execOp, go_sem, hji, hqi]; done)) ?_; simp only [sP]
             refine WG.cell rfl 2 _ rfl rfl (hcx 1 _ rfl) (fun w h => ld2 w h) ?_; simp only [sP]
             refine WG.call rfl (f := 58) (v := (.string X2)) (fun W _ => hPut xb W X2 hX2 prb) (fun w => by first | rfl | (go_simp; done) | (simp [execOp, go_sem]; done)) ?_; simp only [sP]
             refine WG.put rfl (v := (.string S2)) (fun w => by first | rfl | (go_simp; done) | (simp [go_sem, hS2, hz2, hji, hqi]; done) | (simp [execOp, go_sem, hS2, hz2, hji, hqi]; done)) ?_; simp only [sP]
             refine WG.put rfl (v := (.string S2)) (fun w => by first | rfl | (go_simp; done) | (simp [go_sem, hji, hqi]; done) | (simp [execOp, go_sem, hji, hqi]; done)) ?_; simp only [sP]
             refine WG.nil ?_
             intro W6 B6
             have F6 : Hid (Below W1.heap.size W1 W6) := Below.then HFq.out B6
             go_wp2_with fail
             go_roundw
             case rel => exact ⟨q + 1, S2, by omega, by go_num, rfl, HS2, F6⟩
             case measure => simp [intOf]; omega
           · obtain rfl : q = lb := by omega
             have hqi : ¬ (q : Int) < q := by omega
             have HTr : Hid (S0 = codS (thsV s k ++ s.mem ++ (s.buf.take (j + 1)).flatMap bfV)) := by
              show _ = _
              have := HTq.out
              rw [List.take_of_length_le (by rw [HLB.out]; exact Nat.le_refl _), ← HNX.out] at this
              exact this
             clear HTq
             go_wp2_with fail
             go_roundw
             case rel => exact ⟨j + 1, S0, by omega, by go_num, rfl, HTr, HFq⟩
             case measure => simp [intOf]; omega
        · obtain rfl : j = k := by omega
          have hji : ¬ (j : Int) < j := by omega
          have prl : Pre s (thsV s j ++ s.mem ++ s.buf.flatMap bfV ++ [lk]) := by
           have := pre_all s
           rw [HL.out.1, HL.out.2.2.2.2.2] at this
           exact this
          have prx := (HPR.out _ _ prl).1
          have e5' := HTj.out
          rw [List.take_of_length_le (by rw [HL.out.2.2.2.1]; exact Nat.le_refl _)] at e5'
          obtain ⟨X1, hX1⟩ : ∃ X : ByteArray, X = ⟨(M.putL lk).toArray⟩ := ⟨_, rfl⟩
          have hS6 : S5 ++ X1 = TT := cod_add e5' hX1 HT.out
          have hz6 := cod_sz e5' hX1 (HPR.out _ _ prl)
          have hp := fun W => hPut lk W X1 hX1 prx
          clear prl HTj e5' hX1
          go_wp2_with (go_at_call 58; refine (hp _).mono ?_; rintro e W5 ⟨rfl, B5⟩)
          go_ret
          exact ⟨by first | rfl | rw [hS6], Below.then Bj B5⟩
end Go.Proofs.Ytegpnicajlndlaa

/- RI1 -/
import Derived.Test.YtegpnicajlndlaaQbf
import Derived.Test.YtegpnicajlndlaaQD
namespace Go.Proofs.Ytegpnicajlndlaa
open Go.RowKit M
set_option linter.unusedSimpArgs false
set_option linter.unusedVariables false
set_option maxRecDepth 100000 in
set_option maxHeartbeats 8000000 in
theorem ris_lens (n nl np nh ng nm nb : Nat) (at0 ar al ap ah ag am ab : Option Addr) (ct cr cl cp ch cg cm cb nr : Nat) (vi vj : Value) (lk : Int) (w : World)
    (hb : np ≤ 1048576 ∧ nh ≤ 1048576 ∧ ng ≤ 1048576 ∧ nm ≤ 1048576 ∧ nb ≤ 1048576 ∧ n ≤ 1048576 ∧ nl ≤ 1048576) (h : ¬ (np = n ∧ nh = n ∧ ng = n ∧ nb = n ∧ nm = nl ∧ -1 ≤ lk ∧ lk ≤ (n : Int) - 1)) :
    Calls Try.prog 31 #[.agg #[.slice at0 n ct, .slice ar nr cr, .slice al nl cl, vi, vj], .agg #[.slice ap np cp, .slice ah nh ch, .slice ag ng cg, .slice am nm cm, .slice ab nb cb, .int .i64 lk]] w fun e w' => e = .returned (.bool false) ∧ Below w.heap.size w w' := by
 obtain ⟨i1, i2, i3, i4, i5, i6, i7⟩ : (np : Int) ≤ 1048576 ∧ (nh : Int) ≤ 1048576 ∧ (ng : Int) ≤ 1048576 ∧ (nm : Int) ≤ 1048576 ∧ (nb : Int) ≤ 1048576 ∧ (n : Int) ≤ 1048576 ∧ (nl : Int) ≤ 1048576 := by omega
 have HNE : Hid (¬ (np = n ∧ nh = n ∧ ng = n ∧ nb = n ∧ nm = nl ∧ -1 ≤ lk ∧ lk ≤ (n : Int) - 1)) := h
 clear h hb
 have t1 : True := trivial
 have t2 : True := trivial
 go_enter Try.func31, Try.ntmps31
 go_wp2_with (first
  | (clear t1; refine wpList_boxS rfl 28 _ rfl [.slice at0 n ct, .slice ar nr cr, .slice al nl cl, vi, vj] rfl ?_; intro W0 b2 F0 C0; have B0 := F_b F0; clear F0)
  | (clear t2; refine wpList_boxS rfl 32 _ rfl [.slice ap np cp, .slice ah nh ch, .slice ag ng cg, .slice am nm cm, .slice ab nb cb, .int .i64 lk] rfl ?_; intro W1 b3 F1 C3; have B1 := F1.trans B0 B0.size; have C2 := C0.fresh F1; obtain ⟨y0, y1, y2⟩ := prog3 C2; obtain ⟨x0, x1, x2, x3, x4, x5⟩ := st6 C3; clear F1 C0 C2 C3 B0))
 all_goals first
  | (go_ret; exact ⟨rfl, B1⟩)
  | (exfalso; have h := HNE.out; omega)
set_option maxRecDepth 100000 in
set_option maxHeartbeats 8000000 in
theorem ris_eq (p : PG) (s : ST) (n nl : Nat) (at0 ar al ap ah ag am ab : Option Addr) (ct cr cl cp ch cg cm cb : Nat) (vi vj : Value) (lk : Int) (w : World) (hf : p.Few)
    (hn : p.threads.length = n) (hrn : p.regs.length = n) (hnl : p.locs.length = nl) (hfw : s.Few) (hlk : s.lock = lk) (hlens : s.pc.length = n ∧ s.ph.length = n ∧ s.regs.length = n ∧ s.buf.length = n ∧ s.mem.length = nl) (hlk0 : -1 ≤ lk ∧ lk ≤ (n : Int) - 1)
    (hP : PGV w (.slice at0 n ct) (.slice ar n cr) (.slice al nl cl) vi vj p) (hS : STV w s (.slice ap n cp) (.slice ah n ch) (.slice ag n cg) (.slice am nl cm) (.slice ab n cb)) :
    Calls Try.prog 31 #[.agg #[.slice at0 n ct, .slice ar n cr, .slice al nl cl, vi, vj], .agg #[.slice ap n cp, .slice ah n ch, .slice ag n cg, .slice am nl cm, .slice ab n cb, .int .i64 lk]] w fun e w' => e = .returned (.bool (fitsB (shpOf p) s)) ∧ Below w.heap.size w w' := by
 have hn0 : n ≤ 1048576 := by rw [← hn]; exact hf.t
 have hnl0 : nl ≤ 1048576 := by rw [← hnl]; exact hf.l
 have hnI : (n : Int) ≤ 1048576 := by omega
 have hnlI : (nl : Int) ≤ 1048576 := by omega
 have hl1 : ¬ lk < -1 := by omega
 have hl2 : ¬ (n : Int) ≤ lk := by omega
 have HNO : Hid ((Fits (shpOf p) s → False) → fitsB (shpOf p) s = false) := fun h => by
  cases hb : fitsB (shpOf p) s with
  | false => rfl
  | true => exact (h ((fitsB_iff _ _).1 hb)).elim
 have HYES : Hid ((∀ i, i < n → (s.regs.getD i []).length = (shpOf p).rgs.getD i 0 ∧ (0 ≤ s.pc.getD i 0 ∧ s.pc.getD i 0 ≤ ((shpOf p).ins.getD i 0 : Nat)) ∧ (0 ≤ s.ph.getD i 0 ∧ s.ph.getD i 0 ≤ 2) ∧ bufOk nl (s.buf.getD i [])) → fitsB (shpOf p) s = true) := fun h => by
  have hi : (shpOf p).ins.length = n := by unfold shpOf; simp [hn]
  refine (fitsB_iff _ _).2 ⟨by rw [hi]; exact hlens.1, by rw [hi]; exact hlens.2.1, by rw [hi]; exact hlens.2.2.1, by rw [hi]; exact hlens.2.2.2.1, hlens.2.2.2.2.trans hnl.symm, fun i hi' => ?_, by rw [hlk, hi]; exact hlk0⟩
  have := h i (by omega)
  rw [← hnl] at this
  exact this
 have HZ : Hid (p.threads.length = n ∧ p.regs.length = n ∧ p.locs.length = nl ∧ s.pc.length = n ∧ s.ph.length = n ∧ s.regs.length = n ∧ s.buf.length = n ∧ s.Few ∧ p.Few) := ⟨hn, hrn, hnl, hlens.1, hlens.2.1, hlens.2.2.1, hlens.2.2.2.1, hfw, hf⟩
 have HP : Hid (PGV w (.slice at0 n ct) (.slice ar n cr) (.slice al nl cl) vi vj p) := hP
 have HS : Hid (STV w s (.slice ap n cp) (.slice ah n ch) (.slice ag n cg) (.slice am nl cm) (.slice ab n cb)) := hS
 clear hn hrn hnl hfw hlk hlens hP hS hf hlk0
 have t1 : True := trivial
 have t2 : True := trivial
 go_enter Try.func31, Try.ntmps31
 go_wp2_with (first
  | (clear t1; refine wpList_boxS rfl 28 _ rfl [.slice at0 n ct, .slice ar n cr, .slice al nl cl, vi, vj] rfl ?_; intro W0 b2 F0 C0; have B0 := F_b F0; clear F0)
  | (clear t2; refine wpList_boxS rfl 32 _ rfl [.slice ap n cp, .slice ah n ch, .slice ag n cg, .slice am nl cm, .slice ab n cb, .int .i64 lk] rfl ?_; intro W1 b3 F1 C3; have B1 := F1.trans B0 B0.size; have C2 := C0.fresh F1; obtain ⟨y0, y1, y2⟩ := prog3 C2; obtain ⟨x0, x1, x2, x3, x4, x5⟩ := st6 C3; clear F1 C0))
 have HB1 : Hid (Below w.heap.size w W1) := B1
 have HC2 : Hid (IsS W1 b2 28 [.slice at0 n ct, .slice ar n cr, .slice al nl cl, vi, vj]) := C2
 have HC3 : Hid (IsS W1 b3 32 [.slice ap n cp, .slice ah n ch, .slice ag n cg, .slice am nl cm, .slice ab n cb, .int .i64 lk]) := C3
 clear B0 B1 C2 C3 y0 y1 y2 x0 x1 x2 x3 x4 x5
 go_loopw [6] (fun i wr => ∃ j : Nat, j ≤ n ∧ i = .int .i64 (j : Int) ∧ Hid (∀ i, i < j → (s.regs.getD i []).length = (shpOf p).rgs.getD i 0 ∧ (0 ≤ s.pc.getD i 0 ∧ s.pc.getD i 0 ≤ ((shpOf p).ins.getD i 0 : Nat)) ∧ (0 ≤ s.ph.getD i 0 ∧ s.ph.getD i 0 ≤ 2) ∧ bufOk nl (s.buf.getD i [])) ∧ Hid (Below W1.heap.size W1 wr)) (fun i _ => n - (intOf i).toNat)
 case atStart => exact ⟨0, by omega, rfl, (by show ∀ i, _ → _; omega), Below.refl _ _⟩
 case round =>
  obtain ⟨j, hj, rfl, HA, HB⟩ := hrel
  have C2 := HC2.out.grown HB.out
  have C3 := HC3.out.grown HB.out
  have B := Below.then HB1.out HB.out
  by_cases hlt : j < n
  · have hi : (j : Int) < n := by omega
    obtain ⟨e1, e2, e3, l1, l2, l3, l4, hfw, hf⟩ := HZ.out
    obtain ⟨th, hth⟩ : ∃ x, p.threads[j]? = some x := ⟨_, List.getElem?_eq_getElem (by omega)⟩
    obtain ⟨pr, hpr⟩ : ∃ x, p.regs[j]? = some x := ⟨_, List.getElem?_eq_getElem (by omega)⟩
    obtain ⟨rg, hrg⟩ : ∃ x, s.regs[j]? = some x := ⟨_, List.getElem?_eq_getElem (by omega)⟩
    obtain ⟨bf, hbf⟩ : ∃ x, s.buf[j]? = some x := ⟨_, List.getElem?_eq_getElem (by omega)⟩
    obtain ⟨pj, hpj⟩ : ∃ x, s.pc[j]? = some x := ⟨_, List.getElem?_eq_getElem (by omega)⟩
    obtain ⟨hj', hhj⟩ : ∃ x, s.ph[j]? = some x := ⟨_, List.getElem?_eq_getElem (by omega)⟩
    have S := HS.out.below B
    have PV := HP.out.below B
    obtain ⟨bt, ot, ai, ci, et, hbt, yt, _, _⟩ := PV.t.at j th hth
    obtain ⟨br, orr, ak, ck, er, hbr, yr, _, _⟩ := PV.r.at j pr hpr
    obtain ⟨bg, og, aj, cj, eg, hbg, yg, _, _⟩ := S.rg.at j rg hrg
    obtain ⟨bb, ob, ab2, cb2, eb, hbb, yb, SB, _⟩ := S.bf.at j bf hbf
    have SP : Seg wr ap (s.pc.flatMap intE) := by
     obtain ⟨a', c', e, h, _⟩ := S.pc
     injection e with e1
     rw [e1]; exact h
    obtain ⟨bp, op, ep, hbp, yp⟩ := SP.int hpj
    have SH : Seg wr ah (s.ph.flatMap intE) := by
     obtain ⟨a', c', e, h, _⟩ := S.ph
     injection e with e1
     rw [e1]; exact h
    obtain ⟨bh, oh, eh, hbh, yh⟩ := SH.int hhj
    subst eg eb ep eh et er
    obtain ⟨ij, hij⟩ : ∃ k, th.length = k := ⟨_, rfl⟩
    obtain ⟨rk, hrk⟩ : ∃ k, pr.length = k := ⟨_, rfl⟩
    obtain ⟨lr, hlr⟩ : ∃ k, rg.length = k := ⟨_, rfl⟩
    obtain ⟨lb, hlb⟩ : ∃ k, bf.length = k := ⟨_, rfl⟩
    rw [hij] at yt
    rw [hrk] at yr
    rw [hlr] at yg
    rw [hlb] at yb
    have u1 : (ij : Int) ≤ 1048576 := by have : ij ≤ 1048576 := (by rw [← hij]; exact flat_row hf.tt hth); omega
    have u2 : (rk : Int) ≤ 1048576 := by have : rk ≤ 1048576 := (by rw [← hrk]; exact flat_row hf.rr hpr); omega
    have u3 : (lr : Int) ≤ 1048576 := by have : lr ≤ 1048576 := (by rw [← hlr]; exact flat_row hfw.rr hrg); omega
    have u4 : (lb : Int) ≤ 1048576 := by have : lb ≤ 1048576 := (by rw [← hlb]; exact flat_row hfw.bb hbf); omega
    have HW : Hid ((s.regs.getD j []).length = lr ∧ (shpOf p).rgs.getD j 0 = rk ∧ s.pc.getD j 0 = pj ∧ (shpOf p).ins.getD j 0 = ij ∧ s.ph.getD j 0 = hj' ∧ s.buf.getD j [] = bf ∧ bf.length = lb) := by
     refine ⟨by rw [getDS_of hrg]; exact hlr, ?_, getDS_of hpj, ?_, getDS_of hhj, getDS_of hbf, hlb⟩
     · unfold shpOf; simp [hpr, hrk]
     · unfold shpOf; simp [hth, hij]
    have HFJ : Hid (Fits (shpOf p) s → lr = rk ∧ (0 ≤ pj ∧ pj ≤ (ij : Int)) ∧ (0 ≤ hj' ∧ hj' ≤ 2) ∧ bufOk nl bf) := fun h => by
     have := h.th j (by unfold shpOf; simp; omega)
     obtain ⟨w1, w2, w3, w4, w5, w6, w7⟩ := HW.out
     rw [w1, w2, w3, w4, w5, w6] at this
     refine ⟨this.1, this.2.1, this.2.2.1, ?_⟩
     have h4 := this.2.2.2
     rw [show (shpOf p).locs = nl from e3] at h4
     exact h4
    have HSB : Hid (Seg wr ab2 (bf.flatMap wrE)) := SB
    have HBX : Hid (bb < wr.heap.size) := hbb
    clear SB SP SH S PV hth hpr hrg hbf hpj hhj e1 e2 e3 l1 l2 l3 l4 hfw hf hij hrk hlr hlb hbg hbb hbp hbh hbt hbr HS HP
    by_cases q0 : pj < 0
    · go_wp2_with fail
      refine grow_allW (by kernel_rfl) (by kernel_rfl) ?_
      refine WG.put rfl (v := (.pointer (some ⟨b3, 0, none⟩))) (fun w => by first | rfl | (go_simp; done) | (simp [go_sem, hi]; done) | (simp [execOp, go_sem, hi]; done)) ?_; simp only [sP]
      refine WG.load1 rfl 29 _ rfl rfl (C3) (v := (.slice (some ⟨bp, op, none⟩) n cp)) rfl (fun w h => by simp [go_sem, h]) ?_; simp only [sP]
      refine WG.put rfl (v := (.int .i64 (j : Int))) (fun w => by first | rfl | (go_simp; done) | (simp [go_sem, hi]; done) | (simp [execOp, go_sem, hi]; done)) ?_; simp only [sP]
      refine WG.put rfl (v := (.pointer (some ⟨bp, op + j, none⟩))) (fun w => by first | rfl | (go_simp; done) | (simp [go_sem, hi]; done) | (simp [execOp, go_sem, hi]; done)) ?_; simp only [sP]
      refine WG.cell rfl 3 _ rfl rfl (yp) (fun w h => by simp [go_sem, h]) ?_; simp only [sP]
      refine WG.put rfl (v := (.bool true)) (fun w => by first | rfl | (go_simp; done) | (simp [go_sem, q0, hi]; done) | (simp [execOp, go_sem, q0, hi]; done)) ?_; simp only [sP]
      refine WG.put rfl (v := (.bool true)) (fun w => by first | rfl | (go_simp; done) | (simp [go_sem, hi]; done) | (simp [execOp, go_sem, hi]; done)) ?_; simp only [sP]
      refine WG.skip rfl ?_; simp only [sP]
      refine WG.skip rfl ?_; simp only [sP]
      refine WG.skip rfl ?_; simp only [sP]
      refine WG.skip rfl ?_; simp only [sP]
      refine WG.skip rfl ?_; simp only [sP]
      refine WG.skip rfl ?_; simp only [sP]
      refine WG.skip rfl ?_; simp only [sP]
      refine WG.skip rfl ?_; simp only [sP]
      refine WG.skip rfl ?_; simp only [sP]
      refine WG.skip rfl ?_; simp only [sP]
      refine WG.skip rfl ?_; simp only [sP]
      refine WG.skip rfl ?_; simp only [sP]
      refine WG.put rfl (v := (.bool true)) (fun w => by first | rfl | (go_simp; done) | (simp [go_sem, hi]; done) | (simp [execOp, go_sem, hi]; done)) ?_; simp only [sP]
      refine WG.put rfl (v := (.bool true)) (fun w => by first | rfl | (go_simp; done) | (simp [go_sem, hi]; done) | (simp [execOp, go_sem, hi]; done)) ?_; simp only [sP]
      refine WG.skip rfl ?_; simp only [sP]
      refine WG.skip rfl ?_; simp only [sP]
      refine WG.skip rfl ?_; simp only [sP]
      refine WG.skip rfl ?_; simp only [sP]
      refine WG.skip rfl ?_; simp only [sP]
      refine WG.skip rfl ?_; simp only [sP]
      refine WG.put rfl (v := (.bool true)) (fun w => by first | rfl | (go_simp; done) | (simp [go_sem, hi]; done) | (simp [execOp, go_sem, hi]; done)) ?_; simp only [sP]
      refine WG.put rfl (v := (.bool true)) (fun w => by first | rfl | (go_simp; done) | (simp [go_sem, hi]; done) | (simp [execOp, go_sem, hi]; done)) ?_; simp only [sP]
      refine WG.skip rfl ?_; simp only [sP]
      refine WG.skip rfl ?_; simp only [sP]
      refine WG.skip rfl ?_; simp only [sP]
      refine WG.skip rfl ?_; simp only [sP]
      refine WG.skip rfl ?_; simp only [sP]
      refine WG.skip rfl ?_; simp only [sP]
      refine WG.put rfl (v := (.bool true)) (fun w => by first | rfl | (go_simp; done) | (simp [go_sem, hi]; done) | (simp [execOp, go_sem, hi]; done)) ?_; simp only [sP]
      refine WG.put rfl (v := (.bool true)) (fun w => by first | rfl | (go_simp; done) | (simp [go_sem, hi]; done) | (simp [execOp, go_sem, hi]; done)) ?_; simp only [sP]
      refine WG.skip rfl ?_; simp only [sP]
      refine WG.skip rfl ?_; simp only [sP]
      refine WG.skip rfl ?_; simp only [sP]
      refine WG.skip rfl ?_; simp only [sP]
      refine WG.skip rfl ?_; simp only [sP]
      refine WG.skip rfl ?_; simp only [sP]
      refine WG.skip rfl ?_; simp only [sP]
      refine WG.skip rfl ?_; simp only [sP]
      refine WG.skip rfl ?_; simp only [sP]
      refine WG.skip rfl ?_; simp only [sP]
      refine WG.skip rfl ?_; simp only [sP]
      refine WG.skip rfl ?_; simp only [sP]
      refine WG.skip rfl ?_; simp only [sP]
      refine WG.put rfl (v := (.bool true)) (fun w => by first | rfl | (go_simp; done) | (simp [go_sem, hi]; done) | (simp [execOp, go_sem, hi]; done)) ?_; simp only [sP]
      refine WG.put rfl (v := (.bool true)) (fun w => by first | rfl | (go_simp; done) | (simp [go_sem, hi]; done) | (simp [execOp, go_sem, hi]; done)) ?_; simp only [sP]
      refine WG.skip rfl ?_; simp only [sP]
      refine WG.skip rfl ?_; simp only [sP]
      refine WG.skip rfl ?_; simp only [sP]
      refine WG.skip rfl ?_; simp only [sP]
      refine WG.skip rfl ?_; simp only [sP]
      refine WG.skip rfl ?_; simp only [sP]
      refine WG.skip rfl ?_; simp only [sP]
      refine WG.put rfl (v := (.bool true)) (fun w => by first | rfl | (go_simp; done) | (simp [go_sem, hi]; done) | (simp [execOp, go_sem, hi]; done)) ?_; simp only [sP]
      refine WG.nil ?_
      intro W3 B3
      have B4 := Below.then B B3
      go_wp2_with fail
      go_ret
      exact ⟨Eq.trans rfl (congrArg (fun b => Ending.returned (.bool b)) (HNO.out (fun h => by have := (HFJ.out h).2.1.1; omega)).symm), B4⟩
    by_cases q1 : (ij : Int) < pj
    · go_wp2_with fail
      refine grow_allW (by kernel_rfl) (by kernel_rfl) ?_
      refine WG.put rfl (v := (.pointer (some ⟨b3, 0, none⟩))) (fun w => by first | rfl | (go_simp; done) | (simp [go_sem, hi]; done) | (simp [execOp, go_sem, hi]; done)) ?_; simp only [sP]
      refine WG.load1 rfl 29 _ rfl rfl (C3) (v := (.slice (some ⟨bp, op, none⟩) n cp)) rfl (fun w h => by simp [go_sem, h]) ?_; simp only [sP]
      refine WG.put rfl (v := (.int .i64 (j : Int))) (fun w => by first | rfl | (go_simp; done) | (simp [go_sem, hi]; done) | (simp [execOp, go_sem, hi]; done)) ?_; simp only [sP]
      refine WG.put rfl (v := (.pointer (some ⟨bp, op + j, none⟩))) (fun w => by first | rfl | (go_simp; done) | (simp [go_sem, hi]; done) | (simp [execOp, go_sem, hi]; done)) ?_; simp only [sP]
      refine WG.cell rfl 3 _ rfl rfl (yp) (fun w h => by simp [go_sem, h]) ?_; simp only [sP]
      refine WG.put rfl (v := (.bool false)) (fun w => by first | rfl | (go_simp; done) | (simp [go_sem, q0, hi]; done) | (simp [execOp, go_sem, q0, hi]; done)) ?_; simp only [sP]
      refine WG.put rfl (v := (.bool false)) (fun w => by first | rfl | (go_simp; done) | (simp [go_sem, hi]; done) | (simp [execOp, go_sem, hi]; done)) ?_; simp only [sP]
      refine WG.put rfl (v := (.pointer (some ⟨b3, 0, none⟩))) (fun w => by first | rfl | (go_simp; done) | (simp [go_sem, hi]; done) | (simp [execOp, go_sem, hi]; done)) ?_; simp only [sP]
      refine WG.load1 rfl 29 _ rfl rfl (C3) (v := (.slice (some ⟨bp, op, none⟩) n cp)) rfl (fun w h => by simp [go_sem, h]) ?_; simp only [sP]
      refine WG.put rfl (v := (.int .i64 (j : Int))) (fun w => by first | rfl | (go_simp; done) | (simp [go_sem, hi]; done) | (simp [execOp, go_sem, hi]; done)) ?_; simp only [sP]
      refine WG.put rfl (v := (.pointer (some ⟨bp, op + j, none⟩))) (fun w => by first | rfl | (go_simp; done) | (simp [go_sem, hi]; done) | (simp [execOp, go_sem, hi]; done)) ?_; simp only [sP]
      refine WG.cell rfl 3 _ rfl rfl (yp) (fun w h => by simp [go_sem, h]) ?_; simp only [sP]
      refine WG.put rfl (v := (.pointer (some ⟨b2, 0, none⟩))) (fun w => by first | rfl | (go_simp; done) | (simp [go_sem, hi]; done) | (simp [execOp, go_sem, hi]; done)) ?_; simp only [sP]
      refine WG.load1 rfl 22 _ rfl rfl (C2) (v := (.slice (some ⟨bt, ot, none⟩) n ct)) rfl (fun w h => by simp [go_sem, h]) ?_; simp only [sP]
      refine WG.put rfl (v := (.int .i64 (j : Int))) (fun w => by first | rfl | (go_simp; done) | (simp [go_sem, hi]; done) | (simp [execOp, go_sem, hi]; done)) ?_; simp only [sP]
      refine WG.put rfl (v := (.pointer (some ⟨bt, ot + j, none⟩))) (fun w => by first | rfl | (go_simp; done) | (simp [go_sem, hi]; done) | (simp [execOp, go_sem, hi]; done)) ?_; simp only [sP]
      refine WG.cell rfl 61 _ rfl rfl (yt) (fun w h => by simp [go_sem, h]) ?_; simp only [sP]
      refine WG.put rfl (v := (.int .i64 ((ij : Nat) : Int))) (fun w => by first | rfl | (go_simp; done) | (simp [go_sem, hi]; done) | (simp [execOp, go_sem, hi]; done)) ?_; simp only [sP]
      refine WG.put rfl (v := (.bool true)) (fun w => by first | rfl | (go_simp; done) | (simp [go_sem, q1, hi]; done) | (simp [execOp, go_sem, q1, hi]; done)) ?_; simp only [sP]
      refine WG.put rfl (v := (.bool true)) (fun w => by first | rfl | (go_simp; done) | (simp [go_sem, hi]; done) | (simp [execOp, go_sem, hi]; done)) ?_; simp only [sP]
      refine WG.put rfl (v := (.bool true)) (fun w => by first | rfl | (go_simp; done) | (simp [go_sem, hi]; done) | (simp [execOp, go_sem, hi]; done)) ?_; simp only [sP]
      refine WG.skip rfl ?_; simp only [sP]
      refine WG.skip rfl ?_; simp only [sP]
      refine WG.skip rfl ?_; simp only [sP]
      refine WG.skip rfl ?_; simp only [sP]
      refine WG.skip rfl ?_; simp only [sP]
      refine WG.skip rfl ?_; simp only [sP]
      refine WG.put rfl (v := (.bool true)) (fun w => by first | rfl | (go_simp; done) | (simp [go_sem, hi]; done) | (simp [execOp, go_sem, hi]; done)) ?_; simp only [sP]
      refine WG.put rfl (v := (.bool true)) (fun w => by first | rfl | (go_simp; done) | (simp [go_sem, hi]; done) | (simp [execOp, go_sem, hi]; done)) ?_; simp only [sP]
      refine WG.skip rfl ?_; simp only [sP]
      refine WG.skip rfl ?_; simp only [sP]
      refine WG.skip rfl ?_; simp only [sP]
      refine WG.skip rfl ?_; simp only [sP]
      refine WG.skip rfl ?_; simp only [sP]
      refine WG.skip rfl ?_; simp only [sP]
      refine WG.put rfl (v := (.bool true)) (fun w => by first | rfl | (go_simp; done) | (simp [go_sem, hi]; done) | (simp [execOp, go_sem, hi]; done)) ?_; simp only [sP]
      refine WG.put rfl (v := (.bool true)) (fun w => by first | rfl | (go_simp; done) | (simp [go_sem, hi]; done) | (simp [execOp, go_sem, hi]; done)) ?_; simp only [sP]
      refine WG.skip rfl ?_; simp only [sP]
      refine WG.skip rfl ?_; simp only [sP]
      refine WG.skip rfl ?_; simp only [sP]
      refine WG.skip rfl ?_; simp only [sP]
      refine WG.skip rfl ?_; simp only [sP]
      refine WG.skip rfl ?_; simp only [sP]
      refine WG.skip rfl ?_; simp only [sP]
      refine WG.skip rfl ?_; simp only [sP]
      refine WG.skip rfl ?_; simp only [sP]
      refine WG.skip rfl ?_; simp only [sP]
      refine WG.skip rfl ?_; simp only [sP]
      refine WG.skip rfl ?_; simp only [sP]
      refine WG.skip rfl ?_; simp only [sP]
      refine WG.put rfl (v := (.bool true)) (fun w => by first | rfl | (go_simp; done) | (simp [go_sem, hi]; done) | (simp [execOp, go_sem, hi]; done)) ?_; simp only [sP]
      refine WG.put rfl (v := (.bool true)) (fun w => by first | rfl | (go_simp; done) | (simp [go_sem, hi]; done) | (simp [execOp, go_sem, hi]; done)) ?_; simp only [sP]
      refine WG.skip rfl ?_; simp only [sP]
      refine WG.skip rfl ?_; simp only [sP]
      refine WG.skip rfl ?_; simp only [sP]
      refine WG.skip rfl ?_; simp only [sP]
      refine WG.skip rfl ?_; simp only [sP]
      refine WG.skip rfl ?_; simp only [sP]
      refine WG.skip rfl ?_; simp only [sP]
      refine WG.put rfl (v := (.bool true)) (fun w => by first | rfl | (go_simp; done) | (simp [go_sem, hi]; done) | (simp [execOp, go_sem, hi]; done)) ?_; simp only [sP]
      refine WG.nil ?_
      intro W3 B3
      have B4 := Below.then B B3
      go_wp2_with fail
      go_ret
      exact ⟨Eq.trans rfl (congrArg (fun b => Ending.returned (.bool b)) (HNO.out (fun h => by have := (HFJ.out h).2.1.2; omega)).symm), B4⟩
    by_cases q2 : hj' < 0
    · go_wp2_with fail
      refine grow_allW (by kernel_rfl) (by kernel_rfl) ?_
      refine WG.put rfl (v := (.pointer (some ⟨b3, 0, none⟩))) (fun w => by first | rfl | (go_simp; done) | (simp [go_sem, hi]; done) | (simp [execOp, go_sem, hi]; done)) ?_; simp only [sP]
      refine WG.load1 rfl 29 _ rfl rfl (C3) (v := (.slice (some ⟨bp, op, none⟩) n cp)) rfl (fun w h => by simp [go_sem, h]) ?_; simp only [sP]
      refine WG.put rfl (v := (.int .i64 (j : Int))) (fun w => by first | rfl | (go_simp; done) | (simp [go_sem, hi]; done) | (simp [execOp, go_sem, hi]; done)) ?_; simp only [sP]
      refine WG.put rfl (v := (.pointer (some ⟨bp, op + j, none⟩))) (fun w => by first | rfl | (go_simp; done) | (simp [go_sem, hi]; done) | (simp [execOp, go_sem, hi]; done)) ?_; simp only [sP]
      refine WG.cell rfl 3 _ rfl rfl (yp) (fun w h => by simp [go_sem, h]) ?_; simp only [sP]
      refine WG.put rfl (v := (.bool false)) (fun w => by first | rfl | (go_simp; done) | (simp [go_sem, q0, hi]; done) | (simp [execOp, go_sem, q0, hi]; done)) ?_; simp only [sP]
      refine WG.put rfl (v := (.bool false)) (fun w => by first | rfl | (go_simp; done) | (simp [go_sem, hi]; done) | (simp [execOp, go_sem, hi]; done)) ?_; simp only [sP]
      refine WG.put rfl (v := (.pointer (some ⟨b3, 0, none⟩))) (fun w => by first | rfl | (go_simp; done) | (simp [go_sem, hi]; done) | (simp [execOp, go_sem, hi]; done)) ?_; simp only [sP]
      refine WG.load1 rfl 29 _ rfl rfl (C3) (v := (.slice (some ⟨bp, op, none⟩) n cp)) rfl (fun w h => by simp [go_sem, h]) ?_; simp only [sP]
      refine WG.put rfl (v := (.int .i64 (j : Int))) (fun w => by first | rfl | (go_simp; done) | (simp [go_sem, hi]; done) | (simp [execOp, go_sem, hi]; done)) ?_; simp only [sP]
      refine WG.put rfl (v := (.pointer (some ⟨bp, op + j, none⟩))) (fun w => by first | rfl | (go_simp; done) | (simp [go_sem, hi]; done) | (simp [execOp, go_sem, hi]; done)) ?_; simp only [sP]
      refine WG.cell rfl 3 _ rfl rfl (yp) (fun w h => by simp [go_sem, h]) ?_; simp only [sP]
      refine WG.put rfl (v := (.pointer (some ⟨b2, 0, none⟩))) (fun w => by first | rfl | (go_simp; done) | (simp [go_sem, hi]; done) | (simp [execOp, go_sem, hi]; done)) ?_; simp only [sP]
      refine WG.load1 rfl 22 _ rfl rfl (C2) (v := (.slice (some ⟨bt, ot, none⟩) n ct)) rfl (fun w h => by simp [go_sem, h]) ?_; simp only [sP]
      refine WG.put rfl (v := (.int .i64 (j : Int))) (fun w => by first | rfl | (go_simp; done) | (simp [go_sem, hi]; done) | (simp [execOp, go_sem, hi]; done)) ?_; simp only [sP]
      refine WG.put rfl (v := (.pointer (some ⟨bt, ot + j, none⟩))) (fun w => by first | rfl | (go_simp; done) | (simp [go_sem, hi]; done) | (simp [execOp, go_sem, hi]; done)) ?_; simp only [sP]
      refine WG.cell rfl 61 _ rfl rfl (yt) (fun w h => by simp [go_sem, h]) ?_; simp only [sP]
      refine WG.put rfl (v := (.int .i64 ((ij : Nat) : Int))) (fun w => by first | rfl | (go_simp; done) | (simp [go_sem, hi]; done) | (simp [execOp, go_sem, hi]; done)) ?_; simp only [sP]
      refine WG.put rfl (v := (.bool false)) (fun w => by first | rfl | (go_simp; done) | (simp [go_sem, q1, hi]; done) | (simp [execOp, go_sem, q1, hi]; done)) ?_; simp only [sP]
      refine WG.put rfl (v := (.bool false)) (fun w => by first | rfl | (go_simp; done) | (simp [go_sem, hi]; done) | (simp [execOp, go_sem, hi]; done)) ?_; simp only [sP]
      refine WG.put rfl (v := (.bool false)) (fun w => by first | rfl | (go_simp; done) | (simp [go_sem, hi]; done) | (simp [execOp, go_sem, hi]; done)) ?_; simp only [sP]
      refine WG.put rfl (v := (.pointer (some ⟨b3, 1, none⟩))) (fun w => by first | rfl | (go_simp; done) | (simp [go_sem, hi]; done) | (simp [execOp, go_sem, hi]; done)) ?_; simp only [sP]
      refine WG.load1 rfl 29 _ rfl rfl (C3) (v := (.slice (some ⟨bh, oh, none⟩) n ch)) rfl (fun w h => by simp [go_sem, h]) ?_; simp only [sP]
      refine WG.put rfl (v := (.int .i64 (j : Int))) (fun w => by first | rfl | (go_simp; done) | (simp [go_sem, hi]; done) | (simp [execOp, go_sem, hi]; done)) ?_; simp only [sP]
      refine WG.put rfl (v := (.pointer (some ⟨bh, oh + j, none⟩))) (fun w => by first | rfl | (go_simp; done) | (simp [go_sem, hi]; done) | (simp [execOp, go_sem, hi]; done)) ?_; simp only [sP]
      refine WG.cell rfl 3 _ rfl rfl (yh) (fun w h => by simp [go_sem, h]) ?_; simp only [sP]
      refine WG.put rfl (v := (.bool true)) (fun w => by first | rfl | (go_simp; done) | (simp [go_sem, q2, hi]; done) | (simp [execOp, go_sem, q2, hi]; done)) ?_; simp only [sP]
      refine WG.put rfl (v := (.bool true)) (fun w => by first | rfl | (go_simp; done) | (simp [go_sem, hi]; done) | (simp [execOp, go_sem, hi]; done)) ?_; simp only [sP]
      refine WG.put rfl (v := (.bool true)) (fun w => by first | rfl | (go_simp; done) | (simp [go_sem, hi]; done) | (simp [execOp, go_sem, hi]; done)) ?_; simp only [sP]
      refine WG.skip rfl ?_; simp only [sP]
      refine WG.skip rfl ?_; simp only [sP]
      refine WG.skip rfl ?_; simp only [sP]
      refine WG.skip rfl ?_; simp only [sP]
      refine WG.skip rfl ?_; simp only [sP]
      refine WG.skip rfl ?_; simp only [sP]
      refine WG.put rfl (v := (.bool true)) (fun w => by first | rfl | (go_simp; done) | (simp [go_sem, hi]; done) | (simp [execOp, go_sem, hi]; done)) ?_; simp only [sP]
      refine WG.put rfl (v := (.bool true)) (fun w => by first | rfl | (go_simp; done) | (simp [go_sem, hi]; done) | (simp [execOp, go_sem, hi]; done)) ?_; simp only [sP]
      refine WG.skip rfl ?_; simp only [sP]
      refine WG.skip rfl ?_; simp only [sP]
      refine WG.skip rfl ?_; simp only [sP]
      refine WG.skip rfl ?_; simp only [sP]
      refine WG.skip rfl ?_; simp only [sP]
      refine WG.skip rfl ?_; simp only [sP]
      refine WG.skip rfl ?_; simp only [sP]
      refine WG.skip rfl ?_; simp only [sP]
      refine WG.skip rfl ?_; simp only [sP]
      refine WG.skip rfl ?_; simp only [sP]
      refine WG.skip rfl ?_; simp only [sP]
      refine WG.skip rfl ?_; simp only [sP]
      refine WG.skip rfl ?_; simp only [sP]
      refine WG.put rfl (v := (.bool true)) (fun w => by first | rfl | (go_simp; done) | (simp [go_sem, hi]; done) | (simp [execOp, go_sem, hi]; done)) ?_; simp only [sP]
      refine WG.put rfl (v := (.bool true)) (fun w => by first | rfl | (go_simp; done) | (simp [go_sem, hi]; done) | (simp [execOp, go_sem, hi]; done)) ?_; simp only [sP]
      refine WG.skip rfl ?_; simp only [sP]
      refine WG.skip rfl ?_; simp only [sP]
      refine WG.skip rfl ?_; simp only [sP]
      refine WG.skip rfl ?_; simp only [sP]
      refine WG.skip rfl ?_; simp only [sP]
      refine WG.skip rfl ?_; simp only [sP]
      refine WG.skip rfl ?_; simp only [sP]
      refine WG.put rfl (v := (.bool true)) (fun w => by first | rfl | (go_simp; done) | (simp [go_sem, hi]; done) | (simp [execOp, go_sem, hi]; done)) ?_; simp only [sP]
      refine WG.nil ?_
      intro W3 B3
      have B4 := Below.then B B3
      go_wp2_with fail
      go_ret
      exact ⟨Eq.trans rfl (congrArg (fun b => Ending.returned (.bool b)) (HNO.out (fun h => by have := (HFJ.out h).2.2.1.1; omega)).symm), B4⟩
    by_cases q3 : 2 < hj'
    · go_wp2_with fail
      refine grow_allW (by kernel_rfl) (by kernel_rfl) ?_
      refine WG.put rfl (v := (.pointer (some ⟨b3, 0, none⟩))) (fun w => by first | rfl | (go_simp; done) | (simp [go_sem, hi]; done) | (simp [execOp, go_sem, hi]; done)) ?_; simp only [sP]
      refine WG.load1 rfl 29 _ rfl rfl (C3) (v := (.slice (some ⟨bp, op, none⟩) n cp)) rfl (fun w h => by simp [go_sem, h]) ?_; simp only [sP]
      refine WG.put rfl (v := (.int .i64 (j : Int))) (fun w => by first | rfl | (go_simp; done) | (simp [go_sem, hi]; done) | (simp [execOp, go_sem, hi]; done)) ?_; simp only [sP]
      refine WG.put rfl (v := (.pointer (some ⟨bp, op + j, none⟩))) (fun w => by first | rfl | (go_simp; done) | (simp [go_sem, hi]; done) | (simp [execOp, go_sem, hi]; done)) ?_; simp only [sP]
      refine WG.cell rfl 3 _ rfl rfl (yp) (fun w h => by simp [go_sem, h]) ?_; simp only [sP]
      refine WG.put rfl (v := (.bool false)) (fun w => by first | rfl | (go_simp; done) | (simp [go_sem, q0, hi]; done) | (simp [execOp, go_sem, q0, hi]; done)) ?_; simp only [sP]
      refine WG.put rfl (v := (.bool false)) (fun w => by first | rfl | (go_simp; done) | (simp [go_sem, hi]; done) | (simp [execOp, go_sem, hi]; done)) ?_; simp only [sP]
      refine WG.put rfl (v := (.pointer (some ⟨b3, 0, none⟩))) (fun w => by first | rfl | (go_simp; done) | (simp [go_sem, hi]; done) | (simp [execOp, go_sem, hi]; done)) ?_; simp only [sP]
      refine WG.load1 rfl 29 _ rfl rfl (C3) (v := (.slice (some ⟨bp, op, none⟩) n cp)) rfl (fun w h => by simp [go_sem, h]) ?_; simp only [sP]
      refine WG.put rfl (v := (.int .i64 (j : Int))) (fun w => by first | rfl | (go_simp; done) | (simp [go_sem, hi]; done) | (simp [execOp, go_sem, hi]; done)) ?_; simp only [sP]
      refine WG.put rfl (v := (.pointer (some ⟨bp, op + j, none⟩))) (fun w => by first | rfl | (go_simp; done) | (simp [go_sem, hi]; done) | (simp [execOp, go_sem, hi]; done)) ?_; simp only [sP]
      refine WG.cell rfl 3 _ rfl rfl (yp) (fun w h => by simp [go_sem, h]) ?_; simp only [sP]
      refine WG.put rfl (v := (.pointer (some ⟨b2, 0, none⟩))) (fun w => by first | rfl | (go_simp; done) | (simp [go_sem, hi]; done) | (simp [execOp, go_sem, hi]; done)) ?_; simp only [sP]
      refine WG.load1 rfl 22 _ rfl rfl (C2) (v := (.slice (some ⟨bt, ot, none⟩) n ct)) rfl (fun w h => by simp [go_sem, h]) ?_; simp only [sP]
      refine WG.put rfl (v := (.int .i64 (j : Int))) (fun w => by first | rfl | (go_simp; done) | (simp [go_sem, hi]; done) | (simp [execOp, go_sem, hi]; done)) ?_; simp only [sP]
      refine WG.put rfl (v := (.pointer (some ⟨bt, ot + j, none⟩))) (fun w => by first | rfl | (go_simp; done) | (simp [go_sem, hi]; done) | (simp [execOp, go_sem, hi]; done)) ?_; simp only [sP]
      refine WG.cell rfl 61 _ rfl rfl (yt) (fun w h => by simp [go_sem, h]) ?_; simp only [sP]
      refine WG.put rfl (v := (.int .i64 ((ij : Nat) : Int))) (fun w => by first | rfl | (go_simp; done) | (simp [go_sem, hi]; done) | (simp [execOp, go_sem, hi]; done)) ?_; simp only [sP]
      refine WG.put rfl (v := (.bool false)) (fun w => by first | rfl | (go_simp; done) | (simp [go_sem, q1, hi]; done) | (simp [execOp, go_sem, q1, hi]; done)) ?_; simp only [sP]
      refine WG.put rfl (v := (.bool false)) (fun w => by first | rfl | (go_simp; done) | (simp [go_sem, hi]; done) | (simp [execOp, go_sem, hi]; done)) ?_; simp only [sP]
      refine WG.put rfl (v := (.bool false)) (fun w => by first | rfl | (go_simp; done) | (simp [go_sem, hi]; done) | (simp [execOp, go_sem, hi]; done)) ?_; simp only [sP]
      refine WG.put rfl (v := (.pointer (some ⟨b3, 1, none⟩))) (fun w => by first | rfl | (go_simp; done) | (simp [go_sem, hi]; done) | (simp [execOp, go_sem, hi]; done)) ?_; simp only [sP]
      refine WG.load1 rfl 29 _ rfl rfl (C3) (v := (.slice (some ⟨bh, oh, none⟩) n ch)) rfl (fun w h => by simp [go_sem, h]) ?_; simp only [sP]
      refine WG.put rfl (v := (.int .i64 (j : Int))) (fun w => by first | rfl | (go_simp; done) | (simp [go_sem, hi]; done) | (simp [execOp, go_sem, hi]; done)) ?_; simp only [sP]
      refine WG.put rfl (v := (.pointer (some ⟨bh, oh + j, none⟩))) (fun w => by first | rfl | (go_simp; done) | (simp [go_sem, hi]; done) | (simp [execOp, go_sem, hi]; done)) ?_; simp only [sP]
      refine WG.cell rfl 3 _ rfl rfl (yh) (fun w h => by simp [go_sem, h]) ?_; simp only [sP]
      refine WG.put rfl (v := (.bool false)) (fun w => by first | rfl | (go_simp; done) | (simp [go_sem, q2, hi]; done) | (simp [execOp, go_sem, q2, hi]; done)) ?_; simp only [sP]
      refine WG.put rfl (v := (.bool false)) (fun w => by first | rfl | (go_simp; done) | (simp [go_sem, hi]; done) | (simp [execOp, go_sem, hi]; done)) ?_; simp only [sP]
      refine WG.put rfl (v := (.bool false)) (fun w => by first | rfl | (go_simp; done) | (simp [go_sem, hi]; done) | (simp [execOp, go_sem, hi]; done)) ?_; simp only [sP]
      refine WG.put rfl (v := (.pointer (some ⟨b3, 1, none⟩))) (fun w => by first | rfl | (go_simp; done) | (simp [go_sem, hi]; done) | (simp [execOp, go_sem, hi]; done)) ?_; simp only [sP]
      refine WG.load1 rfl 29 _ rfl rfl (C3) (v := (.slice (some ⟨bh, oh, none⟩) n ch)) rfl (fun w h => by simp [go_sem, h]) ?_; simp only [sP]
      refine WG.put rfl (v := (.int .i64 (j : Int))) (fun w => by first | rfl | (go_simp; done) | (simp [go_sem, hi]; done) | (simp [execOp, go_sem, hi]; done)) ?_; simp only [sP]
      refine WG.put rfl (v := (.pointer (some ⟨bh, oh + j, none⟩))) (fun w => by first | rfl | (go_simp; done) | (simp [go_sem, hi]; done) | (simp [execOp, go_sem, hi]; done)) ?_; simp only [sP]
      refine WG.cell rfl 3 _ rfl rfl (yh) (fun w h => by simp [go_sem, h]) ?_; simp only [sP]
      refine WG.put rfl (v := (.bool true)) (fun w => by first | rfl | (go_simp; done) | (simp [go_sem, q3, hi]; done) | (simp [execOp, go_sem, q3, hi]; done)) ?_; simp only [sP]
      refine WG.put rfl (v := (.bool true)) (fun w => by first | rfl | (go_simp; done) | (simp [go_sem, hi]; done) | (simp [execOp, go_sem, hi]; done)) ?_; simp only [sP]
      refine WG.put rfl (v := (.bool true)) (fun w => by first | rfl | (go_simp; done) | (simp [go_sem, hi]; done) | (simp [execOp, go_sem, hi]; done)) ?_; simp only [sP]
      refine WG.skip rfl ?_; simp only [sP]
      refine WG.skip rfl ?_; simp only [sP]
      refine WG.skip rfl ?_; simp only [sP]
      refine WG.skip rfl ?_; simp only [sP]
      refine WG.skip rfl ?_; simp only [sP]
      refine WG.skip rfl ?_; simp only [sP]
      refine WG.skip rfl ?_; simp only [sP]
      refine WG.skip rfl ?_; simp only [sP]
      refine WG.skip rfl ?_; simp only [sP]
      refine WG.skip rfl ?_; simp only [sP]
      refine WG.skip rfl ?_; simp only [sP]
      refine WG.skip rfl ?_; simp only [sP]
      refine WG.skip rfl ?_; simp only [sP]
      refine WG.put rfl (v := (.bool true)) (fun w => by first | rfl | (go_simp; done) | (simp [go_sem, hi]; done) | (simp [execOp, go_sem, hi]; done)) ?_; simp only [sP]
      refine WG.put rfl (v := (.bool true)) (fun w => by first | rfl | (go_simp; done) | (simp [go_sem, hi]; done) | (simp [execOp, go_sem, hi]; done)) ?_; simp only [sP]
      refine WG.skip rfl ?_; simp only [sP]
      refine WG.skip rfl ?_; simp only [sP]
      refine WG.skip rfl ?_; simp only [sP]
      refine WG.skip rfl ?_; simp only [sP]
      refine WG.skip rfl ?_; simp only [sP]
      refine WG.skip rfl ?_; simp only [sP]
      refine WG.skip rfl ?_; simp only [sP]
      refine WG.put rfl (v := (.bool true)) (fun w => by first | rfl | (go_simp; done) | (simp [go_sem, hi]; done) | (simp [execOp, go_sem, hi]; done)) ?_; simp only [sP]
      refine WG.nil ?_
      intro W3 B3
      have B4 := Below.then B B3
      go_wp2_with fail
      go_ret
      exact ⟨Eq.trans rfl (congrArg (fun b => Ending.returned (.bool b)) (HNO.out (fun h => by have := (HFJ.out h).2.2.1.2; omega)).symm), B4⟩
    by_cases q4x : lr = rk
    · have q4 : (lr : Int) = (rk : Int) := by omega
      by_cases q5 : 64 < (lb : Int)
      · go_wp2_with fail
        refine grow_allW (by kernel_rfl) (by kernel_rfl) ?_
        refine WG.put rfl (v := (.pointer (some ⟨b3, 0, none⟩))) (fun w => by first | rfl | (go_simp; done) | (simp [go_sem, hi]; done) | (simp [execOp, go_sem, hi]; done)) ?_; simp only [sP]
        refine WG.load1 rfl 29 _ rfl rfl (C3) (v := (.slice (some ⟨bp, op, none⟩) n cp)) rfl (fun w h => by simp [go_sem, h]) ?_; simp only [sP]
        refine WG.put rfl (v := (.int .i64 (j : Int))) (fun w => by first | rfl | (go_simp; done) | (simp [go_sem, hi]; done) | (simp [execOp, go_sem, hi]; done)) ?_; simp only [sP]
        refine WG.put rfl (v := (.pointer (some ⟨bp, op + j, none⟩))) (fun w => by first | rfl | (go_simp; done) | (simp [go_sem, hi]; done) | (simp [execOp, go_sem, hi]; done)) ?_; simp only [sP]
        refine WG.cell rfl 3 _ rfl rfl (yp) (fun w h => by simp [go_sem, h]) ?_; simp only [sP]
        refine WG.put rfl (v := (.bool false)) (fun w => by first | rfl | (go_simp; done) | (simp [go_sem, q0, hi]; done) | (simp [execOp, go_sem, q0, hi]; done)) ?_; simp only [sP]
        refine WG.put rfl (v := (.bool false)) (fun w => by first | rfl | (go_simp; done) | (simp [go_sem, hi]; done) | (simp [execOp, go_sem, hi]; done)) ?_; simp only [sP]
        refine WG.put rfl (v := (.pointer (some ⟨b3, 0, none⟩))) (fun w => by first | rfl | (go_simp; done) | (simp [go_sem, hi]; done) | (simp [execOp, go_sem, hi]; done)) ?_; simp only [sP]
        refine WG.load1 rfl 29 _ rfl rfl (C3) (v := (.slice (some ⟨bp, op, none⟩) n cp)) rfl (fun w h => by simp [go_sem, h]) ?_; simp only [sP]
        refine WG.put rfl (v := (.int .i64 (j : Int))) (fun w => by first | rfl | (go_simp; done) | (simp [go_sem, hi]; done) | (simp [execOp, go_sem, hi]; done)) ?_; simp only [sP]
        refine WG.put rfl (v := (.pointer (some ⟨bp, op + j, none⟩))) (fun w => by first | rfl | (go_simp; done) | (simp [go_sem, hi]; done) | (simp [execOp, go_sem, hi]; done)) ?_; simp only [sP]
        refine WG.cell rfl 3 _ rfl rfl (yp) (fun w h => by simp [go_sem, h]) ?_; simp only [sP]
        refine WG.put rfl (v := (.pointer (some ⟨b2, 0, none⟩))) (fun w => by first | rfl | (go_simp; done) | (simp [go_sem, hi]; done) | (simp [execOp, go_sem, hi]; done)) ?_; simp only [sP]
        refine WG.load1 rfl 22 _ rfl rfl (C2) (v := (.slice (some ⟨bt, ot, none⟩) n ct)) rfl (fun w h => by simp [go_sem, h]) ?_; simp only [sP]
        refine WG.put rfl (v := (.int .i64 (j : Int))) (fun w => by first | rfl | (go_simp; done) | (simp [go_sem, hi]; done) | (simp [execOp, go_sem, hi]; done)) ?_; simp only [sP]
        refine WG.put rfl (v := (.pointer (some ⟨bt, ot + j, none⟩))) (fun w => by first | rfl | (go_simp; done) | (simp [go_sem, hi]; done) | (simp [execOp, go_sem, hi]; done)) ?_; simp only [sP]
        refine WG.cell rfl 61 _ rfl rfl (yt) (fun w h => by simp [go_sem, h]) ?_; simp only [sP]
        refine WG.put rfl (v := (.int .i64 ((ij : Nat) : Int))) (fun w => by first | rfl | (go_simp; done) | (simp [go_sem, hi]; done) | (simp [execOp, go_sem, hi]; done)) ?_; simp only [sP]
        refine WG.put rfl (v := (.bool false)) (fun w => by first | rfl | (go_simp; done) | (simp [go_sem, q1, hi]; done) | (simp [execOp, go_sem, q1, hi]; done)) ?_; simp only [sP]
        refine WG.put rfl (v := (.bool false)) (fun w => by first | rfl | (go_simp; done) | (simp [go_sem, hi]; done) | (simp [execOp, go_sem, hi]; done)) ?_; simp only [sP]
        refine WG.put rfl (v := (.bool false)) (fun w => by first | rfl | (go_simp; done) | (simp [go_sem, hi]; done) | (simp [execOp, go_sem, hi]; done)) ?_; simp only [sP]
        refine WG.put rfl (v := (.pointer (some ⟨b3, 1, none⟩))) (fun w => by first | rfl | (go_simp; done) | (simp [go_sem, hi]; done) | (simp [execOp, go_sem, hi]; done)) ?_; simp only [sP]
        refine WG.load1 rfl 29 _ rfl rfl (C3) (v := (.slice (some ⟨bh, oh, none⟩) n ch)) rfl (fun w h => by simp [go_sem, h]) ?_; simp only [sP]
        refine WG.put rfl (v := (.int .i64 (j : Int))) (fun w => by first | rfl | (go_simp; done) | (simp [go_sem, hi]; done) | (simp [execOp, go_sem, hi]; done)) ?_; simp only [sP]
        refine WG.put rfl (v := (.pointer (some ⟨bh, oh + j, none⟩))) (fun w => by first | rfl | (go_simp; done) | (simp [go_sem, hi]; done) | (simp [execOp, go_sem, hi]; done)) ?_; simp only [sP]
        refine WG.cell rfl 3 _ rfl rfl (yh) (fun w h => by simp [go_sem, h]) ?_; simp only [sP]
        refine WG.put rfl (v := (.bool false)) (fun w => by first | rfl | (go_simp; done) | (simp [go_sem, q2, hi]; done) | (simp [execOp, go_sem, q2, hi]; done)) ?_; simp only [sP]
        refine WG.put rfl (v := (.bool false)) (fun w => by first | rfl | (go_simp; done) | (simp [go_sem, hi]; done) | (simp [execOp, go_sem, hi]; done)) ?_; simp only [sP]
        refine WG.put rfl (v := (.bool false)) (fun w => by first | rfl | (go_simp; done) | (simp [go_sem, hi]; done) | (simp [execOp, go_sem, hi]; done)) ?_; simp only [sP]
        refine WG.put rfl (v := (.pointer (some ⟨b3, 1, none⟩))) (fun w => by first | rfl | (go_simp; done) | (simp [go_sem, hi]; done) | (simp [execOp, go_sem, hi]; done)) ?_; simp only [sP]
        refine WG.load1 rfl 29 _ rfl rfl (C3) (v := (.slice (some ⟨bh, oh, none⟩) n ch)) rfl (fun w h => by simp [go_sem, h]) ?_; simp only [sP]
        refine WG.put rfl (v := (.int .i64 (j : Int))) (fun w => by first | rfl | (go_simp; done) | (simp [go_sem, hi]; done) | (simp [execOp, go_sem, hi]; done)) ?_; simp only [sP]
        refine WG.put rfl (v := (.pointer (some ⟨bh, oh + j, none⟩))) (fun w => by first | rfl | (go_simp; done) | (simp [go_sem, hi]; done) | (simp [execOp, go_sem, hi]; done)) ?_; simp only [sP]
        refine WG.cell rfl 3 _ rfl rfl (yh) (fun w h => by simp [go_sem, h]) ?_; simp only [sP]
        refine WG.put rfl (v := (.bool false)) (fun w => by first | rfl | (go_simp; done) | (simp [go_sem, q3, hi]; done) | (simp [execOp, go_sem, q3, hi]; done)) ?_; simp only [sP]
        refine WG.put rfl (v := (.bool false)) (fun w => by first | rfl | (go_simp; done) | (simp [go_sem, hi]; done) | (simp [execOp, go_sem, hi]; done)) ?_; simp only [sP]
        refine WG.put rfl (v := (.bool false)) (fun w => by first | rfl | (go_simp; done) | (simp [go_sem, hi]; done) | (simp [execOp, go_sem, hi]; done)) ?_; simp only [sP]
        refine WG.put rfl (v := (.pointer (some ⟨b3, 2, none⟩))) (fun w => by first | rfl | (go_simp; done) | (simp [go_sem, hi]; done) | (simp [execOp, go_sem, hi]; done)) ?_; simp only [sP]
        refine WG.load1 rfl 25 _ rfl rfl (C3) (v := (.slice (some ⟨bg, og, none⟩) n cg)) rfl (fun w h => by simp [go_sem, h]) ?_; simp only [sP]
        refine WG.put rfl (v := (.int .i64 (j : Int))) (fun w => by first | rfl | (go_simp; done) | (simp [go_sem, hi]; done) | (simp [execOp, go_sem, hi]; done)) ?_; simp only [sP]
        refine WG.put rfl (v := (.pointer (some ⟨bg, og + j, none⟩))) (fun w => by first | rfl | (go_simp; done) | (simp [go_sem, hi]; done) | (simp [execOp, go_sem, hi]; done)) ?_; simp only [sP]
        refine WG.cell rfl 26 _ rfl rfl (yg) (fun w h => by simp [go_sem, h]) ?_; simp only [sP]
        refine WG.put rfl (v := (.int .i64 ((lr : Nat) : Int))) (fun w => by first | rfl | (go_simp; done) | (simp [go_sem, hi]; done) | (simp [execOp, go_sem, hi]; done)) ?_; simp only [sP]
        refine WG.put rfl (v := (.pointer (some ⟨b2, 1, none⟩))) (fun w => by first | rfl | (go_simp; done) | (simp [go_sem, hi]; done) | (simp [execOp, go_sem, hi]; done)) ?_; simp only [sP]
        refine WG.load1 rfl 23 _ rfl rfl (C2) (v := (.slice (some ⟨br, orr, none⟩) n cr)) rfl (fun w h => by simp [go_sem, h]) ?_; simp only [sP]
        refine WG.put rfl (v := (.int .i64 (j : Int))) (fun w => by first | rfl | (go_simp; done) | (simp [go_sem, hi]; done) | (simp [execOp, go_sem, hi]; done)) ?_; simp only [sP]
        refine WG.put rfl (v := (.pointer (some ⟨br, orr + j, none⟩))) (fun w => by first | rfl | (go_simp; done) | (simp [go_sem, hi]; done) | (simp [execOp, go_sem, hi]; done)) ?_; simp only [sP]
        refine WG.cell rfl 24 _ rfl rfl (yr) (fun w h => by simp [go_sem, h]) ?_; simp only [sP]
        refine WG.put rfl (v := (.int .i64 ((rk : Nat) : Int))) (fun w => by first | rfl | (go_simp; done) | (simp [go_sem, hi]; done) | (simp [execOp, go_sem, hi]; done)) ?_; simp only [sP]
        refine WG.put rfl (v := (.bool false)) (fun w => by first | rfl | (go_simp; done) | (simp [go_sem, q4, hi]; done) | (simp [execOp, go_sem, q4, hi]; done)) ?_; simp only [sP]
        refine WG.put rfl (v := (.bool false)) (fun w => by first | rfl | (go_simp; done) | (simp [go_sem, hi]; done) | (simp [execOp, go_sem, hi]; done)) ?_; simp only [sP]
        refine WG.put rfl (v := (.bool false)) (fun w => by first | rfl | (go_simp; done) | (simp [go_sem, hi]; done) | (simp [execOp, go_sem, hi]; done)) ?_; simp only [sP]
        refine WG.put rfl (v := (.pointer (some ⟨b3, 4, none⟩))) (fun w => by first | rfl | (go_simp; done) | (simp [go_sem, hi]; done) | (simp [execOp, go_sem, hi]; done)) ?_; simp only [sP]
        refine WG.load1 rfl 30 _ rfl rfl (C3) (v := (.slice (some ⟨bb, ob, none⟩) n cb)) rfl (fun w h => by simp [go_sem, h]) ?_; simp only [sP]
        refine WG.put rfl (v := (.int .i64 (j : Int))) (fun w => by first | rfl | (go_simp; done) | (simp [go_sem, hi]; done) | (simp [execOp, go_sem, hi]; done)) ?_; simp only [sP]
        refine WG.put rfl (v := (.pointer (some ⟨bb, ob + j, none⟩))) (fun w => by first | rfl | (go_simp; done) | (simp [go_sem, hi]; done) | (simp [execOp, go_sem, hi]; done)) ?_; simp only [sP]
        refine WG.cell rfl 48 _ rfl rfl (yb) (fun w h => by simp [go_sem, h]) ?_; simp only [sP]
        refine WG.put rfl (v := (.int .i64 ((lb : Nat) : Int))) (fun w => by first | rfl | (go_simp; done) | (simp [go_sem, hi]; done) | (simp [execOp, go_sem, hi]; done)) ?_; simp only [sP]
        refine WG.put rfl (v := (.bool true)) (fun w => by first | rfl | (go_simp; done) | (simp [go_sem, q5, hi]; done) | (simp [execOp, go_sem, q5, hi]; done)) ?_; simp only [sP]
        refine WG.put rfl (v := (.bool true)) (fun w => by first | rfl | (go_simp; done) | (simp [go_sem, hi]; done) | (simp [execOp, go_sem, hi]; done)) ?_; simp only [sP]
        refine WG.nil ?_
        intro W3 B3
        have B4 := Below.then B B3
        go_wp2_with fail
        go_ret
        exact ⟨Eq.trans rfl (congrArg (fun b => Ending.returned (.bool b)) (HNO.out (fun h => by have := (HFJ.out h).2.2.2.1; have := HW.out.2.2.2.2.2.2; omega)).symm), B4⟩
      · go_wp2_with fail
        refine grow_allW (by kernel_rfl) (by kernel_rfl) ?_
        refine WG.put rfl (v := (.pointer (some ⟨b3, 0, none⟩))) (fun w => by first | rfl | (go_simp; done) | (simp [go_sem, hi]; done) | (simp [execOp, go_sem, hi]; done)) ?_; simp only [sP]
        refine WG.load1 rfl 29 _ rfl rfl (C3) (v := (.slice (some ⟨bp, op, none⟩) n cp)) rfl (fun w h => by simp [go_sem, h]) ?_; simp only [sP]
        refine WG.put rfl (v := (.int .i64 (j : Int))) (fun w => by first | rfl | (go_simp; done) | (simp [go_sem, hi]; done) | (simp [execOp, go_sem, hi]; done)) ?_; simp only [sP]
        refine WG.put rfl (v := (.pointer (some ⟨bp, op + j, none⟩))) (fun w => by first | rfl | (go_simp; done) | (simp [go_sem, hi]; done) | (simp [execOp, go_sem, hi]; done)) ?_; simp only [sP]
        refine WG.cell rfl 3 _ rfl rfl (yp) (fun w h => by simp [go_sem, h]) ?_; simp only [sP]
        refine WG.put rfl (v := (.bool false)) (fun w => by first | rfl | (go_simp; done) | (simp [go_sem, q0, hi]; done) | (simp [execOp, go_sem, q0, hi]; done)) ?_; simp only [sP]
        refine WG.put rfl (v := (.bool false)) (fun w => by first | rfl | (go_simp; done) | (simp [go_sem, hi]; done) | (simp [execOp, go_sem, hi]; done)) ?_; simp only [sP]
        refine WG.put rfl (v := (.pointer (some ⟨b3, 0, none⟩))) (fun w => by first | rfl | (go_simp; done) | (simp [go_sem, hi]; done) | (simp [execOp, go_sem, hi]; done)) ?_; simp only [sP]
        refine WG.load1 rfl 29 _ rfl rfl (C3) (v := (.slice (some ⟨bp, op, none⟩) n cp)) rfl (fun w h => by simp [go_sem, h]) ?_; simp only [sP]
        refine WG.put rfl (v := (.int .i64 (j : Int))) (fun w => by first | rfl | (go_simp; done) | (simp [go_sem, hi]; done) | (simp [execOp, go_sem, hi]; done)) ?_; simp only [sP]
        refine WG.put rfl (v := (.pointer (some ⟨bp, op + j, none⟩))) (fun w => by first | rfl | (go_simp; done) | (simp [go_sem, hi]; done) | (simp [execOp, go_sem, hi]; done)) ?_; simp only [sP]
        refine WG.cell rfl 3 _ rfl rfl (yp) (fun w h => by simp [go_sem, h]) ?_; simp only [sP]
        refine WG.put rfl (v := (.pointer (some ⟨b2, 0, none⟩))) (fun w => by first | rfl | (go_simp; done) | (simp [go_sem, hi]; done) | (simp [execOp, go_sem, hi]; done)) ?_; simp only [sP]
        refine WG.load1 rfl 22 _ rfl rfl (C2) (v := (.slice (some ⟨bt, ot, none⟩) n ct)) rfl (fun w h => by simp [go_sem, h]) ?_; simp only [sP]
        refine WG.put rfl (v := (.int .i64 (j : Int))) (fun w => by first | rfl | (go_simp; done) | (simp [go_sem, hi]; done) | (simp [execOp, go_sem, hi]; done)) ?_; simp only [sP]
        refine WG.put rfl (v := (.pointer (some ⟨bt, ot + j, none⟩))) (fun w => by first | rfl | (go_simp; done) | (simp [go_sem, hi]; done) | (simp [execOp, go_sem, hi]; done)) ?_; simp only [sP]
        refine WG.cell rfl 61 _ rfl rfl (yt) (fun w h => by simp [go_sem, h]) ?_; simp only [sP]
        refine WG.put rfl (v := (.int .i64 ((ij : Nat) : Int))) (fun w => by first | rfl | (go_simp; done) | (simp [go_sem, hi]; done) | (simp [execOp, go_sem, hi]; done)) ?_; simp only [sP]
        refine WG.put rfl (v := (.bool false)) (fun w => by first | rfl | (go_simp; done) | (simp [go_sem, q1, hi]; done) | (simp [execOp, go_sem, q1, hi]; done)) ?_; simp only [sP]
        refine WG.put rfl (v := (.bool false)) (fun w => by first | rfl | (go_simp; done) | (simp [go_sem, hi]; done) | (simp [execOp, go_sem, hi]; done)) ?_; simp only [sP]
        refine WG.put rfl (v := (.bool false)) (fun w => by first | rfl | (go_simp; done) | (simp [go_sem, hi]; done) | (simp [execOp, go_sem, hi]; done)) ?_; simp only [sP]
        refine WG.put rfl (v := (.pointer (some ⟨b3, 1, none⟩))) (fun w => by first | rfl | (go_simp; done) | (simp [go_sem, hi]; done) | (simp [execOp, go_sem, hi]; done)) ?_; simp only [sP]
        refine WG.load1 rfl 29 _ rfl rfl (C3) (v := (.slice (some ⟨bh, oh, none⟩) n ch)) rfl (fun w h => by simp [go_sem, h]) ?_; simp only [sP]
        refine WG.put rfl (v := (.int .i64 (j : Int))) (fun w => by first | rfl | (go_simp; done) | (simp [go_sem, hi]; done) | (simp [execOp, go_sem, hi]; done)) ?_; simp only [sP]
        refine WG.put rfl (v := (.pointer (some ⟨bh, oh + j, none⟩))) (fun w => by first | rfl | (go_simp; done) | (simp [go_sem, hi]; done) | (simp [execOp, go_sem, hi]; done)) ?_; simp only [sP]
        refine WG.cell rfl 3 _ rfl rfl (yh) (fun w h => by simp [go_sem, h]) ?_; simp only [sP]
        refine WG.put rfl (v := (.bool false)) (fun w => by first | rfl | (go_simp; done) | (simp [go_sem, q2, hi]; done) | (simp [execOp, go_sem, q2, hi]; done)) ?_; simp only [sP]
        refine WG.put rfl (v := (.bool false)) (fun w => by first | rfl | (go_simp; done) | (simp [go_sem, hi]; done) | (simp [execOp, go_sem, hi]; done)) ?_; simp only [sP]
        refine WG.put rfl (v := (.bool false)) (fun w => by first | rfl | (go_simp; done) | (simp [go_sem, hi]; done) | (simp [execOp, go_sem, hi]; done)) ?_; simp only [sP]
        refine WG.put rfl (v := (.pointer (some ⟨b3, 1, none⟩))) (fun w => by first | rfl | (go_simp; done) | (simp [go_sem, hi]; done) | (simp [execOp, go_sem, hi]; done)) ?_; simp only [sP]
        refine WG.load1 rfl 29 _ rfl rfl (C3) (v := (.slice (some ⟨bh, oh, none⟩) n ch)) rfl (fun w h => by simp [go_sem, h]) ?_; simp only [sP]
        refine WG.put rfl (v := (.int .i64 (j : Int))) (fun w => by first | rfl | (go_simp; done) | (simp [go_sem, hi]; done) | (simp [execOp, go_sem, hi]; done)) ?_; simp only [sP]
        refine WG.put rfl (v := (.pointer (some ⟨bh, oh + j, none⟩))) (fun w => by first | rfl | (go_simp; done) | (simp [go_sem, hi]; done) | (simp [execOp, go_sem, hi]; done)) ?_; simp only [sP]
        refine WG.cell rfl 3 _ rfl rfl (yh) (fun w h => by simp [go_sem, h]) ?_; simp only [sP]
        refine WG.put rfl (v := (.bool false)) (fun w => by first | rfl | (go_simp; done) | (simp [go_sem, q3, hi]; done) | (simp [execOp, go_sem, q3, hi]; done)) ?_; simp only [sP]
        refine WG.put rfl (v := (.bool false)) (fun w => by first | rfl | (go_simp; done) | (simp [go_sem, hi]; done) | (simp [execOp, go_sem, hi]; done)) ?_; simp only [sP]
        refine WG.put rfl (v := (.bool false)) (fun w => by first | rfl | (go_simp; done) | (simp [go_sem, hi]; done) | (simp [execOp, go_sem, hi]; done)) ?_; simp only [sP]
        refine WG.put rfl (v := (.pointer (some ⟨b3, 2, none⟩))) (fun w => by first | rfl | (go_simp; done) | (simp [go_sem, hi]; done) | (simp [execOp, go_sem, hi]; done)) ?_; simp only [sP]
        refine WG.load1 rfl 25 _ rfl rfl (C3) (v := (.slice (some ⟨bg, og, none⟩) n cg)) rfl (fun w h => by simp [go_sem, h]) ?_; simp only [sP]
        refine WG.put rfl (v := (.int .i64 (j : Int))) (fun w => by first | rfl | (go_simp; done) | (simp [go_sem, hi]; done) | (simp [execOp, go_sem, hi]; done)) ?_; simp only [sP]
        refine WG.put rfl (v := (.pointer (some ⟨bg, og + j, none⟩))) (fun w => by first | rfl | (go_simp; done) | (simp [go_sem, hi]; done) | (simp [execOp, go_sem, hi]; done)) ?_; simp only [sP]
        refine WG.cell rfl 26 _ rfl rfl (yg) (fun w h => by simp [go_sem, h]) ?_; simp only [sP]
        refine WG.put rfl (v := (.int .i64 ((lr : Nat) : Int))) (fun w => by first | rfl | (go_simp; done) | (simp [go_sem, hi]; done) | (simp [execOp, go_sem, hi]; done)) ?_; simp only [sP]
        refine WG.put rfl (v := (.pointer (some ⟨b2, 1, none⟩))) (fun w => by first | rfl | (go_simp; done) | (simp [go_sem, hi]; done) | (simp [execOp, go_sem, hi]; done)) ?_; simp only [sP]
        refine WG.load1 rfl 23 _ rfl rfl (C2) (v := (.slice (some ⟨br, orr, none⟩) n cr)) rfl (fun w h => by simp [go_sem, h]) ?_; simp only [sP]
        refine WG.put rfl (v := (.int .i64 (j : Int))) (fun w => by first | rfl | (go_simp; done) | (simp [go_sem, hi]; done) | (simp [execOp, go_sem, hi]; done)) ?_; simp only [sP]
        refine WG.put rfl (v := (.pointer (some ⟨br, orr + j, none⟩))) (fun w => by first | rfl | (go_simp; done) | (simp [go_sem, hi]; done) | (simp [execOp, go_sem, hi]; done)) ?_; simp only [sP]
        refine WG.cell rfl 24 _ rfl rfl (yr) (fun w h => by simp [go_sem, h]) ?_; simp only [sP]
        refine WG.put rfl (v := (.int .i64 ((rk : Nat) : Int))) (fun w => by first | rfl | (go_simp; done) | (simp [go_sem, hi]; done) | (simp [execOp, go_sem, hi]; done)) ?_; simp only [sP]
        refine WG.put rfl (v := (.bool false)) (fun w => by first | rfl | (go_simp; done) | (simp [go_sem, q4, hi]; done) | (simp [execOp, go_sem, q4, hi]; done)) ?_; simp only [sP]
        refine WG.put rfl (v := (.bool false)) (fun w => by first | rfl | (go_simp; done) | (simp [go_sem, hi]; done) | (simp [execOp, go_sem, hi]; done)) ?_; simp only [sP]
        refine WG.put rfl (v := (.bool false)) (fun w => by first | rfl | (go_simp; done) | (simp [go_sem, hi]; done) | (simp [execOp, go_sem, hi]; done)) ?_; simp only [sP]
        refine WG.put rfl (v := (.pointer (some ⟨b3, 4, none⟩))) (fun w => by first | rfl | (go_simp; done) | (simp [go_sem, hi]; done) | (simp [execOp, go_sem, hi]; done)) ?_; simp only [sP]
        refine WG.load1 rfl 30 _ rfl rfl (C3) (v := (.slice (some ⟨bb, ob, none⟩) n cb)) rfl (fun w h => by simp [go_sem, h]) ?_; simp only [sP]
        refine WG.put rfl (v := (.int .i64 (j : Int))) (fun w => by first | rfl | (go_simp; done) | (simp [go_sem, hi]; done) | (simp [execOp, go_sem, hi]; done)) ?_; simp only [sP]
        refine WG.put rfl (v := (.pointer (some ⟨bb, ob + j, none⟩))) (fun w => by first | rfl | (go_simp; done) | (simp [go_sem, hi]; done) | (simp [execOp, go_sem, hi]; done)) ?_; simp only [sP]
        refine WG.cell rfl 48 _ rfl rfl (yb) (fun w h => by simp [go_sem, h]) ?_; simp only [sP]
        refine WG.put rfl (v := (.int .i64 ((lb : Nat) : Int))) (fun w => by first | rfl | (go_simp; done) | (simp [go_sem, hi]; done) | (simp [execOp, go_sem, hi]; done)) ?_; simp only [sP]
        refine WG.put rfl (v := (.bool false)) (fun w => by first | rfl | (go_simp; done) | (simp [go_sem, q5, hi]; done) | (simp [execOp, go_sem, q5, hi]; done)) ?_; simp only [sP]
        refine WG.put rfl (v := (.bool false)) (fun w => by first | rfl | (go_simp; done) | (simp [go_sem, hi]; done) | (simp [execOp, go_sem, hi]; done)) ?_; simp only [sP]
        refine WG.nil ?_
        intro W3 B3
        have HC2' : Hid (IsS W3 b2 28 [.slice (some ⟨bt, ot, none⟩) n ct, .slice (some ⟨br, orr, none⟩) n cr, .slice al nl cl, vi, vj]) := C2.grown B3
        have HC3' : Hid (IsS W3 b3 32 [.slice (some ⟨bp, op, none⟩) n cp, .slice (some ⟨bh, oh, none⟩) n ch, .slice (some ⟨bg, og, none⟩) n cg, .slice am nl cm, .slice (some ⟨bb, ob, none⟩) n cb, .int .i64 lk]) := C3.grown B3
        have HB3 : Hid (Below W1.heap.size W1 W3) := Below.then HB.out B3
        have HYB : Hid (W3.cell? ⟨bb, ob + j, none⟩ = some (.slice ab2 (lb : Nat) cb2)) := by show _ = _; rw [B3.cell (p := ⟨bb, ob + j, none⟩) HBX.out]; exact yb
        have HBX3 : Hid (bb < W3.heap.size) := Nat.lt_of_lt_of_le HBX.out B3.size
        have HSB3 : Hid (Seg W3 ab2 (bf.flatMap wrE)) := HSB.out.below B3
        have HQ4 : Hid (lr = rk) := q4x
        clear yt yr yg yp yh yb C2 C3 B B3 HSB HBX HB q4 q4x
        go_wp2_with fail
        obtain ⟨WR, hWR⟩ : ∃ W, W = wr := ⟨_, rfl⟩
        subst hWR
        go_loopw [7] (fun i wr => ∃ q : Nat, q ≤ lb ∧ i = .int .i64 (q : Int) ∧ Hid (∀ x ∈ bf.take q, 0 ≤ x.1 ∧ x.1 < (nl : Int)) ∧ Hid (Below W3.heap.size W3 wr)) (fun i _ => lb - (intOf i).toNat)
        case atStart => exact ⟨0, by omega, rfl, (by intro x hx; simp at hx), Below.refl _ _⟩
        case round =>
         obtain ⟨q, hq, rfl, HAq, HBq⟩ := hrel
         have D2 := HC2'.out.grown HBq.out
         have D3 := HC3'.out.grown HBq.out
         have Bq := Below.then HB1.out (Below.then HB3.out HBq.out)
         have yb : wr.cell? ⟨bb, ob + j, none⟩ = some (.slice ab2 (lb : Nat) cb2) := by rw [HBq.out.cell (p := ⟨bb, ob + j, none⟩) HBX3.out]; exact HYB.out
         obtain ⟨x0, x1, x2, x3, x4, x5⟩ := st6 D3
         by_cases hqt : q < lb
         · have hqi : (q : Int) < lb := by omega
           obtain ⟨x, hx⟩ : ∃ x, bf[q]? = some x := ⟨_, List.getElem?_eq_getElem (by rw [HW.out.2.2.2.2.2.2]; exact hqt)⟩
           obtain ⟨xa, xc⟩ := x
           obtain ⟨g1, o1, e1, hg1, q1⟩ := (HSB3.out.below HBq.out).wr hx
           subst e1
           have HX : Hid (bf[q]? = some (xa, xc)) := hx
           clear hx
           by_cases r0 : xa < 0
           · go_wp2_with fail
             clear x0 x1 x2 x3 x4 x5
             refine grow_allW (by kernel_rfl) (by kernel_rfl) ?_
             refine WG.put rfl (v := (.pointer (some ⟨b3, 4, none⟩))) (fun w => by first | rfl | (go_simp; done) | (simp [go_sem, hi, hqi]; done) | (simp [execOp, go_sem, hi, hqi]; done)) ?_; simp only [sP]
             refine WG.load1 rfl 30 _ rfl rfl (D3) (v := (.slice (some ⟨bb, ob, none⟩) n cb)) rfl (fun w h => by simp [go_sem, h]) ?_; simp only [sP]
             refine WG.put rfl (v := (.int .i64 (j : Int))) (fun w => by first | rfl | (go_simp; done) | (simp [go_sem, hi, hqi]; done) | (simp [execOp, go_sem, hi, hqi]; done)) ?_; simp only [sP]
             refine WG.put rfl (v := (.pointer (some ⟨bb, ob + j, none⟩))) (fun w => by first | rfl | (go_simp; done) | (simp [go_sem, hi, hqi]; done) | (simp [execOp, go_sem, hi, hqi]; done)) ?_; simp only [sP]
             refine WG.cell rfl 48 _ rfl rfl (yb) (fun w h => by simp [go_sem, h]) ?_; simp only [sP]
             refine WG.put rfl (v := (.int .i64 (q : Int))) (fun w => by first | rfl | (go_simp; done) | (simp [go_sem, hi, hqi]; done) | (simp [execOp, go_sem, hi, hqi]; done)) ?_; simp only [sP]
             refine WG.put rfl (v := (.pointer (some ⟨g1, o1 + q * 2, none⟩))) (fun w => by first | rfl | (go_simp; done) | (simp [go_sem, hi, hqi]; done) | (simp [execOp, go_sem, hi, hqi]; done)) ?_; simp only [sP]
             refine WG.put rfl (v := (.pointer (some ⟨g1, o1 + q * 2 + 0, none⟩))) (fun w => by first | rfl | (go_simp; done) | (simp [go_sem, hi, hqi]; done) | (simp [execOp, go_sem, hi, hqi]; done)) ?_; simp only [sP]
             refine WG.cell rfl 3 _ rfl rfl (q1 0 _ rfl) (fun w h => ldcI w h) ?_; simp only [sP]
             refine WG.put rfl (v := (.bool true)) (fun w => by first | rfl | (go_simp; done) | (simp [go_sem, r0, hi, hqi]; done) | (simp [execOp, go_sem, r0, hi, hqi]; done)) ?_; simp only [sP]
             refine WG.put rfl (v := (.bool true)) (fun w => by first | rfl | (go_simp; done) | (simp [go_sem, hi, hqi]; done) | (simp [execOp, go_sem, hi, hqi]; done)) ?_; simp only [sP]
             refine WG.skip rfl ?_; simp only [sP]
             refine WG.skip rfl ?_; simp only [sP]
             refine WG.skip rfl ?_; simp only [sP]
             refine WG.skip rfl ?_; simp only [sP]
             refine WG.skip rfl ?_; simp only [sP]
             refine WG.skip rfl ?_; simp only [sP]
             refine WG.skip rfl ?_; simp only [sP]
             refine WG.skip rfl ?_; simp only [sP]
             refine WG.skip rfl ?_; simp only [sP]
             refine WG.skip rfl ?_; simp only [sP]
             refine WG.skip rfl ?_; simp only [sP]
             refine WG.skip rfl ?_; simp only [sP]
             refine WG.skip rfl ?_; simp only [sP]
             refine WG.put rfl (v := (.bool true)) (fun w => by first | rfl | (go_simp; done) | (simp [go_sem, hi, hqi]; done) | (simp [execOp, go_sem, hi, hqi]; done)) ?_; simp only [sP]
             refine WG.nil ?_
             intro W8 B8
             go_wp2_with fail
             go_ret
             exact ⟨Eq.trans rfl (congrArg (fun b => Ending.returned (.bool b)) (HNO.out (fun h => by have := (HFJ.out h).2.2.2.2 _ (List.mem_of_getElem? HX.out); simp at this; omega)).symm), Below.then Bq B8⟩
           by_cases r1 : (nl : Int) ≤ xa
           · go_wp2_with fail
             clear x0 x1 x2 x3 x4 x5
             refine grow_allW (by kernel_rfl) (by kernel_rfl) ?_
             refine WG.put rfl (v := (.pointer (some ⟨b3, 4, none⟩))) (fun w => by first | rfl | (go_simp; done) | (simp [go_sem, hi, hqi]; done) | (simp [execOp, go_sem, hi, hqi]; done)) ?_; simp only [sP]
             refine WG.load1 rfl 30 _ rfl rfl (D3) (v := (.slice (some ⟨bb, ob, none⟩) n cb)) rfl (fun w h => by simp [go_sem, h]) ?_; simp only [sP]
             refine WG.put rfl (v := (.int .i64 (j : Int))) (fun w => by first | rfl | (go_simp; done) | (simp [go_sem, hi, hqi]; done) | (simp [execOp, go_sem, hi, hqi]; done)) ?_; simp only [sP]
             refine WG.put rfl (v := (.pointer (some ⟨bb, ob + j, none⟩))) (fun w => by first | rfl | (go_simp; done) | (simp [go_sem, hi, hqi]; done) | (simp [execOp, go_sem, hi, hqi]; done)) ?_; simp only [sP]
             refine WG.cell rfl 48 _ rfl rfl (yb) (fun w h => by simp [go_sem, h]) ?_; simp only [sP]
             refine WG.put rfl (v := (.int .i64 (q : Int))) (fun w => by first | rfl | (go_simp; done) | (simp [go_sem, hi, hqi]; done) | (simp [execOp, go_sem, hi, hqi]; done)) ?_; simp only [sP]
             refine WG.put rfl (v := (.pointer (some ⟨g1, o1 + q * 2, none⟩))) (fun w => by first | rfl | (go_simp; done) | (simp [go_sem, hi, hqi]; done) | (simp [execOp, go_sem, hi, hqi]; done)) ?_; simp only [sP]
             refine WG.put rfl (v := (.pointer (some ⟨g1, o1 + q * 2 + 0, none⟩))) (fun w => by first | rfl | (go_simp; done) | (simp [go_sem, hi, hqi]; done) | (simp [execOp, go_sem, hi, hqi]; done)) ?_; simp only [sP]
             refine WG.cell rfl 3 _ rfl rfl (q1 0 _ rfl) (fun w h => ldcI w h) ?_; simp only [sP]
             refine WG.put rfl (v := (.bool false)) (fun w => by first | rfl | (go_simp; done) | (simp [go_sem, r0, hi, hqi]; done) | (simp [execOp, go_sem, r0, hi, hqi]; done)) ?_; simp only [sP]
             refine WG.put rfl (v := (.bool false)) (fun w => by first | rfl | (go_simp; done) | (simp [go_sem, hi, hqi]; done) | (simp [execOp, go_sem, hi, hqi]; done)) ?_; simp only [sP]
             refine WG.put rfl (v := (.pointer (some ⟨b3, 4, none⟩))) (fun w => by first | rfl | (go_simp; done) | (simp [go_sem, hi, hqi]; done) | (simp [execOp, go_sem, hi, hqi]; done)) ?_; simp only [sP]
             refine WG.load1 rfl 30 _ rfl rfl (D3) (v := (.slice (some ⟨bb, ob, none⟩) n cb)) rfl (fun w h => by simp [go_sem, h]) ?_; simp only [sP]
             refine WG.put rfl (v := (.int .i64 (j : Int))) (fun w => by first | rfl | (go_simp; done) | (simp [go_sem, hi, hqi]; done) | (simp [execOp, go_sem, hi, hqi]; done)) ?_; simp only [sP]
             refine WG.put rfl (v := (.pointer (some ⟨bb, ob + j, none⟩))) (fun w => by first | rfl | (go_simp; done) | (simp [go_sem, hi, hqi]; done) | (simp [execOp, go_sem, hi, hqi]; done)) ?_; simp only [sP]
             refine WG.cell rfl 48 _ rfl rfl (yb) (fun w h => by simp [go_sem, h]) ?_; simp only [sP]
             refine WG.put rfl (v := (.int .i64 (q : Int))) (fun w => by first | rfl | (go_simp; done) | (simp [go_sem, hi, hqi]; done) | (simp [execOp, go_sem, hi, hqi]; done)) ?_; simp only [sP]
             refine WG.put rfl (v := (.pointer (some ⟨g1, o1 + q * 2, none⟩))) (fun w => by first | rfl | (go_simp; done) | (simp [go_sem, hi, hqi]; done) | (simp [execOp, go_sem, hi, hqi]; done)) ?_; simp only [sP]
             refine WG.put rfl (v := (.pointer (some ⟨g1, o1 + q * 2 + 0, none⟩))) (fun w => by first | rfl | (go_simp; done) | (simp [go_sem, hi, hqi]; done) | (simp [execOp, go_sem, hi, hqi]; done)) ?_; simp only [sP]
             refine WG.cell rfl 3 _ rfl rfl (q1 0 _ rfl) (fun w h => ldcI w h) ?_; simp only [sP]
             refine WG.put rfl (v := (.pointer (some ⟨b2, 2, none⟩))) (fun w => by first | rfl | (go_simp; done) | (simp [go_sem, hi, hqi]; done) | (simp [execOp, go_sem, hi, hqi]; done)) ?_; simp only [sP]
             refine WG.load1 rfl 24 _ rfl rfl (D2) (v := (.slice al nl cl)) rfl (fun w h => by simp [go_sem, h]) ?_; simp only [sP]
             refine WG.put rfl (v := (.int .i64 (nl : Int))) (fun w => by first | rfl | (go_simp; done) | (simp [go_sem, hi, hqi]; done) | (simp [execOp, go_sem, hi, hqi]; done)) ?_; simp only [sP]
             refine WG.put rfl (v := (.bool true)) (fun w => by first | rfl | (go_simp; done) | (simp [go_sem, r1, hi, hqi]; done) | (simp [execOp, go_sem, r1, hi, hqi]; done)) ?_; simp only [sP]
             refine WG.put rfl (v := (.bool true)) (fun w => by first | rfl | (go_simp; done) | (simp [go_sem, hi, hqi]; done) | (simp [execOp, go_sem, hi, hqi]; done)) ?_; simp only [sP]
             refine WG.nil ?_
             intro W8 B8
             go_wp2_with fail
             go_ret
             exact ⟨Eq.trans rfl (congrArg (fun b => Ending.returned (.bool b)) (HNO.out (fun h => by have := (HFJ.out h).2.2.2.2 _ (List.mem_of_getElem? HX.out); simp at this; omega)).symm), Below.then Bq B8⟩
           · go_wp2_with fail
             clear x0 x1 x2 x3 x4 x5
             refine grow_allW (by kernel_rfl) (by kernel_rfl) ?_
             refine WG.put rfl (v := (.pointer (some ⟨b3, 4, none⟩))) (fun w => by first | rfl | (go_simp; done) | (simp [go_sem, hi, hqi]; done) | (simp [execOp, go_sem, hi, hqi]; done)) ?_; simp only [sP]
             refine WG.load1 rfl 30 _ rfl rfl (D3) (v := (.slice (some ⟨bb, ob, none⟩) n cb)) rfl (fun w h => by simp [go_sem, h]) ?_; simp only [sP]
             refine WG.put rfl (v := (.int .i64 (j : Int))) (fun w => by first | rfl | (go_simp; done) | (simp [go_sem, hi, hqi]; done) | (simp [execOp, go_sem, hi, hqi]; done)) ?_; simp only [sP]
             refine WG.put rfl (v := (.pointer (some ⟨bb, ob + j, none⟩))) (fun w => by first | rfl | (go_simp; done) | (simp [go_sem, hi, hqi]; done) | (simp [execOp, go_sem, hi, hqi]; done)) ?_; simp only [sP]
             refine WG.cell rfl 48 _ rfl rfl (yb) (fun w h => by simp [go_sem, h]) ?_; simp only [sP]
             refine WG.put rfl (v := (.int .i64 (q : Int))) (fun w => by first | rfl | (go_simp; done) | (simp [go_sem, hi, hqi]; done) | (simp [execOp, go_sem, hi, hqi]; done)) ?_; simp only [sP]
             refine WG.put rfl (v := (.pointer (some ⟨g1, o1 + q * 2, none⟩))) (fun w => by first | rfl | (go_simp; done) | (simp [go_sem, hi, hqi]; done) | (simp [execOp, go_sem, hi, hqi]; done)) ?_; simp only [sP]
             refine WG.put rfl (v := (.pointer (some ⟨g1, o1 + q * 2 + 0, none⟩))) (fun w => by first | rfl | (go_simp; done) | (simp [go_sem, hi, hqi]; done) | (simp [execOp, go_sem, hi, hqi]; done)) ?_; simp only [sP]
             refine WG.cell rfl 3 _ rfl rfl (q1 0 _ rfl) (fun w h => ldcI w h) ?_; simp only [sP]
             refine WG.put rfl (v := (.bool false)) (fun w => by first | rfl | (go_simp; done) | (simp [go_sem, r0, hi, hqi]; done) | (simp [execOp, go_sem, r0, hi, hqi]; done)) ?_; simp only [sP]
             refine WG.put rfl (v := (.bool false)) (fun w => by first | rfl | (go_simp; done) | (simp [go_sem, hi, hqi]; done) | (simp [execOp, go_sem, hi, hqi]; done)) ?_; simp only [sP]
             refine WG.put rfl (v := (.pointer (some ⟨b3, 4, none⟩))) (fun w => by first | rfl | (go_simp; done) | (simp [go_sem, hi, hqi]; done) | (simp [execOp, go_sem, hi, hqi]; done)) ?_; simp only [sP]
             refine WG.load1 rfl 30 _ rfl rfl (D3) (v := (.slice (some ⟨bb, ob, none⟩) n cb)) rfl (fun w h => by simp [go_sem, h]) ?_; simp only [sP]
             refine WG.put rfl (v := (.int .i64 (j : Int))) (fun w => by first | rfl | (go_simp; done) | (simp [go_sem, hi, hqi]; done) | (simp [execOp, go_sem, hi, hqi]; done)) ?_; simp only [sP]
             refine WG.put rfl (v := (.pointer (some ⟨bb, ob + j, none⟩))) (fun w => by first | rfl | (go_simp; done) | (simp [go_sem, hi, hqi]; done) | (simp [execOp, go_sem, hi, hqi]; done)) ?_; simp only [sP]
             refine WG.cell rfl 48 _ rfl rfl (yb) (fun w h => by simp [go_sem, h]) ?_; simp only [sP]
             refine WG.put rfl (v := (.int .i64 (q : Int))) (fun w => by first | rfl | (go_simp; done) | (simp [go_sem, hi, hqi]; done) | (simp [execOp, go_sem, hi, hqi]; done)) ?_; simp only [sP]
             refine WG.put rfl (v := (.pointer (some ⟨g1, o1 + q * 2, none⟩))) (fun w => by first | rfl | (go_simp; done) | (simp [go_sem, hi, hqi]; done) | (simp [execOp, go_sem, hi, hqi]; done)) ?_; simp only [sP]
             refine WG.put rfl (v := (.pointer (some ⟨g1, o1 + q * 2 + 0, none⟩))) (fun w => by first | rfl | (go_simp; done) | (simp [go_sem, hi, hqi]; done) | (simp [execOp, go_sem, hi, hqi]; done)) ?_; simp only [sP]
             refine WG.cell rfl 3 _ rfl rfl (q1 0 _ rfl) (fun w h => ldcI w h) ?_; simp only [sP]
             refine WG.put rfl (v := (.pointer (some ⟨b2, 2, none⟩))) (fun w => by first | rfl | (go_simp; done) | (simp [go_sem, hi, hqi]; done) | (simp [execOp, go_sem, hi, hqi]; done)) ?_; simp only [sP]
             refine WG.load1 rfl 24 _ rfl rfl (D2) (v := (.slice al nl cl)) rfl (fun w h => by simp [go_sem, h]) ?_; simp only [sP]
             refine WG.put rfl (v := (.int .i64 (nl : Int))) (fun w => by first | rfl | (go_simp; done) | (simp [go_sem, hi, hqi]; done) | (simp [execOp, go_sem, hi, hqi]; done)) ?_; simp only [sP]
             refine WG.put rfl (v := (.bool false)) (fun w => by first | rfl | (go_simp; done) | (simp [go_sem, r1, hi, hqi]; done) | (simp [execOp, go_sem, r1, hi, hqi]; done)) ?_; simp only [sP]
             refine WG.put rfl (v := (.bool false)) (fun w => by first | rfl | (go_simp; done) | (simp [go_sem, hi, hqi]; done) | (simp [execOp, go_sem, hi, hqi]; done)) ?_; simp only [sP]
             refine WG.nil ?_
             intro W8 B8
             have B9 : Hid (Below W3.heap.size W3 W8) := Below.then HBq.out B8
             go_wp2_with fail
             go_roundw
             case rel => exact ⟨q + 1, by omega, by go_num, (by
              show ∀ x ∈ bf.take (q + 1), _
              intro x hx
              rw [takeS_snoc HX.out] at hx
              rcases List.mem_append.1 hx with hx | hx
              · exact HAq.out x hx
              · simp only [List.mem_singleton] at hx; subst hx; exact ⟨by omega, by omega⟩), B9⟩
             case measure => simp [intOf]; omega
         · obtain rfl : q = lb := by omega
           have hqi : ¬ (q : Int) < q := by omega
           go_wp2_with fail
           go_roundw
           case rel => exact ⟨j + 1, by omega, by go_num, (by
            show ∀ i, _ → _
            intro i hi'
            by_cases hij : i < j
            · exact HA.out i hij
            · obtain rfl : i = j := by omega
              obtain ⟨w1, w2, w3, w4, w5, w6, w7⟩ := HW.out
              rw [w1, w2, w3, w4, w5, w6]
              refine ⟨HQ4.out, by omega, by omega, by omega, ?_⟩
              have := HAq.out
              rw [List.take_of_length_le (by omega)] at this
              exact this), Below.then HB3.out HBq.out⟩
           case measure => simp [intOf]; omega
    · have q4 : ¬ ((lr : Int) = (rk : Int)) := by omega
      go_wp2_with fail
      refine grow_allW (by kernel_rfl) (by kernel_rfl) ?_
      refine WG.put rfl (v := (.pointer (some ⟨b3, 0, none⟩))) (fun w => by first | rfl | (go_simp; done) | (simp [go_sem, hi]; done) | (simp [execOp, go_sem, hi]; done)) ?_; simp only [sP]
      refine WG.load1 rfl 29 _ rfl rfl (C3) (v := (.slice (some ⟨bp, op, none⟩) n cp)) rfl (fun w h => by simp [go_sem, h]) ?_; simp only [sP]
      refine WG.put rfl (v := (.int .i64 (j : Int))) (fun w => by first | rfl | (go_simp; done) | (simp [go_sem, hi]; done) | (simp [execOp, go_sem, hi]; done)) ?_; simp only [sP]
      refine WG.put rfl (v := (.pointer (some ⟨bp, op + j, none⟩))) (fun w => by first | rfl | (go_simp; done) | (simp [go_sem, hi]; done) | (simp [execOp, go_sem, hi]; done)) ?_; simp only [sP]
      refine WG.cell rfl 3 _ rfl rfl (yp) (fun w h => by simp [go_sem, h]) ?_; simp only [sP]
      refine WG.put rfl (v := (.bool false)) (fun w => by first | rfl | (go_simp; done) | (simp [go_sem, q0, hi]; done) | (simp [execOp, go_sem, q0, hi]; done)) ?_; simp only [sP]
      refine WG.put rfl (v := (.bool false)) (fun w => by first | rfl | (go_simp; done) | (simp [go_sem, hi]; done) | (simp [execOp, go_sem, hi]; done)) ?_; simp only [sP]
      refine WG.put rfl (v := (.pointer (some ⟨b3, 0, none⟩))) (fun w => by first | rfl | (go_simp; done) | (simp [go_sem, hi]; done) | (simp [execOp, go_sem, hi]; done)) ?_; simp only [sP]
      refine WG.load1 rfl 29 _ rfl rfl (C3) (v := (.slice (some ⟨bp, op, none⟩) n cp)) rfl (fun w h => by simp [go_sem, h]) ?_; simp only [sP]
      refine WG.put rfl (v := (.int .i64 (j : Int))) (fun w => by first | rfl | (go_simp; done) | (simp [go_sem, hi]; done) | (simp [execOp, go_sem, hi]; done)) ?_; simp only [sP]
      refine WG.put rfl (v := (.pointer (some ⟨bp, op + j, none⟩))) (fun w => by first | rfl | (go_simp; done) | (simp [go_sem, hi]; done) | (simp [execOp, go_sem, hi]; done)) ?_; simp only [sP]
      refine WG.cell rfl 3 _ rfl rfl (yp) (fun w h => by simp [go_sem, h]) ?_; simp only [sP]
      refine WG.put rfl (v := (.pointer (some ⟨b2, 0, none⟩))) (fun w => by first | rfl | (go_simp; done) | (simp [go_sem, hi]; done) | (simp [execOp, go_sem, hi]; done)) ?_; simp only [sP]
      refine WG.load1 rfl 22 _ rfl rfl (C2) (v := (.slice (some ⟨bt, ot, none⟩) n ct)) rfl (fun w h => by simp [go_sem, h]) ?_; simp only [sP]
      refine WG.put rfl (v := (.int .i64 (j : Int))) (fun w => by first | rfl | (go_simp; done) | (simp [go_sem, hi]; done) | (simp [execOp, go_sem, hi]; done)) ?_; simp only [sP]
      refine WG.put rfl (v := (.pointer (some ⟨bt, ot + j, none⟩))) (fun w => by first | rfl | (go_simp; done) | (simp [go_sem, hi]; done) | (simp [execOp, go_sem, hi]; done)) ?_; simp only [sP]
      refine WG.cell rfl 61 _ rfl rfl (yt) (fun w h => by simp [go_sem, h]) ?_; simp only [sP]
      refine WG.put rfl (v := (.int .i64 ((ij : Nat) : Int))) (fun w => by first | rfl | (go_simp; done) | (simp [go_sem, hi]; done) | (simp [execOp, go_sem, hi]; done)) ?_; simp only [sP]
      refine WG.put rfl (v := (.bool false)) (fun w => by first | rfl | (go_simp; done) | (simp [go_sem, q1, hi]; done) | (simp [execOp, go_sem, q1, hi]; done)) ?_; simp only [sP]
      refine WG.put rfl (v := (.bool false)) (fun w => by first | rfl | (go_simp; done) | (simp [go_sem, hi]; done) | (simp [execOp, go_sem, hi]; done)) ?_; simp only [sP]
      refine WG.put rfl (v := (.bool false)) (fun w => by first | rfl | (go_simp; done) | (simp [go_sem, hi]; done) | (simp [execOp, go_sem, hi]; done)) ?_; simp only [sP]
      refine WG.put rfl (v := (.pointer (some ⟨b3, 1, none⟩))) (fun w => by first | rfl | (go_simp; done) | (simp [go_sem, hi]; done) | (simp [execOp, go_sem, hi]; done)) ?_; simp only [sP]
      refine WG.load1 rfl 29 _ rfl rfl (C3) (v := (.slice (some ⟨bh, oh, none⟩) n ch)) rfl (fun w h => by simp [go_sem, h]) ?_; simp only [sP]
      refine WG.put rfl (v := (.int .i64 (j : Int))) (fun w => by first | rfl | (go_simp; done) | (simp [go_sem, hi]; done) | (simp [execOp, go_sem, hi]; done)) ?_; simp only [sP]
      refine WG.put rfl (v := (.pointer (some ⟨bh, oh + j, none⟩))) (fun w => by first | rfl | (go_simp; done) | (simp [go_sem, hi]; done) | (simp [execOp, go_sem, hi]; done)) ?_; simp only [sP]
      refine WG.cell rfl 3 _ rfl rfl (yh) (fun w h => by simp [go_sem, h]) ?_; simp only [sP]
      refine WG.put rfl (v := (.bool false)) (fun w => by first | rfl | (go_simp; done) | (simp [go_sem, q2, hi]; done) | (simp [execOp, go_sem, q2, hi]; done)) ?_; simp only [sP]
      refine WG.put rfl (v := (.bool false)) (fun w => by first | rfl | (go_simp; done) | (simp [go_sem, hi]; done) | (simp [execOp, go_sem, hi]; done)) ?_; simp only [sP]
      refine WG.put rfl (v := (.bool false)) (fun w => by first | rfl | (go_simp; done) | (simp [go_sem, hi]; done) | (simp [execOp, go_sem, hi]; done)) ?_; simp only [sP]
      refine WG.put rfl (v := (.pointer (some ⟨b3, 1, none⟩))) (fun w => by first | rfl | (go_simp; done) | (simp [go_sem, hi]; done) | (simp [execOp, go_sem, hi]; done)) ?_; simp only [sP]
      refine WG.load1 rfl 29 _ rfl rfl (C3) (v := (.slice (some ⟨bh, oh, none⟩) n ch)) rfl (fun w h => by simp [go_sem, h]) ?_; simp only [sP]
      refine WG.put rfl (v := (.int .i64 (j : Int))) (fun w => by first | rfl | (go_simp; done) | (simp [go_sem, hi]; done) | (simp [execOp, go_sem, hi]; done)) ?_; simp only [sP]
      refine WG.put rfl (v := (.pointer (some ⟨bh, oh + j, none⟩))) (fun w => by first | rfl | (go_simp; done) | (simp [go_sem, hi]; done) | (simp [execOp, go_sem, hi]; done)) ?_; simp only [sP]
      refine WG.cell rfl 3 _ rfl rfl (yh) (fun w h => by simp [go_sem, h]) ?_; simp only [sP]
      refine WG.put rfl (v := (.bool false)) (fun w => by first | rfl | (go_simp; done) | (simp [go_sem, q3, hi]; done) | (simp [execOp, go_sem, q3, hi]; done)) ?_; simp only [sP]
      refine WG.put rfl (v := (.bool false)) (fun w => by first | rfl | (go_simp; done) | (simp [go_sem, hi]; done) | (simp [execOp, go_sem, hi]; done)) ?_; simp only [sP]
      refine WG.put rfl (v := (.bool false)) (fun w => by first | rfl | (go_simp; done) | (simp [go_sem, hi]; done) | (simp [execOp, go_sem, hi]; done)) ?_; simp only [sP]
      refine WG.put rfl (v := (.pointer (some ⟨b3, 2, none⟩))) (fun w => by first | rfl | (go_simp; done) | (simp [go_sem, hi]; done) | (simp [execOp, go_sem, hi]; done)) ?_; simp only [sP]
      refine WG.load1 rfl 25 _ rfl rfl (C3) (v := (.slice (some ⟨bg, og, none⟩) n cg)) rfl (fun w h => by simp [go_sem, h]) ?_; simp only [sP]
      refine WG.put rfl (v := (.int .i64 (j : Int))) (fun w => by first | rfl | (go_simp; done) | (simp [go_sem, hi]; done) | (simp [execOp, go_sem, hi]; done)) ?_; simp only [sP]
      refine WG.put rfl (v := (.pointer (some ⟨bg, og + j, none⟩))) (fun w => by first | rfl | (go_simp; done) | (simp [go_sem, hi]; done) | (simp [execOp, go_sem, hi]; done)) ?_; simp only [sP]
      refine WG.cell rfl 26 _ rfl rfl (yg) (fun w h => by simp [go_sem, h]) ?_; simp only [sP]
      refine WG.put rfl (v := (.int .i64 ((lr : Nat) : Int))) (fun w => by first | rfl | (go_simp; done) | (simp [go_sem, hi]; done) | (simp [execOp, go_sem, hi]; done)) ?_; simp only [sP]
      refine WG.put rfl (v := (.pointer (some ⟨b2, 1, none⟩))) (fun w => by first | rfl | (go_simp; done) | (simp [go_sem, hi]; done) | (simp [execOp, go_sem, hi]; done)) ?_; simp only [sP]
      refine WG.load1 rfl 23 _ rfl rfl (C2) (v := (.slice (some ⟨br, orr, none⟩) n cr)) rfl (fun w h => by simp [go_sem, h]) ?_; simp only [sP]
      refine WG.put rfl (v := (.int .i64 (j : Int))) (fun w => by first | rfl | (go_simp; done) | (simp [go_sem, hi]; done) | (simp [execOp, go_sem, hi]; done)) ?_; simp only [sP]
      refine WG.put rfl (v := (.pointer (some ⟨br, orr + j, none⟩))) (fun w => by first | rfl | (go_simp; done) | (simp [go_sem, hi]; done) | (simp [execOp, go_sem, hi]; done)) ?_; simp only [sP]
      refine WG.cell rfl 24 _ rfl rfl (yr) (fun w h => by simp [go_sem, h]) ?_; simp only [sP]
      refine WG.put rfl (v := (.int .i64 ((rk : Nat) : Int))) (fun w => by first | rfl | (go_simp; done) | (simp [go_sem, hi]; done) | (simp [execOp, go_sem, hi]; done)) ?_; simp only [sP]
      refine WG.put rfl (v := (.bool true)) (fun w => by first | rfl | (go_simp; done) | (simp [go_sem, q4, hi]; done) | (simp [execOp, go_sem, q4, hi]; done)) ?_; simp only [sP]
      refine WG.put rfl (v := (.bool true)) (fun w => by first | rfl | (go_simp; done) | (simp [go_sem, hi]; done) | (simp [execOp, go_sem, hi]; done)) ?_; simp only [sP]
      refine WG.put rfl (v := (.bool true)) (fun w => by first | rfl | (go_simp; done) | (simp [go_sem, hi]; done) | (simp [execOp, go_sem, hi]; done)) ?_; simp only [sP]
      refine WG.skip rfl ?_; simp only [sP]
      refine WG.skip rfl ?_; simp only [sP]
      refine WG.skip rfl ?_; simp only [sP]
      refine WG.skip rfl ?_; simp only [sP]
      refine WG.skip rfl ?_; simp only [sP]
      refine WG.skip rfl ?_; simp only [sP]
      refine WG.skip rfl ?_; simp only [sP]
      refine WG.put rfl (v := (.bool true)) (fun w => by first | rfl | (go_simp; done) | (simp [go_sem, hi]; done) | (simp [execOp, go_sem, hi]; done)) ?_; simp only [sP]
      refine WG.nil ?_
      intro W3 B3
      have B4 := Below.then B B3
      go_wp2_with fail
      go_ret
      exact ⟨Eq.trans rfl (congrArg (fun b => Ending.returned (.bool b)) (HNO.out (fun h => q4x (HFJ.out h).1)).symm), B4⟩
  · obtain rfl : j = n := by omega
    have hi : ¬ (j : Int) < j := by omega
    go_wp2_with fail
    go_ret
    exact ⟨Eq.trans rfl (congrArg (fun b => Ending.returned (.bool b)) (HYES.out HA.out).symm), B⟩
theorem ris_any (p : PG) (hf : p.Few) (hv : Vld p) (s : ST) (hs : s.Few) (vt vr vl vi vj vpc vph vrg vmm vbf : Value) (w : World) (hP : PGV w vt vr vl vi vj p) (hS : STV w s vpc vph vrg vmm vbf) :
    Calls Try.prog 31 #[.agg #[vt, vr, vl, vi, vj], .agg #[vpc, vph, vrg, vmm, vbf, .int .i64 s.lock]] w fun e w' => e = .returned (.bool (fitsB (shpOf p) s)) ∧ Below w.heap.size w w' := by
 obtain ⟨at0, ct, rfl⟩ := hP.t.form
 obtain ⟨ar, cr, rfl⟩ := hP.r.form
 obtain ⟨al, cl, rfl, _, _⟩ := hP.l
 obtain ⟨a1, c1, rfl, _, _⟩ := hS.pc
 obtain ⟨a2, c2, rfl, _, _⟩ := hS.ph
 obtain ⟨a3, c3, rfl⟩ := hS.rg.form
 obtain ⟨a4, c4, rfl, _, _⟩ := hS.mm
 obtain ⟨a5, c5, rfl⟩ := hS.bf.form
 have hl := shp_len hv
 by_cases h : s.pc.length = p.threads.length ∧ s.ph.length = p.threads.length ∧ s.regs.length = p.threads.length ∧ s.buf.length = p.threads.length ∧ s.mem.length = p.locs.length ∧ -1 ≤ s.lock ∧ s.lock ≤ (p.threads.length : Int) - 1
 · obtain ⟨h1, h2, h3, h4, h5, h6⟩ := h
   have := ris_eq p s p.threads.length p.locs.length at0 ar al a1 a2 a3 a4 a5 ct cr cl c1 c2 c3 c4 c5 vi vj s.lock w hf rfl hv.rl rfl hs rfl ⟨h1, h2, h3, h4, h5⟩ h6 (by have q := hP; rw [hv.rl] at q; exact q) (by have q := hS; rw [h1, h2, h3, h4, h5] at q; exact q)
   rw [h1, h2, h3, h4, h5, hv.rl]
   exact this
 · have hb : fitsB (shpOf p) s = false := by
    cases hb : fitsB (shpOf p) s with
    | false => rfl
    | true =>
     have hq := (fitsB_iff _ _).1 hb
     exact absurd ⟨by rw [hq.pc, hl.1], by rw [hq.ph, hl.1], by rw [hq.rg, hl.1], by rw [hq.bf, hl.1], hq.mm, by have := hq.lk; rw [hl.1] at this; exact this⟩ h
   rw [hb]
   exact ris_lens p.threads.length p.locs.length _ _ _ _ _ at0 ar al a1 a2 a3 a4 a5 ct cr cl c1 c2 c3 c4 c5 _ vi vj s.lock w ⟨hs.pc, hs.ph, hs.rg, hs.mm, hs.bf, hf.t, hf.l⟩ h
end Go.Proofs.Ytegpnicajlndlaa

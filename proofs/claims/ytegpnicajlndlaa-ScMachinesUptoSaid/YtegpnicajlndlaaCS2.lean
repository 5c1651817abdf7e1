/- CS2 -/
import Derived.Test.YtegpnicajlndlaaQav
namespace Go.Proofs.Ytegpnicajlndlaa
open Go.RowKit M
set_option linter.unusedSimpArgs false
set_option linter.unusedVariables false
set_option maxRecDepth 100000 in
set_option maxHeartbeats 8000000 in
theorem fits_eq (z : Shp) (s : ST) (n nl : Nat) (ai ar ap ah ag am ab : Option Addr) (ci cr cp ch cg cm cb : Nat) (lk : Int) (w : World)
    (hn : z.ins.length = n) (hn0 : n ≤ 1048576) (hnl0 : nl ≤ 1048576) (hzr : z.rgs.length = n) (hzl : z.locs = nl) (hfw : s.Few) (hlk : s.lock = lk) (hlens : lensB z s = true)
    (hI : Seg w ai ((natI z.ins).flatMap intE)) (hR : Seg w ar ((natI z.rgs).flatMap intE)) (hS : STV w s (.slice ap n cp) (.slice ah n ch) (.slice ag n cg) (.slice am nl cm) (.slice ab n cb)) :
    Calls Try.prog 42 #[.agg #[.slice ai n ci, .slice ar n cr, .int .i64 (nl : Int)], .agg #[.slice ap n cp, .slice ah n ch, .slice ag n cg, .slice am nl cm, .slice ab n cb, .int .i64 lk]] w fun e w' => e = .returned (.bool (fitsB z s)) ∧ Below w.heap.size w w' := by
 have hnI : (n : Int) ≤ 1048576 := by omega
 have hnlI : (nl : Int) ≤ 1048576 := by omega
 have HZ : Hid (z.ins.length = n ∧ z.rgs.length = n ∧ z.locs = nl ∧ s.lock = lk ∧ lensB z s = true ∧ s.Few) := ⟨hn, hzr, hzl, hlk, hlens, hfw⟩
 have HI : Hid (Seg w ai ((natI z.ins).flatMap intE)) := hI
 have HR : Hid (Seg w ar ((natI z.rgs).flatMap intE)) := hR
 have HS : Hid (STV w s (.slice ap n cp) (.slice ah n ch) (.slice ag n cg) (.slice am nl cm) (.slice ab n cb)) := hS
 clear hn hzr hzl hlk hlens hfw hI hR hS
 have t1 : True := trivial
 have t2 : True := trivial
 go_enter Try.func42, Try.ntmps42
 go_wp2_with (first
  | (clear t1; refine wpList_boxS rfl 105 _ rfl [.slice ai n ci, .slice ar n cr, .int .i64 (nl : Int)] rfl ?_; intro W0 b2 F0 C0; have B0 := F_b F0; clear F0)
  | (clear t2; refine wpList_boxS rfl 32 _ rfl [.slice ap n cp, .slice ah n ch, .slice ag n cg, .slice am nl cm, .slice ab n cb, .int .i64 lk] rfl ?_; intro W1 b3 F1 C3; have B1 := F1.trans B0 B0.size; have C2 := C0.fresh F1; obtain ⟨y0, y1, y2⟩ := three_cells C2; obtain ⟨x0, x1, x2, x3, x4, x5⟩ := st6 C3; clear F1 C0))
 have HB1 : Hid (Below w.heap.size w W1) := B1
 have HC2 : Hid (IsS W1 b2 105 [.slice ai n ci, .slice ar n cr, .int .i64 (nl : Int)]) := C2
 have HC3 : Hid (IsS W1 b3 32 [.slice ap n cp, .slice ah n ch, .slice ag n cg, .slice am nl cm, .slice ab n cb, .int .i64 lk]) := C3
 clear B0 B1 C2 C3 y0 y1 y2 x0 x1 x2 x3 x4 x5
 go_loopw [45] (fun i wr => ∃ j : Nat, j ≤ n ∧ i = .int .i64 (j : Int) ∧ Hid (∀ k, k < j → thB z s k = true) ∧ Hid (Below W1.heap.size W1 wr)) (fun i _ => n - (intOf i).toNat)
 case atStart => exact ⟨0, by omega, rfl, (by show ∀ k, _ → _; omega), Below.refl _ _⟩
 case round =>
  obtain ⟨j, hj, rfl, HA, HB⟩ := hrel
  have C2 := HC2.out.grown HB.out
  have C3 := HC3.out.grown HB.out
  have B := Below.then HB1.out HB.out
  by_cases hlt : j < n
  · have hi : (j : Int) < n := by omega
    obtain ⟨e1, e2, e3, e4, e5, hfw⟩ := HZ.out
    have hlen : s.pc.length = n ∧ s.ph.length = n ∧ s.regs.length = n ∧ s.buf.length = n := by
     unfold lensB at e5
     simp only [Bool.and_eq_true, decide_eq_true_eq] at e5
     omega
    obtain ⟨l1, l2, l3, l4⟩ := hlen
    obtain ⟨rg, hrg⟩ : ∃ x, s.regs[j]? = some x := ⟨_, List.getElem?_eq_getElem (by omega)⟩
    obtain ⟨bf, hbf⟩ : ∃ x, s.buf[j]? = some x := ⟨_, List.getElem?_eq_getElem (by omega)⟩
    obtain ⟨pj, hpj⟩ : ∃ x, s.pc[j]? = some x := ⟨_, List.getElem?_eq_getElem (by omega)⟩
    obtain ⟨hj', hhj⟩ : ∃ x, s.ph[j]? = some x := ⟨_, List.getElem?_eq_getElem (by omega)⟩
    obtain ⟨ij, hij⟩ : ∃ x, z.ins[j]? = some x := ⟨_, List.getElem?_eq_getElem (by omega)⟩
    obtain ⟨rj, hrj⟩ : ∃ x, z.rgs[j]? = some x := ⟨_, List.getElem?_eq_getElem (by omega)⟩
    have S := HS.out.below B
    obtain ⟨bg, og, aj, cj, eg, hbg, yg, _, _⟩ := S.rg.at j rg hrg
    obtain ⟨bb, ob, ab2, cb2, eb, hbb, yb, SB, _⟩ := S.bf.at j bf hbf
    have SP : Seg wr ap (s.pc.flatMap intE) := by
     obtain ⟨a', c', e, h, _⟩ := S.pc
     injection e with e1
     rw [e1]; exact h
    obtain ⟨bp, op, ep, hbp, yp⟩ := SP.int hpj
    have SH : Seg wr ah (s.ph.flatMap intE) := by
     obtain ⟨a', c', e, h, _⟩ := S.ph
     injection e with e1
     rw [e1]; exact h
    obtain ⟨bh, oh, eh, hbh, yh⟩ := SH.int hhj
    obtain ⟨bi, oi, ei, hbi, yi⟩ := (HI.out.below B).int (natI_get hij)
    obtain ⟨br, orr, er, hbr, yr⟩ := (HR.out.below B).int (natI_get hrj)
    subst eg eb ep eh ei er
    obtain ⟨hj2, ehj⟩ : ∃ x, x = hj' := ⟨_, rfl⟩
    obtain ⟨lr, hlr⟩ : ∃ k, rg.length = k := ⟨_, rfl⟩
    obtain ⟨lb, hlb⟩ : ∃ k, bf.length = k := ⟨_, rfl⟩
    rw [hlr] at yg
    rw [hlb] at yb
    have hlb20 : lb ≤ 1048576 := by rw [← hlb]; exact flat_row hfw.bb hbf
    have hlr20 : (lr : Int) ≤ 1048576 := by have : lr ≤ 1048576 := (by rw [← hlr]; exact flat_row hfw.rr hrg); omega
    have hFB0 := fun W (hB : Below wr.heap.size wr W) => fitsBuf_any bf lb nl (.slice (some ⟨bi, oi, none⟩) n ci) (.slice (some ⟨br, orr, none⟩) n cr) ab2 cb2 hlb hlb20 hnl0 W (SB.below hB)
    have HTH : Hid (thB z s j = (decide (rg.length = rj) && (decide (0 ≤ pj ∧ pj ≤ (ij : Int)) && (decide (0 ≤ hj' ∧ hj' ≤ 2) && bufB nl bf)))) := by
     show _ = _
     unfold thB
     rw [getDS_of hrg, getDS_of hrj, getDS_of hpj, getDS_of hij, getDS_of hhj, getDS_of hbf, e3]
    rw [hlr] at HTH
    have HJ : Hid (j < z.ins.length) := by show j < z.ins.length; omega
    clear SB SP SH S hrg hbf hpj hhj hij hrj e1 e2 e3 e4 e5 hfw l1 l2 l3 l4 hlb hlr hbg hbb hbp hbh hbi hbr HI HR HS ehj hj2
    by_cases q0 : lr = rj
    · have hr0 : ((lr : Int) == (rj : Int)) = true := by simp [q0]
      cases hp0 : decide (0 ≤ pj ∧ pj ≤ (ij : Int)) with
      | false =>
       go_wp2_with fail
       refine grow_allW (by kernel_rfl) (by kernel_rfl) ?_
       refine WG.put rfl (v := (.pointer (some ⟨b3, 2, none⟩))) (fun w => by first | rfl | (go_simp; done) | (simp [go_sem, hi]; done) | (simp [execOp, go_sem, hi]; done)) ?_; simp only [sP]
       refine WG.load1 rfl 25 _ rfl rfl (C3) (v := (.slice (some ⟨bg, og, none⟩) n cg)) rfl (fun w h => by simp [go_sem, h]) ?_; simp only [sP]
       refine WG.put rfl (v := (.int .i64 (j : Int))) (fun w => by first | rfl | (go_simp; done) | (simp [go_sem, hi]; done) | (simp [execOp, go_sem, hi]; done)) ?_; simp only [sP]
       refine WG.put rfl (v := (.pointer (some ⟨bg, og + j, none⟩))) (fun w => by first | rfl | (go_simp; done) | (simp [go_sem, hi]; done) | (simp [execOp, go_sem, hi]; done)) ?_; simp only [sP]
       refine WG.cell rfl 26 _ rfl rfl (yg) (fun w h => by simp [go_sem, h]) ?_; simp only [sP]
       refine WG.put rfl (v := (.int .i64 ((lr : Nat) : Int))) (fun w => by first | rfl | (go_simp; done) | (simp [go_sem, hi]; done) | (simp [execOp, go_sem, hi]; done)) ?_; simp only [sP]
       refine WG.put rfl (v := (.pointer (some ⟨b2, 1, none⟩))) (fun w => by first | rfl | (go_simp; done) | (simp [go_sem, hi]; done) | (simp [execOp, go_sem, hi]; done)) ?_; simp only [sP]
       refine WG.load1 rfl 29 _ rfl rfl (C2) (v := (.slice (some ⟨br, orr, none⟩) n cr)) rfl (fun w h => by simp [go_sem, h]) ?_; simp only [sP]
       refine WG.put rfl (v := (.int .i64 (j : Int))) (fun w => by first | rfl | (go_simp; done) | (simp [go_sem, hi]; done) | (simp [execOp, go_sem, hi]; done)) ?_; simp only [sP]
       refine WG.put rfl (v := (.pointer (some ⟨br, orr + j, none⟩))) (fun w => by first | rfl | (go_simp; done) | (simp [go_sem, hi]; done) | (simp [execOp, go_sem, hi]; done)) ?_; simp only [sP]
       refine WG.cell rfl 3 _ rfl rfl (yr) (fun w h => by simp [go_sem, h]) ?_; simp only [sP]
       refine WG.put rfl (v := (.bool false)) (fun w => by first | rfl | (go_simp; done) | (simp [go_sem, hr0, hi]; done) | (simp [execOp, go_sem, hr0, hi]; done)) ?_; simp only [sP]
       refine WG.put rfl (v := (.bool false)) (fun w => by first | rfl | (go_simp; done) | (simp [go_sem, hi]; done) | (simp [execOp, go_sem, hi]; done)) ?_; simp only [sP]
       refine WG.put rfl (v := (.pointer (some ⟨b3, 0, none⟩))) (fun w => by first | rfl | (go_simp; done) | (simp [go_sem, hi]; done) | (simp [execOp, go_sem, hi]; done)) ?_; simp only [sP]
       refine WG.load1 rfl 29 _ rfl rfl (C3) (v := (.slice (some ⟨bp, op, none⟩) n cp)) rfl (fun w h => by simp [go_sem, h]) ?_; simp only [sP]
       refine WG.put rfl (v := (.int .i64 (j : Int))) (fun w => by first | rfl | (go_simp; done) | (simp [go_sem, hi]; done) | (simp [execOp, go_sem, hi]; done)) ?_; simp only [sP]
       refine WG.put rfl (v := (.pointer (some ⟨bp, op + j, none⟩))) (fun w => by first | rfl | (go_simp; done) | (simp [go_sem, hi]; done) | (simp [execOp, go_sem, hi]; done)) ?_; simp only [sP]
       refine WG.cell rfl 3 _ rfl rfl (yp) (fun w h => by simp [go_sem, h]) ?_; simp only [sP]
       refine WG.put rfl (v := (.pointer (some ⟨b2, 0, none⟩))) (fun w => by first | rfl | (go_simp; done) | (simp [go_sem, hi]; done) | (simp [execOp, go_sem, hi]; done)) ?_; simp only [sP]
       refine WG.load1 rfl 29 _ rfl rfl (C2) (v := (.slice (some ⟨bi, oi, none⟩) n ci)) rfl (fun w h => by simp [go_sem, h]) ?_; simp only [sP]
       refine WG.put rfl (v := (.int .i64 (j : Int))) (fun w => by first | rfl | (go_simp; done) | (simp [go_sem, hi]; done) | (simp [execOp, go_sem, hi]; done)) ?_; simp only [sP]
       refine WG.put rfl (v := (.pointer (some ⟨bi, oi + j, none⟩))) (fun w => by first | rfl | (go_simp; done) | (simp [go_sem, hi]; done) | (simp [execOp, go_sem, hi]; done)) ?_; simp only [sP]
       refine WG.cell rfl 3 _ rfl rfl (yi) (fun w h => by simp [go_sem, h]) ?_; simp only [sP]
       refine WG.call rfl (f := 89) (v := (.bool false)) (fun W _ => wi pj 0 (ij : Int) W false hp0) (fun w => by first | rfl | (go_simp; done) | (simp [execOp, go_sem]; done)) ?_; simp only [sP]
       refine WG.put rfl (v := (.bool true)) (fun w => by first | rfl | (go_simp; done) | (simp [go_sem, hi]; done) | (simp [execOp, go_sem, hi]; done)) ?_; simp only [sP]
       refine WG.put rfl (v := (.bool true)) (fun w => by first | rfl | (go_simp; done) | (simp [go_sem, hi]; done) | (simp [execOp, go_sem, hi]; done)) ?_; simp only [sP]
       refine WG.put rfl (v := (.bool true)) (fun w => by first | rfl | (go_simp; done) | (simp [go_sem, hi]; done) | (simp [execOp, go_sem, hi]; done)) ?_; simp only [sP]
       refine WG.skip rfl ?_; simp only [sP]
       refine WG.skip rfl ?_; simp only [sP]
       refine WG.skip rfl ?_; simp only [sP]
       refine WG.skip rfl ?_; simp only [sP]
       refine WG.skip rfl ?_; simp only [sP]
       refine WG.skip rfl ?_; simp only [sP]
       refine WG.skip rfl ?_; simp only [sP]
       refine WG.put rfl (v := (.bool true)) (fun w => by first | rfl | (go_simp; done) | (simp [go_sem, hi]; done) | (simp [execOp, go_sem, hi]; done)) ?_; simp only [sP]
       refine WG.put rfl (v := (.bool true)) (fun w => by first | rfl | (go_simp; done) | (simp [go_sem, hi]; done) | (simp [execOp, go_sem, hi]; done)) ?_; simp only [sP]
       refine WG.skip rfl ?_; simp only [sP]
       refine WG.skip rfl ?_; simp only [sP]
       refine WG.skip rfl ?_; simp only [sP]
       refine WG.skip rfl ?_; simp only [sP]
       refine WG.skip rfl ?_; simp only [sP]
       refine WG.skip rfl ?_; simp only [sP]
       refine WG.skip rfl ?_; simp only [sP]
       refine WG.skip rfl ?_; simp only [sP]
       refine WG.put rfl (v := (.bool true)) (fun w => by first | rfl | (go_simp; done) | (simp [go_sem, hi]; done) | (simp [execOp, go_sem, hi]; done)) ?_; simp only [sP]
       refine WG.nil ?_
       intro W3 B3
       have B4 := Below.then B B3
       go_wp2_with fail
       go_ret
       refine ⟨?_, B4⟩
       exact Eq.trans rfl (congrArg (fun b => Ending.returned (.bool b)) (fits_th HJ.out (by rw [HTH.out, hp0]; simp)).symm)
      | true =>
       cases hh0 : decide (0 ≤ hj' ∧ hj' ≤ 2) with
       | false =>
        go_wp2_with fail
        refine grow_allW (by kernel_rfl) (by kernel_rfl) ?_
        refine WG.put rfl (v := (.pointer (some ⟨b3, 2, none⟩))) (fun w => by first | rfl | (go_simp; done) | (simp [go_sem, hi]; done) | (simp [execOp, go_sem, hi]; done)) ?_; simp only [sP]
        refine WG.load1 rfl 25 _ rfl rfl (C3) (v := (.slice (some ⟨bg, og, none⟩) n cg)) rfl (fun w h => by simp [go_sem, h]) ?_; simp only [sP]
        refine WG.put rfl (v := (.int .i64 (j : Int))) (fun w => by first | rfl | (go_simp; done) | (simp [go_sem, hi]; done) | (simp [execOp, go_sem, hi]; done)) ?_; simp only [sP]
        refine WG.put rfl (v := (.pointer (some ⟨bg, og + j, none⟩))) (fun w => by first | rfl | (go_simp; done) | (simp [go_sem, hi]; done) | (simp [execOp, go_sem, hi]; done)) ?_; simp only [sP]
        refine WG.cell rfl 26 _ rfl rfl (yg) (fun w h => by simp [go_sem, h]) ?_; simp only [sP]
        refine WG.put rfl (v := (.int .i64 ((lr : Nat) : Int))) (fun w => by first | rfl | (go_simp; done) | (simp [go_sem, hi]; done) | (simp [execOp, go_sem, hi]; done)) ?_; simp only [sP]
        refine WG.put rfl (v := (.pointer (some ⟨b2, 1, none⟩))) (fun w => by first | rfl | (go_simp; done) | (simp [go_sem, hi]; done) | (simp [execOp, go_sem, hi]; done)) ?_; simp only [sP]
        refine WG.load1 rfl 29 _ rfl rfl (C2) (v := (.slice (some ⟨br, orr, none⟩) n cr)) rfl (fun w h => by simp [go_sem, h]) ?_; simp only [sP]
        refine WG.put rfl (v := (.int .i64 (j : Int))) (fun w => by first | rfl | (go_simp; done) | (simp [go_sem, hi]; done) | (simp [execOp, go_sem, hi]; done)) ?_; simp only [sP]
        refine WG.put rfl (v := (.pointer (some ⟨br, orr + j, none⟩))) (fun w => by first | rfl | (go_simp; done) | (simp [go_sem, hi]; done) | (simp [execOp, go_sem, hi]; done)) ?_; simp only [sP]
        refine WG.cell rfl 3 _ rfl rfl (yr) (fun w h => by simp [go_sem, h]) ?_; simp only [sP]
        refine WG.put rfl (v := (.bool false)) (fun w => by first | rfl | (go_simp; done) | (simp [go_sem, hr0, hi]; done) | (simp [execOp, go_sem, hr0, hi]; done)) ?_; simp only [sP]
        refine WG.put rfl (v := (.bool false)) (fun w => by first | rfl | (go_simp; done) | (simp [go_sem, hi]; done) | (simp [execOp, go_sem, hi]; done)) ?_; simp only [sP]
        refine WG.put rfl (v := (.pointer (some ⟨b3, 0, none⟩))) (fun w => by first | rfl | (go_simp; done) | (simp [go_sem, hi]; done) | (simp [execOp, go_sem, hi]; done)) ?_; simp only [sP]
        refine WG.load1 rfl 29 _ rfl rfl (C3) (v := (.slice (some ⟨bp, op, none⟩) n cp)) rfl (fun w h => by simp [go_sem, h]) ?_; simp only [sP]
        refine WG.put rfl (v := (.int .i64 (j : Int))) (fun w => by first | rfl | (go_simp; done) | (simp [go_sem, hi]; done) | (simp [execOp, go_sem, hi]; done)) ?_; simp only [sP]
        refine WG.put rfl (v := (.pointer (some ⟨bp, op + j, none⟩))) (fun w => by first | rfl | (go_simp; done) | (simp [go_sem, hi]; done) | (simp [execOp, go_sem, hi]; done)) ?_; simp only [sP]
        refine WG.cell rfl 3 _ rfl rfl (yp) (fun w h => by simp [go_sem, h]) ?_; simp only [sP]
        refine WG.put rfl (v := (.pointer (some ⟨b2, 0, none⟩))) (fun w => by first | rfl | (go_simp; done) | (simp [go_sem, hi]; done) | (simp [execOp, go_sem, hi]; done)) ?_; simp only [sP]
        refine WG.load1 rfl 29 _ rfl rfl (C2) (v := (.slice (some ⟨bi, oi, none⟩) n ci)) rfl (fun w h => by simp [go_sem, h]) ?_; simp only [sP]
        refine WG.put rfl (v := (.int .i64 (j : Int))) (fun w => by first | rfl | (go_simp; done) | (simp [go_sem, hi]; done) | (simp [execOp, go_sem, hi]; done)) ?_; simp only [sP]
        refine WG.put rfl (v := (.pointer (some ⟨bi, oi + j, none⟩))) (fun w => by first | rfl | (go_simp; done) | (simp [go_sem, hi]; done) | (simp [execOp, go_sem, hi]; done)) ?_; simp only [sP]
        refine WG.cell rfl 3 _ rfl rfl (yi) (fun w h => by simp [go_sem, h]) ?_; simp only [sP]
        refine WG.call rfl (f := 89) (v := (.bool true)) (fun W _ => wi pj 0 (ij : Int) W true hp0) (fun w => by first | rfl | (go_simp; done) | (simp [execOp, go_sem]; done)) ?_; simp only [sP]
        refine WG.put rfl (v := (.bool false)) (fun w => by first | rfl | (go_simp; done) | (simp [go_sem, hi]; done) | (simp [execOp, go_sem, hi]; done)) ?_; simp only [sP]
        refine WG.put rfl (v := (.bool false)) (fun w => by first | rfl | (go_simp; done) | (simp [go_sem, hi]; done) | (simp [execOp, go_sem, hi]; done)) ?_; simp only [sP]
        refine WG.put rfl (v := (.bool false)) (fun w => by first | rfl | (go_simp; done) | (simp [go_sem, hi]; done) | (simp [execOp, go_sem, hi]; done)) ?_; simp only [sP]
        refine WG.put rfl (v := (.pointer (some ⟨b3, 1, none⟩))) (fun w => by first | rfl | (go_simp; done) | (simp [go_sem, hi]; done) | (simp [execOp, go_sem, hi]; done)) ?_; simp only [sP]
        refine WG.load1 rfl 29 _ rfl rfl (C3) (v := (.slice (some ⟨bh, oh, none⟩) n ch)) rfl (fun w h => by simp [go_sem, h]) ?_; simp only [sP]
        refine WG.put rfl (v := (.int .i64 (j : Int))) (fun w => by first | rfl | (go_simp; done) | (simp [go_sem, hi]; done) | (simp [execOp, go_sem, hi]; done)) ?_; simp only [sP]
        refine WG.put rfl (v := (.pointer (some ⟨bh, oh + j, none⟩))) (fun w => by first | rfl | (go_simp; done) | (simp [go_sem, hi]; done) | (simp [execOp, go_sem, hi]; done)) ?_; simp only [sP]
        refine WG.cell rfl 3 _ rfl rfl (yh) (fun w h => by simp [go_sem, h]) ?_; simp only [sP]
        refine WG.call rfl (f := 89) (v := (.bool false)) (fun W _ => wi hj' 0 2 W false hh0) (fun w => by first | rfl | (go_simp; done) | (simp [execOp, go_sem]; done)) ?_; simp only [sP]
        refine WG.put rfl (v := (.bool true)) (fun w => by first | rfl | (go_simp; done) | (simp [go_sem, hi]; done) | (simp [execOp, go_sem, hi]; done)) ?_; simp only [sP]
        refine WG.put rfl (v := (.bool true)) (fun w => by first | rfl | (go_simp; done) | (simp [go_sem, hi]; done) | (simp [execOp, go_sem, hi]; done)) ?_; simp only [sP]
        refine WG.put rfl (v := (.bool true)) (fun w => by first | rfl | (go_simp; done) | (simp [go_sem, hi]; done) | (simp [execOp, go_sem, hi]; done)) ?_; simp only [sP]
        refine WG.skip rfl ?_; simp only [sP]
        refine WG.skip rfl ?_; simp only [sP]
        refine WG.skip rfl ?_; simp only [sP]
        refine WG.skip rfl ?_; simp only [sP]
        refine WG.skip rfl ?_; simp only [sP]
        refine WG.skip rfl ?_; simp only [sP]
        refine WG.skip rfl ?_; simp only [sP]
        refine WG.skip rfl ?_; simp only [sP]
        refine WG.put rfl (v := (.bool true)) (fun w => by first | rfl | (go_simp; done) | (simp [go_sem, hi]; done) | (simp [execOp, go_sem, hi]; done)) ?_; simp only [sP]
        refine WG.nil ?_
        intro W3 B3
        have B4 := Below.then B B3
        go_wp2_with fail
        go_ret
        refine ⟨?_, B4⟩
        exact Eq.trans rfl (congrArg (fun b => Ending.returned (.bool b)) (fits_th HJ.out (by rw [HTH.out, hh0]; simp)).symm)
       | true =>
        cases hb0 : bufB nl bf with
        | false =>
         simp only [hb0] at hFB0
         go_wp2_with fail
         refine grow_allW (by kernel_rfl) (by kernel_rfl) ?_
         refine WG.put rfl (v := (.pointer (some ⟨b3, 2, none⟩))) (fun w => by first | rfl | (go_simp; done) | (simp [go_sem, hi]; done) | (simp [execOp, go_sem, hi]; done)) ?_; simp only [sP]
         refine WG.load1 rfl 25 _ rfl rfl (C3) (v := (.slice (some ⟨bg, og, none⟩) n cg)) rfl (fun w h => by simp [go_sem, h]) ?_; simp only [sP]
         refine WG.put rfl (v := (.int .i64 (j : Int))) (fun w => by first | rfl | (go_simp; done) | (simp [go_sem, hi]; done) | (simp [execOp, go_sem, hi]; done)) ?_; simp only [sP]
         refine WG.put rfl (v := (.pointer (some ⟨bg, og + j, none⟩))) (fun w => by first | rfl | (go_simp; done) | (simp [go_sem, hi]; done) | (simp [execOp, go_sem, hi]; done)) ?_; simp only [sP]
         refine WG.cell rfl 26 _ rfl rfl (yg) (fun w h => by simp [go_sem, h]) ?_; simp only [sP]
         refine WG.put rfl (v := (.int .i64 ((lr : Nat) : Int))) (fun w => by first | rfl | (go_simp; done) | (simp [go_sem, hi]; done) | (simp [execOp, go_sem, hi]; done)) ?_; simp only [sP]
         refine WG.put rfl (v := (.pointer (some ⟨b2, 1, none⟩))) (fun w => by first | rfl | (go_simp; done) | (simp [go_sem, hi]; done) | (simp [execOp, go_sem, hi]; done)) ?_; simp only [sP]
         refine WG.load1 rfl 29 _ rfl rfl (C2) (v := (.slice (some ⟨br, orr, none⟩) n cr)) rfl (fun w h => by simp [go_sem, h]) ?_; simp only [sP]
         refine WG.put rfl (v := (.int .i64 (j : Int))) (fun w => by first | rfl | (go_simp; done) | (simp [go_sem, hi]; done) | (simp [execOp, go_sem, hi]; done)) ?_; simp only [sP]
         refine WG.put rfl (v := (.pointer (some ⟨br, orr + j, none⟩))) (fun w => by first | rfl | (go_simp; done) | (simp [go_sem, hi]; done) | (simp [execOp, go_sem, hi]; done)) ?_; simp only [sP]
         refine WG.cell rfl 3 _ rfl rfl (yr) (fun w h => by simp [go_sem, h]) ?_; simp only [sP]
         refine WG.put rfl (v := (.bool false)) (fun w => by first | rfl | (go_simp; done) | (simp [go_sem, hr0, hi]; done) | (simp [execOp, go_sem, hr0, hi]; done)) ?_; simp only [sP]
         refine WG.put rfl (v := (.bool false)) (fun w => by first | rfl | (go_simp; done) | (simp [go_sem, hi]; done) | (simp [execOp, go_sem, hi]; done)) ?_; simp only [sP]
         refine WG.put rfl (v := (.pointer (some ⟨b3, 0, none⟩))) (fun w => by first | rfl | (go_simp; done) | (simp [go_sem, hi]; done) | (simp [execOp, go_sem, hi]; done)) ?_; simp only [sP]
         refine WG.load1 rfl 29 _ rfl rfl (C3) (v := (.slice (some ⟨bp, op, none⟩) n cp)) rfl (fun w h => by simp [go_sem, h]) ?_; simp only [sP]
         refine WG.put rfl (v := (.int .i64 (j : Int))) (fun w => by first | rfl | (go_simp; done) | (simp [go_sem, hi]; done) | (simp [execOp, go_sem, hi]; done)) ?_; simp only [sP]
         refine WG.put rfl (v := (.pointer (some ⟨bp, op + j, none⟩))) (fun w => by first | rfl | (go_simp; done) | (simp [go_sem, hi]; done) | (simp [execOp, go_sem, hi]; done)) ?_; simp only [sP]
         refine WG.cell rfl 3 _ rfl rfl (yp) (fun w h => by simp [go_sem, h]) ?_; simp only [sP]
         refine WG.put rfl (v := (.pointer (some ⟨b2, 0, none⟩))) (fun w => by first | rfl | (go_simp; done) | (simp [go_sem, hi]; done) | (simp [execOp, go_sem, hi]; done)) ?_; simp only [sP]
         refine WG.load1 rfl 29 _ rfl rfl (C2) (v := (.slice (some ⟨bi, oi, none⟩) n ci)) rfl (fun w h => by simp [go_sem, h]) ?_; simp only [sP]
         refine WG.put rfl (v := (.int .i64 (j : Int))) (fun w => by first | rfl | (go_simp; done) | (simp [go_sem, hi]; done) | (simp [execOp, go_sem, hi]; done)) ?_; simp only [sP]
         refine WG.put rfl (v := (.pointer (some ⟨bi, oi + j, none⟩))) (fun w => by first | rfl | (go_simp; done) | (simp [go_sem, hi]; done) | (simp [execOp, go_sem, hi]; done)) ?_; simp only [sP]
         refine WG.cell rfl 3 _ rfl rfl (yi) (fun w h => by simp [go_sem, h]) ?_; simp only [sP]
         refine WG.call rfl (f := 89) (v := (.bool true)) (fun W _ => wi pj 0 (ij : Int) W true hp0) (fun w => by first | rfl | (go_simp; done) | (simp [execOp, go_sem]; done)) ?_; simp only [sP]
         refine WG.put rfl (v := (.bool false)) (fun w => by first | rfl | (go_simp; done) | (simp [go_sem, hi]; done) | (simp [execOp, go_sem, hi]; done)) ?_; simp only [sP]
         refine WG.put rfl (v := (.bool false)) (fun w => by first | rfl | (go_simp; done) | (simp [go_sem, hi]; done) | (simp [execOp, go_sem, hi]; done)) ?_; simp only [sP]
         refine WG.put rfl (v := (.bool false)) (fun w => by first | rfl | (go_simp; done) | (simp [go_sem, hi]; done) | (simp [execOp, go_sem, hi]; done)) ?_; simp only [sP]
         refine WG.put rfl (v := (.pointer (some ⟨b3, 1, none⟩))) (fun w => by first | rfl | (go_simp; done) | (simp [go_sem, hi]; done) | (simp [execOp, go_sem, hi]; done)) ?_; simp only [sP]
         refine WG.load1 rfl 29 _ rfl rfl (C3) (v := (.slice (some ⟨bh, oh, none⟩) n ch)) rfl (fun w h => by simp [go_sem, h]) ?_; simp only [sP]
         refine WG.put rfl (v := (.int .i64 (j : Int))) (fun w => by first | rfl | (go_simp; done) | (simp [go_sem, hi]; done) | (simp [execOp, go_sem, hi]; done)) ?_; simp only [sP]
         refine WG.put rfl (v := (.pointer (some ⟨bh, oh + j, none⟩))) (fun w => by first | rfl | (go_simp; done) | (simp [go_sem, hi]; done) | (simp [execOp, go_sem, hi]; done)) ?_; simp only [sP]
         refine WG.cell rfl 3 _ rfl rfl (yh) (fun w h => by simp [go_sem, h]) ?_; simp only [sP]
         refine WG.call rfl (f := 89) (v := (.bool true)) (fun W _ => wi hj' 0 2 W true hh0) (fun w => by first | rfl | (go_simp; done) | (simp [execOp, go_sem]; done)) ?_; simp only [sP]
         refine WG.put rfl (v := (.bool false)) (fun w => by first | rfl | (go_simp; done) | (simp [go_sem, hi]; done) | (simp [execOp, go_sem, hi]; done)) ?_; simp only [sP]
         refine WG.put rfl (v := (.bool false)) (fun w => by first | rfl | (go_simp; done) | (simp [go_sem, hi]; done) | (simp [execOp, go_sem, hi]; done)) ?_; simp only [sP]
         refine WG.put rfl (v := (.bool false)) (fun w => by first | rfl | (go_simp; done) | (simp [go_sem, hi]; done) | (simp [execOp, go_sem, hi]; done)) ?_; simp only [sP]
         refine WG.row rfl 105 _ rfl rfl C2 [.slice (some ⟨bi, oi, none⟩) n ci, .slice (some ⟨br, orr, none⟩) n cr, .int .i64 (nl : Int)] rfl _ Try.underlying105 rfl infoShp ?_; simp only [sP]
         refine WG.put rfl (v := (.pointer (some ⟨b3, 4, none⟩))) (fun w => by first | rfl | (go_simp; done) | (simp [go_sem, hi]; done) | (simp [execOp, go_sem, hi]; done)) ?_; simp only [sP]
         refine WG.load1 rfl 30 _ rfl rfl (C3) (v := (.slice (some ⟨bb, ob, none⟩) n cb)) rfl (fun w h => by simp [go_sem, h]) ?_; simp only [sP]
         refine WG.put rfl (v := (.int .i64 (j : Int))) (fun w => by first | rfl | (go_simp; done) | (simp [go_sem, hi]; done) | (simp [execOp, go_sem, hi]; done)) ?_; simp only [sP]
         refine WG.put rfl (v := (.pointer (some ⟨bb, ob + j, none⟩))) (fun w => by first | rfl | (go_simp; done) | (simp [go_sem, hi]; done) | (simp [execOp, go_sem, hi]; done)) ?_; simp only [sP]
         refine WG.cell rfl 48 _ rfl rfl (yb) (fun w h => by simp [go_sem, h]) ?_; simp only [sP]
         refine WG.call rfl (f := 90) (v := (.bool false)) (fun W hB => hFB0 W hB) (fun w => by first | rfl | (go_simp; done) | (simp [execOp, go_sem]; done)) ?_; simp only [sP]
         refine WG.put rfl (v := (.bool true)) (fun w => by first | rfl | (go_simp; done) | (simp [go_sem, hi]; done) | (simp [execOp, go_sem, hi]; done)) ?_; simp only [sP]
         refine WG.put rfl (v := (.bool true)) (fun w => by first | rfl | (go_simp; done) | (simp [go_sem, hi]; done) | (simp [execOp, go_sem, hi]; done)) ?_; simp only [sP]
         refine WG.nil ?_
         intro W3 B3
         have B4 := Below.then B B3
         go_wp2_with fail
         go_ret
         refine ⟨?_, B4⟩
         exact Eq.trans rfl (congrArg (fun b => Ending.returned (.bool b)) (fits_th HJ.out (by rw [HTH.out, hb0]; simp)).symm)
        | true =>
         simp only [hb0] at hFB0
         go_wp2_with fail
         refine grow_allW (by kernel_rfl) (by kernel_rfl) ?_
         refine WG.put rfl (v := (.pointer (some ⟨b3, 2, none⟩))) (fun w => by first | rfl | (go_simp; done) | (simp [go_sem, hi]; done) | (simp [execOp, go_sem, hi]; done)) ?_; simp only [sP]
         refine WG.load1 rfl 25 _ rfl rfl (C3) (v := (.slice (some ⟨bg, og, none⟩) n cg)) rfl (fun w h => by simp [go_sem, h]) ?_; simp only [sP]
         refine WG.put rfl (v := (.int .i64 (j : Int))) (fun w => by first | rfl | (go_simp; done) | (simp [go_sem, hi]; done) | (simp [execOp, go_sem, hi]; done)) ?_; simp only [sP]
         refine WG.put rfl (v := (.pointer (some ⟨bg, og + j, none⟩))) (fun w => by first | rfl | (go_simp; done) | (simp [go_sem, hi]; done) | (simp [execOp, go_sem, hi]; done)) ?_; simp only [sP]
         refine WG.cell rfl 26 _ rfl rfl (yg) (fun w h => by simp [go_sem, h]) ?_; simp only [sP]
         refine WG.put rfl (v := (.int .i64 ((lr : Nat) : Int))) (fun w => by first | rfl | (go_simp; done) | (simp [go_sem, hi]; done) | (simp [execOp, go_sem, hi]; done)) ?_; simp only [sP]
         refine WG.put rfl (v := (.pointer (some ⟨b2, 1, none⟩))) (fun w => by first | rfl | (go_simp; done) | (simp [go_sem, hi]; done) | (simp [execOp, go_sem, hi]; done)) ?_; simp only [sP]
         refine WG.load1 rfl 29 _ rfl rfl (C2) (v := (.slice (some ⟨br, orr, none⟩) n cr)) rfl (fun w h => by simp [go_sem, h]) ?_; simp only [sP]
         refine WG.put rfl (v := (.int .i64 (j : Int))) (fun w => by first | rfl | (go_simp; done) | (simp [go_sem, hi]; done) | (simp [execOp, go_sem, hi]; done)) ?_; simp only [sP]
         refine WG.put rfl (v := (.pointer (some ⟨br, orr + j, none⟩))) (fun w => by first | rfl | (go_simp; done) | (simp [go_sem, hi]; done) | (simp [execOp, go_sem, hi]; done)) ?_; simp only [sP]
         refine WG.cell rfl 3 _ rfl rfl (yr) (fun w h => by simp [go_sem, h]) ?_; simp only [sP]
         refine WG.put rfl (v := (.bool false)) (fun w => by first | rfl | (go_simp; done) | (simp [go_sem, hr0, hi]; done) | (simp [execOp, go_sem, hr0, hi]; done)) ?_; simp only [sP]
         refine WG.put rfl (v := (.bool false)) (fun w => by first | rfl | (go_simp; done) | (simp [go_sem, hi]; done) | (simp [execOp, go_sem, hi]; done)) ?_; simp only [sP]
         refine WG.put rfl (v := (.pointer (some ⟨b3, 0, none⟩))) (fun w => by first | rfl | (go_simp; done) | (simp [go_sem, hi]; done) | (simp [execOp, go_sem, hi]; done)) ?_; simp only [sP]
         refine WG.load1 rfl 29 _ rfl rfl (C3) (v := (.slice (some ⟨bp, op, none⟩) n cp)) rfl (fun w h => by simp [go_sem, h]) ?_; simp only [sP]
         refine WG.put rfl (v := (.int .i64 (j : Int))) (fun w => by first | rfl | (go_simp; done) | (simp [go_sem, hi]; done) | (simp [execOp, go_sem, hi]; done)) ?_; simp only [sP]
         refine WG.put rfl (v := (.pointer (some ⟨bp, op + j, none⟩))) (fun w => by first | rfl | (go_simp; done) | (simp [go_sem, hi]; done) | (simp [execOp, go_sem, hi]; done)) ?_; simp only [sP]
         refine WG.cell rfl 3 _ rfl rfl (yp) (fun w h => by simp [go_sem, h]) ?_; simp only [sP]
         refine WG.put rfl (v := (.pointer (some ⟨b2, 0, none⟩))) (fun w => by first | rfl | (go_simp; done) | (simp [go_sem, hi]; done) | (simp [execOp, go_sem, hi]; done)) ?_; simp only [sP]
         refine WG.load1 rfl 29 _ rfl rfl (C2) (v := (.slice (some ⟨bi, oi, none⟩) n ci)) rfl (fun w h => by simp [go_sem, h]) ?_; simp only [sP]
         refine WG.put rfl (v := (.int .i64 (j : Int))) (fun w => by first | rfl | (go_simp; done) | (simp [go_sem, hi]; done) | (simp [execOp, go_sem, hi]; done)) ?_; simp only [sP]
         refine WG.put rfl (v := (.pointer (some ⟨bi, oi + j, none⟩))) (fun w => by first | rfl | (go_simp; done) | (simp [go_sem, hi]; done) | (simp [execOp, go_sem, hi]; done)) ?_; simp only [sP]
         refine WG.cell rfl 3 _ rfl rfl (yi) (fun w h => by simp [go_sem, h]) ?_; simp only [sP]
         refine WG.call rfl (f := 89) (v := (.bool true)) (fun W _ => wi pj 0 (ij : Int) W true hp0) (fun w => by first | rfl | (go_simp; done) | (simp [execOp, go_sem]; done)) ?_; simp only [sP]
         refine WG.put rfl (v := (.bool false)) (fun w => by first | rfl | (go_simp; done) | (simp [go_sem, hi]; done) | (simp [execOp, go_sem, hi]; done)) ?_; simp only [sP]
         refine WG.put rfl (v := (.bool false)) (fun w => by first | rfl | (go_simp; done) | (simp [go_sem, hi]; done) | (simp [execOp, go_sem, hi]; done)) ?_; simp only [sP]
         refine WG.put rfl (v := (.bool false)) (fun w => by first | rfl | (go_simp; done) | (simp [go_sem, hi]; done) | (simp [execOp, go_sem, hi]; done)) ?_; simp only [sP]
         refine WG.put rfl (v := (.pointer (some ⟨b3, 1, none⟩))) (fun w => by first | rfl | (go_simp; done) | (simp [go_sem, hi]; done) | (simp [execOp, go_sem, hi]; done)) ?_; simp only [sP]
         refine WG.load1 rfl 29 _ rfl rfl (C3) (v := (.slice (some ⟨bh, oh, none⟩) n ch)) rfl (fun w h => by simp [go_sem, h]) ?_; simp only [sP]
         refine WG.put rfl (v := (.int .i64 (j : Int))) (fun w => by first | rfl | (go_simp; done) | (simp [go_sem, hi]; done) | (simp [execOp, go_sem, hi]; done)) ?_; simp only [sP]
         refine WG.put rfl (v := (.pointer (some ⟨bh, oh + j, none⟩))) (fun w => by first | rfl | (go_simp; done) | (simp [go_sem, hi]; done) | (simp [execOp, go_sem, hi]; done)) ?_; simp only [sP]
         refine WG.cell rfl 3 _ rfl rfl (yh) (fun w h => by simp [go_sem, h]) ?_; simp only [sP]
         refine WG.call rfl (f := 89) (v := (.bool true)) (fun W _ => wi hj' 0 2 W true hh0) (fun w => by first | rfl | (go_simp; done) | (simp [execOp, go_sem]; done)) ?_; simp only [sP]
         refine WG.put rfl (v := (.bool false)) (fun w => by first | rfl | (go_simp; done) | (simp [go_sem, hi]; done) | (simp [execOp, go_sem, hi]; done)) ?_; simp only [sP]
         refine WG.put rfl (v := (.bool false)) (fun w => by first | rfl | (go_simp; done) | (simp [go_sem, hi]; done) | (simp [execOp, go_sem, hi]; done)) ?_; simp only [sP]
         refine WG.put rfl (v := (.bool false)) (fun w => by first | rfl | (go_simp; done) | (simp [go_sem, hi]; done) | (simp [execOp, go_sem, hi]; done)) ?_; simp only [sP]
         refine WG.row rfl 105 _ rfl rfl C2 [.slice (some ⟨bi, oi, none⟩) n ci, .slice (some ⟨br, orr, none⟩) n cr, .int .i64 (nl : Int)] rfl _ Try.underlying105 rfl infoShp ?_; simp only [sP]
         refine WG.put rfl (v := (.pointer (some ⟨b3, 4, none⟩))) (fun w => by first | rfl | (go_simp; done) | (simp [go_sem, hi]; done) | (simp [execOp, go_sem, hi]; done)) ?_; simp only [sP]
         refine WG.load1 rfl 30 _ rfl rfl (C3) (v := (.slice (some ⟨bb, ob, none⟩) n cb)) rfl (fun w h => by simp [go_sem, h]) ?_; simp only [sP]
         refine WG.put rfl (v := (.int .i64 (j : Int))) (fun w => by first | rfl | (go_simp; done) | (simp [go_sem, hi]; done) | (simp [execOp, go_sem, hi]; done)) ?_; simp only [sP]
         refine WG.put rfl (v := (.pointer (some ⟨bb, ob + j, none⟩))) (fun w => by first | rfl | (go_simp; done) | (simp [go_sem, hi]; done) | (simp [execOp, go_sem, hi]; done)) ?_; simp only [sP]
         refine WG.cell rfl 48 _ rfl rfl (yb) (fun w h => by simp [go_sem, h]) ?_; simp only [sP]
         refine WG.call rfl (f := 90) (v := (.bool true)) (fun W hB => hFB0 W hB) (fun w => by first | rfl | (go_simp; done) | (simp [execOp, go_sem]; done)) ?_; simp only [sP]
         refine WG.put rfl (v := (.bool false)) (fun w => by first | rfl | (go_simp; done) | (simp [go_sem, hi]; done) | (simp [execOp, go_sem, hi]; done)) ?_; simp only [sP]
         refine WG.put rfl (v := (.bool false)) (fun w => by first | rfl | (go_simp; done) | (simp [go_sem, hi]; done) | (simp [execOp, go_sem, hi]; done)) ?_; simp only [sP]
         refine WG.nil ?_
         intro W3 B3
         have B4 : Hid (Below W1.heap.size W1 W3) := Below.then HB.out B3
         go_wp2_with fail
         go_roundw
         case rel => exact ⟨j + 1, by omega, by go_num, (by
          show ∀ k, _ → _
          intro k hk
          by_cases hkj : k < j
          · exact HA.out k hkj
          · obtain rfl : k = j := by omega
            rw [HTH.out, hp0, hh0, hb0, decide_eq_true q0]; rfl), B4⟩
         case measure => simp [intOf]; omega
    · have hr0 : ¬ ((lr : Int) = (rj : Int)) := by omega
      go_wp2_with fail
      refine grow_allW (by kernel_rfl) (by kernel_rfl) ?_
      refine WG.put rfl (v := (.pointer (some ⟨b3, 2, none⟩))) (fun w => by first | rfl | (go_simp; done) | (simp [go_sem, hi]; done) | (simp [execOp, go_sem, hi]; done)) ?_; simp only [sP]
      refine WG.load1 rfl 25 _ rfl rfl (C3) (v := (.slice (some ⟨bg, og, none⟩) n cg)) rfl (fun w h => by simp [go_sem, h]) ?_; simp only [sP]
      refine WG.put rfl (v := (.int .i64 (j : Int))) (fun w => by first | rfl | (go_simp; done) | (simp [go_sem, hi]; done) | (simp [execOp, go_sem, hi]; done)) ?_; simp only [sP]
      refine WG.put rfl (v := (.pointer (some ⟨bg, og + j, none⟩))) (fun w => by first | rfl | (go_simp; done) | (simp [go_sem, hi]; done) | (simp [execOp, go_sem, hi]; done)) ?_; simp only [sP]
      refine WG.cell rfl 26 _ rfl rfl (yg) (fun w h => by simp [go_sem, h]) ?_; simp only [sP]
      refine WG.put rfl (v := (.int .i64 ((lr : Nat) : Int))) (fun w => by first | rfl | (go_simp; done) | (simp [go_sem, hi]; done) | (simp [execOp, go_sem, hi]; done)) ?_; simp only [sP]
      refine WG.put rfl (v := (.pointer (some ⟨b2, 1, none⟩))) (fun w => by first | rfl | (go_simp; done) | (simp [go_sem, hi]; done) | (simp [execOp, go_sem, hi]; done)) ?_; simp only [sP]
      refine WG.load1 rfl 29 _ rfl rfl (C2) (v := (.slice (some ⟨br, orr, none⟩) n cr)) rfl (fun w h => by simp [go_sem, h]) ?_; simp only [sP]
      refine WG.put rfl (v := (.int .i64 (j : Int))) (fun w => by first | rfl | (go_simp; done) | (simp [go_sem, hi]; done) | (simp [execOp, go_sem, hi]; done)) ?_; simp only [sP]
      refine WG.put rfl (v := (.pointer (some ⟨br, orr + j, none⟩))) (fun w => by first | rfl | (go_simp; done) | (simp [go_sem, hi]; done) | (simp [execOp, go_sem, hi]; done)) ?_; simp only [sP]
      refine WG.cell rfl 3 _ rfl rfl (yr) (fun w h => by simp [go_sem, h]) ?_; simp only [sP]
      refine WG.put rfl (v := (.bool true)) (fun w => by first | rfl | (go_simp; done) | (simp [go_sem, hr0, hi]; done) | (simp [execOp, go_sem, hr0, hi]; done)) ?_; simp only [sP]
      refine WG.put rfl (v := (.bool true)) (fun w => by first | rfl | (go_simp; done) | (simp [go_sem, hi]; done) | (simp [execOp, go_sem, hi]; done)) ?_; simp only [sP]
      refine WG.skip rfl ?_; simp only [sP]
      refine WG.skip rfl ?_; simp only [sP]
      refine WG.skip rfl ?_; simp only [sP]
      refine WG.skip rfl ?_; simp only [sP]
      refine WG.skip rfl ?_; simp only [sP]
      refine WG.skip rfl ?_; simp only [sP]
      refine WG.skip rfl ?_; simp only [sP]
      refine WG.skip rfl ?_; simp only [sP]
      refine WG.skip rfl ?_; simp only [sP]
      refine WG.skip rfl ?_; simp only [sP]
      refine WG.skip rfl ?_; simp only [sP]
      refine WG.skip rfl ?_; simp only [sP]
      refine WG.put rfl (v := (.bool true)) (fun w => by first | rfl | (go_simp; done) | (simp [go_sem, hi]; done) | (simp [execOp, go_sem, hi]; done)) ?_; simp only [sP]
      refine WG.put rfl (v := (.bool true)) (fun w => by first | rfl | (go_simp; done) | (simp [go_sem, hi]; done) | (simp [execOp, go_sem, hi]; done)) ?_; simp only [sP]
      refine WG.skip rfl ?_; simp only [sP]
      refine WG.skip rfl ?_; simp only [sP]
      refine WG.skip rfl ?_; simp only [sP]
      refine WG.skip rfl ?_; simp only [sP]
      refine WG.skip rfl ?_; simp only [sP]
      refine WG.skip rfl ?_; simp only [sP]
      refine WG.skip rfl ?_; simp only [sP]
      refine WG.put rfl (v := (.bool true)) (fun w => by first | rfl | (go_simp; done) | (simp [go_sem, hi]; done) | (simp [execOp, go_sem, hi]; done)) ?_; simp only [sP]
      refine WG.put rfl (v := (.bool true)) (fun w => by first | rfl | (go_simp; done) | (simp [go_sem, hi]; done) | (simp [execOp, go_sem, hi]; done)) ?_; simp only [sP]
      refine WG.skip rfl ?_; simp only [sP]
      refine WG.skip rfl ?_; simp only [sP]
      refine WG.skip rfl ?_; simp only [sP]
      refine WG.skip rfl ?_; simp only [sP]
      refine WG.skip rfl ?_; simp only [sP]
      refine WG.skip rfl ?_; simp only [sP]
      refine WG.skip rfl ?_; simp only [sP]
      refine WG.skip rfl ?_; simp only [sP]
      refine WG.put rfl (v := (.bool true)) (fun w => by first | rfl | (go_simp; done) | (simp [go_sem, hi]; done) | (simp [execOp, go_sem, hi]; done)) ?_; simp only [sP]
      refine WG.nil ?_
      intro W3 B3
      have B4 := Below.then B B3
      go_wp2_with fail
      go_ret
      refine ⟨?_, B4⟩
      exact Eq.trans rfl (congrArg (fun b => Ending.returned (.bool b)) (fits_th HJ.out (by rw [HTH.out, decide_eq_false q0]; simp)).symm)
  · obtain rfl : j = n := by omega
    have hi : ¬ (j : Int) < j := by omega
    obtain ⟨e1, e2, e3, e4, e5, hfw⟩ := HZ.out
    have HE : Hid (fitsB z s = (decide (-1 ≤ lk) && decide (lk ≤ (j : Int) - 1))) := by show _ = _; rw [fits_end e5 (by rw [e1]; exact HA.out), e4, e1, Bool.decide_and]
    clear e1 e2 e3 e4 e5 hfw HI HR HS
    obtain ⟨x0, x1, x2, x3, x4, x5⟩ := st6 C3
    have hw := fun W => wi lk (-1) ((j : Int) - 1) W _ rfl
    go_wp2_with (go_at_call 89; refine (hw _).mono ?_; rintro e w' ⟨rfl, B7⟩)
    go_ret
    exact ⟨Eq.trans rfl (congrArg (fun b => Ending.returned (.bool b)) HE.out.symm), Below.then B B7⟩
theorem fits_any (z : Shp) (s : ST) (n nl : Nat) (ai ar : Option Addr) (ci cr : Nat) (vpc vph vrg vmm vbf : Value) (w : World)
    (hn : z.ins.length = n) (hn0 : n ≤ 1048576) (hnl0 : nl ≤ 1048576) (hzr : z.rgs.length = n) (hzl : z.locs = nl) (hfw : s.Few)
    (hI : Seg w ai ((natI z.ins).flatMap intE)) (hR : Seg w ar ((natI z.rgs).flatMap intE)) (hS : STV w s vpc vph vrg vmm vbf) :
    Calls Try.prog 42 #[.agg #[.slice ai n ci, .slice ar n cr, .int .i64 (nl : Int)], .agg #[vpc, vph, vrg, vmm, vbf, .int .i64 s.lock]] w fun e w' => e = .returned (.bool (fitsB z s)) ∧ Below w.heap.size w w' := by
 obtain ⟨a1, c1, rfl, _, _⟩ := hS.pc
 obtain ⟨a2, c2, rfl, _, _⟩ := hS.ph
 obtain ⟨a3, c3, rfl⟩ := hS.rg.form
 obtain ⟨a4, c4, rfl, _, _⟩ := hS.mm
 obtain ⟨a5, c5, rfl⟩ := hS.bf.form
 cases hl : lensB z s with
 | false =>
  rw [fits_len hl]
  refine fits_lens n nl _ _ _ _ _ ai ar a1 a2 a3 a4 a5 ci cr c1 c2 c3 c4 c5 s.lock w ⟨hfw.pc, hfw.ph, hfw.rg, hfw.mm, hfw.bf, hn0, hnl0⟩ fun h => ?_
  unfold lensB at hl
  rw [hn, hzl, decide_eq_true h.1, decide_eq_true h.2.1, decide_eq_true h.2.2.1, decide_eq_true h.2.2.2.1, decide_eq_true h.2.2.2.2] at hl
  cases hl
 | true =>
  have hl' := hl
  unfold lensB at hl'
  simp only [Bool.and_eq_true, decide_eq_true_eq] at hl'
  obtain ⟨e1, e2, e3, e4, e5⟩ := hl'
  have := fits_eq z s n nl ai ar a1 a2 a3 a4 a5 ci cr c1 c2 c3 c4 c5 s.lock w hn hn0 hnl0 hzr hzl hfw rfl hl hI hR (by have h := hS; rw [e1, e2, e3, e4, e5, hn, hzl] at h; exact h)
  rw [e1, e2, e3, e4, e5, hn, hzl]
  exact this
end Go.Proofs.Ytegpnicajlndlaa

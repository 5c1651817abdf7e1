/- Several texts in one: PgSA, PgSB, PgOP. -/
import Derived.Test.YtdneaaegllpnlaaDoorPgQD
import Derived.Test.YtdneaaegllpnlaaDoorPgPM
import Derived.ProofKit
import Derived.OpenShut
import Derived.SizedLaws
import Derived.Lib.RowBridge
import Derived.ChangeMaps5
import Derived.ChangeOld
import Derived.JoinedCond
/- Same of a program and itself, elsewhere in memory. -/
namespace Go.Proofs.YtdneaaegllpnlaaDoor
open Go.RowKit M
set_option linter.unusedSimpArgs false
set_option linter.unusedVariables false

set_option maxRecDepth 100000 in
set_option maxHeartbeats 4000000 in
theorem sameTexts_any (l : List ByteArray) (hl : l.length ≤ 1048576) (a1 a2 : Option Addr) (c1 c2 : Nat) (w : World) (h1 : Seg w a1 (l.flatMap strE)) (h2 : Seg w a2 (l.flatMap strE)) :
    Calls Tryd.prog 52 #[.slice a1 l.length c1, .slice a2 l.length c2] w fun en w' => en = .returned (.bool true) ∧ Below w.heap.size w w' := by
  have H1 : Hid (Seg w a1 (l.flatMap strE)) := h1
  have H2 : Hid (Seg w a2 (l.flatMap strE)) := h2
  obtain ⟨nn, hnn⟩ : ∃ n, l.length = n := ⟨_, rfl⟩
  have HN : Hid (l.length = nn) := hnn
  rw [hnn] at hl ⊢
  clear h1 h2 hnn
  go_enter Tryd.func52, Tryd.ntmps52
  go_wp2_with fail
  go_loopw [5] (fun i wr => ∃ j : Nat, j ≤ nn ∧ i = .int .i64 (j : Int) ∧ Hid (Below w.heap.size w wr)) (fun i _ => nn - (intOf i).toNat)
  case atStart => exact ⟨0, by omega, rfl, Below.refl _ _⟩
  case round =>
    obtain ⟨j, hj, rfl, HB⟩ := hrel
    by_cases hlt : j < nn
    · have hi : (j : Int) < nn := by omega
      obtain ⟨g, hg⟩ : ∃ g, l[j]? = some g := ⟨_, List.getElem?_eq_getElem (by rw [HN.out]; exact hlt)⟩
      obtain ⟨b, o, rfl, hb, hc⟩ := (H1.out.below HB.out).str hg
      obtain ⟨b', o', rfl, hb', hc'⟩ := (H2.out.below HB.out).str hg
      clear hg
      go_wp2_with fail
      refine grow_allW (by kernel_rfl) (by kernel_rfl) ?_
      refine WG.put rfl (v := .slice (some ⟨b, o, none⟩) nn c1) (fun w => by first | rfl | (go_simp; done) | (simp [go_sem]; done) | (simp [execOp, go_sem]; done)) ?_
      simp only [Act.put, List.setIfInBounds_toArray, List.set_cons_succ, List.set_cons_zero]
      refine WG.put rfl (v := .int .i64 (j : Int)) (fun w => by first | rfl | (go_simp; done) | (simp [go_sem]; done) | (simp [execOp, go_sem]; done)) ?_
      simp only [Act.put, List.setIfInBounds_toArray, List.set_cons_succ, List.set_cons_zero]
      refine WG.put rfl (v := .pointer (some ⟨b, o + j, none⟩)) (fun w => by first | rfl | (go_simp; done) | (simp [go_sem]; done) | (simp [execOp, go_sem]; done)) ?_
      simp only [Act.put, List.setIfInBounds_toArray, List.set_cons_succ, List.set_cons_zero]
      refine WG.cell rfl 9 _ rfl rfl hc (fun w h => ld9 w h) ?_
      simp only [Act.put, List.setIfInBounds_toArray, List.set_cons_succ, List.set_cons_zero]
      refine WG.put rfl (v := .slice (some ⟨b', o', none⟩) nn c2) (fun w => by first | rfl | (go_simp; done) | (simp [go_sem]; done) | (simp [execOp, go_sem]; done)) ?_
      simp only [Act.put, List.setIfInBounds_toArray, List.set_cons_succ, List.set_cons_zero]
      refine WG.put rfl (v := .int .i64 (j : Int)) (fun w => by first | rfl | (go_simp; done) | (simp [go_sem]; done) | (simp [execOp, go_sem]; done)) ?_
      simp only [Act.put, List.setIfInBounds_toArray, List.set_cons_succ, List.set_cons_zero]
      refine WG.put rfl (v := .pointer (some ⟨b', o' + j, none⟩)) (fun w => by first | rfl | (go_simp; done) | (simp [go_sem]; done) | (simp [execOp, go_sem]; done)) ?_
      simp only [Act.put, List.setIfInBounds_toArray, List.set_cons_succ, List.set_cons_zero]
      refine WG.cell rfl 9 _ rfl rfl hc' (fun w h => ld9 w h) ?_
      simp only [Act.put, List.setIfInBounds_toArray, List.set_cons_succ, List.set_cons_zero]
      refine WG.put rfl (v := .bool false) (fun w => by first | rfl | (go_simp; done) | (simp [go_sem]; done) | (simp [execOp, go_sem]; done)) ?_
      simp only [Act.put, List.setIfInBounds_toArray, List.set_cons_succ, List.set_cons_zero]
      refine WG.nil ?_
      intro W3 B3
      have B4 : Hid (Below w.heap.size w W3) := Below.then HB.out B3
      go_wp2_with fail
      go_roundw
      case rel => exact ⟨j + 1, by omega, by go_num, B4⟩
      case measure => simp [intOf]; omega
    · have hi : ¬ (j : Int) < nn := by omega
      go_wp2_with fail
      go_ret
      exact ⟨rfl, HB.out⟩
set_option maxRecDepth 100000 in
set_option maxHeartbeats 4000000 in
theorem sameValues_any (l : List Int) (hl : l.length ≤ 1048576) (a1 a2 : Option Addr) (c1 c2 : Nat) (w : World) (h1 : Seg w a1 (l.flatMap intE)) (h2 : Seg w a2 (l.flatMap intE)) :
    Calls Tryd.prog 53 #[.slice a1 l.length c1, .slice a2 l.length c2] w fun en w' => en = .returned (.bool true) ∧ Below w.heap.size w w' := by
  have H1 : Hid (Seg w a1 (l.flatMap intE)) := h1
  have H2 : Hid (Seg w a2 (l.flatMap intE)) := h2
  obtain ⟨nn, hnn⟩ : ∃ n, l.length = n := ⟨_, rfl⟩
  have HN : Hid (l.length = nn) := hnn
  rw [hnn] at hl ⊢
  clear h1 h2 hnn
  go_enter Tryd.func53, Tryd.ntmps53
  go_wp2_with fail
  go_loopw [5] (fun i wr => ∃ j : Nat, j ≤ nn ∧ i = .int .i64 (j : Int) ∧ Hid (Below w.heap.size w wr)) (fun i _ => nn - (intOf i).toNat)
  case atStart => exact ⟨0, by omega, rfl, Below.refl _ _⟩
  case round =>
    obtain ⟨j, hj, rfl, HB⟩ := hrel
    by_cases hlt : j < nn
    · have hi : (j : Int) < nn := by omega
      obtain ⟨g, hg⟩ : ∃ g, l[j]? = some g := ⟨_, List.getElem?_eq_getElem (by rw [HN.out]; exact hlt)⟩
      obtain ⟨b, o, rfl, hb, hc⟩ := (H1.out.below HB.out).int hg
      obtain ⟨b', o', rfl, hb', hc'⟩ := (H2.out.below HB.out).int hg
      clear hg
      go_wp2_with fail
      refine grow_allW (by kernel_rfl) (by kernel_rfl) ?_
      refine WG.put rfl (v := .slice (some ⟨b, o, none⟩) nn c1) (fun w => by first | rfl | (go_simp; done) | (simp [go_sem]; done) | (simp [execOp, go_sem]; done)) ?_
      simp only [Act.put, List.setIfInBounds_toArray, List.set_cons_succ, List.set_cons_zero]
      refine WG.put rfl (v := .int .i64 (j : Int)) (fun w => by first | rfl | (go_simp; done) | (simp [go_sem]; done) | (simp [execOp, go_sem]; done)) ?_
      simp only [Act.put, List.setIfInBounds_toArray, List.set_cons_succ, List.set_cons_zero]
      refine WG.put rfl (v := .pointer (some ⟨b, o + j, none⟩)) (fun w => by first | rfl | (go_simp; done) | (simp [go_sem]; done) | (simp [execOp, go_sem]; done)) ?_
      simp only [Act.put, List.setIfInBounds_toArray, List.set_cons_succ, List.set_cons_zero]
      refine WG.cell rfl 2 _ rfl rfl hc (fun w h => ld2 w h) ?_
      simp only [Act.put, List.setIfInBounds_toArray, List.set_cons_succ, List.set_cons_zero]
      refine WG.put rfl (v := .slice (some ⟨b', o', none⟩) nn c2) (fun w => by first | rfl | (go_simp; done) | (simp [go_sem]; done) | (simp [execOp, go_sem]; done)) ?_
      simp only [Act.put, List.setIfInBounds_toArray, List.set_cons_succ, List.set_cons_zero]
      refine WG.put rfl (v := .int .i64 (j : Int)) (fun w => by first | rfl | (go_simp; done) | (simp [go_sem]; done) | (simp [execOp, go_sem]; done)) ?_
      simp only [Act.put, List.setIfInBounds_toArray, List.set_cons_succ, List.set_cons_zero]
      refine WG.put rfl (v := .pointer (some ⟨b', o' + j, none⟩)) (fun w => by first | rfl | (go_simp; done) | (simp [go_sem]; done) | (simp [execOp, go_sem]; done)) ?_
      simp only [Act.put, List.setIfInBounds_toArray, List.set_cons_succ, List.set_cons_zero]
      refine WG.cell rfl 2 _ rfl rfl hc' (fun w h => ld2 w h) ?_
      simp only [Act.put, List.setIfInBounds_toArray, List.set_cons_succ, List.set_cons_zero]
      refine WG.put rfl (v := .bool false) (fun w => by first | rfl | (go_simp; done) | (simp [go_sem]; done) | (simp [execOp, go_sem]; done)) ?_
      simp only [Act.put, List.setIfInBounds_toArray, List.set_cons_succ, List.set_cons_zero]
      refine WG.nil ?_
      intro W3 B3
      have B4 : Hid (Below w.heap.size w W3) := Below.then HB.out B3
      go_wp2_with fail
      go_roundw
      case rel => exact ⟨j + 1, by omega, by go_num, B4⟩
      case measure => simp [intOf]; omega
    · have hi : ¬ (j : Int) < nn := by omega
      go_wp2_with fail
      go_ret
      exact ⟨rfl, HB.out⟩
end Go.Proofs.YtdneaaegllpnlaaDoor
/- Same of a program and itself, elsewhere in memory: whole. -/
namespace Go.Proofs.YtdneaaegllpnlaaDoor
open Go.RowKit M
set_option linter.unusedSimpArgs false
set_option linter.unusedVariables false

set_option maxRecDepth 100000 in
set_option maxHeartbeats 8000000 in
theorem sameP_any (p : PG) (hf : p.Few) (vt vr vl vi vj ut ur ul ui uj : Value) (w : World) (hp : PGV w vt vr vl vi vj p) (hq : PGV w ut ur ul ui uj p) :
    Calls Tryd.prog 17 #[.agg #[vt, vr, vl, vi, vj], .agg #[ut, ur, ul, ui, uj]] w fun en w' => en = .returned (.bool true) ∧ Below w.heap.size w w' := by
  have HF : Hid p.Few := hf
  obtain ⟨at1, ct1, rfl⟩ := hp.t.form
  obtain ⟨ar1, cr1, rfl⟩ := hp.r.form
  obtain ⟨ai1, ci1, rfl⟩ := hp.i.form
  obtain ⟨al1, cl1, rfl, sl1, _⟩ := hp.l
  obtain ⟨aj1, cj1, rfl, sj1, _⟩ := hp.j
  have HT1 : Hid (RowsV w (.slice at1 p.threads.length ct1) op5L p.threads) := hp.t
  have HR1 : Hid (RowsV w (.slice ar1 p.regs.length cr1) strE p.regs) := hp.r
  have HI1 : Hid (RowsV w (.slice ai1 p.regInit.length ci1) intE p.regInit) := hp.i
  obtain ⟨at2, ct2, rfl⟩ := hq.t.form
  obtain ⟨ar2, cr2, rfl⟩ := hq.r.form
  obtain ⟨ai2, ci2, rfl⟩ := hq.i.form
  obtain ⟨al2, cl2, rfl, sl2, _⟩ := hq.l
  obtain ⟨aj2, cj2, rfl, sj2, _⟩ := hq.j
  have HT2 : Hid (RowsV w (.slice at2 p.threads.length ct2) op5L p.threads) := hq.t
  have HR2 : Hid (RowsV w (.slice ar2 p.regs.length cr2) strE p.regs) := hq.r
  have HI2 : Hid (RowsV w (.slice ai2 p.regInit.length ci2) intE p.regInit) := hq.i
  have cL := fun W (hW : Below w.heap.size w W) => sameTexts_any p.locs hf.l al1 al2 cl1 cl2 W (sl1.below hW) (sl2.below hW)
  have cJ := fun W (hW : Below w.heap.size w W) => sameValues_any p.locInit hf.j aj1 aj2 cj1 cj2 W (sj1.below hW) (sj2.below hW)
  clear hp hq sl1 sl2 sj1 sj2
  obtain ⟨nt, hnt⟩ : ∃ n, p.threads.length = n := ⟨_, rfl⟩
  obtain ⟨nr, hnr⟩ : ∃ n, p.regs.length = n := ⟨_, rfl⟩
  obtain ⟨nl, hnl⟩ : ∃ n, p.locs.length = n := ⟨_, rfl⟩
  obtain ⟨ni, hni⟩ : ∃ n, p.regInit.length = n := ⟨_, rfl⟩
  obtain ⟨nj, hnj⟩ : ∃ n, p.locInit.length = n := ⟨_, rfl⟩
  have HNT : Hid (p.threads.length = nt) := hnt
  have HNR : Hid (p.regs.length = nr) := hnr
  have HNI : Hid (p.regInit.length = ni) := hni
  have hft := hf.t
  have hfr := hf.r
  have hfi := hf.i
  rw [hnt] at HT1 HT2 hft
  rw [hnr] at HR1 HR2 hfr
  rw [hni] at HI1 HI2 hfi
  rw [hnl] at cL
  rw [hnj] at cJ
  rw [hnt, hnr, hnl, hni, hnj]
  clear hnt hnr hnl hni hnj hf
  have t1 : True := trivial
  have t2 : True := trivial
  go_enter Tryd.func17, Tryd.ntmps17
  go_wp2_with (first
    | (clear t1; refine wpList_boxS rfl 28 _ rfl [.slice at1 nt ct1, .slice ar1 nr cr1, .slice al1 nl cl1, .slice ai1 ni ci1, .slice aj1 nj cj1] rfl ?_; intro W1 b1 F1 C1; have B1 : Below w.heap.size w W1 := F1.trans (Below.refl _ w) (Nat.le_refl _); clear F1)
    | (clear t2; refine wpList_boxS rfl 28 _ rfl [.slice at2 nt ct2, .slice ar2 nr cr2, .slice al2 nl cl2, .slice ai2 ni ci2, .slice aj2 nj cj2] rfl ?_; intro W2 b2 F2 D2; have C2 := C1.fresh F2; have B2 := F2.trans B1 B1.size; obtain ⟨k0, k1, k2, k3, k4⟩ := five C2; obtain ⟨m0, m1, m2, m3, m4⟩ := five D2; clear F2 C1)
    | (go_at_call 52; refine (cL _ B2).mono ?_; rintro en W3 ⟨rfl, B3x⟩; have C3 := C2.grown B3x; have D3 := D2.grown B3x; have B3 := Below.then B2 B3x; obtain ⟨k0, k1, k2, k3, k4⟩ := five C3; obtain ⟨m0, m1, m2, m3, m4⟩ := five D3; clear B3x cL C2 D2)
    | (go_at_call 53; refine (cJ _ B3).mono ?_; rintro en W4 ⟨rfl, B4x⟩; have C4 := C3.grown B4x; have D4 := D3.grown B4x; have B4 := Below.then B3 B4x; clear B4x cJ C3 D3))
  have H1 : Hid (IsS W4 b1 28 [.slice at1 nt ct1, .slice ar1 nr cr1, .slice al1 nl cl1, .slice ai1 ni ci1, .slice aj1 nj cj1]) := C4
  have H2 : Hid (IsS W4 b2 28 [.slice at2 nt ct2, .slice ar2 nr cr2, .slice al2 nl cl2, .slice ai2 ni ci2, .slice aj2 nj cj2]) := D4
  clear C4 D4
  go_loopw [5] (fun i wr => ∃ k : Nat, k ≤ nt ∧ i = .int .i64 (k : Int) ∧ Hid (Below W4.heap.size W4 wr)) (fun i _ => nt - (intOf i).toNat)
  case atStart => exact ⟨0, by omega, rfl, Below.refl _ _⟩
  case round =>
    obtain ⟨k, hk, rfl, HB⟩ := hrel
    have Q1 := H1.out.grown HB.out
    have Q2 := H2.out.grown HB.out
    obtain ⟨k0, k1, k2, k3, k4⟩ := five Q1
    obtain ⟨m0, m1, m2, m3, m4⟩ := five Q2
    by_cases hlt : k < nt
    · have hki : (k : Int) < nt := by omega
      obtain ⟨l, hl⟩ : ∃ l, p.threads[k]? = some l := ⟨_, List.getElem?_eq_getElem (by rw [HNT.out]; exact hlt)⟩
      obtain ⟨x1, o1, a1, c1, rfl, hx1, h1cw, s1, _⟩ := (HT1.out.below B4).at k l hl
      obtain ⟨x2, o2, a2, c2, rfl, hx2, h2cw, s2, _⟩ := (HT2.out.below B4).at k l hl
      have hll : l.length ≤ 1048576 := Nat.le_trans (by have := flat_at hl (Nat.le_refl _); rw [List.take_length, List.length_append] at this; omega) HF.out.tt
      obtain ⟨ln, hln⟩ : ∃ n, l.length = n := ⟨_, rfl⟩
      have HLN : Hid (l.length = ln) := hln
      have S1 : Hid (Seg W4 a1 (l.flatMap op5L)) := s1
      have S2 : Hid (Seg W4 a2 (l.flatMap op5L)) := s2
      rw [hln] at hll h1cw h2cw
      clear hl hln s1 s2
      have h1c : wr.cell? ⟨x1, o1 + k, none⟩ = some (.slice a1 ln c1) := by rw [HB.out.cell (p := ⟨x1, o1 + k, none⟩) hx1]; exact h1cw
      have h2c : wr.cell? ⟨x2, o2 + k, none⟩ = some (.slice a2 ln c2) := by rw [HB.out.cell (p := ⟨x2, o2 + k, none⟩) hx2]; exact h2cw
      go_wp2_with fail
      refine grow_allW (by kernel_rfl) (by kernel_rfl) ?_
      refine WG.put rfl (v := .pointer (some ⟨b1, 0, none⟩)) (fun w => by first | rfl | (go_simp; done) | (simp [go_sem]; done) | (simp [execOp, go_sem]; done)) ?_
      simp only [Act.put, List.setIfInBounds_toArray, List.set_cons_succ, List.set_cons_zero]
      refine WG.load1 rfl 22 _ rfl rfl Q1 (v := .slice (some ⟨x1, o1, none⟩) nt ct1) rfl (fun w h => ld41 w h) ?_
      simp only [Act.put, List.setIfInBounds_toArray, List.set_cons_succ, List.set_cons_zero]
      refine WG.put rfl (v := .int .i64 (k : Int)) (fun w => by first | rfl | (go_simp; done) | (simp [go_sem]; done) | (simp [execOp, go_sem]; done)) ?_
      simp only [Act.put, List.setIfInBounds_toArray, List.set_cons_succ, List.set_cons_zero]
      refine WG.put rfl (v := .pointer (some ⟨x1, o1 + k, none⟩)) (fun w => by first | rfl | (go_simp; done) | (simp [go_sem]; done) | (simp [execOp, go_sem]; done)) ?_
      simp only [Act.put, List.setIfInBounds_toArray, List.set_cons_succ, List.set_cons_zero]
      refine WG.cell rfl 73 _ rfl rfl h1c (fun w h => ld54 w h) ?_
      simp only [Act.put, List.setIfInBounds_toArray, List.set_cons_succ, List.set_cons_zero]
      refine WG.put rfl (v := .int .i64 (ln : Int)) (fun w => by first | rfl | (go_simp; done) | (simp [go_sem]; done) | (simp [execOp, go_sem]; done)) ?_
      simp only [Act.put, List.setIfInBounds_toArray, List.set_cons_succ, List.set_cons_zero]
      refine WG.put rfl (v := .pointer (some ⟨b2, 0, none⟩)) (fun w => by first | rfl | (go_simp; done) | (simp [go_sem]; done) | (simp [execOp, go_sem]; done)) ?_
      simp only [Act.put, List.setIfInBounds_toArray, List.set_cons_succ, List.set_cons_zero]
      refine WG.load1 rfl 22 _ rfl rfl Q2 (v := .slice (some ⟨x2, o2, none⟩) nt ct2) rfl (fun w h => ld41 w h) ?_
      simp only [Act.put, List.setIfInBounds_toArray, List.set_cons_succ, List.set_cons_zero]
      refine WG.put rfl (v := .int .i64 (k : Int)) (fun w => by first | rfl | (go_simp; done) | (simp [go_sem]; done) | (simp [execOp, go_sem]; done)) ?_
      simp only [Act.put, List.setIfInBounds_toArray, List.set_cons_succ, List.set_cons_zero]
      refine WG.put rfl (v := .pointer (some ⟨x2, o2 + k, none⟩)) (fun w => by first | rfl | (go_simp; done) | (simp [go_sem]; done) | (simp [execOp, go_sem]; done)) ?_
      simp only [Act.put, List.setIfInBounds_toArray, List.set_cons_succ, List.set_cons_zero]
      refine WG.cell rfl 73 _ rfl rfl h2c (fun w h => ld54 w h) ?_
      simp only [Act.put, List.setIfInBounds_toArray, List.set_cons_succ, List.set_cons_zero]
      refine WG.put rfl (v := .int .i64 (ln : Int)) (fun w => by first | rfl | (go_simp; done) | (simp [go_sem]; done) | (simp [execOp, go_sem]; done)) ?_
      simp only [Act.put, List.setIfInBounds_toArray, List.set_cons_succ, List.set_cons_zero]
      refine WG.put rfl (v := .bool false) (fun w => by first | rfl | (go_simp; done) | (simp [go_sem]; done) | (simp [execOp, go_sem]; done)) ?_
      simp only [Act.put, List.setIfInBounds_toArray, List.set_cons_succ, List.set_cons_zero]
      refine WG.nil ?_
      intro W5 B5
      have B6 : Hid (Below W4.heap.size W4 W5) := Below.then HB.out B5
      clear Q1 Q2 k0 k1 k2 k3 k4 m0 m1 m2 m3 m4 h1c h2c HB
      go_wp2_with fail
      go_loopw [6] (fun i wr => ∃ j : Nat, j ≤ ln ∧ i = .int .i64 (j : Int) ∧ Hid (Below W4.heap.size W4 wr)) (fun i _ => ln - (intOf i).toNat)
      case atStart => exact ⟨0, by omega, rfl, B6⟩
      case round =>
        obtain ⟨j, hj, rfl, HB⟩ := hrel
        have Q1 := H1.out.grown HB.out
        have Q2 := H2.out.grown HB.out
        obtain ⟨k0, k1, k2, k3, k4⟩ := five Q1
        obtain ⟨m0, m1, m2, m3, m4⟩ := five Q2
        have h1c : wr.cell? ⟨x1, o1 + k, none⟩ = some (.slice a1 ln c1) := by rw [HB.out.cell (p := ⟨x1, o1 + k, none⟩) hx1]; exact h1cw
        have h2c : wr.cell? ⟨x2, o2 + k, none⟩ = some (.slice a2 ln c2) := by rw [HB.out.cell (p := ⟨x2, o2 + k, none⟩) hx2]; exact h2cw
        by_cases hjt : j < ln
        · have hji : (j : Int) < ln := by omega
          obtain ⟨g, hg⟩ : ∃ g, l[j]? = some g := ⟨_, List.getElem?_eq_getElem (by rw [HLN.out]; exact hjt)⟩
          obtain ⟨y1, p1, rfl, hy1, r1⟩ := (S1.out.below HB.out).op hg
          obtain ⟨y2, p2, rfl, hy2, r2⟩ := (S2.out.below HB.out).op hg
          clear hg
          go_wp2_with fail
          refine grow_allW (by kernel_rfl) (by kernel_rfl) ?_
          refine WG.put rfl (v := .pointer (some ⟨b1, 0, none⟩)) (fun w => by first | rfl | (go_simp; done) | (simp [go_sem]; done) | (simp [execOp, go_sem]; done)) ?_
          simp only [Act.put, List.setIfInBounds_toArray, List.set_cons_succ, List.set_cons_zero]
          refine WG.load1 rfl 22 _ rfl rfl Q1 (v := .slice (some ⟨x1, o1, none⟩) nt ct1) rfl (fun w h => ld41 w h) ?_
          simp only [Act.put, List.setIfInBounds_toArray, List.set_cons_succ, List.set_cons_zero]
          refine WG.put rfl (v := .int .i64 (k : Int)) (fun w => by first | rfl | (go_simp; done) | (simp [go_sem]; done) | (simp [execOp, go_sem]; done)) ?_
          simp only [Act.put, List.setIfInBounds_toArray, List.set_cons_succ, List.set_cons_zero]
          refine WG.put rfl (v := .pointer (some ⟨x1, o1 + k, none⟩)) (fun w => by first | rfl | (go_simp; done) | (simp [go_sem]; done) | (simp [execOp, go_sem]; done)) ?_
          simp only [Act.put, List.setIfInBounds_toArray, List.set_cons_succ, List.set_cons_zero]
          refine WG.cell rfl 73 _ rfl rfl h1c (fun w h => ld54 w h) ?_
          simp only [Act.put, List.setIfInBounds_toArray, List.set_cons_succ, List.set_cons_zero]
          refine WG.put rfl (v := .int .i64 (j : Int)) (fun w => by first | rfl | (go_simp; done) | (simp [go_sem]; done) | (simp [execOp, go_sem]; done)) ?_
          simp only [Act.put, List.setIfInBounds_toArray, List.set_cons_succ, List.set_cons_zero]
          refine WG.put rfl (v := .pointer (some ⟨y1, p1 + j * 5, none⟩)) (fun w => by first | rfl | (go_simp; done) | (simp [go_sem]; done) | (simp [execOp, go_sem]; done)) ?_
          simp only [Act.put, List.setIfInBounds_toArray, List.set_cons_succ, List.set_cons_zero]
          refine WG.range rfl 75 _ rfl rfl (op5L g) hy1 r1 _ Tryd.underlying75 rfl infoOp ?_
          simp only [Act.put, List.setIfInBounds_toArray, List.set_cons_succ, List.set_cons_zero]
          refine WG.put rfl (v := .pointer (some ⟨b2, 0, none⟩)) (fun w => by first | rfl | (go_simp; done) | (simp [go_sem]; done) | (simp [execOp, go_sem]; done)) ?_
          simp only [Act.put, List.setIfInBounds_toArray, List.set_cons_succ, List.set_cons_zero]
          refine WG.load1 rfl 22 _ rfl rfl Q2 (v := .slice (some ⟨x2, o2, none⟩) nt ct2) rfl (fun w h => ld41 w h) ?_
          simp only [Act.put, List.setIfInBounds_toArray, List.set_cons_succ, List.set_cons_zero]
          refine WG.put rfl (v := .int .i64 (k : Int)) (fun w => by first | rfl | (go_simp; done) | (simp [go_sem]; done) | (simp [execOp, go_sem]; done)) ?_
          simp only [Act.put, List.setIfInBounds_toArray, List.set_cons_succ, List.set_cons_zero]
          refine WG.put rfl (v := .pointer (some ⟨x2, o2 + k, none⟩)) (fun w => by first | rfl | (go_simp; done) | (simp [go_sem]; done) | (simp [execOp, go_sem]; done)) ?_
          simp only [Act.put, List.setIfInBounds_toArray, List.set_cons_succ, List.set_cons_zero]
          refine WG.cell rfl 73 _ rfl rfl h2c (fun w h => ld54 w h) ?_
          simp only [Act.put, List.setIfInBounds_toArray, List.set_cons_succ, List.set_cons_zero]
          refine WG.put rfl (v := .int .i64 (j : Int)) (fun w => by first | rfl | (go_simp; done) | (simp [go_sem]; done) | (simp [execOp, go_sem]; done)) ?_
          simp only [Act.put, List.setIfInBounds_toArray, List.set_cons_succ, List.set_cons_zero]
          refine WG.put rfl (v := .pointer (some ⟨y2, p2 + j * 5, none⟩)) (fun w => by first | rfl | (go_simp; done) | (simp [go_sem]; done) | (simp [execOp, go_sem]; done)) ?_
          simp only [Act.put, List.setIfInBounds_toArray, List.set_cons_succ, List.set_cons_zero]
          refine WG.range rfl 75 _ rfl rfl (op5L g) hy2 r2 _ Tryd.underlying75 rfl infoOp ?_
          simp only [Act.put, List.setIfInBounds_toArray, List.set_cons_succ, List.set_cons_zero]
          refine WG.put rfl (v := .bool false) (fun w => by simp [execOp, go_sem, op5L]) ?_
          simp only [Act.put, List.setIfInBounds_toArray, List.set_cons_succ, List.set_cons_zero]
          refine WG.nil ?_
          intro W7 B7
          have B8 : Hid (Below W4.heap.size W4 W7) := Below.then HB.out B7
          clear Q1 Q2 k0 k1 k2 k3 k4 m0 m1 m2 m3 m4 h1c h2c r1 r2
          go_wp2_with fail
          go_roundw
          case rel => exact ⟨j + 1, by omega, by go_num, B8⟩
          case measure => simp [intOf]; omega
        · have hji : ¬ (j : Int) < ln := by omega
          go_wp2_with fail
          go_roundw
          case rel => exact ⟨k + 1, by omega, by go_num, HB⟩
          case measure => simp [intOf]; omega
    · have hki : ¬ (k : Int) < nt := by omega
      go_wp2_with fail
      go_loopw [7] (fun i wr => ∃ k : Nat, k ≤ nr ∧ i = .int .i64 (k : Int) ∧ Hid (Below W4.heap.size W4 wr)) (fun i _ => nr - (intOf i).toNat)
      case atStart => exact ⟨0, by omega, rfl, HB⟩
      case round =>
        obtain ⟨k, hk, rfl, HB⟩ := hrel
        have Q1 := H1.out.grown HB.out
        have Q2 := H2.out.grown HB.out
        obtain ⟨k0, k1, k2, k3, k4⟩ := five Q1
        obtain ⟨m0, m1, m2, m3, m4⟩ := five Q2
        by_cases hlt : k < nr
        · have hki : (k : Int) < nr := by omega
          obtain ⟨l, hl⟩ : ∃ l, p.regs[k]? = some l := ⟨_, List.getElem?_eq_getElem (by rw [HNR.out]; exact hlt)⟩
          obtain ⟨x1, o1, a1, c1, rfl, hx1, h1c, s1, _⟩ := (HR1.out.below (Below.then B4 HB.out)).at k l hl
          obtain ⟨x2, o2, a2, c2, rfl, hx2, h2c, s2, _⟩ := (HR2.out.below (Below.then B4 HB.out)).at k l hl
          have hll : l.length ≤ 1048576 := Nat.le_trans (by have := flat_at hl (Nat.le_refl _); rw [List.take_length, List.length_append] at this; omega) HF.out.rr
          clear hl
          go_wp2_with fail
          refine grow_allW (by kernel_rfl) (by kernel_rfl) ?_
          refine WG.put rfl (v := .pointer (some ⟨b1, 1, none⟩)) (fun w => by first | rfl | (go_simp; done) | (simp [go_sem]; done) | (simp [execOp, go_sem]; done)) ?_
          simp only [Act.put, List.setIfInBounds_toArray, List.set_cons_succ, List.set_cons_zero]
          refine WG.load1 rfl 23 _ rfl rfl Q1 (v := .slice (some ⟨x1, o1, none⟩) nr cr1) rfl (fun w h => ld42 w h) ?_
          simp only [Act.put, List.setIfInBounds_toArray, List.set_cons_succ, List.set_cons_zero]
          refine WG.put rfl (v := .int .i64 (k : Int)) (fun w => by first | rfl | (go_simp; done) | (simp [go_sem]; done) | (simp [execOp, go_sem]; done)) ?_
          simp only [Act.put, List.setIfInBounds_toArray, List.set_cons_succ, List.set_cons_zero]
          refine WG.put rfl (v := .pointer (some ⟨x1, o1 + k, none⟩)) (fun w => by first | rfl | (go_simp; done) | (simp [go_sem]; done) | (simp [execOp, go_sem]; done)) ?_
          simp only [Act.put, List.setIfInBounds_toArray, List.set_cons_succ, List.set_cons_zero]
          refine WG.cell rfl 24 _ rfl rfl h1c (fun w h => ld43 w h) ?_
          simp only [Act.put, List.setIfInBounds_toArray, List.set_cons_succ, List.set_cons_zero]
          refine WG.put rfl (v := .pointer (some ⟨b2, 1, none⟩)) (fun w => by first | rfl | (go_simp; done) | (simp [go_sem]; done) | (simp [execOp, go_sem]; done)) ?_
          simp only [Act.put, List.setIfInBounds_toArray, List.set_cons_succ, List.set_cons_zero]
          refine WG.load1 rfl 23 _ rfl rfl Q2 (v := .slice (some ⟨x2, o2, none⟩) nr cr2) rfl (fun w h => ld42 w h) ?_
          simp only [Act.put, List.setIfInBounds_toArray, List.set_cons_succ, List.set_cons_zero]
          refine WG.put rfl (v := .int .i64 (k : Int)) (fun w => by first | rfl | (go_simp; done) | (simp [go_sem]; done) | (simp [execOp, go_sem]; done)) ?_
          simp only [Act.put, List.setIfInBounds_toArray, List.set_cons_succ, List.set_cons_zero]
          refine WG.put rfl (v := .pointer (some ⟨x2, o2 + k, none⟩)) (fun w => by first | rfl | (go_simp; done) | (simp [go_sem]; done) | (simp [execOp, go_sem]; done)) ?_
          simp only [Act.put, List.setIfInBounds_toArray, List.set_cons_succ, List.set_cons_zero]
          refine WG.cell rfl 24 _ rfl rfl h2c (fun w h => ld43 w h) ?_
          simp only [Act.put, List.setIfInBounds_toArray, List.set_cons_succ, List.set_cons_zero]
          refine WG.call rfl (f := 52) (args := #[.slice a1 l.length c1, .slice a2 l.length c2]) (v := .bool true) (fun W hW => sameTexts_any l hll a1 a2 c1 c2 W (s1.below hW) (s2.below hW)) (fun w => by first | rfl | (go_simp; done)) ?_
          simp only [Act.put, List.setIfInBounds_toArray, List.set_cons_succ, List.set_cons_zero]
          refine WG.put rfl (v := .bool false) (fun w => by first | rfl | (go_simp; done) | (simp [go_sem]; done) | (simp [execOp, go_sem]; done)) ?_
          simp only [Act.put, List.setIfInBounds_toArray, List.set_cons_succ, List.set_cons_zero]
          refine WG.nil ?_
          intro W5 B5
          have B6 : Hid (Below W4.heap.size W4 W5) := Below.then HB.out B5
          clear Q1 Q2 k0 k1 k2 k3 k4 m0 m1 m2 m3 m4
          go_wp2_with fail
          go_roundw
          case rel => exact ⟨k + 1, by omega, by go_num, B6⟩
          case measure => simp [intOf]; omega
        · have hki : ¬ (k : Int) < nr := by omega
          go_wp2_with fail
          go_loopw [8] (fun i wr => ∃ k : Nat, k ≤ ni ∧ i = .int .i64 (k : Int) ∧ Hid (Below W4.heap.size W4 wr)) (fun i _ => ni - (intOf i).toNat)
          case atStart => exact ⟨0, by omega, rfl, HB⟩
          case round =>
            obtain ⟨k, hk, rfl, HB⟩ := hrel
            have Q1 := H1.out.grown HB.out
            have Q2 := H2.out.grown HB.out
            obtain ⟨k0, k1, k2, k3, k4⟩ := five Q1
            obtain ⟨m0, m1, m2, m3, m4⟩ := five Q2
            by_cases hlt : k < ni
            · have hki : (k : Int) < ni := by omega
              obtain ⟨l, hl⟩ : ∃ l, p.regInit[k]? = some l := ⟨_, List.getElem?_eq_getElem (by rw [HNI.out]; exact hlt)⟩
              obtain ⟨x1, o1, a1, c1, rfl, hx1, h1c, s1, _⟩ := (HI1.out.below (Below.then B4 HB.out)).at k l hl
              obtain ⟨x2, o2, a2, c2, rfl, hx2, h2c, s2, _⟩ := (HI2.out.below (Below.then B4 HB.out)).at k l hl
              have hll : l.length ≤ 1048576 := Nat.le_trans (by have := flat_at hl (Nat.le_refl _); rw [List.take_length, List.length_append] at this; omega) HF.out.ii
              clear hl
              go_wp2_with fail
              refine grow_allW (by kernel_rfl) (by kernel_rfl) ?_
              refine WG.put rfl (v := .pointer (some ⟨b1, 3, none⟩)) (fun w => by first | rfl | (go_simp; done) | (simp [go_sem]; done) | (simp [execOp, go_sem]; done)) ?_
              simp only [Act.put, List.setIfInBounds_toArray, List.set_cons_succ, List.set_cons_zero]
              refine WG.load1 rfl 25 _ rfl rfl Q1 (v := .slice (some ⟨x1, o1, none⟩) ni ci1) rfl (fun w h => ld44 w h) ?_
              simp only [Act.put, List.setIfInBounds_toArray, List.set_cons_succ, List.set_cons_zero]
              refine WG.put rfl (v := .int .i64 (k : Int)) (fun w => by first | rfl | (go_simp; done) | (simp [go_sem]; done) | (simp [execOp, go_sem]; done)) ?_
              simp only [Act.put, List.setIfInBounds_toArray, List.set_cons_succ, List.set_cons_zero]
              refine WG.put rfl (v := .pointer (some ⟨x1, o1 + k, none⟩)) (fun w => by first | rfl | (go_simp; done) | (simp [go_sem]; done) | (simp [execOp, go_sem]; done)) ?_
              simp only [Act.put, List.setIfInBounds_toArray, List.set_cons_succ, List.set_cons_zero]
              refine WG.cell rfl 26 _ rfl rfl h1c (fun w h => ld45 w h) ?_
              simp only [Act.put, List.setIfInBounds_toArray, List.set_cons_succ, List.set_cons_zero]
              refine WG.put rfl (v := .pointer (some ⟨b2, 3, none⟩)) (fun w => by first | rfl | (go_simp; done) | (simp [go_sem]; done) | (simp [execOp, go_sem]; done)) ?_
              simp only [Act.put, List.setIfInBounds_toArray, List.set_cons_succ, List.set_cons_zero]
              refine WG.load1 rfl 25 _ rfl rfl Q2 (v := .slice (some ⟨x2, o2, none⟩) ni ci2) rfl (fun w h => ld44 w h) ?_
              simp only [Act.put, List.setIfInBounds_toArray, List.set_cons_succ, List.set_cons_zero]
              refine WG.put rfl (v := .int .i64 (k : Int)) (fun w => by first | rfl | (go_simp; done) | (simp [go_sem]; done) | (simp [execOp, go_sem]; done)) ?_
              simp only [Act.put, List.setIfInBounds_toArray, List.set_cons_succ, List.set_cons_zero]
              refine WG.put rfl (v := .pointer (some ⟨x2, o2 + k, none⟩)) (fun w => by first | rfl | (go_simp; done) | (simp [go_sem]; done) | (simp [execOp, go_sem]; done)) ?_
              simp only [Act.put, List.setIfInBounds_toArray, List.set_cons_succ, List.set_cons_zero]
              refine WG.cell rfl 26 _ rfl rfl h2c (fun w h => ld45 w h) ?_
              simp only [Act.put, List.setIfInBounds_toArray, List.set_cons_succ, List.set_cons_zero]
              refine WG.call rfl (f := 53) (args := #[.slice a1 l.length c1, .slice a2 l.length c2]) (v := .bool true) (fun W hW => sameValues_any l hll a1 a2 c1 c2 W (s1.below hW) (s2.below hW)) (fun w => by first | rfl | (go_simp; done)) ?_
              simp only [Act.put, List.setIfInBounds_toArray, List.set_cons_succ, List.set_cons_zero]
              refine WG.put rfl (v := .bool false) (fun w => by first | rfl | (go_simp; done) | (simp [go_sem]; done) | (simp [execOp, go_sem]; done)) ?_
              simp only [Act.put, List.setIfInBounds_toArray, List.set_cons_succ, List.set_cons_zero]
              refine WG.nil ?_
              intro W5 B5
              have B6 : Hid (Below W4.heap.size W4 W5) := Below.then HB.out B5
              clear Q1 Q2 k0 k1 k2 k3 k4 m0 m1 m2 m3 m4
              go_wp2_with fail
              go_roundw
              case rel => exact ⟨k + 1, by omega, by go_num, B6⟩
              case measure => simp [intOf]; omega
            · have hki : ¬ (k : Int) < ni := by omega
              go_wp2_with fail
              go_ret
              exact ⟨rfl, Below.then B4 HB.out⟩

end Go.Proofs.YtdneaaegllpnlaaDoor
/- Programs as arguments: what a reading of one says of memory. -/
namespace Go.Proofs.YtdneaaegllpnlaaDoor
open Go.ChangeShapes Go.WideShapes Go.ChangeAt Go.RowKit M
set_option linter.unusedSimpArgs false
set_option linter.unusedVariables false

theorem cells2 : Tryd.prog.cellsOf 2 = 1 := by kernel_rfl
theorem cells3 : Tryd.prog.cellsOf 3 = 1 := by kernel_rfl
theorem cells9 : Tryd.prog.cellsOf 9 = 1 := by kernel_rfl
theorem cellsOp : Tryd.prog.cellsOf 75 = 5 := by kernel_rfl
theorem cellsPg : Tryd.prog.cellsOf 28 = 5 := by kernel_rfl
theorem cellsSS : Tryd.prog.cellsOf 24 = 1 := by kernel_rfl
theorem cellsSI : Tryd.prog.cellsOf 26 = 1 := by kernel_rfl
theorem cellsSO : Tryd.prog.cellsOf 73 = 1 := by kernel_rfl
theorem cellsSSS : Tryd.prog.cellsOf 23 = 1 := by kernel_rfl
theorem cellsSSI : Tryd.prog.cellsOf 25 = 1 := by kernel_rfl
theorem cellsSSO : Tryd.prog.cellsOf 22 = 1 := by kernel_rfl
theorem take_one {cs : List Value} {v : Value} {i : Nat} (h : List.take 1 (List.drop i cs) = [v]) : cs[i]? = some v := by
  have := congrArg List.head? h
  simpa [List.head?_take, List.head?_drop] using this
theorem list5 {cs : List Value} {a b c d e : Value} (hl : cs.length = 5) (h0 : cs[0]? = some a) (h1 : cs[1]? = some b) (h2 : cs[2]? = some c) (h3 : cs[3]? = some d) (h4 : cs[4]? = some e) : cs = [a, b, c, d, e] := by
  match cs, hl with
  | [x0, x1, x2, x3, x4], _ => simp at h0 h1 h2 h3 h4; simp [h0, h1, h2, h3, h4]
theorem list2 {cs : List Value} {a b : Value} (hl : cs.length = 2) (h0 : cs[0]? = some a) (h1 : cs[1]? = some b) : cs = [a, b] := by
  match cs, hl with
  | [x0, x1], _ => simp at h0 h1; simp [h0, h1]
theorem bulk_pos {H : Type} (d : DataW H) : 1 ≤ Rows.uptoBulk d := by
  cases d with
  | lit l => cases l <;> simp [Rows.uptoBulk]
  | _ => simp [Rows.uptoBulk]
theorem bulk_len {H : Type} : ∀ ds : List (DataW H), ds.length ≤ Rows.uptoBulkAll ds
  | [] => by simp
  | d :: r => by have := bulk_pos d; have := bulk_len r; simp only [Rows.uptoBulkAll, List.length_cons]; omega
theorem bulk_mem {H : Type} : ∀ (ds : List (DataW H)) (d : DataW H), d ∈ ds → Rows.uptoBulk d ≤ Rows.uptoBulkAll ds
  | x :: r, d, h => by
    simp only [Rows.uptoBulkAll]
    rcases List.mem_cons.1 h with rfl | h
    · omega
    · have := bulk_mem r d h; omega
theorem bulk_sum {α H : Type} (sz : α → Nat) : ∀ (xs : List α) (ds : List (DataW H)), xs.length = ds.length → (∀ (i : Nat) x d, xs[i]? = some x → ds[i]? = some d → sz x ≤ Rows.uptoBulk d) → (xs.map sz).sum ≤ Rows.uptoBulkAll ds
  | [], [], _, _ => by simp
  | x :: xs, d :: ds, hl, h => by
    have h0 := h 0 x d rfl rfl
    have ih := bulk_sum sz xs ds (by simpa using hl) (fun i y e hy he => h (i + 1) y e (by simpa using hy) (by simpa using he))
    simp only [List.map_cons, List.sum_cons, Rows.uptoBulkAll]
    omega
theorem flat_get {α : Type} (encE : α → List Value) (k : Nat) (hk : 0 < k) (hlen : ∀ g, (encE g).length = k) : ∀ (xs : List α) (j : Nat) (v : Value), (xs.flatMap encE)[j]? = some v → ∃ g, xs[j / k]? = some g ∧ (encE g)[j % k]? = some v
  | [], j, v, h => by simp at h
  | x :: xs, j, v, h => by
    rw [List.flatMap_cons] at h
    by_cases hj : j < k
    · rw [List.getElem?_append_left (by rw [hlen]; exact hj)] at h
      exact ⟨x, by rw [Nat.div_eq_of_lt hj]; rfl, by rw [Nat.mod_eq_of_lt hj]; exact h⟩
    · rw [List.getElem?_append_right (by rw [hlen]; omega), hlen] at h
      obtain ⟨g, h1, h2⟩ := flat_get encE k hk hlen xs (j - k) v h
      have e1 : j / k = (j - k) / k + 1 := by
        have : j = (j - k) + k := by omega
        conv => lhs; rw [this]
        rw [Nat.add_div_right _ hk]
      have e2 : j % k = (j - k) % k := by
        have : j = (j - k) + k := by omega
        conv => lhs; rw [this]
        rw [Nat.add_mod_right]
      exact ⟨g, by rw [e1]; exact h1, by rw [e2]; exact h2⟩
/-- A slice, read, whatever its elements. -/
theorem open_sl {α : Type} (z0 : α) {T t k : Nat} (hu : Tryd.prog.underlying T = some (.slice t)) (hk : Tryd.prog.cellsOf t = k) (hk0 : 0 < k) (encE : α → List Value) (hlen : ∀ g, (encE g).length = k) (Pw : α → Prop) (sz : α → Nat)
    {H : Type} {enc : TypeId × Value → H} {W : World} (opn : ∀ (fuel : Nat) (cs : List Value) (x : DataW H × List MemPlace), DataW.trod enc Tryd.prog W 0 (fun _ => true) true fuel t cs = some x → ∃ g, cs = encE g ∧ Pw g ∧ sz g ≤ Rows.uptoBulk x.1)
    {fuel : Nat} {cs : List Value} {x : DataW H × List MemPlace} (h : DataW.trod enc Tryd.prog W 0 (fun _ => true) true fuel T cs = some x) :
    ∃ (a : Option Addr) (xs : List α) (cap : Nat), cs = [.slice a xs.length cap] ∧ Seg W a (xs.flatMap encE) ∧ (∀ g ∈ xs, Pw g) ∧ xs.length ≤ Rows.uptoBulk x.1 ∧ (xs.map sz).sum ≤ Rows.uptoBulk x.1 ∧ (a = none → cap = 0) := by
  rcases DataW.trod_slice hu h with ⟨hcs, _⟩ | ⟨a, len, cap, elems, rest, n, _, hcs, hx, _, _, _, hel, hall, _, _⟩
  · exact ⟨none, [], 0, hcs, Seg.nil _ _, (fun g hg => by cases hg), by simp, by simp, fun _ => rfl⟩
  · rw [hk] at hall
    have one : ∀ i, i < len → ∃ g : α, (∀ j, j < k → W.cell? ((a.add (i * k)).add j) = (encE g)[j]?) ∧ Pw g ∧ ∀ e, elems[i]? = some e → sz g ≤ Rows.uptoBulk e.1 := fun i hi => by
      have hh := hall i hi
      have hie : i < elems.length := by omega
      rw [List.getElem?_eq_getElem hie] at hh
      obtain ⟨cs', hc, ht⟩ := Option.bind_eq_some_iff.1 hh
      obtain ⟨_, _, hcell⟩ := World.cells?_some hc
      obtain ⟨g, rfl, hg1, hg2⟩ := opn _ _ _ ht
      exact ⟨g, hcell, hg1, fun e he => by rw [List.getElem?_eq_getElem hie] at he; cases he; exact hg2⟩
    obtain ⟨f, hf⟩ : ∃ f : Nat → α, ∀ i, i < len → (∀ j, j < k → W.cell? ((a.add (i * k)).add j) = (encE (f i))[j]?) ∧ Pw (f i) ∧ ∀ e, elems[i]? = some e → sz (f i) ≤ Rows.uptoBulk e.1 :=
      ⟨fun i => if hi : i < len then Classical.choose (one i hi) else z0, fun i hi => by
        simp only [dif_pos hi]
        exact Classical.choose_spec (one i hi)⟩
    refine ⟨some a, (List.range len).map f, cap, by rw [hcs]; simp, ?_, ?_, ?_, ?_, fun e => by cases e⟩
    · intro j v hv
      obtain ⟨g, hg, hgv⟩ := flat_get encE k hk0 hlen _ j v hv
      have hq : j / k < len := by have := (List.getElem?_eq_some_iff.1 hg).1; simpa using this
      have hgf : g = f (j / k) := by
        rw [List.getElem?_map, List.getElem?_range hq] at hg
        simpa using hg.symm
      subst hgf
      have hr : j % k < k := Nat.mod_lt _ hk0
      have hc := ((hf _ hq).1 _ hr).trans hgv
      obtain ⟨b, off, spot⟩ := a
      have hspot : spot = none := by
        obtain ⟨u, hu0⟩ : ∃ u, (encE (f 0))[0]? = some u := ⟨_, List.getElem?_eq_getElem (by rw [hlen]; exact hk0)⟩
        have := World.cell?_spot (((hf 0 (Nat.lt_of_le_of_lt (Nat.zero_le _) hq)).1 0 hk0).trans hu0)
        simpa [Addr.add] using this
      subst hspot
      rw [Addr.add_mid, Addr.add_mid] at hc
      have e : off + j / k * k + j % k = off + j := by have := Nat.div_add_mod j k; rw [Nat.mul_comm] at this; omega
      rw [e] at hc
      exact ⟨b, off, rfl, World.block_lt_of_cell? W _ hc, hc⟩
    · intro g hg
      obtain ⟨i, hi, rfl⟩ := List.mem_map.1 hg
      exact (hf i (by simpa using hi)).2.1
    · rw [hx]
      have := bulk_len (elems.map (·.1))
      simp only [Rows.uptoBulk, List.length_map, List.length_range] at *
      omega
    · rw [hx]
      have := bulk_sum sz ((List.range len).map f) (elems.map (·.1)) (by simp [hel]) (fun i y d hy hd => by
        have hi : i < len := by have := (List.getElem?_eq_some_iff.1 hy).1; simpa using this
        rw [List.getElem?_map, List.getElem?_range hi] at hy
        cases hy
        rw [List.getElem?_map] at hd
        cases he : elems[i]? with
        | none => rw [he] at hd; cases hd
        | some e => rw [he] at hd; cases hd; exact (hf i hi).2.2 e he)
      simp only [Rows.uptoBulk] at *
      omega
section
variable {H : Type} {enc : TypeId × Value → H} {W : World}
theorem open_str1 (fuel : Nat) (cs : List Value) (x : DataW H × List MemPlace) (h : DataW.trod enc Tryd.prog W 0 (fun _ => true) true fuel 9 cs = some x) : ∃ g : ByteArray, cs = strE g ∧ g.size ≤ maxLen ∧ 1 ≤ Rows.uptoBulk x.1 := by
  obtain ⟨s, e, _, hs⟩ := DataW.trod_string Tryd.underlying9 h
  exact ⟨s, e, hs, bulk_pos _⟩
theorem open_str2 (fuel : Nat) (cs : List Value) (x : DataW H × List MemPlace) (h : DataW.trod enc Tryd.prog W 0 (fun _ => true) true fuel 9 cs = some x) : ∃ g : ByteArray, cs = strE g ∧ g.size ≤ maxLen ∧ g.size ≤ Rows.uptoBulk x.1 := by
  obtain ⟨s, e, hx, hs⟩ := DataW.trod_string Tryd.underlying9 h
  refine ⟨s, e, hs, ?_⟩
  rw [hx]
  have : s.size = s.data.toList.length := by rw [Array.length_toList]; rfl
  simp only [Rows.uptoBulk]
  omega
theorem open_int1 (fuel : Nat) (cs : List Value) (x : DataW H × List MemPlace) (h : DataW.trod enc Tryd.prog W 0 (fun _ => true) true fuel 2 cs = some x) : ∃ g : Int, cs = intE g ∧ True ∧ 1 ≤ Rows.uptoBulk x.1 := by
  obtain ⟨s, e, _, _⟩ := DataW.trod_int Tryd.underlying2 h
  exact ⟨s, e, trivial, bulk_pos _⟩
theorem open_op1 (fuel : Nat) (cs : List Value) (x : DataW H × List MemPlace) (h : DataW.trod enc Tryd.prog W 0 (fun _ => true) true fuel 75 cs = some x) : ∃ g : Op5, cs = op5L g ∧ True ∧ 1 ≤ Rows.uptoBulk x.1 := by
  obtain ⟨ys, n, _, hx, hcl, hyl, hall⟩ := DataW.trod_struct Tryd.underlying75 h
  rw [cellsOp] at hcl
  match ys, hyl, hx, hall with
  | [y0, y1, y2, y3, y4], _, hx, hall =>
    have g0 : DataW.trod enc Tryd.prog W 0 (fun _ => true) true n 3 (List.take (Tryd.prog.cellsOf 3) (List.drop 0 cs)) = some y0 := hall 0 _ rfl
    have g1 : DataW.trod enc Tryd.prog W 0 (fun _ => true) true n 3 (List.take (Tryd.prog.cellsOf 3) (List.drop 1 cs)) = some y1 := hall 1 _ rfl
    have g2 : DataW.trod enc Tryd.prog W 0 (fun _ => true) true n 3 (List.take (Tryd.prog.cellsOf 3) (List.drop 2 cs)) = some y2 := hall 2 _ rfl
    have g3 : DataW.trod enc Tryd.prog W 0 (fun _ => true) true n 3 (List.take (Tryd.prog.cellsOf 3) (List.drop 3 cs)) = some y3 := hall 3 _ rfl
    have g4 : DataW.trod enc Tryd.prog W 0 (fun _ => true) true n 2 (List.take (Tryd.prog.cellsOf 2) (List.drop 4 cs)) = some y4 := hall 4 _ rfl
    rw [cells3] at g0 g1 g2 g3
    rw [cells2] at g4
    obtain ⟨k, e0, _, _⟩ := DataW.trod_int Tryd.underlying3 g0
    obtain ⟨a, e1, _, _⟩ := DataW.trod_int Tryd.underlying3 g1
    obtain ⟨b, e2, _, _⟩ := DataW.trod_int Tryd.underlying3 g2
    obtain ⟨c, e3, _, _⟩ := DataW.trod_int Tryd.underlying3 g3
    obtain ⟨d, e4, _, _⟩ := DataW.trod_int Tryd.underlying2 g4
    exact ⟨⟨k, a, b, c, d⟩, list5 hcl (take_one e0) (take_one e1) (take_one e2) (take_one e3) (take_one e4), trivial, bulk_pos _⟩
/-- A row among rows. -/
abbrev RowA (β : Type) := Option Addr × Nat × List β
def rowE {β : Type} (g : RowA β) : List Value := [.slice g.1 g.2.2.length g.2.1]
def RowP {β : Type} (W : World) (encE : β → List Value) (Pw : β → Prop) (g : RowA β) : Prop := Seg W g.1 (g.2.2.flatMap encE) ∧ (g.1 = none → g.2.1 = 0) ∧ ∀ b ∈ g.2.2, Pw b
theorem open_row {β : Type} (z0 : β) {T t k : Nat} (hu : Tryd.prog.underlying T = some (.slice t)) (hk : Tryd.prog.cellsOf t = k) (hk0 : 0 < k) (encE : β → List Value) (hlen : ∀ g, (encE g).length = k) (Pw : β → Prop)
    (opn : ∀ (fuel : Nat) (cs : List Value) (x : DataW H × List MemPlace), DataW.trod enc Tryd.prog W 0 (fun _ => true) true fuel t cs = some x → ∃ g, cs = encE g ∧ Pw g ∧ 1 ≤ Rows.uptoBulk x.1)
    (fuel : Nat) (cs : List Value) (x : DataW H × List MemPlace) (h : DataW.trod enc Tryd.prog W 0 (fun _ => true) true fuel T cs = some x) : ∃ g : RowA β, cs = rowE g ∧ RowP W encE Pw g ∧ g.2.2.length ≤ Rows.uptoBulk x.1 := by
  obtain ⟨a, xs, cap, h1, h2, h3, h4, _, h6⟩ := open_sl z0 hu hk hk0 encE hlen Pw (fun _ => 1) opn h
  exact ⟨(a, cap, xs), h1, ⟨h2, h6, h3⟩, h4⟩
theorem rows_of {β : Type} {encE : β → List Value} {Pw : β → Prop} {a : Option Addr} {cap : Nat} {xs : List (RowA β)} (hs : Seg W a (xs.flatMap rowE)) (hp : ∀ g ∈ xs, RowP W encE Pw g) (hn : a = none → cap = 0) : RowsV W (.slice a (xs.map (·.2.2)).length cap) encE (xs.map (·.2.2)) := by
  refine ⟨xs.map fun g => .slice g.1 g.2.2.length g.2.1, by simp, ⟨a, cap, rfl, ?_, hn⟩, fun j u ys hu hy => ?_⟩
  · rw [show xs.flatMap rowE = xs.map fun g => .slice g.1 g.2.2.length g.2.1 from flat1 _ xs] at hs
    exact hs
  · rw [List.getElem?_map] at hu hy
    cases hg : xs[j]? with
    | none => rw [hg] at hu; cases hu
    | some g =>
      rw [hg] at hu hy
      cases hu; cases hy
      have := hp g (List.mem_of_getElem? hg)
      exact ⟨g.1, g.2.1, rfl, this.1, this.2.1⟩
end
end Go.Proofs.YtdneaaegllpnlaaDoor

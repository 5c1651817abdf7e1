/- Same of a program and itself, elsewhere in memory: whole. -/
import Derived.Test.YtegpnicajlndlaaSA9
namespace Go.Proofs.Ytegpnicajlndlaa
open Go.RowKit M
set_option linter.unusedSimpArgs false
set_option linter.unusedVariables false

set_option maxRecDepth 100000 in
set_option maxHeartbeats 8000000 in
theorem sameP_any (p : PG) (hf : p.Few) (vt vr vl vi vj ut ur ul ui uj : Value) (w : World) (hp : PGV w vt vr vl vi vj p) (hq : PGV w ut ur ul ui uj p) :
    Calls Try.prog 18 #[.agg #[vt, vr, vl, vi, vj], .agg #[ut, ur, ul, ui, uj]] w fun en w' => en = .returned (.bool true) ∧ Below w.heap.size w w' := by
  have HF : Hid p.Few := hf
  obtain ⟨at1, ct1, rfl⟩ := hp.t.form
  obtain ⟨ar1, cr1, rfl⟩ := hp.r.form
  obtain ⟨ai1, ci1, rfl⟩ := hp.i.form
  obtain ⟨al1, cl1, rfl, sl1, _⟩ := hp.l
  obtain ⟨aj1, cj1, rfl, sj1, _⟩ := hp.j
  have HT1 : Hid (RowsV w (.slice at1 p.threads.length ct1) op5L p.threads) := hp.t
  have HR1 : Hid (RowsV w (.slice ar1 p.regs.length cr1) strE p.regs) := hp.r
  have HI1 : Hid (RowsV w (.slice ai1 p.regInit.length ci1) intE p.regInit) := hp.i
  obtain ⟨at2, ct2, rfl⟩ := hq.t.form
  obtain ⟨ar2, cr2, rfl⟩ := hq.r.form
  obtain ⟨ai2, ci2, rfl⟩ := hq.i.form
  obtain ⟨al2, cl2, rfl, sl2, _⟩ := hq.l
  obtain ⟨aj2, cj2, rfl, sj2, _⟩ := hq.j
  have HT2 : Hid (RowsV w (.slice at2 p.threads.length ct2) op5L p.threads) := hq.t
  have HR2 : Hid (RowsV w (.slice ar2 p.regs.length cr2) strE p.regs) := hq.r
  have HI2 : Hid (RowsV w (.slice ai2 p.regInit.length ci2) intE p.regInit) := hq.i
  have cL := fun W (hW : Below w.heap.size w W) => sameTexts_any p.locs hf.l al1 al2 cl1 cl2 W (sl1.below hW) (sl2.below hW)
  have cJ := fun W (hW : Below w.heap.size w W) => sameValues_any p.locInit hf.j aj1 aj2 cj1 cj2 W (sj1.below hW) (sj2.below hW)
  clear hp hq sl1 sl2 sj1 sj2
  obtain ⟨nt, hnt⟩ : ∃ n, p.threads.length = n := ⟨_, rfl⟩
  obtain ⟨nr, hnr⟩ : ∃ n, p.regs.length = n := ⟨_, rfl⟩
  obtain ⟨nl, hnl⟩ : ∃ n, p.locs.length = n := ⟨_, rfl⟩
  obtain ⟨ni, hni⟩ : ∃ n, p.regInit.length = n := ⟨_, rfl⟩
  obtain ⟨nj, hnj⟩ : ∃ n, p.locInit.length = n := ⟨_, rfl⟩
  have HNT : Hid (p.threads.length = nt) := hnt
  have HNR : Hid (p.regs.length = nr) := hnr
  have HNI : Hid (p.regInit.length = ni) := hni
  have hft := hf.t
  have hfr := hf.r
  have hfi := hf.i
  rw [hnt] at HT1 HT2 hft
  rw [hnr] at HR1 HR2 hfr
  rw [hni] at HI1 HI2 hfi
  rw [hnl] at cL
  rw [hnj] at cJ
  rw [hnt, hnr, hnl, hni, hnj]
  clear hnt hnr hnl hni hnj hf
  have t1 : True := trivial
  have t2 : True := trivial
  go_enter Try.func18, Try.ntmps18
  go_wp2_with (first
    | (clear t1; refine wpList_boxS rfl 28 _ rfl [.slice at1 nt ct1, .slice ar1 nr cr1, .slice al1 nl cl1, .slice ai1 ni ci1, .slice aj1 nj cj1] rfl ?_; intro W1 b1 F1 C1; have B1 : Below w.heap.size w W1 := F1.trans (Below.refl _ w) (Nat.le_refl _); clear F1)
    | (clear t2; refine wpList_boxS rfl 28 _ rfl [.slice at2 nt ct2, .slice ar2 nr cr2, .slice al2 nl cl2, .slice ai2 ni ci2, .slice aj2 nj cj2] rfl ?_; intro W2 b2 F2 D2; have C2 := C1.fresh F2; have B2 := F2.trans B1 B1.size; obtain ⟨k0, k1, k2, k3, k4⟩ := five C2; obtain ⟨m0, m1, m2, m3, m4⟩ := five D2; clear F2 C1)
    | (go_at_call 49; refine (cL _ B2).mono ?_; rintro en W3 ⟨rfl, B3x⟩; have C3 := C2.grown B3x; have D3 := D2.grown B3x; have B3 := Below.then B2 B3x; obtain ⟨k0, k1, k2, k3, k4⟩ := five C3; obtain ⟨m0, m1, m2, m3, m4⟩ := five D3; clear B3x cL C2 D2)
    | (go_at_call 50; refine (cJ _ B3).mono ?_; rintro en W4 ⟨rfl, B4x⟩; have C4 := C3.grown B4x; have D4 := D3.grown B4x; have B4 := Below.then B3 B4x; clear B4x cJ C3 D3))
  have H1 : Hid (IsS W4 b1 28 [.slice at1 nt ct1, .slice ar1 nr cr1, .slice al1 nl cl1, .slice ai1 ni ci1, .slice aj1 nj cj1]) := C4
  have H2 : Hid (IsS W4 b2 28 [.slice at2 nt ct2, .slice ar2 nr cr2, .slice al2 nl cl2, .slice ai2 ni ci2, .slice aj2 nj cj2]) := D4
  clear C4 D4
  go_loopw [5] (fun i wr => ∃ k : Nat, k ≤ nt ∧ i = .int .i64 (k : Int) ∧ Hid (Below W4.heap.size W4 wr)) (fun i _ => nt - (intOf i).toNat)
  case atStart => exact ⟨0, by omega, rfl, Below.refl _ _⟩
  case round =>
    obtain ⟨k, hk, rfl, HB⟩ := hrel
    have Q1 := H1.out.grown HB.out
    have Q2 := H2.out.grown HB.out
    obtain ⟨k0, k1, k2, k3, k4⟩ := five Q1
    obtain ⟨m0, m1, m2, m3, m4⟩ := five Q2
    by_cases hlt : k < nt
    · have hki : (k : Int) < nt := by omega
      obtain ⟨l, hl⟩ : ∃ l, p.threads[k]? = some l := ⟨_, List.getElem?_eq_getElem (by rw [HNT.out]; exact hlt)⟩
      obtain ⟨x1, o1, a1, c1, rfl, hx1, h1cw, s1, _⟩ := (HT1.out.below B4).at k l hl
      obtain ⟨x2, o2, a2, c2, rfl, hx2, h2cw, s2, _⟩ := (HT2.out.below B4).at k l hl
      have hll : l.length ≤ 1048576 := Nat.le_trans (by have := flat_at hl (Nat.le_refl _); rw [List.take_length, List.length_append] at this; omega) HF.out.tt
      obtain ⟨ln, hln⟩ : ∃ n, l.length = n := ⟨_, rfl⟩
      have HLN : Hid (l.length = ln) := hln
      have S1 : Hid (Seg W4 a1 (l.flatMap op5L)) := s1
      have S2 : Hid (Seg W4 a2 (l.flatMap op5L)) := s2
      rw [hln] at hll h1cw h2cw
      clear hl hln s1 s2
      have h1c : wr.cell? ⟨x1, o1 + k, none⟩ = some (.slice a1 ln c1) := by rw [HB.out.cell (p := ⟨x1, o1 + k, none⟩) hx1]; exact h1cw
      have h2c : wr.cell? ⟨x2, o2 + k, none⟩ = some (.slice a2 ln c2) := by rw [HB.out.cell (p := ⟨x2, o2 + k, none⟩) hx2]; exact h2cw
      go_wp2_with fail
      refine grow_allW (by kernel_rfl) (by kernel_rfl) ?_
      refine WG.put rfl (v := .pointer (some ⟨b1, 0, none⟩)) (fun w => by first | rfl | (go_simp; done) | (simp [go_sem]; done) | (simp [execOp, go_sem]; done)) ?_
      simp only [Act.put, List.setIfInBounds_toArray, List.set_cons_succ, List.set_cons_zero]
      refine WG.load1 rfl 22 _ rfl rfl Q1 (v := .slice (some ⟨x1, o1, none⟩) nt ct1) rfl (fun w h => ld41 w h) ?_
      simp only [Act.put, List.setIfInBounds_toArray, List.set_cons_succ, List.set_cons_zero]
      refine WG.put rfl (v := .int .i64 (k : Int)) (fun w => by first | rfl | (go_simp; done) | (simp [go_sem]; done) | (simp [execOp, go_sem]; done)) ?_
      simp only [Act.put, List.setIfInBounds_toArray, List.set_cons_succ, List.set_cons_zero]
      refine WG.put rfl (v := .pointer (some ⟨x1, o1 + k, none⟩)) (fun w => by first | rfl | (go_simp; done) | (simp [go_sem]; done) | (simp [execOp, go_sem]; done)) ?_
      simp only [Act.put, List.setIfInBounds_toArray, List.set_cons_succ, List.set_cons_zero]
      refine WG.cell rfl 61 _ rfl rfl h1c (fun w h => ld54 w h) ?_
      simp only [Act.put, List.setIfInBounds_toArray, List.set_cons_succ, List.set_cons_zero]
      refine WG.put rfl (v := .int .i64 (ln : Int)) (fun w => by first | rfl | (go_simp; done) | (simp [go_sem]; done) | (simp [execOp, go_sem]; done)) ?_
      simp only [Act.put, List.setIfInBounds_toArray, List.set_cons_succ, List.set_cons_zero]
      refine WG.put rfl (v := .pointer (some ⟨b2, 0, none⟩)) (fun w => by first | rfl | (go_simp; done) | (simp [go_sem]; done) | (simp [execOp, go_sem]; done)) ?_
      simp only [Act.put, List.setIfInBounds_toArray, List.set_cons_succ, List.set_cons_zero]
      refine WG.load1 rfl 22 _ rfl rfl Q2 (v := .slice (some ⟨x2, o2, none⟩) nt ct2) rfl (fun w h => ld41 w h) ?_
      simp only [Act.put, List.setIfInBounds_toArray, List.set_cons_succ, List.set_cons_zero]
      refine WG.put rfl (v := .int .i64 (k : Int)) (fun w => by first | rfl | (go_simp; done) | (simp [go_sem]; done) | (simp [execOp, go_sem]; done)) ?_
      simp only [Act.put, List.setIfInBounds_toArray, List.set_cons_succ, List.set_cons_zero]
      refine WG.put rfl (v := .pointer (some ⟨x2, o2 + k, none⟩)) (fun w => by first | rfl | (go_simp; done) | (simp [go_sem]; done) | (simp [execOp, go_sem]; done)) ?_
      simp only [Act.put, List.setIfInBounds_toArray, List.set_cons_succ, List.set_cons_zero]
      refine WG.cell rfl 61 _ rfl rfl h2c (fun w h => ld54 w h) ?_
      simp only [Act.put, List.setIfInBounds_toArray, List.set_cons_succ, List.set_cons_zero]
      refine WG.put rfl (v := .int .i64 (ln : Int)) (fun w => by first | rfl | (go_simp; done) | (simp [go_sem]; done) | (simp [execOp, go_sem]; done)) ?_
      simp only [Act.put, List.setIfInBounds_toArray, List.set_cons_succ, List.set_cons_zero]
      refine WG.put rfl (v := .bool false) (fun w => by first | rfl | (go_simp; done) | (simp [go_sem]; done) | (simp [execOp, go_sem]; done)) ?_
      simp only [Act.put, List.setIfInBounds_toArray, List.set_cons_succ, List.set_cons_zero]
      refine WG.nil ?_
      intro W5 B5
      have B6 : Hid (Below W4.heap.size W4 W5) := Below.then HB.out B5
      clear Q1 Q2 k0 k1 k2 k3 k4 m0 m1 m2 m3 m4 h1c h2c HB
      go_wp2_with fail
      go_loopw [6] (fun i wr => ∃ j : Nat, j ≤ ln ∧ i = .int .i64 (j : Int) ∧ Hid (Below W4.heap.size W4 wr)) (fun i _ => ln - (intOf i).toNat)
      case atStart => exact ⟨0, by omega, rfl, B6⟩
      case round =>
        obtain ⟨j, hj, rfl, HB⟩ := hrel
        have Q1 := H1.out.grown HB.out
        have Q2 := H2.out.grown HB.out
        obtain ⟨k0, k1, k2, k3, k4⟩ := five Q1
        obtain ⟨m0, m1, m2, m3, m4⟩ := five Q2
        have h1c : wr.cell? ⟨x1, o1 + k, none⟩ = some (.slice a1 ln c1) := by rw [HB.out.cell (p := ⟨x1, o1 + k, none⟩) hx1]; exact h1cw
        have h2c : wr.cell? ⟨x2, o2 + k, none⟩ = some (.slice a2 ln c2) := by rw [HB.out.cell (p := ⟨x2, o2 + k, none⟩) hx2]; exact h2cw
        by_cases hjt : j < ln
        · have hji : (j : Int) < ln := by omega
          obtain ⟨g, hg⟩ : ∃ g, l[j]? = some g := ⟨_, List.getElem?_eq_getElem (by rw [HLN.out]; exact hjt)⟩
          obtain ⟨y1, p1, rfl, hy1, r1⟩ := (S1.out.below HB.out).op hg
          obtain ⟨y2, p2, rfl, hy2, r2⟩ := (S2.out.below HB.out).op hg
          clear hg
          go_wp2_with fail
          refine grow_allW (by kernel_rfl) (by kernel_rfl) ?_
          refine WG.put rfl (v := .pointer (some ⟨b1, 0, none⟩)) (fun w => by first | rfl | (go_simp; done) | (simp [go_sem]; done) | (simp [execOp, go_sem]; done)) ?_
          simp only [Act.put, List.setIfInBounds_toArray, List.set_cons_succ, List.set_cons_zero]
          refine WG.load1 rfl 22 _ rfl rfl Q1 (v := .slice (some ⟨x1, o1, none⟩) nt ct1) rfl (fun w h => ld41 w h) ?_
          simp only [Act.put, List.setIfInBounds_toArray, List.set_cons_succ, List.set_cons_zero]
          refine WG.put rfl (v := .int .i64 (k : Int)) (fun w => by first | rfl | (go_simp; done) | (simp [go_sem]; done) | (simp [execOp, go_sem]; done)) ?_
          simp only [Act.put, List.setIfInBounds_toArray, List.set_cons_succ, List.set_cons_zero]
          refine WG.put rfl (v := .pointer (some ⟨x1, o1 + k, none⟩)) (fun w => by first | rfl | (go_simp; done) | (simp [go_sem]; done) | (simp [execOp, go_sem]; done)) ?_
          simp only [Act.put, List.setIfInBounds_toArray, List.set_cons_succ, List.set_cons_zero]
          refine WG.cell rfl 61 _ rfl rfl h1c (fun w h => ld54 w h) ?_
          simp only [Act.put, List.setIfInBounds_toArray, List.set_cons_succ, List.set_cons_zero]
          refine WG.put rfl (v := .int .i64 (j : Int)) (fun w => by first | rfl | (go_simp; done) | (simp [go_sem]; done) | (simp [execOp, go_sem]; done)) ?_
          simp only [Act.put, List.setIfInBounds_toArray, List.set_cons_succ, List.set_cons_zero]
          refine WG.put rfl (v := .pointer (some ⟨y1, p1 + j * 5, none⟩)) (fun w => by first | rfl | (go_simp; done) | (simp [go_sem]; done) | (simp [execOp, go_sem]; done)) ?_
          simp only [Act.put, List.setIfInBounds_toArray, List.set_cons_succ, List.set_cons_zero]
          refine WG.range rfl 63 _ rfl rfl (op5L g) hy1 r1 _ Try.underlying63 rfl infoOp ?_
          simp only [Act.put, List.setIfInBounds_toArray, List.set_cons_succ, List.set_cons_zero]
          refine WG.put rfl (v := .pointer (some ⟨b2, 0, none⟩)) (fun w => by first | rfl | (go_simp; done) | (simp [go_sem]; done) | (simp [execOp, go_sem]; done)) ?_
          simp only [Act.put, List.setIfInBounds_toArray, List.set_cons_succ, List.set_cons_zero]
          refine WG.load1 rfl 22 _ rfl rfl Q2 (v := .slice (some ⟨x2, o2, none⟩) nt ct2) rfl (fun w h => ld41 w h) ?_
          simp only [Act.put, List.setIfInBounds_toArray, List.set_cons_succ, List.set_cons_zero]
          refine WG.put rfl (v := .int .i64 (k : Int)) (fun w => by first | rfl | (go_simp; done) | (simp [go_sem]; done) | (simp [execOp, go_sem]; done)) ?_
          simp only [Act.put, List.setIfInBounds_toArray, List.set_cons_succ, List.set_cons_zero]
          refine WG.put rfl (v := .pointer (some ⟨x2, o2 + k, none⟩)) (fun w => by first | rfl | (go_simp; done) | (simp [go_sem]; done) | (simp [execOp, go_sem]; done)) ?_
          simp only [Act.put, List.setIfInBounds_toArray, List.set_cons_succ, List.set_cons_zero]
          refine WG.cell rfl 61 _ rfl rfl h2c (fun w h => ld54 w h) ?_
          simp only [Act.put, List.setIfInBounds_toArray, List.set_cons_succ, List.set_cons_zero]
          refine WG.put rfl (v := .int .i64 (j : Int)) (fun w => by first | rfl | (go_simp; done) | (simp [go_sem]; done) | (simp [execOp, go_sem]; done)) ?_
          simp only [Act.put, List.setIfInBounds_toArray, List.set_cons_succ, List.set_cons_zero]
          refine WG.put rfl (v := .pointer (some ⟨y2, p2 + j * 5, none⟩)) (fun w => by first | rfl | (go_simp; done) | (simp [go_sem]; done) | (simp [execOp, go_sem]; done)) ?_
          simp only [Act.put, List.setIfInBounds_toArray, List.set_cons_succ, List.set_cons_zero]
          refine WG.range rfl 63 _ rfl rfl (op5L g) hy2 r2 _ Try.underlying63 rfl infoOp ?_
          simp only [Act.put, List.setIfInBounds_toArray, List.set_cons_succ, List.set_cons_zero]
          refine WG.put rfl (v := .bool false) (fun w => by simp [execOp, go_sem, op5L]) ?_
          simp only [Act.put, List.setIfInBounds_toArray, List.set_cons_succ, List.set_cons_zero]
          refine WG.nil ?_
          intro W7 B7
          have B8 : Hid (Below W4.heap.size W4 W7) := Below.then HB.out B7
          clear Q1 Q2 k0 k1 k2 k3 k4 m0 m1 m2 m3 m4 h1c h2c r1 r2
          go_wp2_with fail
          go_roundw
          case rel => exact ⟨j + 1, by omega, by go_num, B8⟩
          case measure => simp [intOf]; omega
        · have hji : ¬ (j : Int) < ln := by omega
          go_wp2_with fail
          go_roundw
          case rel => exact ⟨k + 1, by omega, by go_num, HB⟩
          case measure => simp [intOf]; omega
    · have hki : ¬ (k : Int) < nt := by omega
      go_wp2_with fail
      go_loopw [7] (fun i wr => ∃ k : Nat, k ≤ nr ∧ i = .int .i64 (k : Int) ∧ Hid (Below W4.heap.size W4 wr)) (fun i _ => nr - (intOf i).toNat)
      case atStart => exact ⟨0, by omega, rfl, HB⟩
      case round =>
        obtain ⟨k, hk, rfl, HB⟩ := hrel
        have Q1 := H1.out.grown HB.out
        have Q2 := H2.out.grown HB.out
        obtain ⟨k0, k1, k2, k3, k4⟩ := five Q1
        obtain ⟨m0, m1, m2, m3, m4⟩ := five Q2
        by_cases hlt : k < nr
        · have hki : (k : Int) < nr := by omega
          obtain ⟨l, hl⟩ : ∃ l, p.regs[k]? = some l := ⟨_, List.getElem?_eq_getElem (by rw [HNR.out]; exact hlt)⟩
          obtain ⟨x1, o1, a1, c1, rfl, hx1, h1c, s1, _⟩ := (HR1.out.below (Below.then B4 HB.out)).at k l hl
          obtain ⟨x2, o2, a2, c2, rfl, hx2, h2c, s2, _⟩ := (HR2.out.below (Below.then B4 HB.out)).at k l hl
          have hll : l.length ≤ 1048576 := Nat.le_trans (by have := flat_at hl (Nat.le_refl _); rw [List.take_length, List.length_append] at this; omega) HF.out.rr
          clear hl
          go_wp2_with fail
          refine grow_allW (by kernel_rfl) (by kernel_rfl) ?_
          refine WG.put rfl (v := .pointer (some ⟨b1, 1, none⟩)) (fun w => by first | rfl | (go_simp; done) | (simp [go_sem]; done) | (simp [execOp, go_sem]; done)) ?_
          simp only [Act.put, List.setIfInBounds_toArray, List.set_cons_succ, List.set_cons_zero]
          refine WG.load1 rfl 23 _ rfl rfl Q1 (v := .slice (some ⟨x1, o1, none⟩) nr cr1) rfl (fun w h => ld42 w h) ?_
          simp only [Act.put, List.setIfInBounds_toArray, List.set_cons_succ, List.set_cons_zero]
          refine WG.put rfl (v := .int .i64 (k : Int)) (fun w => by first | rfl | (go_simp; done) | (simp [go_sem]; done) | (simp [execOp, go_sem]; done)) ?_
          simp only [Act.put, List.setIfInBounds_toArray, List.set_cons_succ, List.set_cons_zero]
          refine WG.put rfl (v := .pointer (some ⟨x1, o1 + k, none⟩)) (fun w => by first | rfl | (go_simp; done) | (simp [go_sem]; done) | (simp [execOp, go_sem]; done)) ?_
          simp only [Act.put, List.setIfInBounds_toArray, List.set_cons_succ, List.set_cons_zero]
          refine WG.cell rfl 24 _ rfl rfl h1c (fun w h => ld43 w h) ?_
          simp only [Act.put, List.setIfInBounds_toArray, List.set_cons_succ, List.set_cons_zero]
          refine WG.put rfl (v := .pointer (some ⟨b2, 1, none⟩)) (fun w => by first | rfl | (go_simp; done) | (simp [go_sem]; done) | (simp [execOp, go_sem]; done)) ?_
          simp only [Act.put, List.setIfInBounds_toArray, List.set_cons_succ, List.set_cons_zero]
          refine WG.load1 rfl 23 _ rfl rfl Q2 (v := .slice (some ⟨x2, o2, none⟩) nr cr2) rfl (fun w h => ld42 w h) ?_
          simp only [Act.put, List.setIfInBounds_toArray, List.set_cons_succ, List.set_cons_zero]
          refine WG.put rfl (v := .int .i64 (k : Int)) (fun w => by first | rfl | (go_simp; done) | (simp [go_sem]; done) | (simp [execOp, go_sem]; done)) ?_
          simp only [Act.put, List.setIfInBounds_toArray, List.set_cons_succ, List.set_cons_zero]
          refine WG.put rfl (v := .pointer (some ⟨x2, o2 + k, none⟩)) (fun w => by first | rfl | (go_simp; done) | (simp [go_sem]; done) | (simp [execOp, go_sem]; done)) ?_
          simp only [Act.put, List.setIfInBounds_toArray, List.set_cons_succ, List.set_cons_zero]
          refine WG.cell rfl 24 _ rfl rfl h2c (fun w h => ld43 w h) ?_
          simp only [Act.put, List.setIfInBounds_toArray, List.set_cons_succ, List.set_cons_zero]
          refine WG.call rfl (f := 49) (args := #[.slice a1 l.length c1, .slice a2 l.length c2]) (v := .bool true) (fun W hW => sameTexts_any l hll a1 a2 c1 c2 W (s1.below hW) (s2.below hW)) (fun w => by first | rfl | (go_simp; done)) ?_
          simp only [Act.put, List.setIfInBounds_toArray, List.set_cons_succ, List.set_cons_zero]
          refine WG.put rfl (v := .bool false) (fun w => by first | rfl | (go_simp; done) | (simp [go_sem]; done) | (simp [execOp, go_sem]; done)) ?_
          simp only [Act.put, List.setIfInBounds_toArray, List.set_cons_succ, List.set_cons_zero]
          refine WG.nil ?_
          intro W5 B5
          have B6 : Hid (Below W4.heap.size W4 W5) := Below.then HB.out B5
          clear Q1 Q2 k0 k1 k2 k3 k4 m0 m1 m2 m3 m4
          go_wp2_with fail
          go_roundw
          case rel => exact ⟨k + 1, by omega, by go_num, B6⟩
          case measure => simp [intOf]; omega
        · have hki : ¬ (k : Int) < nr := by omega
          go_wp2_with fail
          go_loopw [8] (fun i wr => ∃ k : Nat, k ≤ ni ∧ i = .int .i64 (k : Int) ∧ Hid (Below W4.heap.size W4 wr)) (fun i _ => ni - (intOf i).toNat)
          case atStart => exact ⟨0, by omega, rfl, HB⟩
          case round =>
            obtain ⟨k, hk, rfl, HB⟩ := hrel
            have Q1 := H1.out.grown HB.out
            have Q2 := H2.out.grown HB.out
            obtain ⟨k0, k1, k2, k3, k4⟩ := five Q1
            obtain ⟨m0, m1, m2, m3, m4⟩ := five Q2
            by_cases hlt : k < ni
            · have hki : (k : Int) < ni := by omega
              obtain ⟨l, hl⟩ : ∃ l, p.regInit[k]? = some l := ⟨_, List.getElem?_eq_getElem (by rw [HNI.out]; exact hlt)⟩
              obtain ⟨x1, o1, a1, c1, rfl, hx1, h1c, s1, _⟩ := (HI1.out.below (Below.then B4 HB.out)).at k l hl
              obtain ⟨x2, o2, a2, c2, rfl, hx2, h2c, s2, _⟩ := (HI2.out.below (Below.then B4 HB.out)).at k l hl
              have hll : l.length ≤ 1048576 := Nat.le_trans (by have := flat_at hl (Nat.le_refl _); rw [List.take_length, List.length_append] at this; omega) HF.out.ii
              clear hl
              go_wp2_with fail
              refine grow_allW (by kernel_rfl) (by kernel_rfl) ?_
              refine WG.put rfl (v := .pointer (some ⟨b1, 3, none⟩)) (fun w => by first | rfl | (go_simp; done) | (simp [go_sem]; done) | (simp [execOp, go_sem]; done)) ?_
              simp only [Act.put, List.setIfInBounds_toArray, List.set_cons_succ, List.set_cons_zero]
              refine WG.load1 rfl 25 _ rfl rfl Q1 (v := .slice (some ⟨x1, o1, none⟩) ni ci1) rfl (fun w h => ld44 w h) ?_
              simp only [Act.put, List.setIfInBounds_toArray, List.set_cons_succ, List.set_cons_zero]
              refine WG.put rfl (v := .int .i64 (k : Int)) (fun w => by first | rfl | (go_simp; done) | (simp [go_sem]; done) | (simp [execOp, go_sem]; done)) ?_
              simp only [Act.put, List.setIfInBounds_toArray, List.set_cons_succ, List.set_cons_zero]
              refine WG.put rfl (v := .pointer (some ⟨x1, o1 + k, none⟩)) (fun w => by first | rfl | (go_simp; done) | (simp [go_sem]; done) | (simp [execOp, go_sem]; done)) ?_
              simp only [Act.put, List.setIfInBounds_toArray, List.set_cons_succ, List.set_cons_zero]
              refine WG.cell rfl 26 _ rfl rfl h1c (fun w h => ld45 w h) ?_
              simp only [Act.put, List.setIfInBounds_toArray, List.set_cons_succ, List.set_cons_zero]
              refine WG.put rfl (v := .pointer (some ⟨b2, 3, none⟩)) (fun w => by first | rfl | (go_simp; done) | (simp [go_sem]; done) | (simp [execOp, go_sem]; done)) ?_
              simp only [Act.put, List.setIfInBounds_toArray, List.set_cons_succ, List.set_cons_zero]
              refine WG.load1 rfl 25 _ rfl rfl Q2 (v := .slice (some ⟨x2, o2, none⟩) ni ci2) rfl (fun w h => ld44 w h) ?_
              simp only [Act.put, List.setIfInBounds_toArray, List.set_cons_succ, List.set_cons_zero]
              refine WG.put rfl (v := .int .i64 (k : Int)) (fun w => by first | rfl | (go_simp; done) | (simp [go_sem]; done) | (simp [execOp, go_sem]; done)) ?_
              simp only [Act.put, List.setIfInBounds_toArray, List.set_cons_succ, List.set_cons_zero]
              refine WG.put rfl (v := .pointer (some ⟨x2, o2 + k, none⟩)) (fun w => by first | rfl | (go_simp; done) | (simp [go_sem]; done) | (simp [execOp, go_sem]; done)) ?_
              simp only [Act.put, List.setIfInBounds_toArray, List.set_cons_succ, List.set_cons_zero]
              refine WG.cell rfl 26 _ rfl rfl h2c (fun w h => ld45 w h) ?_
              simp only [Act.put, List.setIfInBounds_toArray, List.set_cons_succ, List.set_cons_zero]
              refine WG.call rfl (f := 50) (args := #[.slice a1 l.length c1, .slice a2 l.length c2]) (v := .bool true) (fun W hW => sameValues_any l hll a1 a2 c1 c2 W (s1.below hW) (s2.below hW)) (fun w => by first | rfl | (go_simp; done)) ?_
              simp only [Act.put, List.setIfInBounds_toArray, List.set_cons_succ, List.set_cons_zero]
              refine WG.put rfl (v := .bool false) (fun w => by first | rfl | (go_simp; done) | (simp [go_sem]; done) | (simp [execOp, go_sem]; done)) ?_
              simp only [Act.put, List.setIfInBounds_toArray, List.set_cons_succ, List.set_cons_zero]
              refine WG.nil ?_
              intro W5 B5
              have B6 : Hid (Below W4.heap.size W4 W5) := Below.then HB.out B5
              clear Q1 Q2 k0 k1 k2 k3 k4 m0 m1 m2 m3 m4
              go_wp2_with fail
              go_roundw
              case rel => exact ⟨k + 1, by omega, by go_num, B6⟩
              case measure => simp [intOf]; omega
            · have hki : ¬ (k : Int) < ni := by omega
              go_wp2_with fail
              go_ret
              exact ⟨rfl, Below.then B4 HB.out⟩

end Go.Proofs.Ytegpnicajlndlaa

/- CPX -/
import Derived.Test.YtegpnicajlndlaaQax
namespace Go.Proofs.Ytegpnicajlndlaa
open Go.RowKit M
set_option linter.unusedSimpArgs false
set_option linter.unusedVariables false
structure PGO (W : World) (B : Nat) (vt vr vl vi vj : Value) (p : PG) : Prop where
 t : OwnRows W B 61 63 5 vt op5L p.threads
 r : OwnRows W B 24 9 1 vr strE p.regs
 l : W.ownsRow B 9 1 vl p.locs.length (p.locs.flatMap strE)
 i : OwnRows W B 26 2 1 vi intE p.regInit
 j : W.ownsRow B 2 1 vj p.locInit.length (p.locInit.flatMap intE)
theorem PGO.pgv {W : World} {B : Nat} {vt vr vl vi vj : Value} {p : PG} (h : PGO W B vt vr vl vi vj p) : PGV W vt vr vl vi vj p := ⟨h.t.rows, h.r.rows, own_row h.l, h.i.rows, own_row h.j⟩
theorem PGO.below {W W' : World} {B : Nat} {vt vr vl vi vj : Value} {p : PG} (h : PGO W B vt vr vl vi vj p) (hB : Below W.heap.size W W') : PGO W' B vt vr vl vi vj p := ⟨h.t.below hB, h.r.below hB, own_below h.l hB, h.i.below hB, own_below h.j hB⟩
theorem PGO.upd {W W' : World} {B b t' : Nat} {cs : List Value} {vt vr vl vi vj : Value} {p : PG} (h : PGO W B vt vr vl vi vj p) (I : IsS W b t' cs) (U : Upd W W' b) (ht : ∀ t ∈ [61, 63, 24, 9, 26, 2], t ≠ t') : PGO W' B vt vr vl vi vj p :=
 ⟨rows_upd h.t I U (ht _ (by simp)) (ht _ (by simp)), rows_upd h.r I U (ht _ (by simp)) (ht _ (by simp)), own_upd h.l I U (ht _ (by simp)), rows_upd h.i I U (ht _ (by simp)) (ht _ (by simp)), own_upd h.j I U (ht _ (by simp))⟩
set_option maxRecDepth 100000 in
set_option maxHeartbeats 8000000 in
theorem copyO_any (p : PG) (hf : p.Few) (vt vr vl vi vj : Value) (w : World) (hp : PGV w vt vr vl vi vj p) :
    Calls Try.prog 9 #[.agg #[vt, vr, vl, vi, vj]] w fun en w' => (∃ vt' vr' vl' vi' vj', en = .returned (.agg #[vt', vr', vl', vi', vj']) ∧ PGO w' w.heap.size vt' vr' vl' vi' vj' p) ∧ Below w.heap.size w w' := by
 obtain ⟨at', ct, rfl⟩ := hp.t.form
 obtain ⟨ar, cr, rfl⟩ := hp.r.form
 obtain ⟨ai, ci, rfl⟩ := hp.i.form
 obtain ⟨al, cl, rfl, hsl, hnl0⟩ := hp.l
 obtain ⟨aj, cj, rfl, hsj, hnj0⟩ := hp.j
 have HF : Hid p.Few := hf
 have HTw : Hid (RowsV w (.slice at' p.threads.length ct) op5L p.threads) := hp.t
 have HRw : Hid (RowsV w (.slice ar p.regs.length cr) strE p.regs) := hp.r
 have HIw : Hid (RowsV w (.slice ai p.regInit.length ci) intE p.regInit) := hp.i
 have HLw : Hid (RowV w (.slice al p.locs.length cl) p.locs.length (p.locs.flatMap strE)) := ⟨al, cl, rfl, hsl, hnl0⟩
 have HJw : Hid (RowV w (.slice aj p.locInit.length cj) p.locInit.length (p.locInit.flatMap intE)) := ⟨aj, cj, rfl, hsj, hnj0⟩
 have cC := fun W (h : RowsV W (.slice ai p.regInit.length ci) intE p.regInit) => rcopy_any p.regInit hf.i hf.ii ai ci W h
 clear hp hsl hsj hnl0 hnj0
 obtain ⟨nt, hnt⟩ : ∃ n, p.threads.length = n := ⟨_, rfl⟩
 obtain ⟨nr, hnr⟩ : ∃ n, p.regs.length = n := ⟨_, rfl⟩
 obtain ⟨nl, hnl⟩ : ∃ n, p.locs.length = n := ⟨_, rfl⟩
 obtain ⟨ni, hni⟩ : ∃ n, p.regInit.length = n := ⟨_, rfl⟩
 obtain ⟨nj, hnj⟩ : ∃ n, p.locInit.length = n := ⟨_, rfl⟩
 have HNT : Hid (p.threads.length = nt) := hnt
 have HNR : Hid (p.regs.length = nr) := hnr
 have HNL : Hid (p.locs.length = nl) := hnl
 have HNJ : Hid (p.locInit.length = nj) := hnj
 have hft := hf.t
 have hfr := hf.r
 have hfl := hf.l
 have hfj := hf.j
 rw [hnt] at HTw hft
 rw [hnr] at HRw hfr
 rw [hni] at HIw cC
 rw [hnl] at HLw hfl
 rw [hnj] at HJw hfj
 rw [hnt, hnr, hnl, hni, hnj]
 clear hnt hnr hnl hni hnj hf
 have t1 : True := trivial
 have t2 : True := trivial
 go_enter Try.func9, Try.ntmps9
 go_wp2_with (first
  | (clear t1; refine wpList_boxS rfl 28 _ rfl [.slice at' nt ct, .slice ar nr cr, .slice al nl cl, .slice ai ni ci, .slice aj nj cj] rfl ?_; intro W1 b1 F1 C1; have B1 : Below w.heap.size w W1 := F1.trans (Below.refl _ w) (Nat.le_refl _); clear F1)
  | (clear t2; refine wpList_allocS rfl 28 rfl z5 zeroPg ?_; intro W2 b2 F2 D2; have C2 := C1.fresh F2; have B2 := F2.trans B1 B1.size; have H1 : Hid (IsS W2 b1 28 [.slice at' nt ct, .slice ar nr cr, .slice al nl cl, .slice ai ni ci, .slice aj nj cj]) := C2; have H2 : Hid (IsS W2 b2 28 z5) := D2; have hb2 : w.heap.size ≤ b2 := Nat.le_trans B1.size (Nat.le_of_eq F2.at'.symm); clear F2 C1 C2 D2))
 have HLV : Hid (RowV W2 (.slice al nl cl) nl (p.locs.flatMap strE)) := HLw.out.below B2
 have HJV : Hid (RowV W2 (.slice aj nj cj) nj (p.locInit.flatMap intE)) := HJw.out.below B2
 have HIV : Hid (RowsV W2 (.slice ai ni ci) intE p.regInit) := HIw.out.below B2
 refine region_invA 13 (fun a0 listed a' w' => ∃ x6 x7 x8 x9 x10 x11 x12 x13 x14 x15 x16 x17 x3 : Value, a' = (((((((((((((a0.put (some 6) x6).put (some 7) x7).put (some 8) x8).put (some 9) x9).put (some 10) x10).put (some 11) x11).put (some 12) x12).put (some 13) x13).put (some 14) x14).put (some 15) x15).put (some 16) x16).put (some 17) x17).put (some 3) x3) ∧ Hid (Below W2.heap.size W2 w') ∧ (listed.getD 0 false = true → ∃ b, x6 = .slice (some ⟨b, 0, none⟩) 0 0 ∧ w'.ownsRow W2.heap.size 9 1 x6 0 []) ∧ (listed.getD 1 false = true → x7 = .pointer (some ⟨b1, 2, none⟩)) ∧ (listed.getD 2 false = true → x8 = .slice al nl cl) ∧ (listed.getD 3 false = true → w'.ownsRow W2.heap.size 9 1 x9 nl (p.locs.flatMap strE)) ∧ (listed.getD 4 false = true → ∃ b, x10 = .slice (some ⟨b, 0, none⟩) 0 0 ∧ w'.ownsRow W2.heap.size 2 1 x10 0 []) ∧ (listed.getD 5 false = true → x11 = .pointer (some ⟨b1, 4, none⟩)) ∧ (listed.getD 6 false = true → x12 = .slice aj nj cj) ∧ (listed.getD 7 false = true → w'.ownsRow W2.heap.size 2 1 x13 nj (p.locInit.flatMap intE)) ∧ (listed.getD 8 false = true → x14 = .pointer (some ⟨b1, 3, none⟩)) ∧ (listed.getD 9 false = true → x15 = .slice ai ni ci) ∧ (listed.getD 10 false = true → OwnRows w' W2.heap.size 26 2 1 x16 intE p.regInit) ∧ (listed.getD 11 false = true → ∃ v9 v13 v16, x17 = .agg #[.slice none 0 0, .slice none 0 0, v9, v16, v13] ∧ w'.ownsRow W2.heap.size 9 1 v9 nl (p.locs.flatMap strE) ∧ w'.ownsRow W2.heap.size 2 1 v13 nj (p.locInit.flatMap intE) ∧ OwnRows w' W2.heap.size 26 2 1 v16 intE p.regInit) ∧ (listed.getD 12 false = true → ∃ b, x3 = .pointer (some ⟨b, 0, none⟩) ∧ W2.heap.size ≤ b ∧ IsS w' b 28 z5)) (by kernel_rfl) (by kernel_rfl) ?i0 ?istep ?iend
 case i0 => exact ⟨undef, undef, undef, undef, undef, undef, undef, undef, undef, undef, undef, undef, undef, by (try simp only [sP]) <;> rfl, below_drew bR, fun h => (not_rep h).elim, fun h => (not_rep h).elim, fun h => (not_rep h).elim, fun h => (not_rep h).elim, fun h => (not_rep h).elim, fun h => (not_rep h).elim, fun h => (not_rep h).elim, fun h => (not_rep h).elim, fun h => (not_rep h).elim, fun h => (not_rep h).elim, fun h => (not_rep h).elim, fun h => (not_rep h).elim, fun h => (not_rep h).elim⟩
 case istep =>
  rintro i listed a' w' hi hr ⟨x6, x7, x8, x9, x10, x11, x12, x13, x14, x15, x16, x17, x3, rfl, HBw, d0, d1, d2, d3, d4, d5, d6, d7, d8, d9, d10, d11, d12⟩
  obtain ⟨hun, oj, hoj, hwt⟩ := mem_ready.1 hr
  simp only [sP]
  have hcase : i = 0 ∨ i = 1 ∨ i = 2 ∨ i = 3 ∨ i = 4 ∨ i = 5 ∨ i = 6 ∨ i = 7 ∨ i = 8 ∨ i = 9 ∨ i = 10 ∨ i = 11 ∨ i = 12 := by omega
  rcases hcase with rfl | rfl | rfl | rfl | rfl | rfl | rfl | rfl | rfl | rfl | rfl | rfl | rfl
  · have hoj2 := hoj
    obtain rfl := oI hoj
    refine wpOp_value hoj2 rfl (exec_build0 eStr rfl) ?_
    have B' : Below w'.heap.size w' (w'.alloc (.cells #[] 9)) := (Fresh.alloc w' (.cells #[] 9)).trans bR (Nat.le_refl _)
    have O' := own_raise (own_build0 eStr w') HBw.out.size
    exact ⟨.slice (some ⟨w'.heap.size, 0, none⟩) 0 0, x7, x8, x9, x10, x11, x12, x13, x14, x15, x16, x17, x3, by (try simp only [sP]) <;> rfl, Below.then HBw.out B', fun _ => ⟨_, rfl, O'⟩, d1 ∘ kq, d2 ∘ kq, fun h => own_below (d3 (kp h)) B', fun h => eE (d4 (kp h)) fun b h => ⟨b, h.1, own_below h.2 B'⟩, d5 ∘ kq, d6 ∘ kq, fun h => own_below (d7 (kp h)) B', d8 ∘ kq, d9 ∘ kq, fun h => OwnRows.below (d10 (kp h)) B', fun h => (by obtain ⟨y9, y13, y16, h1, h2, h3, h4⟩ := (d11 (kp h)); exact ⟨y9, y13, y16, h1, own_below h2 B', own_below h3 B', OwnRows.below h4 B'⟩), fun h => eE (d12 (kp h)) fun b h => ⟨b, h.1, h.2.1, h.2.2.grown B'⟩⟩
  · have hoj2 := hoj
    obtain rfl := oI hoj
    refine wpOp_value hoj2 rfl (v := .pointer (some ⟨b1, 2, none⟩)) (w' := w') (by first | rfl | (go_simp; done) | (simp [go_sem]; done) | (simp [execOp, go_sem]; done)) ?_
    exact ⟨x6, .pointer (some ⟨b1, 2, none⟩), x8, x9, x10, x11, x12, x13, x14, x15, x16, x17, x3, by (try simp only [sP]) <;> rfl, Below.then HBw.out bR, fun h => eE (d0 (kp h)) fun b h => ⟨b, h.1, own_below h.2 bR⟩, fun _ => rfl, d2 ∘ kq, fun h => own_below (d3 (kp h)) bR, fun h => eE (d4 (kp h)) fun b h => ⟨b, h.1, own_below h.2 bR⟩, d5 ∘ kq, d6 ∘ kq, fun h => own_below (d7 (kp h)) bR, d8 ∘ kq, d9 ∘ kq, fun h => OwnRows.below (d10 (kp h)) bR, fun h => (by obtain ⟨y9, y13, y16, h1, h2, h3, h4⟩ := (d11 (kp h)); exact ⟨y9, y13, y16, h1, own_below h2 bR, own_below h3 bR, OwnRows.below h4 bR⟩), fun h => eE (d12 (kp h)) fun b h => ⟨b, h.1, h.2.1, h.2.2.grown bR⟩⟩
  · have hoj2 := hoj
    obtain rfl := oI hoj
    have e1 := d1 (hwt ⟨1, .data⟩ (by simp) rfl)
    subst e1
    have c1 := H1.out.grown HBw.out
    refine wpOp_value hoj2 rfl (v := .slice al nl cl) (w' := w') (by exact rd1 c1 rfl rfl rfl (fun w h => ld43 w h)) ?_
    exact ⟨x6, .pointer (some ⟨b1, 2, none⟩), .slice al nl cl, x9, x10, x11, x12, x13, x14, x15, x16, x17, x3, by (try simp only [sP]) <;> rfl, Below.then HBw.out bR, fun h => eE (d0 (kp h)) fun b h => ⟨b, h.1, own_below h.2 bR⟩, d1 ∘ kq, fun _ => rfl, fun h => own_below (d3 (kp h)) bR, fun h => eE (d4 (kp h)) fun b h => ⟨b, h.1, own_below h.2 bR⟩, d5 ∘ kq, d6 ∘ kq, fun h => own_below (d7 (kp h)) bR, d8 ∘ kq, d9 ∘ kq, fun h => OwnRows.below (d10 (kp h)) bR, fun h => (by obtain ⟨y9, y13, y16, h1, h2, h3, h4⟩ := (d11 (kp h)); exact ⟨y9, y13, y16, h1, own_below h2 bR, own_below h3 bR, OwnRows.below h4 bR⟩), fun h => eE (d12 (kp h)) fun b h => ⟨b, h.1, h.2.1, h.2.2.grown bR⟩⟩
  · have hoj2 := hoj
    obtain rfl := oI hoj
    have e0 := d0 (hwt ⟨0, .data⟩ (by simp) rfl)
    have e2 := d2 (hwt ⟨2, .data⟩ (by simp) rfl)
    obtain ⟨be, hbe, e0⟩ := e0
    subst hbe
    subst e2
    obtain ⟨v', W', hrun, O', B'⟩ := run_app0 eStr W2.heap.size be e0 _ nl (p.locs.flatMap strE) ((HLV.out).below HBw.out) (by rw [str_len, HNL.out]) (str_one _) (by omega) HBw.out.size _
    refine wpOp_value hoj2 rfl (exec_app _ _ rfl rfl rfl hrun) ?_
    exact ⟨.slice (some ⟨be, 0, none⟩) 0 0, x7, .slice al nl cl, v', x10, x11, x12, x13, x14, x15, x16, x17, x3, by (try simp only [sP]) <;> rfl, Below.then HBw.out B', fun h => eE (d0 (kp h)) fun b h => ⟨b, h.1, own_below h.2 B'⟩, d1 ∘ kq, d2 ∘ kq, fun _ => O', fun h => eE (d4 (kp h)) fun b h => ⟨b, h.1, own_below h.2 B'⟩, d5 ∘ kq, d6 ∘ kq, fun h => own_below (d7 (kp h)) B', d8 ∘ kq, d9 ∘ kq, fun h => OwnRows.below (d10 (kp h)) B', fun h => (by obtain ⟨y9, y13, y16, h1, h2, h3, h4⟩ := (d11 (kp h)); exact ⟨y9, y13, y16, h1, own_below h2 B', own_below h3 B', OwnRows.below h4 B'⟩), fun h => eE (d12 (kp h)) fun b h => ⟨b, h.1, h.2.1, h.2.2.grown B'⟩⟩
  · have hoj2 := hoj
    obtain rfl := oI hoj
    refine wpOp_value hoj2 rfl (exec_build0 eInt rfl) ?_
    have B' : Below w'.heap.size w' (w'.alloc (.cells #[] 2)) := (Fresh.alloc w' (.cells #[] 2)).trans bR (Nat.le_refl _)
    have O' := own_raise (own_build0 eInt w') HBw.out.size
    exact ⟨x6, x7, x8, x9, .slice (some ⟨w'.heap.size, 0, none⟩) 0 0, x11, x12, x13, x14, x15, x16, x17, x3, by (try simp only [sP]) <;> rfl, Below.then HBw.out B', fun h => eE (d0 (kp h)) fun b h => ⟨b, h.1, own_below h.2 B'⟩, d1 ∘ kq, d2 ∘ kq, fun h => own_below (d3 (kp h)) B', fun _ => ⟨_, rfl, O'⟩, d5 ∘ kq, d6 ∘ kq, fun h => own_below (d7 (kp h)) B', d8 ∘ kq, d9 ∘ kq, fun h => OwnRows.below (d10 (kp h)) B', fun h => (by obtain ⟨y9, y13, y16, h1, h2, h3, h4⟩ := (d11 (kp h)); exact ⟨y9, y13, y16, h1, own_below h2 B', own_below h3 B', OwnRows.below h4 B'⟩), fun h => eE (d12 (kp h)) fun b h => ⟨b, h.1, h.2.1, h.2.2.grown B'⟩⟩
  · have hoj2 := hoj
    obtain rfl := oI hoj
    refine wpOp_value hoj2 rfl (v := .pointer (some ⟨b1, 4, none⟩)) (w' := w') (by first | rfl | (go_simp; done) | (simp [go_sem]; done) | (simp [execOp, go_sem]; done)) ?_
    exact ⟨x6, x7, x8, x9, x10, .pointer (some ⟨b1, 4, none⟩), x12, x13, x14, x15, x16, x17, x3, by (try simp only [sP]) <;> rfl, Below.then HBw.out bR, fun h => eE (d0 (kp h)) fun b h => ⟨b, h.1, own_below h.2 bR⟩, d1 ∘ kq, d2 ∘ kq, fun h => own_below (d3 (kp h)) bR, fun h => eE (d4 (kp h)) fun b h => ⟨b, h.1, own_below h.2 bR⟩, fun _ => rfl, d6 ∘ kq, fun h => own_below (d7 (kp h)) bR, d8 ∘ kq, d9 ∘ kq, fun h => OwnRows.below (d10 (kp h)) bR, fun h => (by obtain ⟨y9, y13, y16, h1, h2, h3, h4⟩ := (d11 (kp h)); exact ⟨y9, y13, y16, h1, own_below h2 bR, own_below h3 bR, OwnRows.below h4 bR⟩), fun h => eE (d12 (kp h)) fun b h => ⟨b, h.1, h.2.1, h.2.2.grown bR⟩⟩
  · have hoj2 := hoj
    obtain rfl := oI hoj
    have e5 := d5 (hwt ⟨5, .data⟩ (by simp) rfl)
    subst e5
    have c1 := H1.out.grown HBw.out
    refine wpOp_value hoj2 rfl (v := .slice aj nj cj) (w' := w') (by exact rd1 c1 rfl rfl rfl (fun w h => ld45 w h)) ?_
    exact ⟨x6, x7, x8, x9, x10, .pointer (some ⟨b1, 4, none⟩), .slice aj nj cj, x13, x14, x15, x16, x17, x3, by (try simp only [sP]) <;> rfl, Below.then HBw.out bR, fun h => eE (d0 (kp h)) fun b h => ⟨b, h.1, own_below h.2 bR⟩, d1 ∘ kq, d2 ∘ kq, fun h => own_below (d3 (kp h)) bR, fun h => eE (d4 (kp h)) fun b h => ⟨b, h.1, own_below h.2 bR⟩, d5 ∘ kq, fun _ => rfl, fun h => own_below (d7 (kp h)) bR, d8 ∘ kq, d9 ∘ kq, fun h => OwnRows.below (d10 (kp h)) bR, fun h => (by obtain ⟨y9, y13, y16, h1, h2, h3, h4⟩ := (d11 (kp h)); exact ⟨y9, y13, y16, h1, own_below h2 bR, own_below h3 bR, OwnRows.below h4 bR⟩), fun h => eE (d12 (kp h)) fun b h => ⟨b, h.1, h.2.1, h.2.2.grown bR⟩⟩
  · have hoj2 := hoj
    obtain rfl := oI hoj
    have e4 := d4 (hwt ⟨4, .data⟩ (by simp) rfl)
    have e6 := d6 (hwt ⟨6, .data⟩ (by simp) rfl)
    obtain ⟨be, hbe, e4⟩ := e4
    subst hbe
    subst e6
    obtain ⟨v', W', hrun, O', B'⟩ := run_app0 eInt W2.heap.size be e4 _ nj (p.locInit.flatMap intE) ((HJV.out).below HBw.out) (by rw [int_len, HNJ.out]) (int_one _) (by omega) HBw.out.size _
    refine wpOp_value hoj2 rfl (exec_app _ _ rfl rfl rfl hrun) ?_
    exact ⟨x6, x7, x8, x9, .slice (some ⟨be, 0, none⟩) 0 0, x11, .slice aj nj cj, v', x14, x15, x16, x17, x3, by (try simp only [sP]) <;> rfl, Below.then HBw.out B', fun h => eE (d0 (kp h)) fun b h => ⟨b, h.1, own_below h.2 B'⟩, d1 ∘ kq, d2 ∘ kq, fun h => own_below (d3 (kp h)) B', fun h => eE (d4 (kp h)) fun b h => ⟨b, h.1, own_below h.2 B'⟩, d5 ∘ kq, d6 ∘ kq, fun _ => O', d8 ∘ kq, d9 ∘ kq, fun h => OwnRows.below (d10 (kp h)) B', fun h => (by obtain ⟨y9, y13, y16, h1, h2, h3, h4⟩ := (d11 (kp h)); exact ⟨y9, y13, y16, h1, own_below h2 B', own_below h3 B', OwnRows.below h4 B'⟩), fun h => eE (d12 (kp h)) fun b h => ⟨b, h.1, h.2.1, h.2.2.grown B'⟩⟩
  · have hoj2 := hoj
    obtain rfl := oI hoj
    refine wpOp_value hoj2 rfl (v := .pointer (some ⟨b1, 3, none⟩)) (w' := w') (by first | rfl | (go_simp; done) | (simp [go_sem]; done) | (simp [execOp, go_sem]; done)) ?_
    exact ⟨x6, x7, x8, x9, x10, x11, x12, x13, .pointer (some ⟨b1, 3, none⟩), x15, x16, x17, x3, by (try simp only [sP]) <;> rfl, Below.then HBw.out bR, fun h => eE (d0 (kp h)) fun b h => ⟨b, h.1, own_below h.2 bR⟩, d1 ∘ kq, d2 ∘ kq, fun h => own_below (d3 (kp h)) bR, fun h => eE (d4 (kp h)) fun b h => ⟨b, h.1, own_below h.2 bR⟩, d5 ∘ kq, d6 ∘ kq, fun h => own_below (d7 (kp h)) bR, fun _ => rfl, d9 ∘ kq, fun h => OwnRows.below (d10 (kp h)) bR, fun h => (by obtain ⟨y9, y13, y16, h1, h2, h3, h4⟩ := (d11 (kp h)); exact ⟨y9, y13, y16, h1, own_below h2 bR, own_below h3 bR, OwnRows.below h4 bR⟩), fun h => eE (d12 (kp h)) fun b h => ⟨b, h.1, h.2.1, h.2.2.grown bR⟩⟩
  · have hoj2 := hoj
    obtain rfl := oI hoj
    have e8 := d8 (hwt ⟨8, .data⟩ (by simp) rfl)
    subst e8
    have c1 := H1.out.grown HBw.out
    refine wpOp_value hoj2 rfl (v := .slice ai ni ci) (w' := w') (by exact rd1 c1 rfl rfl rfl (fun w h => ld44 w h)) ?_
    exact ⟨x6, x7, x8, x9, x10, x11, x12, x13, .pointer (some ⟨b1, 3, none⟩), .slice ai ni ci, x16, x17, x3, by (try simp only [sP]) <;> rfl, Below.then HBw.out bR, fun h => eE (d0 (kp h)) fun b h => ⟨b, h.1, own_below h.2 bR⟩, d1 ∘ kq, d2 ∘ kq, fun h => own_below (d3 (kp h)) bR, fun h => eE (d4 (kp h)) fun b h => ⟨b, h.1, own_below h.2 bR⟩, d5 ∘ kq, d6 ∘ kq, fun h => own_below (d7 (kp h)) bR, d8 ∘ kq, fun _ => rfl, fun h => OwnRows.below (d10 (kp h)) bR, fun h => (by obtain ⟨y9, y13, y16, h1, h2, h3, h4⟩ := (d11 (kp h)); exact ⟨y9, y13, y16, h1, own_below h2 bR, own_below h3 bR, OwnRows.below h4 bR⟩), fun h => eE (d12 (kp h)) fun b h => ⟨b, h.1, h.2.1, h.2.2.grown bR⟩⟩
  · have hoj2 := hoj
    obtain rfl := oI hoj
    have e9 := d9 (hwt ⟨9, .data⟩ (by simp) rfl)
    subst e9
    refine wpOp_call hoj2 rfl (by first | rfl | (go_simp; done)) ((cC w' (HIV.out.below HBw.out)).mono ?_)
    rintro en W' ⟨⟨v, rfl, hv⟩, B'⟩
    refine ⟨v, rfl, ?_⟩
    exact ⟨x6, x7, x8, x9, x10, x11, x12, x13, x14, .slice ai ni ci, v, x17, x3, by (try simp only [sP]) <;> rfl, Below.then HBw.out B', fun h => eE (d0 (kp h)) fun b h => ⟨b, h.1, own_below h.2 B'⟩, d1 ∘ kq, d2 ∘ kq, fun h => own_below (d3 (kp h)) B', fun h => eE (d4 (kp h)) fun b h => ⟨b, h.1, own_below h.2 B'⟩, d5 ∘ kq, d6 ∘ kq, fun h => own_below (d7 (kp h)) B', d8 ∘ kq, d9 ∘ kq, fun _ => OwnRows.raise hv HBw.out.size, fun h => (by obtain ⟨y9, y13, y16, h1, h2, h3, h4⟩ := (d11 (kp h)); exact ⟨y9, y13, y16, h1, own_below h2 B', own_below h3 B', OwnRows.below h4 B'⟩), fun h => eE (d12 (kp h)) fun b h => ⟨b, h.1, h.2.1, h.2.2.grown B'⟩⟩
  · have hoj2 := hoj
    obtain rfl := oI hoj
    have e3 := d3 (hwt ⟨3, .data⟩ (by simp) rfl)
    have e7 := d7 (hwt ⟨7, .data⟩ (by simp) rfl)
    have e10 := d10 (hwt ⟨10, .data⟩ (by simp) rfl)
    obtain ⟨a9, c9, h9⟩ := own_form e3
    obtain ⟨a13, c13, h13⟩ := own_form e7
    obtain ⟨a16, c16, h16⟩ := (OwnRows.rows e10).form
    refine wpOp_value hoj2 rfl (v := .agg #[.slice none 0 0, .slice none 0 0, x9, x16, x13]) (w' := w') (by rw [h9, h13, h16]; exact run_b47 rfl rfl rfl rfl) ?_
    exact ⟨x6, x7, x8, x9, x10, x11, x12, x13, x14, x15, x16, .agg #[.slice none 0 0, .slice none 0 0, x9, x16, x13], x3, by (try simp only [sP]) <;> rfl, Below.then HBw.out bR, fun h => eE (d0 (kp h)) fun b h => ⟨b, h.1, own_below h.2 bR⟩, d1 ∘ kq, d2 ∘ kq, fun h => own_below (d3 (kp h)) bR, fun h => eE (d4 (kp h)) fun b h => ⟨b, h.1, own_below h.2 bR⟩, d5 ∘ kq, d6 ∘ kq, fun h => own_below (d7 (kp h)) bR, d8 ∘ kq, d9 ∘ kq, fun h => OwnRows.below (d10 (kp h)) bR, fun _ => ⟨_, _, _, rfl, e3, e7, e10⟩, fun h => eE (d12 (kp h)) fun b h => ⟨b, h.1, h.2.1, h.2.2.grown bR⟩⟩
  · have hoj2 := hoj
    obtain rfl := oI hoj
    refine wpOp_value hoj2 rfl (run_allocS 28 z5 zeroPg rfl _ w') ?_
    have F := Fresh.alloc w' (.cells z5.toArray 28)
    have B' := F.trans (Below.refl _ w') (Nat.le_refl _)
    exact ⟨x6, x7, x8, x9, x10, x11, x12, x13, x14, x15, x16, x17, .pointer (some ⟨w'.heap.size, 0, none⟩), by (try simp only [sP]) <;> rfl, Below.then HBw.out B', fun h => eE (d0 (kp h)) fun b h => ⟨b, h.1, own_below h.2 B'⟩, d1 ∘ kq, d2 ∘ kq, fun h => own_below (d3 (kp h)) B', fun h => eE (d4 (kp h)) fun b h => ⟨b, h.1, own_below h.2 B'⟩, d5 ∘ kq, d6 ∘ kq, fun h => own_below (d7 (kp h)) B', d8 ∘ kq, d9 ∘ kq, fun h => OwnRows.below (d10 (kp h)) B', fun h => (by obtain ⟨y9, y13, y16, h1, h2, h3, h4⟩ := (d11 (kp h)); exact ⟨y9, y13, y16, h1, own_below h2 B', own_below h3 B', OwnRows.below h4 B'⟩), fun _ => ⟨_, rfl, HBw.out.size, IsS.new w' 28 z5⟩⟩
 case iend =>
  rintro a' w' ⟨x6, x7, x8, x9, x10, x11, x12, x13, x14, x15, x16, x17, x3, rfl, HBw, d0, d1, d2, d3, d4, d5, d6, d7, d8, d9, d10, d11, d12⟩
  replace d0 := d0 rfl
  replace d1 := d1 rfl
  replace d2 := d2 rfl
  replace d3 := d3 rfl
  replace d4 := d4 rfl
  replace d5 := d5 rfl
  replace d6 := d6 rfl
  replace d7 := d7 rfl
  replace d8 := d8 rfl
  replace d9 := d9 rfl
  replace d10 := d10 rfl
  replace d11 := d11 rfl
  replace d12 := d12 rfl
  simp only [sP]
  simp only [List.drop_succ_cons, List.drop_zero]
  obtain ⟨v9, v13, v16, hx17, O9, O13, O16⟩ := d11
  obtain ⟨b3, hx3, hb3, D3⟩ := d12
  subst hx17
  subst hx3
  have hc1 := H1.out.grown HBw.out
  have hc2 := H2.out.grown HBw.out
  have BB := Below.then B2 HBw.out
  clear d0 d1 d2 d3 d4 d5 d6 d7 d8 d9 d10
  have n13 : b1 ≠ b3 := (by have := H1.out.lt; omega)
  have n23 : b2 ≠ b3 := (by have := H2.out.lt; omega)
  have hwb : w.heap.size ≤ b3 := Nat.le_trans B2.size hb3
  have t3 : True := trivial
  have h9 := own_cell O9
  have h13 := own_cell O13
  have h16 := OwnRows.cell O16
  go_wp2_with (clear t3; refine wpList_storeW rfl 28 _ _ rfl rfl [.slice none 0 0, .slice none 0 0, v9, v16, v13] rfl D3 rfl infoPg (one5 rfl rfl h9 h16 h13) ?_; intro W4 U4 D4; have B4 := U4.trans BB hwb; have KK : Hid (KT w W4 b1 b2 b3 [.slice at' nt ct, .slice ar nr cr, .slice al nl cl, .slice ai ni ci, .slice aj nj cj] [.slice none 0 0, .slice none 0 0, v9, v16, v13] v9 v13 v16 (.slice none 0 0) [] p) := ⟨hc1.upd U4 n13, hc2.upd U4 n23, D4, own_raise (own_upd (by rw [HNL.out]; exact O9) D3 U4 (by decide)) B2.size, own_raise (own_upd (by rw [HNJ.out]; exact O13) D3 U4 (by decide)) B2.size, OwnRows.raise (rows_upd O16 D3 U4 (by decide) (by decide)) B2.size, OwnRows.nil _ _ _ _ _ _⟩; clear U4 D4 D3 hc1 hc2 O9 O13 O16 BB)
  clear HBw h9 h13 h16
  have HF0 := HF
  have hb3w := hwb
  have q1 := KK.out.c1
  obtain ⟨q0, q1, q2, q3, q4⟩ := five KK.out.c1
  go_wp2_with fail
  go_loopw [4] (fun i wr => ∃ k : Nat, k ≤ nt ∧ i = .int .i64 k ∧ (∃ v, Hid (OwnRows wr w.heap.size 61 63 5 v op5L (p.threads.take k)) ∧ Hid (KT w wr b1 b2 b3 [.slice at' nt ct, .slice ar nr cr, .slice al nl cl, .slice ai ni ci, .slice aj nj cj] [v, .slice none 0 0, v9, v16, v13] v9 v13 v16 (.slice none 0 0) [] p)) ∧ Hid (Below w.heap.size w wr)) (fun i _ => nt - (intOf i).toNat)
  case atStart => exact ⟨0, Nat.zero_le _, rfl, ⟨_, (by show OwnRows _ _ _ _ _ _ _ _; rw [List.take_zero]; exact OwnRows.nil _ _ _ _ _ _), KK⟩, B4⟩
  case round =>
   obtain ⟨k, hk, rfl, ⟨vrow, HO, HK⟩, HB⟩ := hrel
   obtain ⟨WR, eWR⟩ : ∃ W, W = wr := ⟨_, rfl⟩
   subst eWR
   obtain ⟨q0, q1, q2, q3, q4⟩ := five HK.out.c1
   by_cases hlt : k < nt
   · have hki : (k : Int) < nt := by omega
     obtain ⟨l, hl⟩ : ∃ l, p.threads[k]? = some l := ⟨_, List.getElem?_eq_getElem (by rw [HNT.out]; exact hlt)⟩
     obtain ⟨b, o, ax, cx, rfl, hb, hc, hseg, hnil⟩ := (HTw.out.below HB.out).at k l hl
     have hll : l.length ≤ 1048576 := Nat.le_trans (by have := flat_at hl (Nat.le_refl _); rw [List.take_length, List.length_append] at this; omega) HF0.out.tt
     have HQ : Hid (p.threads.take (k + 1) = p.threads.take k ++ [l]) := take_at hl
     obtain ⟨ln, hln⟩ : ∃ n, l.length = n := ⟨_, rfl⟩
     have HLN : Hid (l.length = ln) := hln
     have HRV : Hid (RowV WR (.slice ax ln cx) ln (l.flatMap op5L)) := (by rw [← hln]; exact ⟨ax, cx, rfl, hseg, hnil⟩)
     obtain ⟨vs, ho1, ho2, ho3⟩ := HO.out
     have hkl : (p.threads.take k).length = k := by rw [List.length_take, HNT.out]; omega
     rw [hkl] at ho1 ho2
     obtain ⟨av, cv, hv⟩ := own_form ho2
     subst hv
     have H1x : Hid (vs.length = k) := ho1
     have H2 : Hid (WR.ownsRow w.heap.size 61 1 (.slice av k cv) k vs) := ho2
     have H3 : Hid (∀ (j : Nat) u xs, vs[j]? = some u → (p.threads.take k)[j]? = some xs → WR.ownsRow w.heap.size 63 5 u xs.length (xs.flatMap op5L)) := ho3
     have HKL : Hid ((p.threads.take k).length = k) := hkl
     rw [hln] at hc hll
     clear hl hseg hnil ho1 ho2 ho3 hkl hln HO
     go_wp2_with fail
     clear q0 q1 q2 q3 q4
     refine region_invA 10 (fun a0 listed a' w' => ∃ x25 x26 x27 x28 x29 x30 x31 x32 x33 x34 : Value, a' = ((((((((((a0.put (some 25) x25).put (some 26) x26).put (some 27) x27).put (some 28) x28).put (some 29) x29).put (some 30) x30).put (some 31) x31).put (some 32) x32).put (some 33) x33).put (some 34) x34) ∧ Hid (Below WR.heap.size WR w') ∧ (listed.getD 0 false = true → x25 = .pointer (some ⟨b3, 0, none⟩)) ∧ (listed.getD 1 false = true → x26 = .slice av k cv) ∧ (listed.getD 2 false = true → ∃ b, x27 = .slice (some ⟨b, 0, none⟩) 0 0 ∧ w'.ownsRow WR.heap.size 63 5 x27 0 []) ∧ (listed.getD 3 false = true → x28 = .pointer (some ⟨b1, 0, none⟩)) ∧ (listed.getD 4 false = true → x29 = .slice (some ⟨b, o, none⟩) nt ct) ∧ (listed.getD 5 false = true → x30 = .int .i64 (k : Int)) ∧ (listed.getD 6 false = true → x31 = .pointer (some ⟨b, o + k, none⟩)) ∧ (listed.getD 7 false = true → x32 = .slice ax ln cx) ∧ (listed.getD 8 false = true → w'.ownsRow WR.heap.size 63 5 x33 ln (l.flatMap op5L)) ∧ (listed.getD 9 false = true → ∃ u b, x34 = .slice (some ⟨b, 0, none⟩) 1 1 ∧ IsS w' b 61 [u] ∧ w'.ownsRow WR.heap.size 63 5 u ln (l.flatMap op5L))) (by kernel_rfl) (by kernel_rfl) ?i0a ?istepa ?ienda
     case i0a => exact ⟨u25, u26, u27, u28, u29, u30, u31, u32, u33, u34, by (try simp only [sP]) <;> rfl, below_drew bR, fun h => (not_rep h).elim, fun h => (not_rep h).elim, fun h => (not_rep h).elim, fun h => (not_rep h).elim, fun h => (not_rep h).elim, fun h => (not_rep h).elim, fun h => (not_rep h).elim, fun h => (not_rep h).elim, fun h => (not_rep h).elim, fun h => (not_rep h).elim⟩
     case istepa =>
      rintro i listed a' w' hi hr ⟨x25, x26, x27, x28, x29, x30, x31, x32, x33, x34, rfl, HBw, d0, d1, d2, d3, d4, d5, d6, d7, d8, d9⟩
      obtain ⟨hun, oj, hoj, hwt⟩ := mem_ready.1 hr
      simp only [sP]
      have hcase : i = 0 ∨ i = 1 ∨ i = 2 ∨ i = 3 ∨ i = 4 ∨ i = 5 ∨ i = 6 ∨ i = 7 ∨ i = 8 ∨ i = 9 := by omega
      rcases hcase with rfl | rfl | rfl | rfl | rfl | rfl | rfl | rfl | rfl | rfl
      · have hoj2 := hoj
        obtain rfl := oI hoj
        refine wpOp_value hoj2 rfl (v := .pointer (some ⟨b3, 0, none⟩)) (w' := w') (by first | rfl | (go_simp; done) | (simp [go_sem]; done) | (simp [execOp, go_sem]; done)) ?_
        exact ⟨.pointer (some ⟨b3, 0, none⟩), x26, x27, x28, x29, x30, x31, x32, x33, x34, by (try simp only [sP]) <;> rfl, Below.then HBw.out bR, fun _ => rfl, d1 ∘ kq, fun h => eE (d2 (kp h)) fun b h => ⟨b, h.1, own_below h.2 bR⟩, d3 ∘ kq, d4 ∘ kq, d5 ∘ kq, d6 ∘ kq, d7 ∘ kq, fun h => own_below (d8 (kp h)) bR, fun h => (by obtain ⟨u0, b0, h1, h2, h3⟩ := (d9 (kp h)); exact ⟨u0, b0, h1, h2.grown bR, own_below h3 bR⟩)⟩
      · have hoj2 := hoj
        obtain rfl := oI hoj
        have e0 := d0 (hwt ⟨0, .data⟩ (by simp) rfl)
        subst e0
        have kk := HK.out.below HBw.out
        refine wpOp_value hoj2 rfl (v := .slice av k cv) (w' := w') (by exact rd1 kk.c3 rfl rfl rfl (fun w h => ld41 w h)) ?_
        exact ⟨.pointer (some ⟨b3, 0, none⟩), .slice av k cv, x27, x28, x29, x30, x31, x32, x33, x34, by (try simp only [sP]) <;> rfl, Below.then HBw.out bR, d0 ∘ kq, fun _ => rfl, fun h => eE (d2 (kp h)) fun b h => ⟨b, h.1, own_below h.2 bR⟩, d3 ∘ kq, d4 ∘ kq, d5 ∘ kq, d6 ∘ kq, d7 ∘ kq, fun h => own_below (d8 (kp h)) bR, fun h => (by obtain ⟨u0, b0, h1, h2, h3⟩ := (d9 (kp h)); exact ⟨u0, b0, h1, h2.grown bR, own_below h3 bR⟩)⟩
      · have hoj2 := hoj
        obtain rfl := oI hoj
        refine wpOp_value hoj2 rfl (exec_build0 eOp rfl) ?_
        have B' : Below w'.heap.size w' (w'.alloc (.cells #[] 63)) := (Fresh.alloc w' (.cells #[] 63)).trans bR (Nat.le_refl _)
        have O' := own_raise (own_build0 eOp w') HBw.out.size
        exact ⟨x25, x26, .slice (some ⟨w'.heap.size, 0, none⟩) 0 0, x28, x29, x30, x31, x32, x33, x34, by (try simp only [sP]) <;> rfl, Below.then HBw.out B', d0 ∘ kq, d1 ∘ kq, fun _ => ⟨_, rfl, O'⟩, d3 ∘ kq, d4 ∘ kq, d5 ∘ kq, d6 ∘ kq, d7 ∘ kq, fun h => own_below (d8 (kp h)) B', fun h => (by obtain ⟨u0, b0, h1, h2, h3⟩ := (d9 (kp h)); exact ⟨u0, b0, h1, h2.grown B', own_below h3 B'⟩)⟩
      · have hoj2 := hoj
        obtain rfl := oI hoj
        refine wpOp_value hoj2 rfl (v := .pointer (some ⟨b1, 0, none⟩)) (w' := w') (by first | rfl | (go_simp; done) | (simp [go_sem]; done) | (simp [execOp, go_sem]; done)) ?_
        exact ⟨x25, x26, x27, .pointer (some ⟨b1, 0, none⟩), x29, x30, x31, x32, x33, x34, by (try simp only [sP]) <;> rfl, Below.then HBw.out bR, d0 ∘ kq, d1 ∘ kq, fun h => eE (d2 (kp h)) fun b h => ⟨b, h.1, own_below h.2 bR⟩, fun _ => rfl, d4 ∘ kq, d5 ∘ kq, d6 ∘ kq, d7 ∘ kq, fun h => own_below (d8 (kp h)) bR, fun h => (by obtain ⟨u0, b0, h1, h2, h3⟩ := (d9 (kp h)); exact ⟨u0, b0, h1, h2.grown bR, own_below h3 bR⟩)⟩
      · have hoj2 := hoj
        obtain rfl := oI hoj
        have e3 := d3 (hwt ⟨3, .data⟩ (by simp) rfl)
        subst e3
        have kk := HK.out.below HBw.out
        refine wpOp_value hoj2 rfl (v := .slice (some ⟨b, o, none⟩) nt ct) (w' := w') (by exact rd1 kk.c1 rfl rfl rfl (fun w h => ld41 w h)) ?_
        exact ⟨x25, x26, x27, .pointer (some ⟨b1, 0, none⟩), .slice (some ⟨b, o, none⟩) nt ct, x30, x31, x32, x33, x34, by (try simp only [sP]) <;> rfl, Below.then HBw.out bR, d0 ∘ kq, d1 ∘ kq, fun h => eE (d2 (kp h)) fun b h => ⟨b, h.1, own_below h.2 bR⟩, d3 ∘ kq, fun _ => rfl, d5 ∘ kq, d6 ∘ kq, d7 ∘ kq, fun h => own_below (d8 (kp h)) bR, fun h => (by obtain ⟨u0, b0, h1, h2, h3⟩ := (d9 (kp h)); exact ⟨u0, b0, h1, h2.grown bR, own_below h3 bR⟩)⟩
      · have hoj2 := hoj
        obtain rfl := oI hoj
        refine wpOp_value hoj2 rfl (v := .int .i64 (k : Int)) (w' := w') (by first | rfl | (go_simp; done) | (simp [go_sem]; done) | (simp [execOp, go_sem]; done)) ?_
        exact ⟨x25, x26, x27, x28, x29, .int .i64 (k : Int), x31, x32, x33, x34, by (try simp only [sP]) <;> rfl, Below.then HBw.out bR, d0 ∘ kq, d1 ∘ kq, fun h => eE (d2 (kp h)) fun b h => ⟨b, h.1, own_below h.2 bR⟩, d3 ∘ kq, d4 ∘ kq, fun _ => rfl, d6 ∘ kq, d7 ∘ kq, fun h => own_below (d8 (kp h)) bR, fun h => (by obtain ⟨u0, b0, h1, h2, h3⟩ := (d9 (kp h)); exact ⟨u0, b0, h1, h2.grown bR, own_below h3 bR⟩)⟩
      · have hoj2 := hoj
        obtain rfl := oI hoj
        have e4 := d4 (hwt ⟨4, .data⟩ (by simp) rfl)
        have e5 := d5 (hwt ⟨5, .data⟩ (by simp) rfl)
        subst e4
        subst e5
        refine wpOp_value hoj2 rfl (v := .pointer (some ⟨b, o + k, none⟩)) (w' := w') (by first | rfl | (go_simp; done) | (simp [go_sem]; done) | (simp [execOp, go_sem]; done)) ?_
        exact ⟨x25, x26, x27, x28, .slice (some ⟨b, o, none⟩) nt ct, .int .i64 (k : Int), .pointer (some ⟨b, o + k, none⟩), x32, x33, x34, by (try simp only [sP]) <;> rfl, Below.then HBw.out bR, d0 ∘ kq, d1 ∘ kq, fun h => eE (d2 (kp h)) fun b h => ⟨b, h.1, own_below h.2 bR⟩, d3 ∘ kq, d4 ∘ kq, d5 ∘ kq, fun _ => rfl, d7 ∘ kq, fun h => own_below (d8 (kp h)) bR, fun h => (by obtain ⟨u0, b0, h1, h2, h3⟩ := (d9 (kp h)); exact ⟨u0, b0, h1, h2.grown bR, own_below h3 bR⟩)⟩
      · have hoj2 := hoj
        obtain rfl := oI hoj
        have e6 := d6 (hwt ⟨6, .data⟩ (by simp) rfl)
        subst e6
        have hcw : w'.cell? ⟨b, o + k, none⟩ = some (.slice ax ln cx) := by rw [HBw.out.cell (p := ⟨b, o + k, none⟩) hb]; exact hc
        refine wpOp_value hoj2 rfl (v := .slice ax ln cx) (w' := w') (by exact rdc hcw rfl rfl (fun w h => ld54 w h)) ?_
        exact ⟨x25, x26, x27, x28, x29, x30, .pointer (some ⟨b, o + k, none⟩), .slice ax ln cx, x33, x34, by (try simp only [sP]) <;> rfl, Below.then HBw.out bR, d0 ∘ kq, d1 ∘ kq, fun h => eE (d2 (kp h)) fun b h => ⟨b, h.1, own_below h.2 bR⟩, d3 ∘ kq, d4 ∘ kq, d5 ∘ kq, d6 ∘ kq, fun _ => rfl, fun h => own_below (d8 (kp h)) bR, fun h => (by obtain ⟨u0, b0, h1, h2, h3⟩ := (d9 (kp h)); exact ⟨u0, b0, h1, h2.grown bR, own_below h3 bR⟩)⟩
      · have hoj2 := hoj
        obtain rfl := oI hoj
        have e2 := d2 (hwt ⟨2, .data⟩ (by simp) rfl)
        have e7 := d7 (hwt ⟨7, .data⟩ (by simp) rfl)
        obtain ⟨be, hbe, e2⟩ := e2
        subst hbe
        subst e7
        obtain ⟨v', W', hrun, O', B'⟩ := run_app0 eOp WR.heap.size be e2 _ ln (l.flatMap op5L) (HRV.out.below HBw.out) (by rw [op_len, HLN.out]) (ops_one l) (by omega) HBw.out.size _
        refine wpOp_value hoj2 rfl (exec_app _ _ rfl rfl rfl hrun) ?_
        exact ⟨x25, x26, .slice (some ⟨be, 0, none⟩) 0 0, x28, x29, x30, x31, .slice ax ln cx, v', x34, by (try simp only [sP]) <;> rfl, Below.then HBw.out B', d0 ∘ kq, d1 ∘ kq, fun h => eE (d2 (kp h)) fun b h => ⟨b, h.1, own_below h.2 B'⟩, d3 ∘ kq, d4 ∘ kq, d5 ∘ kq, d6 ∘ kq, d7 ∘ kq, fun _ => O', fun h => (by obtain ⟨u0, b0, h1, h2, h3⟩ := (d9 (kp h)); exact ⟨u0, b0, h1, h2.grown B', own_below h3 B'⟩)⟩
      · have hoj2 := hoj
        obtain rfl := oI hoj
        have e8 := d8 (hwt ⟨8, .data⟩ (by simp) rfl)
        refine wpOp_value hoj2 rfl (exec_build1 eOps _ rfl x33 rfl (own_cell e8)) ?_
        have B' : Below w'.heap.size w' (w'.alloc (.cells #[x33] 61)) := (Fresh.alloc w' (.cells #[x33] 61)).trans bR (Nat.le_refl _)
        exact ⟨x25, x26, x27, x28, x29, x30, x31, x32, x33, .slice (some ⟨w'.heap.size, 0, none⟩) 1 1, by (try simp only [sP]) <;> rfl, Below.then HBw.out B', d0 ∘ kq, d1 ∘ kq, fun h => eE (d2 (kp h)) fun b h => ⟨b, h.1, own_below h.2 B'⟩, d3 ∘ kq, d4 ∘ kq, d5 ∘ kq, d6 ∘ kq, d7 ∘ kq, fun h => own_below (d8 (kp h)) B', fun _ => ⟨_, _, rfl, IsS.new w' 61 [x33], own_below e8 B'⟩⟩
     case ienda =>
      rintro a' w' ⟨x25, x26, x27, x28, x29, x30, x31, x32, x33, x34, rfl, HBw, d0, d1, d2, d3, d4, d5, d6, d7, d8, d9⟩
      replace d0 := d0 rfl
      replace d1 := d1 rfl
      replace d2 := d2 rfl
      replace d3 := d3 rfl
      replace d4 := d4 rfl
      replace d5 := d5 rfl
      replace d6 := d6 rfl
      replace d7 := d7 rfl
      replace d8 := d8 rfl
      replace d9 := d9 rfl
      simp only [sP]
      simp only [List.drop_succ_cons, List.drop_zero]
      subst d1
      obtain ⟨u, bu, hx9, hIu, hOu⟩ := d9
      subst hx9
      clear d0 d2 d3 d4 d5 d6 d7 d8
      have kk := HK.out.below HBw.out
      have P5' := own_below H2.out HBw.out
      have B5 := Below.then HB.out HBw.out
      have u1 := own_cell hOu
      have O5 := own_raise hOu HB.out.size
      have t5 : True := trivial
      have t6 : True := trivial
      go_wp2_with (first
       | (clear t5; at_builtin; refine wpList_appM eOps rfl _ _ rfl w.heap.size _ k vs rfl P5' _ 1 [u] rfl (row_isS hIu) rfl (by simp only [List.mem_singleton]; rintro x rfl; exact u1) (by omega) B5.size ?_; intro v6 W6 O6 G6; have B6 := grown_below B5 B5.size P5' G6; have K6 := KT.grow1 kk P5' G6; have h6 := own_cell O6)
       | (clear t6; refine wpList_store1 rfl 22 _ _ rfl rfl v6 rfl K6.c3 (by simp) info41 h6 ?_; intro W7 U7 D7; have B7 := U7.trans B6 hb3w))
      have HF : Hid (OwnRows W7 w.heap.size 61 63 5 v6 op5L (p.threads.take (k + 1))) := (by
       show OwnRows _ _ _ _ _ _ _ _
       rw [HQ.out]
       refine rows_upd (OwnRows.snoc (vs := vs) (u := u) (by rw [HKL.out]; exact H1x.out) (by rw [HKL.out]; exact P5') (fun j u xs hu hx => own_below (H3.out j u xs hu hx) HBw.out) (by rw [HLN.out]; exact O5) (by rw [HKL.out]; exact O6) G6 (by decide)) K6.c3 U7 (by decide) (by decide))
      have HK7 : Hid (KT w W7 b1 b2 b3 [.slice (some ⟨b, o, none⟩) nt ct, .slice ar nr cr, .slice al nl cl, .slice ai ni ci, .slice aj nj cj] [v6, .slice none 0 0, v9, v16, v13] v9 v13 v16 (.slice none 0 0) [] p) := K6.store U7 D7 n13 n23
      clear G6 O6 P5' hOu hIu K6 U7 D7 kk O5
      go_wp2_with fail
      go_roundw
      case rel => exact ⟨k + 1, by omega, by go_num, ⟨v6, HF, HK7⟩, B7⟩
      case measure => simp [intOf]; omega
   · have hki : ¬ (k : Int) < nt := by omega
     have HOF : Hid (OwnRows WR w.heap.size 61 63 5 vrow op5L p.threads) := (by have := HO.out; rw [show k = p.threads.length by rw [HNT.out]; omega, List.take_length] at this; exact this)
     clear HO
     obtain ⟨vt1, hvt1⟩ : ∃ v, v = vrow := ⟨_, rfl⟩
     subst hvt1
     have HK1 : Hid (KT w WR b1 b2 b3 [.slice at' nt ct, .slice ar nr cr, .slice al nl cl, .slice ai ni ci, .slice aj nj cj] [vt1, .slice none 0 0, v9, v16, v13] v9 v13 v16 vt1 p.threads p) := ⟨HK.out.c1, HK.out.c2, HK.out.c3, HK.out.hl, HK.out.hj, HK.out.hi, HOF.out⟩
     clear HK HOF
     go_wp2_with fail
     go_loopw [5] (fun i wr => ∃ k : Nat, k ≤ nr ∧ i = .int .i64 k ∧ (∃ v, Hid (OwnRows wr w.heap.size 24 9 1 v strE (p.regs.take k)) ∧ Hid (KT w wr b1 b2 b3 [.slice at' nt ct, .slice ar nr cr, .slice al nl cl, .slice ai ni ci, .slice aj nj cj] [vt1, v, v9, v16, v13] v9 v13 v16 vt1 p.threads p)) ∧ Hid (Below w.heap.size w wr)) (fun i _ => nr - (intOf i).toNat)
     case atStart => exact ⟨0, Nat.zero_le _, rfl, ⟨_, (by show OwnRows _ _ _ _ _ _ _ _; rw [List.take_zero]; exact OwnRows.nil _ _ _ _ _ _), HK1⟩, HB⟩
     case round =>
      obtain ⟨k, hk, rfl, ⟨vrow, HO, HK⟩, HB⟩ := hrel
      obtain ⟨WR, eWR⟩ : ∃ W, W = wr := ⟨_, rfl⟩
      subst eWR
      obtain ⟨q0, q1, q2, q3, q4⟩ := five HK.out.c1
      by_cases hlt : k < nr
      · have hki : (k : Int) < nr := by omega
        obtain ⟨l, hl⟩ : ∃ l, p.regs[k]? = some l := ⟨_, List.getElem?_eq_getElem (by rw [HNR.out]; exact hlt)⟩
        obtain ⟨b, o, ax, cx, rfl, hb, hc, hseg, hnil⟩ := (HRw.out.below HB.out).at k l hl
        have hll : l.length ≤ 1048576 := Nat.le_trans (by have := flat_at hl (Nat.le_refl _); rw [List.take_length, List.length_append] at this; omega) HF0.out.rr
        have HQ : Hid (p.regs.take (k + 1) = p.regs.take k ++ [l]) := take_at hl
        obtain ⟨ln, hln⟩ : ∃ n, l.length = n := ⟨_, rfl⟩
        have HLN : Hid (l.length = ln) := hln
        have HRV : Hid (RowV WR (.slice ax ln cx) ln (l.flatMap strE)) := (by rw [← hln]; exact ⟨ax, cx, rfl, hseg, hnil⟩)
        obtain ⟨vs, ho1, ho2, ho3⟩ := HO.out
        have hkl : (p.regs.take k).length = k := by rw [List.length_take, HNR.out]; omega
        rw [hkl] at ho1 ho2
        obtain ⟨av, cv, hv⟩ := own_form ho2
        subst hv
        have H1x : Hid (vs.length = k) := ho1
        have H2 : Hid (WR.ownsRow w.heap.size 24 1 (.slice av k cv) k vs) := ho2
        have H3 : Hid (∀ (j : Nat) u xs, vs[j]? = some u → (p.regs.take k)[j]? = some xs → WR.ownsRow w.heap.size 9 1 u xs.length (xs.flatMap strE)) := ho3
        have HKL : Hid ((p.regs.take k).length = k) := hkl
        rw [hln] at hc hll
        clear hl hseg hnil ho1 ho2 ho3 hkl hln HO
        go_wp2_with fail
        clear q0 q1 q2 q3 q4
        refine region_invA 10 (fun a0 listed a' w' => ∃ x44 x45 x46 x47 x48 x49 x50 x51 x52 x53 : Value, a' = ((((((((((a0.put (some 44) x44).put (some 45) x45).put (some 46) x46).put (some 47) x47).put (some 48) x48).put (some 49) x49).put (some 50) x50).put (some 51) x51).put (some 52) x52).put (some 53) x53) ∧ Hid (Below WR.heap.size WR w') ∧ (listed.getD 0 false = true → x44 = .pointer (some ⟨b3, 1, none⟩)) ∧ (listed.getD 1 false = true → x45 = .slice av k cv) ∧ (listed.getD 2 false = true → ∃ b, x46 = .slice (some ⟨b, 0, none⟩) 0 0 ∧ w'.ownsRow WR.heap.size 9 1 x46 0 []) ∧ (listed.getD 3 false = true → x47 = .pointer (some ⟨b1, 1, none⟩)) ∧ (listed.getD 4 false = true → x48 = .slice (some ⟨b, o, none⟩) nr cr) ∧ (listed.getD 5 false = true → x49 = .int .i64 (k : Int)) ∧ (listed.getD 6 false = true → x50 = .pointer (some ⟨b, o + k, none⟩)) ∧ (listed.getD 7 false = true → x51 = .slice ax ln cx) ∧ (listed.getD 8 false = true → w'.ownsRow WR.heap.size 9 1 x52 ln (l.flatMap strE)) ∧ (listed.getD 9 false = true → ∃ u b, x53 = .slice (some ⟨b, 0, none⟩) 1 1 ∧ IsS w' b 24 [u] ∧ w'.ownsRow WR.heap.size 9 1 u ln (l.flatMap strE))) (by kernel_rfl) (by kernel_rfl) ?i0b ?istepb ?iendb
        case i0b => exact ⟨u44, u45, u46, u47, u48, u49, u50, u51, u52, u53, by (try simp only [sP]) <;> rfl, below_drew bR, fun h => (not_rep h).elim, fun h => (not_rep h).elim, fun h => (not_rep h).elim, fun h => (not_rep h).elim, fun h => (not_rep h).elim, fun h => (not_rep h).elim, fun h => (not_rep h).elim, fun h => (not_rep h).elim, fun h => (not_rep h).elim, fun h => (not_rep h).elim⟩
        case istepb =>
         rintro i listed a' w' hi hr ⟨x44, x45, x46, x47, x48, x49, x50, x51, x52, x53, rfl, HBw, d0, d1, d2, d3, d4, d5, d6, d7, d8, d9⟩
         obtain ⟨hun, oj, hoj, hwt⟩ := mem_ready.1 hr
         simp only [sP]
         have hcase : i = 0 ∨ i = 1 ∨ i = 2 ∨ i = 3 ∨ i = 4 ∨ i = 5 ∨ i = 6 ∨ i = 7 ∨ i = 8 ∨ i = 9 := by omega
         rcases hcase with rfl | rfl | rfl | rfl | rfl | rfl | rfl | rfl | rfl | rfl
         · have hoj2 := hoj
           obtain rfl := oI hoj
           refine wpOp_value hoj2 rfl (v := .pointer (some ⟨b3, 1, none⟩)) (w' := w') (by first | rfl | (go_simp; done) | (simp [go_sem]; done) | (simp [execOp, go_sem]; done)) ?_
           exact ⟨.pointer (some ⟨b3, 1, none⟩), x45, x46, x47, x48, x49, x50, x51, x52, x53, by (try simp only [sP]) <;> rfl, Below.then HBw.out bR, fun _ => rfl, d1 ∘ kq, fun h => eE (d2 (kp h)) fun b h => ⟨b, h.1, own_below h.2 bR⟩, d3 ∘ kq, d4 ∘ kq, d5 ∘ kq, d6 ∘ kq, d7 ∘ kq, fun h => own_below (d8 (kp h)) bR, fun h => (by obtain ⟨u0, b0, h1, h2, h3⟩ := (d9 (kp h)); exact ⟨u0, b0, h1, h2.grown bR, own_below h3 bR⟩)⟩
         · have hoj2 := hoj
           obtain rfl := oI hoj
           have e0 := d0 (hwt ⟨0, .data⟩ (by simp) rfl)
           subst e0
           have kk := HK.out.below HBw.out
           refine wpOp_value hoj2 rfl (v := .slice av k cv) (w' := w') (by exact rd1 kk.c3 rfl rfl rfl (fun w h => ld42 w h)) ?_
           exact ⟨.pointer (some ⟨b3, 1, none⟩), .slice av k cv, x46, x47, x48, x49, x50, x51, x52, x53, by (try simp only [sP]) <;> rfl, Below.then HBw.out bR, d0 ∘ kq, fun _ => rfl, fun h => eE (d2 (kp h)) fun b h => ⟨b, h.1, own_below h.2 bR⟩, d3 ∘ kq, d4 ∘ kq, d5 ∘ kq, d6 ∘ kq, d7 ∘ kq, fun h => own_below (d8 (kp h)) bR, fun h => (by obtain ⟨u0, b0, h1, h2, h3⟩ := (d9 (kp h)); exact ⟨u0, b0, h1, h2.grown bR, own_below h3 bR⟩)⟩
         · have hoj2 := hoj
           obtain rfl := oI hoj
           refine wpOp_value hoj2 rfl (exec_build0 eStr rfl) ?_
           have B' : Below w'.heap.size w' (w'.alloc (.cells #[] 9)) := (Fresh.alloc w' (.cells #[] 9)).trans bR (Nat.le_refl _)
           have O' := own_raise (own_build0 eStr w') HBw.out.size
           exact ⟨x44, x45, .slice (some ⟨w'.heap.size, 0, none⟩) 0 0, x47, x48, x49, x50, x51, x52, x53, by (try simp only [sP]) <;> rfl, Below.then HBw.out B', d0 ∘ kq, d1 ∘ kq, fun _ => ⟨_, rfl, O'⟩, d3 ∘ kq, d4 ∘ kq, d5 ∘ kq, d6 ∘ kq, d7 ∘ kq, fun h => own_below (d8 (kp h)) B', fun h => (by obtain ⟨u0, b0, h1, h2, h3⟩ := (d9 (kp h)); exact ⟨u0, b0, h1, h2.grown B', own_below h3 B'⟩)⟩
         · have hoj2 := hoj
           obtain rfl := oI hoj
           refine wpOp_value hoj2 rfl (v := .pointer (some ⟨b1, 1, none⟩)) (w' := w') (by first | rfl | (go_simp; done) | (simp [go_sem]; done) | (simp [execOp, go_sem]; done)) ?_
           exact ⟨x44, x45, x46, .pointer (some ⟨b1, 1, none⟩), x48, x49, x50, x51, x52, x53, by (try simp only [sP]) <;> rfl, Below.then HBw.out bR, d0 ∘ kq, d1 ∘ kq, fun h => eE (d2 (kp h)) fun b h => ⟨b, h.1, own_below h.2 bR⟩, fun _ => rfl, d4 ∘ kq, d5 ∘ kq, d6 ∘ kq, d7 ∘ kq, fun h => own_below (d8 (kp h)) bR, fun h => (by obtain ⟨u0, b0, h1, h2, h3⟩ := (d9 (kp h)); exact ⟨u0, b0, h1, h2.grown bR, own_below h3 bR⟩)⟩
         · have hoj2 := hoj
           obtain rfl := oI hoj
           have e3 := d3 (hwt ⟨3, .data⟩ (by simp) rfl)
           subst e3
           have kk := HK.out.below HBw.out
           refine wpOp_value hoj2 rfl (v := .slice (some ⟨b, o, none⟩) nr cr) (w' := w') (by exact rd1 kk.c1 rfl rfl rfl (fun w h => ld42 w h)) ?_
           exact ⟨x44, x45, x46, .pointer (some ⟨b1, 1, none⟩), .slice (some ⟨b, o, none⟩) nr cr, x49, x50, x51, x52, x53, by (try simp only [sP]) <;> rfl, Below.then HBw.out bR, d0 ∘ kq, d1 ∘ kq, fun h => eE (d2 (kp h)) fun b h => ⟨b, h.1, own_below h.2 bR⟩, d3 ∘ kq, fun _ => rfl, d5 ∘ kq, d6 ∘ kq, d7 ∘ kq, fun h => own_below (d8 (kp h)) bR, fun h => (by obtain ⟨u0, b0, h1, h2, h3⟩ := (d9 (kp h)); exact ⟨u0, b0, h1, h2.grown bR, own_below h3 bR⟩)⟩
         · have hoj2 := hoj
           obtain rfl := oI hoj
           refine wpOp_value hoj2 rfl (v := .int .i64 (k : Int)) (w' := w') (by first | rfl | (go_simp; done) | (simp [go_sem]; done) | (simp [execOp, go_sem]; done)) ?_
           exact ⟨x44, x45, x46, x47, x48, .int .i64 (k : Int), x50, x51, x52, x53, by (try simp only [sP]) <;> rfl, Below.then HBw.out bR, d0 ∘ kq, d1 ∘ kq, fun h => eE (d2 (kp h)) fun b h => ⟨b, h.1, own_below h.2 bR⟩, d3 ∘ kq, d4 ∘ kq, fun _ => rfl, d6 ∘ kq, d7 ∘ kq, fun h => own_below (d8 (kp h)) bR, fun h => (by obtain ⟨u0, b0, h1, h2, h3⟩ := (d9 (kp h)); exact ⟨u0, b0, h1, h2.grown bR, own_below h3 bR⟩)⟩
         · have hoj2 := hoj
           obtain rfl := oI hoj
           have e4 := d4 (hwt ⟨4, .data⟩ (by simp) rfl)
           have e5 := d5 (hwt ⟨5, .data⟩ (by simp) rfl)
           subst e4
           subst e5
           refine wpOp_value hoj2 rfl (v := .pointer (some ⟨b, o + k, none⟩)) (w' := w') (by first | rfl | (go_simp; done) | (simp [go_sem]; done) | (simp [execOp, go_sem]; done)) ?_
           exact ⟨x44, x45, x46, x47, .slice (some ⟨b, o, none⟩) nr cr, .int .i64 (k : Int), .pointer (some ⟨b, o + k, none⟩), x51, x52, x53, by (try simp only [sP]) <;> rfl, Below.then HBw.out bR, d0 ∘ kq, d1 ∘ kq, fun h => eE (d2 (kp h)) fun b h => ⟨b, h.1, own_below h.2 bR⟩, d3 ∘ kq, d4 ∘ kq, d5 ∘ kq, fun _ => rfl, d7 ∘ kq, fun h => own_below (d8 (kp h)) bR, fun h => (by obtain ⟨u0, b0, h1, h2, h3⟩ := (d9 (kp h)); exact ⟨u0, b0, h1, h2.grown bR, own_below h3 bR⟩)⟩
         · have hoj2 := hoj
           obtain rfl := oI hoj
           have e6 := d6 (hwt ⟨6, .data⟩ (by simp) rfl)
           subst e6
           have hcw : w'.cell? ⟨b, o + k, none⟩ = some (.slice ax ln cx) := by rw [HBw.out.cell (p := ⟨b, o + k, none⟩) hb]; exact hc
           refine wpOp_value hoj2 rfl (v := .slice ax ln cx) (w' := w') (by exact rdc hcw rfl rfl (fun w h => ld43 w h)) ?_
           exact ⟨x44, x45, x46, x47, x48, x49, .pointer (some ⟨b, o + k, none⟩), .slice ax ln cx, x52, x53, by (try simp only [sP]) <;> rfl, Below.then HBw.out bR, d0 ∘ kq, d1 ∘ kq, fun h => eE (d2 (kp h)) fun b h => ⟨b, h.1, own_below h.2 bR⟩, d3 ∘ kq, d4 ∘ kq, d5 ∘ kq, d6 ∘ kq, fun _ => rfl, fun h => own_below (d8 (kp h)) bR, fun h => (by obtain ⟨u0, b0, h1, h2, h3⟩ := (d9 (kp h)); exact ⟨u0, b0, h1, h2.grown bR, own_below h3 bR⟩)⟩
         · have hoj2 := hoj
           obtain rfl := oI hoj
           have e2 := d2 (hwt ⟨2, .data⟩ (by simp) rfl)
           have e7 := d7 (hwt ⟨7, .data⟩ (by simp) rfl)
           obtain ⟨be, hbe, e2⟩ := e2
           subst hbe
           subst e7
           obtain ⟨v', W', hrun, O', B'⟩ := run_app0 eStr WR.heap.size be e2 _ ln (l.flatMap strE) (HRV.out.below HBw.out) (by rw [str_len, HLN.out]) (str_one l) (by omega) HBw.out.size _
           refine wpOp_value hoj2 rfl (exec_app _ _ rfl rfl rfl hrun) ?_
           exact ⟨x44, x45, .slice (some ⟨be, 0, none⟩) 0 0, x47, x48, x49, x50, .slice ax ln cx, v', x53, by (try simp only [sP]) <;> rfl, Below.then HBw.out B', d0 ∘ kq, d1 ∘ kq, fun h => eE (d2 (kp h)) fun b h => ⟨b, h.1, own_below h.2 B'⟩, d3 ∘ kq, d4 ∘ kq, d5 ∘ kq, d6 ∘ kq, d7 ∘ kq, fun _ => O', fun h => (by obtain ⟨u0, b0, h1, h2, h3⟩ := (d9 (kp h)); exact ⟨u0, b0, h1, h2.grown B', own_below h3 B'⟩)⟩
         · have hoj2 := hoj
           obtain rfl := oI hoj
           have e8 := d8 (hwt ⟨8, .data⟩ (by simp) rfl)
           refine wpOp_value hoj2 rfl (exec_build1 eStrs _ rfl x52 rfl (own_cell e8)) ?_
           have B' : Below w'.heap.size w' (w'.alloc (.cells #[x52] 24)) := (Fresh.alloc w' (.cells #[x52] 24)).trans bR (Nat.le_refl _)
           exact ⟨x44, x45, x46, x47, x48, x49, x50, x51, x52, .slice (some ⟨w'.heap.size, 0, none⟩) 1 1, by (try simp only [sP]) <;> rfl, Below.then HBw.out B', d0 ∘ kq, d1 ∘ kq, fun h => eE (d2 (kp h)) fun b h => ⟨b, h.1, own_below h.2 B'⟩, d3 ∘ kq, d4 ∘ kq, d5 ∘ kq, d6 ∘ kq, d7 ∘ kq, fun h => own_below (d8 (kp h)) B', fun _ => ⟨_, _, rfl, IsS.new w' 24 [x52], own_below e8 B'⟩⟩
        case iendb =>
         rintro a' w' ⟨x44, x45, x46, x47, x48, x49, x50, x51, x52, x53, rfl, HBw, d0, d1, d2, d3, d4, d5, d6, d7, d8, d9⟩
         replace d0 := d0 rfl
         replace d1 := d1 rfl
         replace d2 := d2 rfl
         replace d3 := d3 rfl
         replace d4 := d4 rfl
         replace d5 := d5 rfl
         replace d6 := d6 rfl
         replace d7 := d7 rfl
         replace d8 := d8 rfl
         replace d9 := d9 rfl
         simp only [sP]
         simp only [List.drop_succ_cons, List.drop_zero]
         subst d1
         obtain ⟨u, bu, hx9, hIu, hOu⟩ := d9
         subst hx9
         clear d0 d2 d3 d4 d5 d6 d7 d8
         have kk := HK.out.below HBw.out
         have P5' := own_below H2.out HBw.out
         have B5 := Below.then HB.out HBw.out
         have u1 := own_cell hOu
         have O5 := own_raise hOu HB.out.size
         have t5 : True := trivial
         have t6 : True := trivial
         go_wp2_with (first
          | (clear t5; at_builtin; refine wpList_appM eStrs rfl _ _ rfl w.heap.size _ k vs rfl P5' _ 1 [u] rfl (row_isS hIu) rfl (by simp only [List.mem_singleton]; rintro x rfl; exact u1) (by omega) B5.size ?_; intro v6 W6 O6 G6; have B6 := grown_below B5 B5.size P5' G6; have K6 := KT.grow2 kk P5' G6; have h6 := own_cell O6)
          | (clear t6; refine wpList_store1 rfl 23 _ _ rfl rfl v6 rfl K6.c3 (by simp) info42 h6 ?_; intro W7 U7 D7; have B7 := U7.trans B6 hb3w))
         have HF : Hid (OwnRows W7 w.heap.size 24 9 1 v6 strE (p.regs.take (k + 1))) := (by
          show OwnRows _ _ _ _ _ _ _ _
          rw [HQ.out]
          refine rows_upd (OwnRows.snoc (vs := vs) (u := u) (by rw [HKL.out]; exact H1x.out) (by rw [HKL.out]; exact P5') (fun j u xs hu hx => own_below (H3.out j u xs hu hx) HBw.out) (by rw [HLN.out]; exact O5) (by rw [HKL.out]; exact O6) G6 (by decide)) K6.c3 U7 (by decide) (by decide))
         have HK7 : Hid (KT w W7 b1 b2 b3 [.slice at' nt ct, .slice (some ⟨b, o, none⟩) nr cr, .slice al nl cl, .slice ai ni ci, .slice aj nj cj] [vt1, v6, v9, v16, v13] v9 v13 v16 vt1 p.threads p) := K6.store U7 D7 n13 n23
         clear G6 O6 P5' hOu hIu K6 U7 D7 kk O5
         go_wp2_with fail
         go_roundw
         case rel => exact ⟨k + 1, by omega, by go_num, ⟨v6, HF, HK7⟩, B7⟩
         case measure => simp [intOf]; omega
      · have hki : ¬ (k : Int) < nr := by omega
        have HOF : Hid (OwnRows WR w.heap.size 24 9 1 vrow strE p.regs) := (by have := HO.out; rw [show k = p.regs.length by rw [HNR.out]; omega, List.take_length] at this; exact this)
        clear HO
        have k1 := HK.out
        have t7 : True := trivial
        have t8 : True := trivial
        have hb2w : w.heap.size ≤ b2 := hb2
        have h1 := own_cell k1.hl
        have h2 := own_cell k1.hj
        have h3 := OwnRows.cell k1.hi
        have h4 := OwnRows.cell k1.ot
        have h5 := OwnRows.cell HOF.out
        go_wp2_with (first
         | (clear t7; refine wpList_loadW rfl 28 _ rfl rfl k1.c3 _ Try.underlying28 rfl infoPg ?_)
         | (clear t8; refine wpList_storeW rfl 28 _ _ rfl rfl [vt1, vrow, v9, v16, v13] rfl k1.c2 rfl infoPg (one5 h4 h5 h1 h3 h2) ?_; intro W8 U8 D8; have B8 := U8.trans HB.out hb2w))
        refine ret_S (cs := [vt1, vrow, v9, v16, v13]) rfl rfl rfl D8 _ Try.underlying28 rfl infoPg ⟨⟨vt1, vrow, v9, v16, v13, rfl, ?_⟩, B8⟩
        exact ⟨rows_upd k1.ot k1.c2 U8 (by decide) (by decide), rows_upd HOF.out k1.c2 U8 (by decide) (by decide), own_upd k1.hl k1.c2 U8 (by decide), rows_upd k1.hi k1.c2 U8 (by decide) (by decide), own_upd k1.hj k1.c2 U8 (by decide)⟩
end Go.Proofs.Ytegpnicajlndlaa

/- RF2 -/
import Derived.Test.YtegpnicajlndlaaQau
namespace Go.Proofs.Ytegpnicajlndlaa
open Go.RowKit M
set_option linter.unusedSimpArgs false
set_option linter.unusedVariables false
set_option maxRecDepth 100000 in
set_option maxHeartbeats 4000000 in
theorem rfirstF_any (p : PG) (n : Nat) (hf : p.Few) (hn0 : p.threads.length = n) (vt vr vl vi vj : Value) (w : World) (hp : PGV w vt vr vl vi vj p) :
    Calls Try.prog 29 #[.agg #[vt, vr, vl, vi, vj]] w fun e w' => ∃ vpc vph vrg vmm vbf, e = .returned (.agg #[vpc, vph, vrg, vmm, vbf, .int .i64 (-1)]) ∧ (∀ V : World, (∀ k, w.heap.size ≤ k → k < w'.heap.size → V.heap[k]? = w'.heap[k]?) → RS V vpc vph vrg vmm vbf n (List.replicate n 0) p.regInit p.locInit) ∧ Below w.heap.size w w' := by
 have hn : n ≤ 1048576 := by rw [← hn0]; exact hf.t
 obtain ⟨at', ct, rfl⟩ := hp.t.form
 obtain ⟨ai, ci, rfl⟩ := hp.i.form
 have hjf := hf.j
 obtain ⟨aj, cj, rfl, hsj, hzj⟩ := hp.j
 have hC1 := fun W (h : RowsV W (.slice ai p.regInit.length ci) intE p.regInit) => rcopyA_any p.regInit hf.i hf.ii ai ci W h
 have HI : Hid (RowsV w (.slice ai p.regInit.length ci) intE p.regInit) := hp.i
 have HRV : Hid (RowV w (.slice aj p.locInit.length cj) p.locInit.length (p.locInit.flatMap intE)) := ⟨aj, cj, rfl, hsj, hzj⟩
 obtain ⟨ri, hri⟩ : ∃ r, p.regInit = r := ⟨_, rfl⟩
 obtain ⟨lj, hlj⟩ : ∃ r, p.locInit = r := ⟨_, rfl⟩
 rw [hri] at hC1 HI
 rw [hlj] at HRV hjf
 simp only [hri, hlj, hn0]
 obtain ⟨ni, hni⟩ : ∃ k, ri.length = k := ⟨_, rfl⟩
 obtain ⟨nj, hnj⟩ : ∃ k, lj.length = k := ⟨_, rfl⟩
 have HNI : Hid (ri.length = ni) := hni
 have HNJ : Hid (lj.length = nj) := hnj
 rw [hni] at hC1 HI
 rw [hnj] at HRV hjf
 simp only [hni, hnj]
 clear hp hsj hri hlj hni hnj hf hn0
 have hnI : (n : Int) ≤ 1048576 := by omega
 have t1 : True := trivial
 have t2 : True := trivial
 have t3 : True := trivial
 go_enter Try.func29, Try.ntmps29
 go_wp2_with (first
  | (clear t1; refine wpList_boxS rfl 28 _ rfl [.slice at' n ct, vr, vl, .slice ai ni ci, .slice aj nj cj] rfl ?_; intro W0 b1 F0 C0; have B0 := F_b F0)
  | (clear t2; refine wpList_allocS rfl 32 rfl [.slice none 0 0, .slice none 0 0, .slice none 0 0, .slice none 0 0, .slice none 0 0, .int .i64 0] zeroSt ?_; intro W1 b2 F1 D1; have C1 := C0.fresh F1; have B1 := F1.trans B0 B0.size; have hb2 : w.heap.size ≤ b2 := Nat.le_trans B0.size (Nat.le_of_eq F1.at'.symm); have n12 : b1 ≠ b2 := (by have := C0.lt; have := F1.at'; omega); have x0 : W1.cell? ⟨b1, 0, none⟩ = some (.slice at' n ct) := C1.cell 0; clear F0 F1 C0))
 clear x0
 refine region_invA 13 (fun a0 listed a' w' => ∃ x7 x8 x9 x10 x11 x12 x13 x14 x15 x16 x17 x18 x19 : Value, a' = (((((((((((((a0.put (some 7) x7).put (some 8) x8).put (some 9) x9).put (some 10) x10).put (some 11) x11).put (some 12) x12).put (some 13) x13).put (some 14) x14).put (some 15) x15).put (some 16) x16).put (some 17) x17).put (some 18) x18).put (some 19) x19) ∧ Hid (Below W1.heap.size W1 w') ∧ (listed.getD 0 false = true → x7 = (.int .i64 (n : Int))) ∧ (listed.getD 1 false = true → ∃ g, x8 = .slice (some ⟨g, 0, none⟩) n n ∧ W1.heap.size ≤ g ∧ IsS w' g 3 (List.replicate n (.int .i64 0))) ∧ (listed.getD 2 false = true → x9 = (.int .i64 (n : Int))) ∧ (listed.getD 3 false = true → ∃ g, x10 = .slice (some ⟨g, 0, none⟩) n n ∧ W1.heap.size ≤ g ∧ IsS w' g 3 (List.replicate n (.int .i64 0))) ∧ (listed.getD 4 false = true → x11 = (.pointer (some ⟨b1, 3, none⟩))) ∧ (listed.getD 5 false = true → x12 = (.slice ai ni ci)) ∧ (listed.getD 6 false = true → ∃ vs, OwnA w' W1.heap.size x13 vs ri) ∧ (listed.getD 7 false = true → ∃ g, x14 = .slice (some ⟨g, 0, none⟩) 0 0 ∧ w'.ownsRow W1.heap.size 2 1 (.slice (some ⟨g, 0, none⟩) 0 0) 0 []) ∧ (listed.getD 8 false = true → x15 = (.pointer (some ⟨b1, 4, none⟩))) ∧ (listed.getD 9 false = true → x16 = (.slice aj nj cj)) ∧ (listed.getD 10 false = true → w'.ownsRow W1.heap.size 2 1 x17 nj (lj.flatMap intE)) ∧ (listed.getD 11 false = true → x18 = (.int .i64 (n : Int))) ∧ (listed.getD 12 false = true → ∃ g, x19 = .slice (some ⟨g, 0, none⟩) n n ∧ W1.heap.size ≤ g ∧ IsS w' g 48 (List.replicate n (.slice none 0 0)))) (by kernel_rfl) (by kernel_rfl) ?i0 ?istep ?iend
 case i0 => exact ⟨_, _, _, _, _, _, _, _, _, _, _, _, _, by (try simp only [sP]) <;> rfl, below_drew bR, fun h => (not_rep h).elim, fun h => (not_rep h).elim, fun h => (not_rep h).elim, fun h => (not_rep h).elim, fun h => (not_rep h).elim, fun h => (not_rep h).elim, fun h => (not_rep h).elim, fun h => (not_rep h).elim, fun h => (not_rep h).elim, fun h => (not_rep h).elim, fun h => (not_rep h).elim, fun h => (not_rep h).elim, fun h => (not_rep h).elim⟩
 case istep =>
  rintro i listed a' w' hi hr ⟨x7, x8, x9, x10, x11, x12, x13, x14, x15, x16, x17, x18, x19, rfl, HBw, d0, d1, d2, d3, d4, d5, d6, d7, d8, d9, d10, d11, d12⟩
  obtain ⟨hun, oj, hoj, hwt⟩ := mem_ready.1 hr
  simp only [sP]
  have hcase : i = 0 ∨ i = 1 ∨ i = 2 ∨ i = 3 ∨ i = 4 ∨ i = 5 ∨ i = 6 ∨ i = 7 ∨ i = 8 ∨ i = 9 ∨ i = 10 ∨ i = 11 ∨ i = 12 := by omega
  rcases hcase with rfl | rfl | rfl | rfl | rfl | rfl | rfl | rfl | rfl | rfl | rfl | rfl | rfl
  · have hoj2 := hoj
    obtain rfl := oI hoj
    refine wpOp_value hoj2 rfl (v := (.int .i64 (n : Int))) (w' := w') (by first | rfl | (go_simp; done) | (simp [go_sem]; done) | (simp [execOp, go_sem]; done)) ?_
    exact ⟨(.int .i64 (n : Int)), x8, x9, x10, x11, x12, x13, x14, x15, x16, x17, x18, x19, by (try simp only [sP]) <;> rfl, Below.then HBw.out bR, fun _ => rfl, fun h => (eE (d1 (kp h)) fun g h => ⟨g, h.1, h.2.1, h.2.2.grown bR⟩), d2 ∘ kq, fun h => (eE (d3 (kp h)) fun g h => ⟨g, h.1, h.2.1, h.2.2.grown bR⟩), d4 ∘ kq, d5 ∘ kq, fun h => (eE (d6 (kp h)) fun vs h => ⟨vs, h.below bR⟩), fun h => (eE (d7 (kp h)) fun g h => ⟨g, h.1, own_below h.2 bR⟩), d8 ∘ kq, d9 ∘ kq, fun h => (own_below (d10 (kp h)) bR), d11 ∘ kq, fun h => (eE (d12 (kp h)) fun g h => ⟨g, h.1, h.2.1, h.2.2.grown bR⟩)⟩
  · have hoj2 := hoj
    obtain rfl := oI hoj
    have e0 := d0 (hwt ⟨0, .data⟩ (by simp) rfl)
    subst e0
    refine wpOp_value hoj2 rfl (exec_make1 eIntI rfl _ _ rfl n hn rfl rfl) ?_
    have B9 := F_b (Fresh.alloc w' (.cells (List.replicate n (.int .i64 0)).toArray 3))
    exact ⟨(.int .i64 (n : Int)), _, x9, x10, x11, x12, x13, x14, x15, x16, x17, x18, x19, by (try simp only [sP]) <;> rfl, Below.then HBw.out B9, d0 ∘ kq, fun _ => ⟨_, rfl, HBw.out.size, IsS.new w' 3 (List.replicate n (.int .i64 0))⟩, d2 ∘ kq, fun h => (eE (d3 (kp h)) fun g h => ⟨g, h.1, h.2.1, h.2.2.grown B9⟩), d4 ∘ kq, d5 ∘ kq, fun h => (eE (d6 (kp h)) fun vs h => ⟨vs, h.below B9⟩), fun h => (eE (d7 (kp h)) fun g h => ⟨g, h.1, own_below h.2 B9⟩), d8 ∘ kq, d9 ∘ kq, fun h => (own_below (d10 (kp h)) B9), d11 ∘ kq, fun h => (eE (d12 (kp h)) fun g h => ⟨g, h.1, h.2.1, h.2.2.grown B9⟩)⟩
  · have hoj2 := hoj
    obtain rfl := oI hoj
    refine wpOp_value hoj2 rfl (v := (.int .i64 (n : Int))) (w' := w') (by first | rfl | (go_simp; done) | (simp [go_sem]; done) | (simp [execOp, go_sem]; done)) ?_
    exact ⟨x7, x8, (.int .i64 (n : Int)), x10, x11, x12, x13, x14, x15, x16, x17, x18, x19, by (try simp only [sP]) <;> rfl, Below.then HBw.out bR, d0 ∘ kq, fun h => (eE (d1 (kp h)) fun g h => ⟨g, h.1, h.2.1, h.2.2.grown bR⟩), fun _ => rfl, fun h => (eE (d3 (kp h)) fun g h => ⟨g, h.1, h.2.1, h.2.2.grown bR⟩), d4 ∘ kq, d5 ∘ kq, fun h => (eE (d6 (kp h)) fun vs h => ⟨vs, h.below bR⟩), fun h => (eE (d7 (kp h)) fun g h => ⟨g, h.1, own_below h.2 bR⟩), d8 ∘ kq, d9 ∘ kq, fun h => (own_below (d10 (kp h)) bR), d11 ∘ kq, fun h => (eE (d12 (kp h)) fun g h => ⟨g, h.1, h.2.1, h.2.2.grown bR⟩)⟩
  · have hoj2 := hoj
    obtain rfl := oI hoj
    have e2 := d2 (hwt ⟨2, .data⟩ (by simp) rfl)
    subst e2
    refine wpOp_value hoj2 rfl (exec_make1 eIntI rfl _ _ rfl n hn rfl rfl) ?_
    have B9 := F_b (Fresh.alloc w' (.cells (List.replicate n (.int .i64 0)).toArray 3))
    exact ⟨x7, x8, (.int .i64 (n : Int)), _, x11, x12, x13, x14, x15, x16, x17, x18, x19, by (try simp only [sP]) <;> rfl, Below.then HBw.out B9, d0 ∘ kq, fun h => (eE (d1 (kp h)) fun g h => ⟨g, h.1, h.2.1, h.2.2.grown B9⟩), d2 ∘ kq, fun _ => ⟨_, rfl, HBw.out.size, IsS.new w' 3 (List.replicate n (.int .i64 0))⟩, d4 ∘ kq, d5 ∘ kq, fun h => (eE (d6 (kp h)) fun vs h => ⟨vs, h.below B9⟩), fun h => (eE (d7 (kp h)) fun g h => ⟨g, h.1, own_below h.2 B9⟩), d8 ∘ kq, d9 ∘ kq, fun h => (own_below (d10 (kp h)) B9), d11 ∘ kq, fun h => (eE (d12 (kp h)) fun g h => ⟨g, h.1, h.2.1, h.2.2.grown B9⟩)⟩
  · have hoj2 := hoj
    obtain rfl := oI hoj
    refine wpOp_value hoj2 rfl (v := (.pointer (some ⟨b1, 3, none⟩))) (w' := w') (by first | rfl | (go_simp; done) | (simp [go_sem]; done) | (simp [execOp, go_sem]; done)) ?_
    exact ⟨x7, x8, x9, x10, (.pointer (some ⟨b1, 3, none⟩)), x12, x13, x14, x15, x16, x17, x18, x19, by (try simp only [sP]) <;> rfl, Below.then HBw.out bR, d0 ∘ kq, fun h => (eE (d1 (kp h)) fun g h => ⟨g, h.1, h.2.1, h.2.2.grown bR⟩), d2 ∘ kq, fun h => (eE (d3 (kp h)) fun g h => ⟨g, h.1, h.2.1, h.2.2.grown bR⟩), fun _ => rfl, d5 ∘ kq, fun h => (eE (d6 (kp h)) fun vs h => ⟨vs, h.below bR⟩), fun h => (eE (d7 (kp h)) fun g h => ⟨g, h.1, own_below h.2 bR⟩), d8 ∘ kq, d9 ∘ kq, fun h => (own_below (d10 (kp h)) bR), d11 ∘ kq, fun h => (eE (d12 (kp h)) fun g h => ⟨g, h.1, h.2.1, h.2.2.grown bR⟩)⟩
  · have hoj2 := hoj
    obtain rfl := oI hoj
    have e4 := d4 (hwt ⟨4, .data⟩ (by simp) rfl)
    subst e4
    refine wpOp_cell hoj2 rfl 25 _ rfl rfl (v := (.slice ai ni ci)) (ldcRr w' ((IsS.cell (C1.grown HBw.out) 3).trans rfl)) ?_
    exact ⟨x7, x8, x9, x10, (.pointer (some ⟨b1, 3, none⟩)), (.slice ai ni ci), x13, x14, x15, x16, x17, x18, x19, by (try simp only [sP]) <;> rfl, Below.then HBw.out bR, d0 ∘ kq, fun h => (eE (d1 (kp h)) fun g h => ⟨g, h.1, h.2.1, h.2.2.grown bR⟩), d2 ∘ kq, fun h => (eE (d3 (kp h)) fun g h => ⟨g, h.1, h.2.1, h.2.2.grown bR⟩), d4 ∘ kq, fun _ => rfl, fun h => (eE (d6 (kp h)) fun vs h => ⟨vs, h.below bR⟩), fun h => (eE (d7 (kp h)) fun g h => ⟨g, h.1, own_below h.2 bR⟩), d8 ∘ kq, d9 ∘ kq, fun h => (own_below (d10 (kp h)) bR), d11 ∘ kq, fun h => (eE (d12 (kp h)) fun g h => ⟨g, h.1, h.2.1, h.2.2.grown bR⟩)⟩
  · have hoj2 := hoj
    obtain rfl := oI hoj
    have e5 := d5 (hwt ⟨5, .data⟩ (by simp) rfl)
    subst e5
    refine wpOp_call hoj2 rfl (f := 40) (args := #[.slice ai ni ci]) (by first | rfl | (go_simp; done) | (simp [go_sem]; done) | (simp [execOp, go_sem]; done)) ?_
    refine (hC1 w' (HI.out.below (Below.then B1 HBw.out))).mono ?_
    rintro e w4 ⟨v7, rfl, ⟨vs, O7⟩, B4⟩
    refine ⟨_, rfl, ?_⟩
    exact ⟨x7, x8, x9, x10, x11, (.slice ai ni ci), v7, x14, x15, x16, x17, x18, x19, by (try simp only [sP]) <;> rfl, Below.then HBw.out B4, d0 ∘ kq, fun h => (eE (d1 (kp h)) fun g h => ⟨g, h.1, h.2.1, h.2.2.grown B4⟩), d2 ∘ kq, fun h => (eE (d3 (kp h)) fun g h => ⟨g, h.1, h.2.1, h.2.2.grown B4⟩), d4 ∘ kq, d5 ∘ kq, fun _ => ⟨vs, O7.raise HBw.out.size⟩, fun h => (eE (d7 (kp h)) fun g h => ⟨g, h.1, own_below h.2 B4⟩), d8 ∘ kq, d9 ∘ kq, fun h => (own_below (d10 (kp h)) B4), d11 ∘ kq, fun h => (eE (d12 (kp h)) fun g h => ⟨g, h.1, h.2.1, h.2.2.grown B4⟩)⟩
  · have hoj2 := hoj
    obtain rfl := oI hoj
    refine wpOp_value hoj2 rfl (exec_build0 eInt rfl) ?_
    have B9 := F_b (Fresh.alloc w' (.cells #[] 2))
    exact ⟨x7, x8, x9, x10, x11, x12, x13, _, x15, x16, x17, x18, x19, by (try simp only [sP]) <;> rfl, Below.then HBw.out B9, d0 ∘ kq, fun h => (eE (d1 (kp h)) fun g h => ⟨g, h.1, h.2.1, h.2.2.grown B9⟩), d2 ∘ kq, fun h => (eE (d3 (kp h)) fun g h => ⟨g, h.1, h.2.1, h.2.2.grown B9⟩), d4 ∘ kq, d5 ∘ kq, fun h => (eE (d6 (kp h)) fun vs h => ⟨vs, h.below B9⟩), fun _ => ⟨_, rfl, own_raise (own_build0 eInt w') HBw.out.size⟩, d8 ∘ kq, d9 ∘ kq, fun h => (own_below (d10 (kp h)) B9), d11 ∘ kq, fun h => (eE (d12 (kp h)) fun g h => ⟨g, h.1, h.2.1, h.2.2.grown B9⟩)⟩
  · have hoj2 := hoj
    obtain rfl := oI hoj
    refine wpOp_value hoj2 rfl (v := (.pointer (some ⟨b1, 4, none⟩))) (w' := w') (by first | rfl | (go_simp; done) | (simp [go_sem]; done) | (simp [execOp, go_sem]; done)) ?_
    exact ⟨x7, x8, x9, x10, x11, x12, x13, x14, (.pointer (some ⟨b1, 4, none⟩)), x16, x17, x18, x19, by (try simp only [sP]) <;> rfl, Below.then HBw.out bR, d0 ∘ kq, fun h => (eE (d1 (kp h)) fun g h => ⟨g, h.1, h.2.1, h.2.2.grown bR⟩), d2 ∘ kq, fun h => (eE (d3 (kp h)) fun g h => ⟨g, h.1, h.2.1, h.2.2.grown bR⟩), d4 ∘ kq, d5 ∘ kq, fun h => (eE (d6 (kp h)) fun vs h => ⟨vs, h.below bR⟩), fun h => (eE (d7 (kp h)) fun g h => ⟨g, h.1, own_below h.2 bR⟩), fun _ => rfl, d9 ∘ kq, fun h => (own_below (d10 (kp h)) bR), d11 ∘ kq, fun h => (eE (d12 (kp h)) fun g h => ⟨g, h.1, h.2.1, h.2.2.grown bR⟩)⟩
  · have hoj2 := hoj
    obtain rfl := oI hoj
    have e8 := d8 (hwt ⟨8, .data⟩ (by simp) rfl)
    subst e8
    refine wpOp_cell hoj2 rfl 26 _ rfl rfl (v := (.slice aj nj cj)) (ldcR w' ((IsS.cell (C1.grown HBw.out) 4).trans rfl)) ?_
    exact ⟨x7, x8, x9, x10, x11, x12, x13, x14, (.pointer (some ⟨b1, 4, none⟩)), (.slice aj nj cj), x17, x18, x19, by (try simp only [sP]) <;> rfl, Below.then HBw.out bR, d0 ∘ kq, fun h => (eE (d1 (kp h)) fun g h => ⟨g, h.1, h.2.1, h.2.2.grown bR⟩), d2 ∘ kq, fun h => (eE (d3 (kp h)) fun g h => ⟨g, h.1, h.2.1, h.2.2.grown bR⟩), d4 ∘ kq, d5 ∘ kq, fun h => (eE (d6 (kp h)) fun vs h => ⟨vs, h.below bR⟩), fun h => (eE (d7 (kp h)) fun g h => ⟨g, h.1, own_below h.2 bR⟩), d8 ∘ kq, fun _ => rfl, fun h => (own_below (d10 (kp h)) bR), d11 ∘ kq, fun h => (eE (d12 (kp h)) fun g h => ⟨g, h.1, h.2.1, h.2.2.grown bR⟩)⟩
  · have hoj2 := hoj
    obtain rfl := oI hoj
    have e7 := d7 (hwt ⟨7, .data⟩ (by simp) rfl)
    have e9 := d9 (hwt ⟨9, .data⟩ (by simp) rfl)
    have e6 := d6 (hwt ⟨6, .chain⟩ (by simp) rfl)
    obtain ⟨g0, rfl, O0⟩ := e7
    subst e9
    obtain ⟨v', W', hrun, O', B', HW'⟩ := run_app0L eInt W1.heap.size g0 O0 (.slice aj nj cj) nj (lj.flatMap intE) (HRV.out.below (Below.then B1 HBw.out)) (by rw [int_len, HNJ.out]) (int_one lj) (by omega) HBw.out.size 26
    refine wpOp_value hoj2 rfl (exec_app _ _ rfl rfl rfl hrun) ?_
    exact ⟨x7, x8, x9, x10, x11, x12, x13, (.slice (some ⟨g0, 0, none⟩) 0 0), x15, (.slice aj nj cj), v', x18, x19, by (try simp only [sP]) <;> rfl, Below.then HBw.out B', d0 ∘ kq, fun h => (eE (d1 (kp h)) fun g h => ⟨g, h.1, h.2.1, h.2.2.grown B'⟩), d2 ∘ kq, fun h => (eE (d3 (kp h)) fun g h => ⟨g, h.1, h.2.1, h.2.2.grown B'⟩), d4 ∘ kq, d5 ∘ kq, fun h => (eE (d6 (kp h)) fun vs h => ⟨vs, h.below B'⟩), fun h => (eE (d7 (kp h)) fun g h => ⟨g, h.1, own_below h.2 B'⟩), d8 ∘ kq, d9 ∘ kq, fun _ => O', d11 ∘ kq, fun h => (eE (d12 (kp h)) fun g h => ⟨g, h.1, h.2.1, h.2.2.grown B'⟩)⟩
  · have hoj2 := hoj
    obtain rfl := oI hoj
    refine wpOp_value hoj2 rfl (v := (.int .i64 (n : Int))) (w' := w') (by first | rfl | (go_simp; done) | (simp [go_sem]; done) | (simp [execOp, go_sem]; done)) ?_
    exact ⟨x7, x8, x9, x10, x11, x12, x13, x14, x15, x16, x17, (.int .i64 (n : Int)), x19, by (try simp only [sP]) <;> rfl, Below.then HBw.out bR, d0 ∘ kq, fun h => (eE (d1 (kp h)) fun g h => ⟨g, h.1, h.2.1, h.2.2.grown bR⟩), d2 ∘ kq, fun h => (eE (d3 (kp h)) fun g h => ⟨g, h.1, h.2.1, h.2.2.grown bR⟩), d4 ∘ kq, d5 ∘ kq, fun h => (eE (d6 (kp h)) fun vs h => ⟨vs, h.below bR⟩), fun h => (eE (d7 (kp h)) fun g h => ⟨g, h.1, own_below h.2 bR⟩), d8 ∘ kq, d9 ∘ kq, fun h => (own_below (d10 (kp h)) bR), fun _ => rfl, fun h => (eE (d12 (kp h)) fun g h => ⟨g, h.1, h.2.1, h.2.2.grown bR⟩)⟩
  · have hoj2 := hoj
    obtain rfl := oI hoj
    have e11 := d11 (hwt ⟨11, .data⟩ (by simp) rfl)
    subst e11
    refine wpOp_value hoj2 rfl (exec_make1 eWrs rfl _ _ rfl n hn rfl rfl) ?_
    have B9 := F_b (Fresh.alloc w' (.cells (List.replicate n (.slice none 0 0)).toArray 48))
    exact ⟨x7, x8, x9, x10, x11, x12, x13, x14, x15, x16, x17, (.int .i64 (n : Int)), _, by (try simp only [sP]) <;> rfl, Below.then HBw.out B9, d0 ∘ kq, fun h => (eE (d1 (kp h)) fun g h => ⟨g, h.1, h.2.1, h.2.2.grown B9⟩), d2 ∘ kq, fun h => (eE (d3 (kp h)) fun g h => ⟨g, h.1, h.2.1, h.2.2.grown B9⟩), d4 ∘ kq, d5 ∘ kq, fun h => (eE (d6 (kp h)) fun vs h => ⟨vs, h.below B9⟩), fun h => (eE (d7 (kp h)) fun g h => ⟨g, h.1, own_below h.2 B9⟩), d8 ∘ kq, d9 ∘ kq, fun h => (own_below (d10 (kp h)) B9), d11 ∘ kq, fun _ => ⟨_, rfl, HBw.out.size, IsS.new w' 48 (List.replicate n (.slice none 0 0))⟩⟩
 case iend =>
  rintro a' w' ⟨x7, x8, x9, x10, x11, x12, x13, x14, x15, x16, x17, x18, x19, rfl, HBw, d0, d1, d2, d3, d4, d5, d6, d7, d8, d9, d10, d11, d12⟩
  replace d0 := d0 rfl
  replace d1 := d1 rfl
  replace d2 := d2 rfl
  replace d3 := d3 rfl
  replace d4 := d4 rfl
  replace d5 := d5 rfl
  replace d6 := d6 rfl
  replace d7 := d7 rfl
  replace d8 := d8 rfl
  replace d9 := d9 rfl
  replace d10 := d10 rfl
  replace d11 := d11 rfl
  replace d12 := d12 rfl
  simp only [sP]
  simp only [List.drop_succ_cons, List.drop_zero]
  obtain ⟨gp, e8, hgp, I8⟩ := d1
  obtain ⟨gh, e10, hgh, I10⟩ := d3
  obtain ⟨gb, e18, hgb, I18⟩ := d12
  obtain ⟨vs, O13⟩ := d6
  obtain ⟨ar, cr, hvr⟩ := own_form O13.out
  have O16 := d10
  obtain ⟨am, cm, hvm⟩ := own_form O16
  subst e8 e10 e18 d0 d2 d4 d5 d8 d9 d11
  have B12 := HBw.out
  have D2 := D1.grown B12
  clear HBw d10 d7
  subst hvr hvm
  rw [HNI.out] at O13
  simp only [HNI.out]
  go_wp2_with (first
   | (clear t3; refine wpList_storeW rfl 32 _ _ rfl rfl [.slice (some ⟨gp, 0, none⟩) n n, .slice (some ⟨gh, 0, none⟩) n n, .slice ar ni cr, .slice am nj cm, .slice (some ⟨gb, 0, none⟩) n n, .int .i64 (-1)] rfl D2 rfl infoSt (by simp [Value.oneCell']) ?_; intro W3 U3 D3))
  have hb2l := D1.lt
  have hW13 : Below W1.heap.size W1 w' := B12
  have hUb : Below w'.heap.size w' W3 ∨ True := .inr trivial
  have hS : ∀ k, W1.heap.size ≤ k → W3.heap[k]? = w'.heap[k]? := fun k hk => U3.block k (by omega)
  refine ret_S (cs := [.slice (some ⟨gp, 0, none⟩) n n, .slice (some ⟨gh, 0, none⟩) n n, .slice ar ni cr, .slice am nj cm, .slice (some ⟨gb, 0, none⟩) n n, .int .i64 (-1)]) rfl rfl rfl D3 _ Try.underlying32 rfl infoSt ⟨_, _, _, _, _, rfl, ?_, U3.trans (Below.then B1 B12) hb2⟩
  intro V hV
  have hS2 : ∀ k, W1.heap.size ≤ k → k < w'.heap.size → V.heap[k]? = w'.heap[k]? := fun k hk hk2 => (hV k (Nat.le_trans B1.size hk) (by rw [U3.size]; exact hk2)).trans (hS k hk)
  have up : ∀ {t z n : Nat} {v : Value} {xs : List Value}, w'.ownsRow W1.heap.size t z v n xs → V.ownsRow W1.heap.size t z v n xs := fun ho => own_same ho fun k hk => hS2 k (own_lt ho hk).1 (own_lt ho hk).2
  refine ⟨?_, ?_, ?_, ?_, ?_⟩
  · exact rep_row ((hS2 gp hgp I8.lt).trans I8)
  · exact rep_row ((hS2 gh hgh I10.lt).trans I10)
  · exact (⟨O13.len, up O13.out, fun j u xs hu hx => up (O13.row j u xs hu hx), O13.apart⟩ : OwnA V W1.heap.size (.slice ar ni cr) vs ri).rows
  · rw [HNJ.out]; exact own_row (up O16)
  · exact rep_rows ((hS2 gb hgb I18.lt).trans I18)
end Go.Proofs.Ytegpnicajlndlaa

/- RCG, RF2, SU1 -/
import Derived.Test.YtegpnicajlndlaaRA3
import Derived.Test.YtegpnicajlndlaaQav
import Derived.Test.YtegpnicajlndlaaQat
import Derived.Test.YtegpnicajlndlaaQau
import Derived.Test.YtegpnicajlndlaaRR4
import Derived.Test.YtegpnicajlndlaaQbc
namespace Go.Proofs.Ytegpnicajlndlaa
open Go.RowKit M
set_option linter.unusedSimpArgs false
set_option linter.unusedVariables false
theorem wrE_len (l : List (Int × Int)) : (l.flatMap wrE).length = 2 * l.length := by
 induction l with
 | nil => rfl
 | cons x l ih => rw [List.flatMap_cons, List.length_append, ih, List.length_cons]; simp [wrE]; omega
section
variable {w W W' : World} {b3 : Nat} {vpc vph vrg vmm vbf vbf' : Value} {vs bs bs' : List Value} {n1 n2 n4 : Nat} {lk : Int} {s : ST} {dn dn' : List (List (Int × Int))}
end
theorem own_rowsW {w : World} {B : Nat} {v : Value} {vs : List Value} {xss : List (List (Int × Int))} (hl : vs.length = xss.length) (hout : w.ownsRow B 48 1 v vs.length vs) (hrow : ∀ (j : Nat) u xs, vs[j]? = some u → xss[j]? = some xs → w.ownsRow B 50 2 u xs.length (xs.flatMap wrE)) : RowsV w v wrE xss := by
 obtain ⟨a, c, rfl, hs, hn⟩ := own_row hout
 refine ⟨vs, hl, ⟨a, c, by rw [hl], hs, hn⟩, fun j u xs hu hx => ?_⟩
 exact own_row (hrow j u xs hu hx)
set_option maxRecDepth 100000 in
set_option maxHeartbeats 4000000 in
theorem rfirstF_any (p : PG) (n : Nat) (hf : p.Few) (hn0 : p.threads.length = n) (vt vr vl vi vj : Value) (w : World) (hp : PGV w vt vr vl vi vj p) :
    Calls Try.prog 29 #[.agg #[vt, vr, vl, vi, vj]] w fun e w' => ∃ vpc vph vrg vmm vbf, e = .returned (.agg #[vpc, vph, vrg, vmm, vbf, .int .i64 (-1)]) ∧ (∀ V : World, (∀ k, w.heap.size ≤ k → k < w'.heap.size → V.heap[k]? = w'.heap[k]?) → RS V vpc vph vrg vmm vbf n (List.replicate n 0) p.regInit p.locInit) ∧ Below w.heap.size w w' := by
 have hn : n ≤ 1048576 := by rw [← hn0]; exact hf.t
 obtain ⟨at', ct, rfl⟩ := hp.t.form
 obtain ⟨ai, ci, rfl⟩ := hp.i.form
 have hjf := hf.j
 obtain ⟨aj, cj, rfl, hsj, hzj⟩ := hp.j
 have hC1 := fun W (h : RowsV W (.slice ai p.regInit.length ci) intE p.regInit) => rcopyA_any p.regInit hf.i hf.ii ai ci W h
 have HI : Hid (RowsV w (.slice ai p.regInit.length ci) intE p.regInit) := hp.i
 have HRV : Hid (RowV w (.slice aj p.locInit.length cj) p.locInit.length (p.locInit.flatMap intE)) := ⟨aj, cj, rfl, hsj, hzj⟩
 obtain ⟨ri, hri⟩ : ∃ r, p.regInit = r := ⟨_, rfl⟩
 obtain ⟨lj, hlj⟩ : ∃ r, p.locInit = r := ⟨_, rfl⟩
 rw [hri] at hC1 HI
 rw [hlj] at HRV hjf
 simp only [hri, hlj, hn0]
 obtain ⟨ni, hni⟩ : ∃ k, ri.length = k := ⟨_, rfl⟩
 obtain ⟨nj, hnj⟩ : ∃ k, lj.length = k := ⟨_, rfl⟩
 have HNI : Hid (ri.length = ni) := hni
 have HNJ : Hid (lj.length = nj) := hnj
 rw [hni] at hC1 HI
 rw [hnj] at HRV hjf
 simp only [hni, hnj]
 clear hp hsj hri hlj hni hnj hf hn0
 have hnI : (n : Int) ≤ 1048576 := by omega
 have t1 : True := trivial
 have t2 : True := trivial
 have t3 : True := trivial
 go_enter Try.func29, Try.ntmps29
 go_wp2_with (first
  | (clear t1; refine wpList_boxS rfl 28 _ rfl [.slice at' n ct, vr, vl, .slice ai ni ci, .slice aj nj cj] rfl ?_; intro W0 b1 F0 C0; have B0 := F_b F0)
  | (clear t2; refine wpList_allocS rfl 32 rfl [.slice none 0 0, .slice none 0 0, .slice none 0 0, .slice none 0 0, .slice none 0 0, .int .i64 0] zeroSt ?_; intro W1 b2 F1 D1; have C1 := C0.fresh F1; have B1 := F1.trans B0 B0.size; have hb2 : w.heap.size ≤ b2 := Nat.le_trans B0.size (Nat.le_of_eq F1.at'.symm); have n12 : b1 ≠ b2 := (by have := C0.lt; have := F1.at'; omega); have x0 : W1.cell? ⟨b1, 0, none⟩ = some (.slice at' n ct) := C1.cell 0; clear F0 F1 C0))
 clear x0
 refine region_invA 13 (fun a0 listed a' w' => ∃ x7 x8 x9 x10 x11 x12 x13 x14 x15 x16 x17 x18 x19 : Value, a' = (((((((((((((a0.put (some 7) x7).put (some 8) x8).put (some 9) x9).put (some 10) x10).put (some 11) x11).put (some 12) x12).put (some 13) x13).put (some 14) x14).put (some 15) x15).put (some 16) x16).put (some 17) x17).put (some 18) x18).put (some 19) x19) ∧ Hid (Below W1.heap.size W1 w') ∧ (listed.getD 0 false = true → x7 = (.int .i64 (n : Int))) ∧ (listed.getD 1 false = true → ∃ g, x8 = .slice (some ⟨g, 0, none⟩) n n ∧ W1.heap.size ≤ g ∧ IsS w' g 3 (List.replicate n (.int .i64 0))) ∧ (listed.getD 2 false = true → x9 = (.int .i64 (n : Int))) ∧ (listed.getD 3 false = true → ∃ g, x10 = .slice (some ⟨g, 0, none⟩) n n ∧ W1.heap.size ≤ g ∧ IsS w' g 3 (List.replicate n (.int .i64 0))) ∧ (listed.getD 4 false = true → x11 = (.pointer (some ⟨b1, 3, none⟩))) ∧ (listed.getD 5 false = true → x12 = (.slice ai ni ci)) ∧ (listed.getD 6 false = true → ∃ vs, OwnA w' W1.heap.size x13 vs ri) ∧ (listed.getD 7 false = true → ∃ g, x14 = .slice (some ⟨g, 0, none⟩) 0 0 ∧ w'.ownsRow W1.heap.size 2 1 (.slice (some ⟨g, 0, none⟩) 0 0) 0 []) ∧ (listed.getD 8 false = true → x15 = (.pointer (some ⟨b1, 4, none⟩))) ∧ (listed.getD 9 false = true → x16 = (.slice aj nj cj)) ∧ (listed.getD 10 false = true → w'.ownsRow W1.heap.size 2 1 x17 nj (lj.flatMap intE)) ∧ (listed.getD 11 false = true → x18 = (.int .i64 (n : Int))) ∧ (listed.getD 12 false = true → ∃ g, x19 = .slice (some ⟨g, 0, none⟩) n n ∧ W1.heap.size ≤ g ∧ IsS w' g 48 (List.replicate n (.slice none 0 0)))) (by kernel_rfl) (by kernel_rfl) ?i0 ?istep ?iend
 case i0 => exact ⟨_, _, _, _, _, _, _, _, _, _, _, _, _, by (try simp only [sP]) <;> rfl, below_drew bR, fun h => (not_rep h).elim, fun h => (not_rep h).elim, fun h => (not_rep h).elim, fun h => (not_rep h).elim, fun h => (not_rep h).elim, fun h => (not_rep h).elim, fun h => (not_rep h).elim, fun h => (not_rep h).elim, fun h => (not_rep h).elim, fun h => (not_rep h).elim, fun h => (not_rep h).elim, fun h => (not_rep h).elim, fun h => (not_rep h).elim⟩
 case istep =>
  rintro i listed a' w' hi hr ⟨x7, x8, x9, x10, x11, x12, x13, x14, x15, x16, x17, x18, x19, rfl, HBw, d0, d1, d2, d3, d4, d5, d6, d7, d8, d9, d10, d11, d12⟩
  obtain ⟨hun, oj, hoj, hwt⟩ := mem_ready.1 hr
  simp only [sP]
  have hcase : i = 0 ∨ i = 1 ∨ i = 2 ∨ i = 3 ∨ i = 4 ∨ i = 5 ∨ i = 6 ∨ i = 7 ∨ i = 8 ∨ i = 9 ∨ i = 10 ∨ i = 11 ∨ i = 12 := by omega
  rcases hcase with rfl | rfl | rfl | rfl | rfl | rfl | rfl | rfl | rfl | rfl | rfl | rfl | rfl
  · have hoj2 := hoj
    obtain rfl := oI hoj
    refine wpOp_value hoj2 rfl (v := (.int .i64 (n : Int))) (w' := w') (by first | rfl | (go_simp; done) | (simp [go_sem]; done) | (simp [execOp, go_sem]; done)) ?_
    exact ⟨(.int .i64 (n : Int)), x8, x9, x10, x11, x12, x13, x14, x15, x16, x17, x18, x19, by (try simp only [sP]) <;> rfl, Below.then HBw.out bR, fun _ => rfl, fun h => (eE (d1 (kp h)) fun g h => ⟨g, h.1, h.2.1, h.2.2.grown bR⟩), d2 ∘ kq, fun h => (eE (d3 (kp h)) fun g h => ⟨g, h.1, h.2.1, h.2.2.grown bR⟩), d4 ∘ kq, d5 ∘ kq, fun h => (eE (d6 (kp h)) fun vs h => ⟨vs, h.below bR⟩), fun h => (eE (d7 (kp h)) fun g h => ⟨g, h.1, own_below h.2 bR⟩), d8 ∘ kq, d9 ∘ kq, fun h => (own_below (d10 (kp h)) bR), d11 ∘ kq, fun h => (eE (d12 (kp h)) fun g h => ⟨g, h.1, h.2.1, h.2.2.grown bR⟩)⟩
  · have hoj2 := hoj
    obtain rfl := oI hoj
    have e0 := d0 (hwt ⟨0, .data⟩ (by simp) rfl)
    subst e0
    refine wpOp_value hoj2 rfl (exec_make1 eIntI rfl _ _ rfl n hn rfl rfl) ?_
    have B9 := F_b (Fresh.alloc w' (.cells (List.replicate n (.int .i64 0)).toArray 3))
    exact ⟨(.int .i64 (n : Int)), _, x9, x10, x11, x12, x13, x14, x15, x16, x17, x18, x19, by (try simp only [sP]) <;> rfl, Below.then HBw.out B9, d0 ∘ kq, fun _ => ⟨_, rfl, HBw.out.size, IsS.new w' 3 (List.replicate n (.int .i64 0))⟩, d2 ∘ kq, fun h => (eE (d3 (kp h)) fun g h => ⟨g, h.1, h.2.1, h.2.2.grown B9⟩), d4 ∘ kq, d5 ∘ kq, fun h => (eE (d6 (kp h)) fun vs h => ⟨vs, h.below B9⟩), fun h => (eE (d7 (kp h)) fun g h => ⟨g, h.1, own_below h.2 B9⟩), d8 ∘ kq, d9 ∘ kq, fun h => (own_below (d10 (kp h)) B9), d11 ∘ kq, fun h => (eE (d12 (kp h)) fun g h => ⟨g, h.1, h.2.1, h.2.2.grown B9⟩)⟩
  · have hoj2 := hoj
    obtain rfl := oI hoj
    refine wpOp_value hoj2 rfl (v := (.int .i64 (n : Int))) (w' := w') (by first | rfl | (go_simp; done) | (simp [go_sem]; done) | (simp [execOp, go_sem]; done)) ?_
    exact ⟨x7, x8, (.int .i64 (n : Int)), x10, x11, x12, x13, x14, x15, x16, x17, x18, x19, by (try simp only [sP]) <;> rfl, Below.then HBw.out bR, d0 ∘ kq, fun h => (eE (d1 (kp h)) fun g h => ⟨g, h.1, h.2.1, h.2.2.grown bR⟩), fun _ => rfl, fun h => (eE (d3 (kp h)) fun g h => ⟨g, h.1, h.2.1, h.2.2.grown bR⟩), d4 ∘ kq, d5 ∘ kq, fun h => (eE (d6 (kp h)) fun vs h => ⟨vs, h.below bR⟩), fun h => (eE (d7 (kp h)) fun g h => ⟨g, h.1, own_below h.2 bR⟩), d8 ∘ kq, d9 ∘ kq, fun h => (own_below (d10 (kp h)) bR), d11 ∘ kq, fun h => (eE (d12 (kp h)) fun g h => ⟨g, h.1, h.2.1, h.2.2.grown bR⟩)⟩
  · have hoj2 := hoj
    obtain rfl := oI hoj
    have e2 := d2 (hwt ⟨2, .data⟩ (by simp) rfl)
    subst e2
    refine wpOp_value hoj2 rfl (exec_make1 eIntI rfl _ _ rfl n hn rfl rfl) ?_
    have B9 := F_b (Fresh.alloc w' (.cells (List.replicate n (.int .i64 0)).toArray 3))
    exact ⟨x7, x8, (.int .i64 (n : Int)), _, x11, x12, x13, x14, x15, x16, x17, x18, x19, by (try simp only [sP]) <;> rfl, Below.then HBw.out B9, d0 ∘ kq, fun h => (eE (d1 (kp h)) fun g h => ⟨g, h.1, h.2.1, h.2.2.grown B9⟩), d2 ∘ kq, fun _ => ⟨_, rfl, HBw.out.size, IsS.new w' 3 (List.replicate n (.int .i64 0))⟩, d4 ∘ kq, d5 ∘ kq, fun h => (eE (d6 (kp h)) fun vs h => ⟨vs, h.below B9⟩), fun h => (eE (d7 (kp h)) fun g h => ⟨g, h.1, own_below h.2 B9⟩), d8 ∘ kq, d9 ∘ kq, fun h => (own_below (d10 (kp h)) B9), d11 ∘ kq, fun h => (eE (d12 (kp h)) fun g h => ⟨g, h.1, h.2.1, h.2.2.grown B9⟩)⟩
  · have hoj2 := hoj
    obtain rfl := oI hoj
    refine wpOp_value hoj2 rfl (v := (.pointer (some ⟨b1, 3, none⟩))) (w' := w') (by first | rfl | (go_simp; done) | (simp [go_sem]; done) | (simp [execOp, go_sem]; done)) ?_
    exact ⟨x7, x8, x9, x10, (.pointer (some ⟨b1, 3, none⟩)), x12, x13, x14, x15, x16, x17, x18, x19, by (try simp only [sP]) <;> rfl, Below.then HBw.out bR, d0 ∘ kq, fun h => (eE (d1 (kp h)) fun g h => ⟨g, h.1, h.2.1, h.2.2.grown bR⟩), d2 ∘ kq, fun h => (eE (d3 (kp h)) fun g h => ⟨g, h.1, h.2.1, h.2.2.grown bR⟩), fun _ => rfl, d5 ∘ kq, fun h => (eE (d6 (kp h)) fun vs h => ⟨vs, h.below bR⟩), fun h => (eE (d7 (kp h)) fun g h => ⟨g, h.1, own_below h.2 bR⟩), d8 ∘ kq, d9 ∘ kq, fun h => (own_below (d10 (kp h)) bR), d11 ∘ kq, fun h => (eE (d12 (kp h)) fun g h => ⟨g, h.1, h.2.1, h.2.2.grown bR⟩)⟩
  · have hoj2 := hoj
    obtain rfl := oI hoj
    have e4 := d4 (hwt ⟨4, .data⟩ (by simp) rfl)
    subst e4
    refine wpOp_cell hoj2 rfl 25 _ rfl rfl (v := (.slice ai ni ci)) (ldcRr w' ((IsS.cell (C1.grown HBw.out) 3).trans rfl)) ?_
    exact ⟨x7, x8, x9, x10, (.pointer (some ⟨b1, 3, none⟩)), (.slice ai ni ci), x13, x14, x15, x16, x17, x18, x19, by (try simp only [sP]) <;> rfl, Below.then HBw.out bR, d0 ∘ kq, fun h => (eE (d1 (kp h)) fun g h => ⟨g, h.1, h.2.1, h.2.2.grown bR⟩), d2 ∘ kq, fun h => (eE (d3 (kp h)) fun g h => ⟨g, h.1, h.2.1, h.2.2.grown bR⟩), d4 ∘ kq, fun _ => rfl, fun h => (eE (d6 (kp h)) fun vs h => ⟨vs, h.below bR⟩), fun h => (eE (d7 (kp h)) fun g h => ⟨g, h.1, own_below h.2 bR⟩), d8 ∘ kq, d9 ∘ kq, fun h => (own_below (d10 (kp h)) bR), d11 ∘ kq, fun h => (eE (d12 (kp h)) fun g h => ⟨g, h.1, h.2.1, h.2.2.grown bR⟩)⟩
  · have hoj2 := hoj
    obtain rfl := oI hoj
    have e5 := d5 (hwt ⟨5, .data⟩ (by simp) rfl)
    subst e5
    refine wpOp_call hoj2 rfl (f := 40) (args := #[.slice ai ni ci]) (by first | rfl | (go_simp; done) | (simp [go_sem]; done) | (simp [execOp, go_sem]; done)) ?_
    refine (hC1 w' (HI.out.below (Below.then B1 HBw.out))).mono ?_
    rintro e w4 ⟨v7, rfl, ⟨vs, O7⟩, B4⟩
    refine ⟨_, rfl, ?_⟩
    exact ⟨x7, x8, x9, x10, x11, (.slice ai ni ci), v7, x14, x15, x16, x17, x18, x19, by (try simp only [sP]) <;> rfl, Below.then HBw.out B4, d0 ∘ kq, fun h => (eE (d1 (kp h)) fun g h => ⟨g, h.1, h.2.1, h.2.2.grown B4⟩), d2 ∘ kq, fun h => (eE (d3 (kp h)) fun g h => ⟨g, h.1, h.2.1, h.2.2.grown B4⟩), d4 ∘ kq, d5 ∘ kq, fun _ => ⟨vs, O7.raise HBw.out.size⟩, fun h => (eE (d7 (kp h)) fun g h => ⟨g, h.1, own_below h.2 B4⟩), d8 ∘ kq, d9 ∘ kq, fun h => (own_below (d10 (kp h)) B4), d11 ∘ kq, fun h => (eE (d12 (kp h)) fun g h => ⟨g, h.1, h.2.1, h.2.2.grown B4⟩)⟩
  · have hoj2 := hoj
    obtain rfl := oI hoj
    refine wpOp_value hoj2 rfl (exec_build0 eInt rfl) ?_
    have B9 := F_b (Fresh.alloc w' (.cells #[] 2))
    exact ⟨x7, x8, x9, x10, x11, x12, x13, _, x15, x16, x17, x18, x19, by (try simp only [sP]) <;> rfl, Below.then HBw.out B9, d0 ∘ kq, fun h => (eE (d1 (kp h)) fun g h => ⟨g, h.1, h.2.1, h.2.2.grown B9⟩), d2 ∘ kq, fun h => (eE (d3 (kp h)) fun g h => ⟨g, h.1, h.2.1, h.2.2.grown B9⟩), d4 ∘ kq, d5 ∘ kq, fun h => (eE (d6 (kp h)) fun vs h => ⟨vs, h.below B9⟩), fun _ => ⟨_, rfl, own_raise (own_build0 eInt w') HBw.out.size⟩, d8 ∘ kq, d9 ∘ kq, fun h => (own_below (d10 (kp h)) B9), d11 ∘ kq, fun h => (eE (d12 (kp h)) fun g h => ⟨g, h.1, h.2.1, h.2.2.grown B9⟩)⟩
  · have hoj2 := hoj
    obtain rfl := oI hoj
    refine wpOp_value hoj2 rfl (v := (.pointer (some ⟨b1, 4, none⟩))) (w' := w') (by first | rfl | (go_simp; done) | (simp [go_sem]; done) | (simp [execOp, go_sem]; done)) ?_
    exact ⟨x7, x8, x9, x10, x11, x12, x13, x14, (.pointer (some ⟨b1, 4, none⟩)), x16, x17, x18, x19, by (try simp only [sP]) <;> rfl, Below.then HBw.out bR, d0 ∘ kq, fun h => (eE (d1 (kp h)) fun g h => ⟨g, h.1, h.2.1, h.2.2.grown bR⟩), d2 ∘ kq, fun h => (eE (d3 (kp h)) fun g h => ⟨g, h.1, h.2.1, h.2.2.grown bR⟩), d4 ∘ kq, d5 ∘ kq, fun h => (eE (d6 (kp h)) fun vs h => ⟨vs, h.below bR⟩), fun h => (eE (d7 (kp h)) fun g h => ⟨g, h.1, own_below h.2 bR⟩), fun _ => rfl, d9 ∘ kq, fun h => (own_below (d10 (kp h)) bR), d11 ∘ kq, fun h => (eE (d12 (kp h)) fun g h => ⟨g, h.1, h.2.1, h.2.2.grown bR⟩)⟩
  · have hoj2 := hoj
    obtain rfl := oI hoj
    have e8 := d8 (hwt ⟨8, .data⟩ (by simp) rfl)
    subst e8
    refine wpOp_cell hoj2 rfl 26 _ rfl rfl (v := (.slice aj nj cj)) (ldcR w' ((IsS.cell (C1.grown HBw.out) 4).trans rfl)) ?_
    exact ⟨x7, x8, x9, x10, x11, x12, x13, x14, (.pointer (some ⟨b1, 4, none⟩)), (.slice aj nj cj), x17, x18, x19, by (try simp only [sP]) <;> rfl, Below.then HBw.out bR, d0 ∘ kq, fun h => (eE (d1 (kp h)) fun g h => ⟨g, h.1, h.2.1, h.2.2.grown bR⟩), d2 ∘ kq, fun h => (eE (d3 (kp h)) fun g h => ⟨g, h.1, h.2.1, h.2.2.grown bR⟩), d4 ∘ kq, d5 ∘ kq, fun h => (eE (d6 (kp h)) fun vs h => ⟨vs, h.below bR⟩), fun h => (eE (d7 (kp h)) fun g h => ⟨g, h.1, own_below h.2 bR⟩), d8 ∘ kq, fun _ => rfl, fun h => (own_below (d10 (kp h)) bR), d11 ∘ kq, fun h => (eE (d12 (kp h)) fun g h => ⟨g, h.1, h.2.1, h.2.2.grown bR⟩)⟩
  · have hoj2 := hoj
    obtain rfl := oI hoj
    have e7 := d7 (hwt ⟨7, .data⟩ (by simp) rfl)
    have e9 := d9 (hwt ⟨9, .data⟩ (by simp) rfl)
    have e6 := d6 (hwt ⟨6, .chain⟩ (by simp) rfl)
    obtain ⟨g0, rfl, O0⟩ := e7
    subst e9
    obtain ⟨v', W', hrun, O', B', HW'⟩ := run_app0L eInt W1.heap.size g0 O0 (.slice aj nj cj) nj (lj.flatMap intE) (HRV.out.below (Below.then B1 HBw.out)) (by rw [int_len, HNJ.out]) (int_one lj) (by omega) HBw.out.size 26
    refine wpOp_value hoj2 rfl (exec_app _ _ rfl rfl rfl hrun) ?_
    exact ⟨x7, x8, x9, x10, x11, x12, x13, (.slice (some ⟨g0, 0, none⟩) 0 0), x15, (.slice aj nj cj), v', x18, x19, by (try simp only [sP]) <;> rfl, Below.then HBw.out B', d0 ∘ kq, fun h => (eE (d1 (kp h)) fun g h => ⟨g, h.1, h.2.1, h.2.2.grown B'⟩), d2 ∘ kq, fun h => (eE (d3 (kp h)) fun g h => ⟨g, h.1, h.2.1, h.2.2.grown B'⟩), d4 ∘ kq, d5 ∘ kq, fun h => (eE (d6 (kp h)) fun vs h => ⟨vs, h.below B'⟩), fun h => (eE (d7 (kp h)) fun g h => ⟨g, h.1, own_below h.2 B'⟩), d8 ∘ kq, d9 ∘ kq, fun _ => O', d11 ∘ kq, fun h => (eE (d12 (kp h)) fun g h => ⟨g, h.1, h.2.1, h.2.2.grown B'⟩)⟩
  · have hoj2 := hoj
    obtain rfl := oI hoj
    refine wpOp_value hoj2 rfl (v := (.int .i64 (n : Int))) (w' := w') (by first | rfl | (go_simp; done) | (simp [go_sem]; done) | (simp [execOp, go_sem]; done)) ?_
    exact ⟨x7, x8, x9, x10, x11, x12, x13, x14, x15, x16, x17, (.int .i64 (n : Int)), x19, by (try simp only [sP]) <;> rfl, Below.then HBw.out bR, d0 ∘ kq, fun h => (eE (d1 (kp h)) fun g h => ⟨g, h.1, h.2.1, h.2.2.grown bR⟩), d2 ∘ kq, fun h => (eE (d3 (kp h)) fun g h => ⟨g, h.1, h.2.1, h.2.2.grown bR⟩), d4 ∘ kq, d5 ∘ kq, fun h => (eE (d6 (kp h)) fun vs h => ⟨vs, h.below bR⟩), fun h => (eE (d7 (kp h)) fun g h => ⟨g, h.1, own_below h.2 bR⟩), d8 ∘ kq, d9 ∘ kq, fun h => (own_below (d10 (kp h)) bR), fun _ => rfl, fun h => (eE (d12 (kp h)) fun g h => ⟨g, h.1, h.2.1, h.2.2.grown bR⟩)⟩
  · have hoj2 := hoj
    obtain rfl := oI hoj
    have e11 := d11 (hwt ⟨11, .data⟩ (by simp) rfl)
    subst e11
    refine wpOp_value hoj2 rfl (exec_make1 eWrs rfl _ _ rfl n hn rfl rfl) ?_
    have B9 := F_b (Fresh.alloc w' (.cells (List.replicate n (.slice none 0 0)).toArray 48))
    exact ⟨x7, x8, x9, x10, x11, x12, x13, x14, x15, x16, x17, (.int .i64 (n : Int)), _, by (try simp only [sP]) <;> rfl, Below.then HBw.out B9, d0 ∘ kq, fun h => (eE (d1 (kp h)) fun g h => ⟨g, h.1, h.2.1, h.2.2.grown B9⟩), d2 ∘ kq, fun h => (eE (d3 (kp h)) fun g h => ⟨g, h.1, h.2.1, h.2.2.grown B9⟩), d4 ∘ kq, d5 ∘ kq, fun h => (eE (d6 (kp h)) fun vs h => ⟨vs, h.below B9⟩), fun h => (eE (d7 (kp h)) fun g h => ⟨g, h.1, own_below h.2 B9⟩), d8 ∘ kq, d9 ∘ kq, fun h => (own_below (d10 (kp h)) B9), d11 ∘ kq, fun _ => ⟨_, rfl, HBw.out.size, IsS.new w' 48 (List.replicate n (.slice none 0 0))⟩⟩
 case iend =>
  rintro a' w' ⟨x7, x8, x9, x10, x11, x12, x13, x14, x15, x16, x17, x18, x19, rfl, HBw, d0, d1, d2, d3, d4, d5, d6, d7, d8, d9, d10, d11, d12⟩
  replace d0 := d0 rfl
  replace d1 := d1 rfl
  replace d2 := d2 rfl
  replace d3 := d3 rfl
  replace d4 := d4 rfl
  replace d5 := d5 rfl
  replace d6 := d6 rfl
  replace d7 := d7 rfl
  replace d8 := d8 rfl
  replace d9 := d9 rfl
  replace d10 := d10 rfl
  replace d11 := d11 rfl
  replace d12 := d12 rfl
  simp only [sP]
  simp only [List.drop_succ_cons, List.drop_zero]
  obtain ⟨gp, e8, hgp, I8⟩ := d1
  obtain ⟨gh, e10, hgh, I10⟩ := d3
  obtain ⟨gb, e18, hgb, I18⟩ := d12
  obtain ⟨vs, O13⟩ := d6
  obtain ⟨ar, cr, hvr⟩ := own_form O13.out
  have O16 := d10
  obtain ⟨am, cm, hvm⟩ := own_form O16
  subst e8 e10 e18 d0 d2 d4 d5 d8 d9 d11
  have B12 := HBw.out
  have D2 := D1.grown B12
  clear HBw d10 d7
  subst hvr hvm
  rw [HNI.out] at O13
  simp only [HNI.out]
  go_wp2_with (first
   | (clear t3; refine wpList_storeW rfl 32 _ _ rfl rfl [.slice (some ⟨gp, 0, none⟩) n n, .slice (some ⟨gh, 0, none⟩) n n, .slice ar ni cr, .slice am nj cm, .slice (some ⟨gb, 0, none⟩) n n, .int .i64 (-1)] rfl D2 rfl infoSt (by simp [Value.oneCell']) ?_; intro W3 U3 D3))
  have hb2l := D1.lt
  have hW13 : Below W1.heap.size W1 w' := B12
  have hUb : Below w'.heap.size w' W3 ∨ True := .inr trivial
  have hS : ∀ k, W1.heap.size ≤ k → W3.heap[k]? = w'.heap[k]? := fun k hk => U3.block k (by omega)
  refine ret_S (cs := [.slice (some ⟨gp, 0, none⟩) n n, .slice (some ⟨gh, 0, none⟩) n n, .slice ar ni cr, .slice am nj cm, .slice (some ⟨gb, 0, none⟩) n n, .int .i64 (-1)]) rfl rfl rfl D3 _ Try.underlying32 rfl infoSt ⟨_, _, _, _, _, rfl, ?_, U3.trans (Below.then B1 B12) hb2⟩
  intro V hV
  have hS2 : ∀ k, W1.heap.size ≤ k → k < w'.heap.size → V.heap[k]? = w'.heap[k]? := fun k hk hk2 => (hV k (Nat.le_trans B1.size hk) (by rw [U3.size]; exact hk2)).trans (hS k hk)
  have up : ∀ {t z n : Nat} {v : Value} {xs : List Value}, w'.ownsRow W1.heap.size t z v n xs → V.ownsRow W1.heap.size t z v n xs := fun ho => own_same ho fun k hk => hS2 k (own_lt ho hk).1 (own_lt ho hk).2
  refine ⟨?_, ?_, ?_, ?_, ?_⟩
  · exact rep_row ((hS2 gp hgp I8.lt).trans I8)
  · exact rep_row ((hS2 gh hgh I10.lt).trans I10)
  · exact (⟨O13.len, up O13.out, fun j u xs hu hx => up (O13.row j u xs hu hx), O13.apart⟩ : OwnA V W1.heap.size (.slice ar ni cr) vs ri).rows
  · rw [HNJ.out]; exact own_row (up O16)
  · exact rep_rows ((hS2 gb hgb I18.lt).trans I18)
def ST0 : ST := ⟨[], [], [], [], [], 0⟩
noncomputable def stSt (p : PG) : ST := if validV p = 0 then ⟨List.replicate p.threads.length 0, List.replicate p.threads.length 0, p.regInit, p.locInit, List.replicate p.threads.length [], -1⟩ else ST0
structure SOwn (W : World) (B : Nat) (s : ST) (v1 v2 v3 v4 v5 : Value) (vs bs : List Value) : Prop where
 pc : W.ownsRow B 3 1 v1 s.pc.length (s.pc.flatMap intE)
 ph : W.ownsRow B 3 1 v2 s.ph.length (s.ph.flatMap intE)
 rg : OwnA W B v3 vs s.regs
 mm : W.ownsRow B 2 1 v4 s.mem.length (s.mem.flatMap intE)
 am : ∀ (j : Nat) u k, vs[j]? = some u → u.ownBlock = some k → v4.ownBlock ≠ some k
 bf : W.ownsRow B 48 1 v5 bs.length bs
 bl : bs.length = s.buf.length
 be : ∀ (j : Nat) u l, bs[j]? = some u → s.buf[j]? = some l → W.ownsRow B 50 2 u l.length (l.flatMap wrE)
 ba : ∀ (i j : Nat) u u' k, i ≠ j → bs[i]? = some u → bs[j]? = some u' → u.ownBlock = some k → u'.ownBlock ≠ some k
theorem SOwn.same {W W' : World} {B : Nat} {s : ST} {v1 v2 v3 v4 v5 : Value} {vs bs : List Value} (h : SOwn W B s v1 v2 v3 v4 v5 vs bs) (hs : ∀ k, B ≤ k → k < W.heap.size → W'.heap[k]? = W.heap[k]?) : SOwn W' B s v1 v2 v3 v4 v5 vs bs := by
 have up : ∀ {t z n : Nat} {v : Value} {xs : List Value}, W.ownsRow B t z v n xs → W'.ownsRow B t z v n xs := fun ho => own_same ho fun k hk => hs k (own_lt ho hk).1 (own_lt ho hk).2
 exact ⟨up h.pc, up h.ph, ⟨h.rg.len, up h.rg.out, fun j u xs hu hx => up (h.rg.row j u xs hu hx), h.rg.apart⟩, up h.mm, h.am, up h.bf, h.bl, fun j u l hu hl => up (h.be j u l hu hl), h.ba⟩
theorem SOwn.below {W W' : World} {B : Nat} {s : ST} {v1 v2 v3 v4 v5 : Value} {vs bs : List Value} (h : SOwn W B s v1 v2 v3 v4 v5 vs bs) (hB : Below W.heap.size W W') : SOwn W' B s v1 v2 v3 v4 v5 vs bs := h.same fun k _ hk => hB.block k hk
theorem SOwn.stv {W : World} {B : Nat} {s : ST} {v1 v2 v3 v4 v5 : Value} {vs bs : List Value} (h : SOwn W B s v1 v2 v3 v4 v5 vs bs) : STV W s v1 v2 v3 v4 v5 := ⟨own_row h.pc, own_row h.ph, h.rg.rows, own_row h.mm, own_rowsW h.bl h.bf h.be⟩
theorem SOwn.zero (W : World) (B : Nat) : SOwn W B ST0 (.slice none 0 0) (.slice none 0 0) (.slice none 0 0) (.slice none 0 0) (.slice none 0 0) [] [] :=
 ⟨own_nil _ _ _ _, own_nil _ _ _ _, ⟨rfl, own_nil _ _ _ _, fun j u xs hu => (by cases hu), fun i j u u' k _ hu => (by cases hu)⟩, own_nil _ _ _ _, fun j u k hu => (by cases hu), own_nil _ _ _ _, rfl, fun j u l hu => (by cases hu), fun i j u u' k _ hu => (by cases hu)⟩
theorem own_slc {W : World} {B g t : Nat} {cs : List Value} (hB : B ≤ g) (I : IsS W g t cs) (hl : cs.length ≤ 1048576) : W.ownsRow B t 1 (slc g cs.length) cs.length cs :=
 own_cls hB I (List.take_length ..) (Nat.le_refl _) (Nat.le_trans hl (by decide)) rfl
theorem own_slc2 {W : World} {B g t n : Nat} {cs : List Value} (hB : B ≤ g) (I : IsS W g t cs) (hl : cs.length = 2 * n) (hn : n ≤ 1048576) : W.ownsRow B t 2 (slc g n) n cs := by
 refine ⟨by omega, .inr ⟨g, n, cs.toArray, rfl, hB, I, Nat.le_refl _, Nat.le_trans hn (by decide), by simp; omega, ?_⟩⟩
 rw [show n * 2 = cs.length by omega]
 simp
theorem nodup_map {α : Type} {l : List (Nat × α)} (h : (l.map (·.1)).Nodup) {i j : Nat} {x y : Nat × α} (hne : i ≠ j) (hx : l[i]? = some x) (hy : l[j]? = some y) : x.1 ≠ y.1 := by
 intro e
 have hi : i < l.length := (List.getElem?_eq_some_iff.1 hx).1
 have h1 : (l.map (·.1))[i]? = some x.1 := by rw [List.getElem?_map, hx]; rfl
 have h2 : (l.map (·.1))[j]? = some x.1 := by rw [List.getElem?_map, hy, e]; rfl
 exact hne ((List.getElem?_inj (by rw [List.length_map]; exact hi) h).1 (h1.trans h2.symm))
theorem SOwn.of_stb {W : World} {B : Nat} {s : ST} {gp gh gr gm gb : Nat} {rows : List (Nat × List Int)} {brows : List (Nat × List (Int × Int))} (hf : s.Few) (h : STB W B s gp gh gr gm gb rows brows) : SOwn W B s (slc gp s.pc.length) (slc gh s.ph.length) (slc gr s.regs.length) (slc gm s.mem.length) (slc gb s.buf.length) (rowsC rows) (rowsC brows) := by
 have hrl : (rowsC rows).length = s.regs.length := by rw [h.er]; simp [rowsC]
 have hbl : (rowsC brows).length = s.buf.length := by rw [h.eb]; simp [rowsC]
 obtain ⟨l1, l2, l3, l4, l5, l6, l7⟩ := h.low
 have hnr := h.nr
 rw [List.nodup_append] at hnr
 have get : ∀ (j : Nat) u, (rowsC rows)[j]? = some u → ∃ x, rows[j]? = some x ∧ u = slc x.1 x.2.length := fun j u hu => by
  unfold rowsC at hu
  rw [List.getElem?_map] at hu
  cases hr : rows[j]? with
  | none => rw [hr] at hu; cases hu
  | some x => rw [hr] at hu; cases hu; exact ⟨x, rfl, rfl⟩
 have getb : ∀ (j : Nat) u, (rowsC brows)[j]? = some u → ∃ x, brows[j]? = some x ∧ u = slc x.1 x.2.length := fun j u hu => by
  unfold rowsC at hu
  rw [List.getElem?_map] at hu
  cases hr : brows[j]? with
  | none => rw [hr] at hu; cases hu
  | some x => rw [hr] at hu; cases hu; exact ⟨x, rfl, rfl⟩
 refine ⟨?_, ?_, ⟨hrl, ?_, fun j u xs hu hx => ?_, fun i j u u' k hne hu hu' hk hk' => ?_⟩, ?_, fun j u k hu hk hk' => ?_, ?_, hbl, fun j u l hu hl => ?_, fun i j u u' k hne hu hu' hk hk' => ?_⟩
 · have := own_slc l1 h.pc (by rw [List.length_map]; exact hf.pc)
   rw [List.length_map] at this
   rw [int_map]; exact this
 · have := own_slc l2 h.ph (by rw [List.length_map]; exact hf.ph)
   rw [List.length_map] at this
   rw [int_map]; exact this
 · have := own_slc l3 h.rg (by rw [hrl]; exact hf.rg)
   rw [hrl] at this
   exact this
 · obtain ⟨x, hr, rfl⟩ := get j u hu
   have hxs : xs = x.2 := by rw [h.er, List.getElem?_map, hr] at hx; cases hx; rfl
   subst hxs
   have hm := List.mem_of_getElem? hr
   have := own_slc (l6 x hm) (h.rr x hm) (by rw [List.length_map]; exact flat_row hf.rr hx)
   rw [List.length_map] at this
   rw [int_map]; exact this
 · obtain ⟨x, hr, rfl⟩ := get i u hu
   obtain ⟨y, hr', rfl⟩ := get j u' hu'
   cases hk
   have e : y.1 = x.1 := oI hk'
   exact nodup_map hnr.1 hne hr hr' e.symm
 · have := own_slc l4 h.mm (by rw [List.length_map]; exact hf.mm)
   rw [List.length_map] at this
   rw [int_map]; exact this
 · obtain ⟨x, hr, rfl⟩ := get j u hu
   cases hk
   have e : gm = x.1 := oI hk'
   exact hnr.2.2 x.1 (List.mem_map.2 ⟨x, List.mem_of_getElem? hr, rfl⟩) gm (by simp) e.symm
 · have := own_slc l5 h.bf (by rw [hbl]; exact hf.bf)
   rw [hbl] at this ⊢
   exact this
 · obtain ⟨x, hr, rfl⟩ := getb j u hu
   have hxs : l = x.2 := by rw [h.eb, List.getElem?_map, hr] at hl; cases hl; rfl
   subst hxs
   have hm := List.mem_of_getElem? hr
   exact own_slc2 (l7 x hm) (h.bb x hm) (wrE_len _) (flat_row hf.bb hl)
 · obtain ⟨x, hr, rfl⟩ := getb i u hu
   obtain ⟨y, hr', rfl⟩ := getb j u' hu'
   cases hk
   have e : y.1 = x.1 := oI hk'
   exact nodup_map h.nb hne hr hr' e.symm
theorem st_of_rows {w : World} {s : ST} {v1 v2 v3 v4 v5 : Value} {n : Nat} {pc : List Int} {regs : List (List Int)} {mem : List Int} (h : RS w v1 v2 v3 v4 v5 n pc regs mem) (hs : s = ⟨pc, List.replicate n 0, regs, mem, List.replicate n [], -1⟩) (hn : pc.length = n) : STV w s v1 v2 v3 v4 v5 := by
 subst hs
 exact ⟨by show RowV w v1 pc.length _; rw [hn]; exact h.pc, by show RowV w v2 (List.replicate n (0 : Int)).length _; rw [List.length_replicate]; exact h.ph, h.rg, h.mm, h.bf⟩
theorem stv_one {W : World} {s : ST} {v1 v2 v3 v4 v5 : Value} (z : Int) (h : STV W s v1 v2 v3 v4 v5) : ∀ v ∈ [v1, v2, v3, v4, v5, .int .i64 z], v.oneCell' = true :=
 stc_oneX (rowV_oneX h.pc) (rowV_oneX h.ph) (by obtain ⟨a, c, e⟩ := h.rg.form; rw [e]; rfl) (rowV_oneX h.mm) (by obtain ⟨a, c, e⟩ := h.bf.form; rw [e]; rfl)
theorem rs_one {w : World} {v1 v2 v3 v4 v5 : Value} {n : Nat} {pc : List Int} {regs : List (List Int)} {mem : List Int} (z : Int) (h : RS w v1 v2 v3 v4 v5 n pc regs mem) : ∀ v ∈ [v1, v2, v3, v4, v5, .int .i64 z], v.oneCell' = true :=
 stc_oneX (rowV_oneX h.pc) (rowV_oneX h.ph) (by obtain ⟨a, c, e⟩ := h.rg.form; rw [e]; rfl) (rowV_oneX h.mm) (by obtain ⟨a, c, e⟩ := h.bf.form; rw [e]; rfl)
theorem one6 {a b c d e : Option Addr} {n1 n2 n3 n4 n5 c1 c2 c3 c4 c5 : Nat} {z : Int} : ∀ v ∈ [Value.slice a n1 c1, .slice b n2 c2, .slice c n3 c3, .slice d n4 c4, .slice e n5 c5, .int .i64 z], v.oneCell' = true := by
 intro v hv
 simp only [List.mem_cons, List.not_mem_nil, or_false] at hv
 rcases hv with rfl | rfl | rfl | rfl | rfl | rfl <;> rfl
set_option maxRecDepth 100000 in
set_option maxHeartbeats 4000000 in
theorem rstart_any (p : PG) (hf : p.Few) (vt vr vl vi vj : Value) (w : World) (hp : PGV w vt vr vl vi vj p) :
    Calls Try.prog 16 #[.agg #[vt, vr, vl, vi, vj]] w fun e w' => ∃ v1 v2 v3 v4 v5, e = .returned (.tuple #[.agg #[v1, v2, v3, v4, v5, .int .i64 (stSt p).lock], .int .i64 (validV p)]) ∧ STV w' (stSt p) v1 v2 v3 v4 v5 ∧ Below w.heap.size w w' := by
 have hVal := fun W (h : PGV W vt vr vl vi vj p) => rvalid_any p hf vt vr vl vi vj W h
 have hSt := fun W (h : PGV W vt vr vl vi vj p) => rfirstF_any p p.threads.length hf rfl vt vr vl vi vj W h
 have HP : Hid (PGV w vt vr vl vi vj p) := hp
 have t1 : True := trivial
 have t2 : True := trivial
 have t3 : True := trivial
 have t4 : True := trivial
 by_cases hv0 : validV p = 0
 · obtain ⟨n, hn⟩ : ∃ n, p.threads.length = n := ⟨_, rfl⟩
   have e1 : stSt p = ⟨List.replicate n 0, List.replicate n 0, p.regInit, p.locInit, List.replicate n [], -1⟩ := by unfold stSt; rw [if_pos hv0, hn]
   rw [e1, hv0]
   rw [hv0] at hVal
   simp only [hn] at hSt
   clear hp hf hv0 hn e1
   go_enter Try.func16, Try.ntmps16
   go_wp2_with (first
    | (clear t1; refine wpList_boxS rfl 28 _ rfl [vt, vr, vl, vi, vj] rfl ?_; intro W0 b2 F0 C0; have B0 := F_b F0; clear F0)
    | (clear t2; refine wpList_allocS rfl 32 rfl zst zeroSt ?_; intro W1 b4 F1 Z1; have C1 := C0.fresh F1; have B1 := F1.trans B0 B0.size; have hb4 : w.heap.size ≤ b4 := Nat.le_trans B0.size (Nat.le_of_eq F1.at'.symm); clear F1 C0)
    | (clear t3; refine wpList_loadW rfl 28 _ rfl rfl C1 _ Try.underlying28 rfl infoPg ?_)
    | (go_at_call 28; refine (hVal _ (HP.out.below B1)).mono ?_; rintro e W2 ⟨rfl, B2x⟩; have C2 := C1.grown B2x; have Z2 := Z1.grown B2x; have B2 := Below.then B1 B2x; clear hVal C1 Z1 B0 B1 B2x)
    | (clear t4; refine wpList_loadW rfl 28 _ rfl rfl C2 _ Try.underlying28 rfl infoPg ?_)
    | (go_at_call 29; refine (hSt _ (HP.out.below B2)).mono ?_; rintro e W3 ⟨u1, u2, u3, u4, u5, rfl, S3, B3x⟩; have Z3 := Z2.grown B3x; have hb4l := Z2.lt; have B3 := Below.then B2 B3x; have S3s := S3 W3 (fun _ _ _ => rfl); have hone := rs_one (-1) S3s; clear hSt S3s)
    | (refine wpList_storeW rfl 32 _ _ rfl rfl [u1, u2, u3, u4, u5, .int .i64 (-1)] rfl Z3 rfl infoSt hone ?_; intro W7 U7 Z7; have B7 := U7.trans B3 hb4))
   exact ret_ST rfl rfl rfl Z7 _ Try.underlying32 rfl infoSt _ rfl ⟨_, _, _, _, _, rfl, st_of_rows (S3 W7 fun k hk _ => U7.block k (by omega)) rfl (by simp), B7⟩
 · have e1 : stSt p = ST0 := by unfold stSt; rw [if_neg hv0]
   rw [e1]
   obtain ⟨ev, hev⟩ : ∃ e, e = validV p := ⟨_, rfl⟩
   rw [← hev] at hv0 ⊢
   simp only [← hev] at hVal
   have hz1 : ∀ v ∈ zst, v.oneCell' = true := by
    intro v hv
    unfold zst at hv
    simp only [List.mem_cons, List.not_mem_nil, or_false] at hv
    rcases hv with rfl | rfl | rfl | rfl | rfl | rfl <;> rfl
   clear hp hf hev hSt e1
   go_enter Try.func16, Try.ntmps16
   go_wp2_with (first
    | (clear t1; refine wpList_boxS rfl 28 _ rfl [vt, vr, vl, vi, vj] rfl ?_; intro W0 b2 F0 C0; have B0 := F_b F0; clear F0)
    | (clear t2; refine wpList_allocS rfl 32 rfl zst zeroSt ?_; intro W1 b4 F1 Z1; have C1 := C0.fresh F1; have B1 := F1.trans B0 B0.size; have hb4 : w.heap.size ≤ b4 := Nat.le_trans B0.size (Nat.le_of_eq F1.at'.symm); clear F1 C0)
    | (clear t3; refine wpList_loadW rfl 28 _ rfl rfl C1 _ Try.underlying28 rfl infoPg ?_)
    | (go_at_call 28; refine (hVal _ (HP.out.below B1)).mono ?_; rintro e W2 ⟨rfl, B2x⟩; have Z2 := Z1.grown B2x; have B2 := Below.then B1 B2x; clear hVal C1 Z1 B0 B1 B2x)
    | (clear t4; refine wpList_valueX rfl (build0_st rfl) ?_)
    | (refine wpList_storeW rfl 32 _ _ rfl rfl zst rfl Z2 rfl infoSt hz1 ?_; intro W7 U7 Z7; have B7 := U7.trans B2 hb4))
   exact ret_ST rfl rfl rfl Z7 _ Try.underlying32 rfl infoSt _ rfl ⟨_, _, _, _, _, rfl, (SOwn.zero _ 0).stv, B7⟩
end Go.Proofs.Ytegpnicajlndlaa

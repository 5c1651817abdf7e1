/- SC7 -/
import Derived.Test.YtegpnicajlndlaaQas
namespace Go.Proofs.Ytegpnicajlndlaa
open Go.RowKit M
set_option linter.unusedSimpArgs false
set_option linter.unusedVariables false
theorem eIntI : Elt 3 29 1 (.int .i64 0) 8 := ⟨Try.underlying29, info_parts (by kernel_rfl), rfl, by decide, by decide⟩
theorem eWrs : Elt 48 30 1 (.slice none 0 0) 24 := ⟨Try.underlying30, info_parts (by kernel_rfl), rfl, by decide, by decide⟩
theorem infoSt : (Try.prog.info? 32).map (·.size) = some 6 := by kernel_rfl
theorem zeroSt (w : World) : (zeroValue 32).run Try.prog w = .ok (.agg #[.slice none 0 0, .slice none 0 0, .slice none 0 0, .slice none 0 0, .slice none 0 0, .int .i64 0]) w := Try.zeroValue32 w
theorem OwnA.raise {w : World} {B B' : Nat} {v : Value} {vs : List Value} {xss : List (List Int)} (h : OwnA w B' v vs xss) (hb : B ≤ B') : OwnA w B v vs xss :=
 ⟨h.len, own_raise h.out hb, fun j u xs hu hx => own_raise (h.row j u xs hu hx) hb, h.apart⟩
theorem OwnA.range {w : World} {B j k : Nat} {v u : Value} {vs : List Value} {xss : List (List Int)} (h : OwnA w B v vs xss) (hu : vs[j]? = some u) (hk : u.ownBlock = some k) : B ≤ k ∧ k < w.heap.size := by
 have hj := (List.getElem?_eq_some_iff.1 hu).1
 exact own_lt (h.row j u _ hu (List.getElem?_eq_getElem (by rw [← h.len]; exact hj))) hk
theorem OwnA.same {w W : World} {B : Nat} {v : Value} {vs : List Value} {xss : List (List Int)} (h : OwnA w B v vs xss) (hb : ∀ k, B ≤ k → W.heap[k]? = w.heap[k]?) : OwnA W B v vs xss :=
 ⟨h.len, own_same h.out fun k hk => hb k (own_lt h.out hk).1, fun j u xs hu hx => own_same (h.row j u xs hu hx) fun k hk => hb k (own_lt (h.row j u xs hu hx) hk).1, h.apart⟩
theorem own_rep {W : World} {B g n : Nat} (hg : B ≤ g) (I : IsS W g 3 (List.replicate n (.int .i64 0))) (hn : n ≤ 1048576) : W.ownsRow B 3 1 (.slice (some ⟨g, 0, none⟩) n n) (List.replicate n (0 : Int)).length ((List.replicate n (0 : Int)).flatMap intE) := by
 have h := own_cls (n := n) (c := n) hg I rfl (Nat.le_refl _) (by unfold maxLen; omega) (List.length_replicate)
 rw [List.length_replicate]
 rw [List.take_of_length_le (by rw [List.length_replicate]; exact Nat.le_refl _)] at h
 rw [int_map, List.map_replicate]
 exact h
set_option maxRecDepth 100000 in
set_option maxHeartbeats 4000000 in
theorem startOf_any (p : PG) (n : Nat) (hf : p.Few) (hn0 : p.threads.length = n) (vt vr vl vi vj : Value) (w : World) (hp : PGV w vt vr vl vi vj p) :
    Calls Try.prog 47 #[.agg #[vt, vr, vl, vi, vj]] w fun e w' => ∃ gp gh gb vrg vmm vs, e = .returned (.agg #[.slice (some ⟨gp, 0, none⟩) n n, .slice (some ⟨gh, 0, none⟩) n n, vrg, vmm, .slice (some ⟨gb, 0, none⟩) n n, .int .i64 (-1)]) ∧ StO w' w.heap.size (.slice (some ⟨gp, 0, none⟩) n n) vrg vmm vs (List.replicate n 0) p.regInit p.locInit ∧ IsS w' gh 3 (List.replicate n (.int .i64 0)) ∧ IsS w' gb 48 (List.replicate n (.slice none 0 0)) ∧ Below w.heap.size w w' := by
 have hn : n ≤ 1048576 := by rw [← hn0]; exact hf.t
 obtain ⟨at', ct, rfl⟩ := hp.t.form
 obtain ⟨ai, ci, rfl⟩ := hp.i.form
 obtain ⟨aj, cj, rfl, hsj, hzj⟩ := hp.j
 have hC1 := fun W (h : RowsV W (.slice ai p.regInit.length ci) intE p.regInit) => clones64_any p.regInit hf.i hf.ii ai ci W h
 have hC2 := fun W (h : Seg W aj (p.locInit.flatMap intE)) => clone64_any p.locInit p.locInit.length cj aj rfl hf.j W h hzj
 have HI : Hid (RowsV w (.slice ai p.regInit.length ci) intE p.regInit) := hp.i
 have HJ : Hid (Seg w aj (p.locInit.flatMap intE)) := hsj
 obtain ⟨ri, hri⟩ : ∃ r, p.regInit = r := ⟨_, rfl⟩
 obtain ⟨lj, hlj⟩ : ∃ r, p.locInit = r := ⟨_, rfl⟩
 rw [hri] at hC1 HI
 rw [hlj] at hC2 HJ
 simp only [hri, hlj, hn0]
 obtain ⟨ni, hni⟩ : ∃ k, ri.length = k := ⟨_, rfl⟩
 obtain ⟨nj, hnj⟩ : ∃ k, lj.length = k := ⟨_, rfl⟩
 have HNI : Hid (ri.length = ni) := hni
 have HNJ : Hid (lj.length = nj) := hnj
 rw [hni] at hC1 HI
 rw [hnj] at hC2
 simp only [hni, hnj]
 clear hp hsj hri hlj hni hnj hf hn0
 have hnI : (n : Int) ≤ 1048576 := by omega
 have t1 : True := trivial
 have t2 : True := trivial
 have t3 : True := trivial
 go_enter Try.func47, Try.ntmps47
 go_wp2_with (first
  | (clear t1; refine wpList_boxS rfl 28 _ rfl [.slice at' n ct, vr, vl, .slice ai ni ci, .slice aj nj cj] rfl ?_; intro W0 b1 F0 C0; have B0 := F_b F0)
  | (clear t2; refine wpList_allocS rfl 32 rfl [.slice none 0 0, .slice none 0 0, .slice none 0 0, .slice none 0 0, .slice none 0 0, .int .i64 0] zeroSt ?_; intro W1 b2 F1 D1; have C1 := C0.fresh F1; have B1 := F1.trans B0 B0.size; have hb2 : w.heap.size ≤ b2 := Nat.le_trans B0.size (Nat.le_of_eq F1.at'.symm); have n12 : b1 ≠ b2 := (by have := C0.lt; have := F1.at'; omega); have x0 : W1.cell? ⟨b1, 0, none⟩ = some (.slice at' n ct) := C1.cell 0; clear F0 F1 C0))
 clear x0
 refine region_invA 12 (fun a0 listed a' w' => ∃ lo6 hi6 lo9 hi9 : Nat, ∃ x7 x8 x9 x10 x11 x12 x13 x14 x15 x16 x17 x18 : Value, a' = ((((((((((((a0.put (some 7) x7).put (some 8) x8).put (some 9) x9).put (some 10) x10).put (some 11) x11).put (some 12) x12).put (some 13) x13).put (some 14) x14).put (some 15) x15).put (some 16) x16).put (some 17) x17).put (some 18) x18) ∧ Hid (Below W1.heap.size W1 w') ∧ (((listed).getD 6 false = true → (listed).getD 9 false = true → hi6 ≤ lo9 ∨ hi9 ≤ lo6) ∧ ((listed).getD 6 false = true → hi6 ≤ w'.heap.size) ∧ ((listed).getD 9 false = true → hi9 ≤ w'.heap.size)) ∧ (listed.getD 0 false = true → x7 = (.int .i64 (n : Int))) ∧ (listed.getD 1 false = true → ∃ g, x8 = .slice (some ⟨g, 0, none⟩) n n ∧ W1.heap.size ≤ g ∧ IsS w' g 3 (List.replicate n (.int .i64 0))) ∧ (listed.getD 2 false = true → x9 = (.int .i64 (n : Int))) ∧ (listed.getD 3 false = true → ∃ g, x10 = .slice (some ⟨g, 0, none⟩) n n ∧ W1.heap.size ≤ g ∧ IsS w' g 3 (List.replicate n (.int .i64 0))) ∧ (listed.getD 4 false = true → x11 = (.pointer (some ⟨b1, 3, none⟩))) ∧ (listed.getD 5 false = true → x12 = (.slice ai ni ci)) ∧ (listed.getD 6 false = true → ∃ vs, OwnA w' W1.heap.size x13 vs ri ∧ ∀ (j : Nat) u k, vs[j]? = some u → u.ownBlock = some k → lo6 ≤ k ∧ k < hi6) ∧ (listed.getD 7 false = true → x14 = (.pointer (some ⟨b1, 4, none⟩))) ∧ (listed.getD 8 false = true → x15 = (.slice aj nj cj)) ∧ (listed.getD 9 false = true → w'.ownsRow W1.heap.size 2 1 x16 nj (lj.flatMap intE) ∧ ∀ k, x16.ownBlock = some k → lo9 ≤ k ∧ k < hi9) ∧ (listed.getD 10 false = true → x17 = (.int .i64 (n : Int))) ∧ (listed.getD 11 false = true → ∃ g, x18 = .slice (some ⟨g, 0, none⟩) n n ∧ W1.heap.size ≤ g ∧ IsS w' g 48 (List.replicate n (.slice none 0 0)))) (by kernel_rfl) (by kernel_rfl) ?i0 ?istep ?iend
 case i0 => exact ⟨0, 0, 0, 0, _, _, _, _, _, _, _, _, _, _, _, _, by (try simp only [sP]) <;> rfl, below_drew bR, ⟨fun h => (not_rep h).elim, fun h => (not_rep h).elim, fun h => (not_rep h).elim⟩, fun h => (not_rep h).elim, fun h => (not_rep h).elim, fun h => (not_rep h).elim, fun h => (not_rep h).elim, fun h => (not_rep h).elim, fun h => (not_rep h).elim, fun h => (not_rep h).elim, fun h => (not_rep h).elim, fun h => (not_rep h).elim, fun h => (not_rep h).elim, fun h => (not_rep h).elim, fun h => (not_rep h).elim⟩
 case istep =>
  rintro i listed a' w' hi hr ⟨lo6, hi6, lo9, hi9, x7, x8, x9, x10, x11, x12, x13, x14, x15, x16, x17, x18, rfl, HBw, HX, d0, d1, d2, d3, d4, d5, d6, d7, d8, d9, d10, d11⟩
  obtain ⟨hun, oj, hoj, hwt⟩ := mem_ready.1 hr
  simp only [sP]
  have hcase : i = 0 ∨ i = 1 ∨ i = 2 ∨ i = 3 ∨ i = 4 ∨ i = 5 ∨ i = 6 ∨ i = 7 ∨ i = 8 ∨ i = 9 ∨ i = 10 ∨ i = 11 := by omega
  rcases hcase with rfl | rfl | rfl | rfl | rfl | rfl | rfl | rfl | rfl | rfl | rfl | rfl
  · have hoj2 := hoj
    obtain rfl := oI hoj
    refine wpOp_value hoj2 rfl (v := (.int .i64 (n : Int))) (w' := w') (by first | rfl | (go_simp; done) | (simp [go_sem]; done) | (simp [execOp, go_sem]; done)) ?_
    exact ⟨lo6, hi6, lo9, hi9, (.int .i64 (n : Int)), x8, x9, x10, x11, x12, x13, x14, x15, x16, x17, x18, by (try simp only [sP]) <;> rfl, Below.then HBw.out bR, ⟨fun h1 h2 => HX.1 (keep (by decide) h1) (keep (by decide) h2), fun h => Nat.le_trans (HX.2.1 (kp h)) (Below.size (B := w'.heap.size) bR), fun h => Nat.le_trans (HX.2.2 (kp h)) (Below.size (B := w'.heap.size) bR)⟩, fun _ => rfl, fun h => (eE (d1 (kp h)) fun g h => ⟨g, h.1, h.2.1, h.2.2.grown bR⟩), d2 ∘ kq, fun h => (eE (d3 (kp h)) fun g h => ⟨g, h.1, h.2.1, h.2.2.grown bR⟩), d4 ∘ kq, d5 ∘ kq, fun h => (eE (d6 (kp h)) fun vs h => ⟨vs, h.1.below bR, h.2⟩), d7 ∘ kq, d8 ∘ kq, fun h => ⟨own_below (d9 (kp h)).1 bR, (d9 (kp h)).2⟩, d10 ∘ kq, fun h => (eE (d11 (kp h)) fun g h => ⟨g, h.1, h.2.1, h.2.2.grown bR⟩)⟩
  · have hoj2 := hoj
    obtain rfl := oI hoj
    have e0 := d0 (hwt ⟨0, .data⟩ (by simp) rfl)
    subst e0
    refine wpOp_value hoj2 rfl (exec_make1 eIntI rfl _ _ rfl n hn rfl rfl) ?_
    have B9 := F_b (Fresh.alloc w' (.cells (List.replicate n (.int .i64 0)).toArray 3))
    exact ⟨lo6, hi6, lo9, hi9, (.int .i64 (n : Int)), _, x9, x10, x11, x12, x13, x14, x15, x16, x17, x18, by (try simp only [sP]) <;> rfl, Below.then HBw.out B9, ⟨fun h1 h2 => HX.1 (keep (by decide) h1) (keep (by decide) h2), fun h => Nat.le_trans (HX.2.1 (kp h)) (Below.size (B := w'.heap.size) B9), fun h => Nat.le_trans (HX.2.2 (kp h)) (Below.size (B := w'.heap.size) B9)⟩, d0 ∘ kq, fun _ => ⟨_, rfl, HBw.out.size, IsS.new w' 3 (List.replicate n (.int .i64 0))⟩, d2 ∘ kq, fun h => (eE (d3 (kp h)) fun g h => ⟨g, h.1, h.2.1, h.2.2.grown B9⟩), d4 ∘ kq, d5 ∘ kq, fun h => (eE (d6 (kp h)) fun vs h => ⟨vs, h.1.below B9, h.2⟩), d7 ∘ kq, d8 ∘ kq, fun h => ⟨own_below (d9 (kp h)).1 B9, (d9 (kp h)).2⟩, d10 ∘ kq, fun h => (eE (d11 (kp h)) fun g h => ⟨g, h.1, h.2.1, h.2.2.grown B9⟩)⟩
  · have hoj2 := hoj
    obtain rfl := oI hoj
    refine wpOp_value hoj2 rfl (v := (.int .i64 (n : Int))) (w' := w') (by first | rfl | (go_simp; done) | (simp [go_sem]; done) | (simp [execOp, go_sem]; done)) ?_
    exact ⟨lo6, hi6, lo9, hi9, x7, x8, (.int .i64 (n : Int)), x10, x11, x12, x13, x14, x15, x16, x17, x18, by (try simp only [sP]) <;> rfl, Below.then HBw.out bR, ⟨fun h1 h2 => HX.1 (keep (by decide) h1) (keep (by decide) h2), fun h => Nat.le_trans (HX.2.1 (kp h)) (Below.size (B := w'.heap.size) bR), fun h => Nat.le_trans (HX.2.2 (kp h)) (Below.size (B := w'.heap.size) bR)⟩, d0 ∘ kq, fun h => (eE (d1 (kp h)) fun g h => ⟨g, h.1, h.2.1, h.2.2.grown bR⟩), fun _ => rfl, fun h => (eE (d3 (kp h)) fun g h => ⟨g, h.1, h.2.1, h.2.2.grown bR⟩), d4 ∘ kq, d5 ∘ kq, fun h => (eE (d6 (kp h)) fun vs h => ⟨vs, h.1.below bR, h.2⟩), d7 ∘ kq, d8 ∘ kq, fun h => ⟨own_below (d9 (kp h)).1 bR, (d9 (kp h)).2⟩, d10 ∘ kq, fun h => (eE (d11 (kp h)) fun g h => ⟨g, h.1, h.2.1, h.2.2.grown bR⟩)⟩
  · have hoj2 := hoj
    obtain rfl := oI hoj
    have e2 := d2 (hwt ⟨2, .data⟩ (by simp) rfl)
    subst e2
    refine wpOp_value hoj2 rfl (exec_make1 eIntI rfl _ _ rfl n hn rfl rfl) ?_
    have B9 := F_b (Fresh.alloc w' (.cells (List.replicate n (.int .i64 0)).toArray 3))
    exact ⟨lo6, hi6, lo9, hi9, x7, x8, (.int .i64 (n : Int)), _, x11, x12, x13, x14, x15, x16, x17, x18, by (try simp only [sP]) <;> rfl, Below.then HBw.out B9, ⟨fun h1 h2 => HX.1 (keep (by decide) h1) (keep (by decide) h2), fun h => Nat.le_trans (HX.2.1 (kp h)) (Below.size (B := w'.heap.size) B9), fun h => Nat.le_trans (HX.2.2 (kp h)) (Below.size (B := w'.heap.size) B9)⟩, d0 ∘ kq, fun h => (eE (d1 (kp h)) fun g h => ⟨g, h.1, h.2.1, h.2.2.grown B9⟩), d2 ∘ kq, fun _ => ⟨_, rfl, HBw.out.size, IsS.new w' 3 (List.replicate n (.int .i64 0))⟩, d4 ∘ kq, d5 ∘ kq, fun h => (eE (d6 (kp h)) fun vs h => ⟨vs, h.1.below B9, h.2⟩), d7 ∘ kq, d8 ∘ kq, fun h => ⟨own_below (d9 (kp h)).1 B9, (d9 (kp h)).2⟩, d10 ∘ kq, fun h => (eE (d11 (kp h)) fun g h => ⟨g, h.1, h.2.1, h.2.2.grown B9⟩)⟩
  · have hoj2 := hoj
    obtain rfl := oI hoj
    refine wpOp_value hoj2 rfl (v := (.pointer (some ⟨b1, 3, none⟩))) (w' := w') (by first | rfl | (go_simp; done) | (simp [go_sem]; done) | (simp [execOp, go_sem]; done)) ?_
    exact ⟨lo6, hi6, lo9, hi9, x7, x8, x9, x10, (.pointer (some ⟨b1, 3, none⟩)), x12, x13, x14, x15, x16, x17, x18, by (try simp only [sP]) <;> rfl, Below.then HBw.out bR, ⟨fun h1 h2 => HX.1 (keep (by decide) h1) (keep (by decide) h2), fun h => Nat.le_trans (HX.2.1 (kp h)) (Below.size (B := w'.heap.size) bR), fun h => Nat.le_trans (HX.2.2 (kp h)) (Below.size (B := w'.heap.size) bR)⟩, d0 ∘ kq, fun h => (eE (d1 (kp h)) fun g h => ⟨g, h.1, h.2.1, h.2.2.grown bR⟩), d2 ∘ kq, fun h => (eE (d3 (kp h)) fun g h => ⟨g, h.1, h.2.1, h.2.2.grown bR⟩), fun _ => rfl, d5 ∘ kq, fun h => (eE (d6 (kp h)) fun vs h => ⟨vs, h.1.below bR, h.2⟩), d7 ∘ kq, d8 ∘ kq, fun h => ⟨own_below (d9 (kp h)).1 bR, (d9 (kp h)).2⟩, d10 ∘ kq, fun h => (eE (d11 (kp h)) fun g h => ⟨g, h.1, h.2.1, h.2.2.grown bR⟩)⟩
  · have hoj2 := hoj
    obtain rfl := oI hoj
    have e4 := d4 (hwt ⟨4, .data⟩ (by simp) rfl)
    subst e4
    refine wpOp_cell hoj2 rfl 25 _ rfl rfl (v := (.slice ai ni ci)) (ldcRr w' ((IsS.cell (C1.grown HBw.out) 3).trans rfl)) ?_
    exact ⟨lo6, hi6, lo9, hi9, x7, x8, x9, x10, (.pointer (some ⟨b1, 3, none⟩)), (.slice ai ni ci), x13, x14, x15, x16, x17, x18, by (try simp only [sP]) <;> rfl, Below.then HBw.out bR, ⟨fun h1 h2 => HX.1 (keep (by decide) h1) (keep (by decide) h2), fun h => Nat.le_trans (HX.2.1 (kp h)) (Below.size (B := w'.heap.size) bR), fun h => Nat.le_trans (HX.2.2 (kp h)) (Below.size (B := w'.heap.size) bR)⟩, d0 ∘ kq, fun h => (eE (d1 (kp h)) fun g h => ⟨g, h.1, h.2.1, h.2.2.grown bR⟩), d2 ∘ kq, fun h => (eE (d3 (kp h)) fun g h => ⟨g, h.1, h.2.1, h.2.2.grown bR⟩), d4 ∘ kq, fun _ => rfl, fun h => (eE (d6 (kp h)) fun vs h => ⟨vs, h.1.below bR, h.2⟩), d7 ∘ kq, d8 ∘ kq, fun h => ⟨own_below (d9 (kp h)).1 bR, (d9 (kp h)).2⟩, d10 ∘ kq, fun h => (eE (d11 (kp h)) fun g h => ⟨g, h.1, h.2.1, h.2.2.grown bR⟩)⟩
  · have hoj2 := hoj
    obtain rfl := oI hoj
    have e5 := d5 (hwt ⟨5, .data⟩ (by simp) rfl)
    subst e5
    refine wpOp_call hoj2 rfl (f := 97) (args := #[.slice ai ni ci]) (by first | rfl | (go_simp; done) | (simp [go_sem]; done) | (simp [execOp, go_sem]; done)) ?_
    refine (hC1 w' (HI.out.below (Below.then B1 HBw.out))).mono ?_
    rintro e w4 ⟨v7, rfl, ⟨vs, O7⟩, B4⟩
    refine ⟨_, rfl, ?_⟩
    exact ⟨w'.heap.size, w4.heap.size, lo9, hi9, x7, x8, x9, x10, x11, (.slice ai ni ci), v7, x14, x15, x16, x17, x18, by (try simp only [sP]) <;> rfl, Below.then HBw.out B4, ⟨fun _ h2 => .inr (HX.2.2 (keep (by decide) h2)), fun _ => Nat.le_refl _, fun h => Nat.le_trans (HX.2.2 (kp h)) (Below.size (B := w'.heap.size) B4)⟩, d0 ∘ kq, fun h => (eE (d1 (kp h)) fun g h => ⟨g, h.1, h.2.1, h.2.2.grown B4⟩), d2 ∘ kq, fun h => (eE (d3 (kp h)) fun g h => ⟨g, h.1, h.2.1, h.2.2.grown B4⟩), d4 ∘ kq, d5 ∘ kq, fun _ => ⟨vs, O7.raise HBw.out.size, fun j u k hu hk => O7.range hu hk⟩, d7 ∘ kq, d8 ∘ kq, fun h => ⟨own_below (d9 (kp h)).1 B4, (d9 (kp h)).2⟩, d10 ∘ kq, fun h => (eE (d11 (kp h)) fun g h => ⟨g, h.1, h.2.1, h.2.2.grown B4⟩)⟩
  · have hoj2 := hoj
    obtain rfl := oI hoj
    refine wpOp_value hoj2 rfl (v := (.pointer (some ⟨b1, 4, none⟩))) (w' := w') (by first | rfl | (go_simp; done) | (simp [go_sem]; done) | (simp [execOp, go_sem]; done)) ?_
    exact ⟨lo6, hi6, lo9, hi9, x7, x8, x9, x10, x11, x12, x13, (.pointer (some ⟨b1, 4, none⟩)), x15, x16, x17, x18, by (try simp only [sP]) <;> rfl, Below.then HBw.out bR, ⟨fun h1 h2 => HX.1 (keep (by decide) h1) (keep (by decide) h2), fun h => Nat.le_trans (HX.2.1 (kp h)) (Below.size (B := w'.heap.size) bR), fun h => Nat.le_trans (HX.2.2 (kp h)) (Below.size (B := w'.heap.size) bR)⟩, d0 ∘ kq, fun h => (eE (d1 (kp h)) fun g h => ⟨g, h.1, h.2.1, h.2.2.grown bR⟩), d2 ∘ kq, fun h => (eE (d3 (kp h)) fun g h => ⟨g, h.1, h.2.1, h.2.2.grown bR⟩), d4 ∘ kq, d5 ∘ kq, fun h => (eE (d6 (kp h)) fun vs h => ⟨vs, h.1.below bR, h.2⟩), fun _ => rfl, d8 ∘ kq, fun h => ⟨own_below (d9 (kp h)).1 bR, (d9 (kp h)).2⟩, d10 ∘ kq, fun h => (eE (d11 (kp h)) fun g h => ⟨g, h.1, h.2.1, h.2.2.grown bR⟩)⟩
  · have hoj2 := hoj
    obtain rfl := oI hoj
    have e7 := d7 (hwt ⟨7, .data⟩ (by simp) rfl)
    subst e7
    refine wpOp_cell hoj2 rfl 26 _ rfl rfl (v := (.slice aj nj cj)) (ldcR w' ((IsS.cell (C1.grown HBw.out) 4).trans rfl)) ?_
    exact ⟨lo6, hi6, lo9, hi9, x7, x8, x9, x10, x11, x12, x13, (.pointer (some ⟨b1, 4, none⟩)), (.slice aj nj cj), x16, x17, x18, by (try simp only [sP]) <;> rfl, Below.then HBw.out bR, ⟨fun h1 h2 => HX.1 (keep (by decide) h1) (keep (by decide) h2), fun h => Nat.le_trans (HX.2.1 (kp h)) (Below.size (B := w'.heap.size) bR), fun h => Nat.le_trans (HX.2.2 (kp h)) (Below.size (B := w'.heap.size) bR)⟩, d0 ∘ kq, fun h => (eE (d1 (kp h)) fun g h => ⟨g, h.1, h.2.1, h.2.2.grown bR⟩), d2 ∘ kq, fun h => (eE (d3 (kp h)) fun g h => ⟨g, h.1, h.2.1, h.2.2.grown bR⟩), d4 ∘ kq, d5 ∘ kq, fun h => (eE (d6 (kp h)) fun vs h => ⟨vs, h.1.below bR, h.2⟩), d7 ∘ kq, fun _ => rfl, fun h => ⟨own_below (d9 (kp h)).1 bR, (d9 (kp h)).2⟩, d10 ∘ kq, fun h => (eE (d11 (kp h)) fun g h => ⟨g, h.1, h.2.1, h.2.2.grown bR⟩)⟩
  · have hoj2 := hoj
    obtain rfl := oI hoj
    have e8 := d8 (hwt ⟨8, .data⟩ (by simp) rfl)
    subst e8
    refine wpOp_call hoj2 rfl (f := 98) (args := #[.slice aj nj cj]) (by first | rfl | (go_simp; done) | (simp [go_sem]; done) | (simp [execOp, go_sem]; done)) ?_
    refine (hC2 w' (HJ.out.below (Below.then B1 HBw.out))).mono ?_
    rintro e w4 ⟨v7, rfl, O7, B4⟩
    refine ⟨_, rfl, ?_⟩
    exact ⟨lo6, hi6, w'.heap.size, w4.heap.size, x7, x8, x9, x10, x11, x12, x13, x14, (.slice aj nj cj), v7, x17, x18, by (try simp only [sP]) <;> rfl, Below.then HBw.out B4, ⟨fun h1 _ => .inl (HX.2.1 (keep (by decide) h1)), fun h => Nat.le_trans (HX.2.1 (kp h)) (Below.size (B := w'.heap.size) B4), fun _ => Nat.le_refl _⟩, d0 ∘ kq, fun h => (eE (d1 (kp h)) fun g h => ⟨g, h.1, h.2.1, h.2.2.grown B4⟩), d2 ∘ kq, fun h => (eE (d3 (kp h)) fun g h => ⟨g, h.1, h.2.1, h.2.2.grown B4⟩), d4 ∘ kq, d5 ∘ kq, fun h => (eE (d6 (kp h)) fun vs h => ⟨vs, h.1.below B4, h.2⟩), d7 ∘ kq, d8 ∘ kq, fun _ => ⟨own_raise O7 HBw.out.size, fun k hk => own_lt O7 hk⟩, d10 ∘ kq, fun h => (eE (d11 (kp h)) fun g h => ⟨g, h.1, h.2.1, h.2.2.grown B4⟩)⟩
  · have hoj2 := hoj
    obtain rfl := oI hoj
    refine wpOp_value hoj2 rfl (v := (.int .i64 (n : Int))) (w' := w') (by first | rfl | (go_simp; done) | (simp [go_sem]; done) | (simp [execOp, go_sem]; done)) ?_
    exact ⟨lo6, hi6, lo9, hi9, x7, x8, x9, x10, x11, x12, x13, x14, x15, x16, (.int .i64 (n : Int)), x18, by (try simp only [sP]) <;> rfl, Below.then HBw.out bR, ⟨fun h1 h2 => HX.1 (keep (by decide) h1) (keep (by decide) h2), fun h => Nat.le_trans (HX.2.1 (kp h)) (Below.size (B := w'.heap.size) bR), fun h => Nat.le_trans (HX.2.2 (kp h)) (Below.size (B := w'.heap.size) bR)⟩, d0 ∘ kq, fun h => (eE (d1 (kp h)) fun g h => ⟨g, h.1, h.2.1, h.2.2.grown bR⟩), d2 ∘ kq, fun h => (eE (d3 (kp h)) fun g h => ⟨g, h.1, h.2.1, h.2.2.grown bR⟩), d4 ∘ kq, d5 ∘ kq, fun h => (eE (d6 (kp h)) fun vs h => ⟨vs, h.1.below bR, h.2⟩), d7 ∘ kq, d8 ∘ kq, fun h => ⟨own_below (d9 (kp h)).1 bR, (d9 (kp h)).2⟩, fun _ => rfl, fun h => (eE (d11 (kp h)) fun g h => ⟨g, h.1, h.2.1, h.2.2.grown bR⟩)⟩
  · have hoj2 := hoj
    obtain rfl := oI hoj
    have e10 := d10 (hwt ⟨10, .data⟩ (by simp) rfl)
    subst e10
    refine wpOp_value hoj2 rfl (exec_make1 eWrs rfl _ _ rfl n hn rfl rfl) ?_
    have B9 := F_b (Fresh.alloc w' (.cells (List.replicate n (.slice none 0 0)).toArray 48))
    exact ⟨lo6, hi6, lo9, hi9, x7, x8, x9, x10, x11, x12, x13, x14, x15, x16, (.int .i64 (n : Int)), _, by (try simp only [sP]) <;> rfl, Below.then HBw.out B9, ⟨fun h1 h2 => HX.1 (keep (by decide) h1) (keep (by decide) h2), fun h => Nat.le_trans (HX.2.1 (kp h)) (Below.size (B := w'.heap.size) B9), fun h => Nat.le_trans (HX.2.2 (kp h)) (Below.size (B := w'.heap.size) B9)⟩, d0 ∘ kq, fun h => (eE (d1 (kp h)) fun g h => ⟨g, h.1, h.2.1, h.2.2.grown B9⟩), d2 ∘ kq, fun h => (eE (d3 (kp h)) fun g h => ⟨g, h.1, h.2.1, h.2.2.grown B9⟩), d4 ∘ kq, d5 ∘ kq, fun h => (eE (d6 (kp h)) fun vs h => ⟨vs, h.1.below B9, h.2⟩), d7 ∘ kq, d8 ∘ kq, fun h => ⟨own_below (d9 (kp h)).1 B9, (d9 (kp h)).2⟩, d10 ∘ kq, fun _ => ⟨_, rfl, HBw.out.size, IsS.new w' 48 (List.replicate n (.slice none 0 0))⟩⟩
 case iend =>
  rintro a' w' ⟨lo6, hi6, lo9, hi9, x7, x8, x9, x10, x11, x12, x13, x14, x15, x16, x17, x18, rfl, HBw, HX, d0, d1, d2, d3, d4, d5, d6, d7, d8, d9, d10, d11⟩
  replace d0 := d0 rfl
  replace d1 := d1 rfl
  replace d2 := d2 rfl
  replace d3 := d3 rfl
  replace d4 := d4 rfl
  replace d5 := d5 rfl
  replace d6 := d6 rfl
  replace d7 := d7 rfl
  replace d8 := d8 rfl
  replace d9 := d9 rfl
  replace d10 := d10 rfl
  replace d11 := d11 rfl
  replace HX := HX.1 rfl rfl
  simp only [sP]
  simp only [List.drop_succ_cons, List.drop_zero]
  obtain ⟨gp, e8, hgp, I8⟩ := d1
  obtain ⟨gh, e10, hgh, I10⟩ := d3
  obtain ⟨vs, O13, R13⟩ := d6
  obtain ⟨O16, R16⟩ := d9
  obtain ⟨gb, e18, hgb, I18⟩ := d11
  subst e8 e10 e18 d0 d2 d4 d5 d7 d8 d10
  have B12 := HBw.out
  have B02 := Below.then B1 B12
  have D2 := D1.grown B12
  have hon := own_cell O13.out
  have hom := own_cell O16
  clear HBw
  obtain ⟨ar, cr, hvr⟩ := own_form O13.out
  obtain ⟨am, cm, hvm⟩ := own_form O16
  subst hvr hvm
  rw [HNI.out] at O13
  simp only [HNI.out]
  go_wp2_with (first
   | (clear t3; refine wpList_storeW rfl 32 _ _ rfl rfl [.slice (some ⟨gp, 0, none⟩) n n, .slice (some ⟨gh, 0, none⟩) n n, .slice ar ni cr, .slice am nj cm, .slice (some ⟨gb, 0, none⟩) n n, .int .i64 (-1)] rfl D2 rfl infoSt (by simp [Value.oneCell']) ?_; intro W3 U3 D3))
  have hsz := B1.size
  have hb2l := D1.lt
  have hUb : ∀ k, W1.heap.size ≤ k → W3.heap[k]? = w'.heap[k]? := fun k hk => U3.block k (by omega)
  have O13b : OwnA W3 w.heap.size (.slice ar ni cr) vs ri := (O13.same hUb).raise hsz
  have O16b : W3.ownsRow w.heap.size 2 1 (.slice am nj cm) nj (lj.flatMap intE) := own_raise (own_same O16 fun k hk => hUb k (own_lt O16 hk).1) hsz
  refine ret_S (cs := [.slice (some ⟨gp, 0, none⟩) n n, .slice (some ⟨gh, 0, none⟩) n n, .slice ar ni cr, .slice am nj cm, .slice (some ⟨gb, 0, none⟩) n n, .int .i64 (-1)]) rfl rfl rfl D3 _ Try.underlying32 rfl infoSt ⟨gp, gh, gb, _, _, vs, rfl, ⟨own_rep (Nat.le_trans hsz hgp) ((hUb gp hgp).trans I8) hn, O13b, ?_, ?_⟩, (hUb gh hgh).trans I10, (hUb gb hgb).trans I18, U3.trans B02 hb2⟩
  · rw [HNJ.out]; exact O16b
  · intro j u k hu hk hk2
    have h1 := R13 j u k hu hk
    have h2 := R16 k hk2
    omega
end Go.Proofs.Ytegpnicajlndlaa

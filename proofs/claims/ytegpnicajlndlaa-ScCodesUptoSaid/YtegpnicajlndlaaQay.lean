/- Several texts in one: SC7, SC8. -/
import Derived.Test.YtegpnicajlndlaaQax
import Derived.Test.YtegpnicajlndlaaQaq
/- sc's startOf: the state in which a program begins. -/
namespace Go.Proofs.Ytegpnicajlndlaa
open Go.RowKit M
set_option linter.unusedSimpArgs false
set_option linter.unusedVariables false

theorem eIntI : Elt 3 29 1 (.int .i64 0) 8 := ⟨Try.underlying29, info_parts (by kernel_rfl), rfl, by decide, by decide⟩
theorem eWrs : Elt 48 30 1 (.slice none 0 0) 24 := ⟨Try.underlying30, info_parts (by kernel_rfl), rfl, by decide, by decide⟩
theorem infoSt : (Try.prog.info? 32).map (·.size) = some 6 := by kernel_rfl
theorem zeroSt (w : World) : (zeroValue 32).run Try.prog w = .ok (.agg #[.slice none 0 0, .slice none 0 0, .slice none 0 0, .slice none 0 0, .slice none 0 0, .int .i64 0]) w := Try.zeroValue32 w
theorem OwnA.raise {w : World} {B B' : Nat} {v : Value} {vs : List Value} {xss : List (List Int)} (h : OwnA w B' v vs xss) (hb : B ≤ B') : OwnA w B v vs xss :=
  ⟨h.len, own_raise h.out hb, fun j u xs hu hx => own_raise (h.row j u xs hu hx) hb, h.apart⟩
theorem OwnA.range {w : World} {B j k : Nat} {v u : Value} {vs : List Value} {xss : List (List Int)} (h : OwnA w B v vs xss) (hu : vs[j]? = some u) (hk : u.ownBlock = some k) : B ≤ k ∧ k < w.heap.size := by
  have hj := (List.getElem?_eq_some_iff.1 hu).1
  exact own_lt (h.row j u _ hu (List.getElem?_eq_getElem (by rw [← h.len]; exact hj))) hk
theorem OwnA.same {w W : World} {B : Nat} {v : Value} {vs : List Value} {xss : List (List Int)} (h : OwnA w B v vs xss) (hb : ∀ k, B ≤ k → W.heap[k]? = w.heap[k]?) : OwnA W B v vs xss :=
  ⟨h.len, own_same h.out fun k hk => hb k (own_lt h.out hk).1, fun j u xs hu hx => own_same (h.row j u xs hu hx) fun k hk => hb k (own_lt (h.row j u xs hu hx) hk).1, h.apart⟩
theorem own_rep {W : World} {B g n : Nat} (hg : B ≤ g) (I : IsS W g 3 (List.replicate n (.int .i64 0))) (hn : n ≤ 1048576) : W.ownsRow B 3 1 (.slice (some ⟨g, 0, none⟩) n n) (List.replicate n (0 : Int)).length ((List.replicate n (0 : Int)).flatMap intE) := by
  have h := own_cls (n := n) (c := n) hg I rfl (Nat.le_refl _) (by unfold maxLen; omega) (List.length_replicate)
  rw [List.length_replicate]
  rw [List.take_of_length_le (by rw [List.length_replicate]; exact Nat.le_refl _)] at h
  rw [int_map, List.map_replicate]
  exact h
set_option maxRecDepth 100000 in
set_option maxHeartbeats 4000000 in
theorem startOf_any (p : PG) (n : Nat) (hf : p.Few) (hn0 : p.threads.length = n) (vt vr vl vi vj : Value) (w : World) (hp : PGV w vt vr vl vi vj p) :
    Calls Try.prog 47 #[.agg #[vt, vr, vl, vi, vj]] w fun e w' => ∃ gp gh gb vrg vmm vs, e = .returned (.agg #[.slice (some ⟨gp, 0, none⟩) n n, .slice (some ⟨gh, 0, none⟩) n n, vrg, vmm, .slice (some ⟨gb, 0, none⟩) n n, .int .i64 (-1)]) ∧ StO w' w.heap.size (.slice (some ⟨gp, 0, none⟩) n n) vrg vmm vs (List.replicate n 0) p.regInit p.locInit ∧ IsS w' gh 3 (List.replicate n (.int .i64 0)) ∧ IsS w' gb 48 (List.replicate n (.slice none 0 0)) ∧ Below w.heap.size w w' := by
  have hn : n ≤ 1048576 := by rw [← hn0]; exact hf.t
  obtain ⟨at', ct, rfl⟩ := hp.t.form
  obtain ⟨ai, ci, rfl⟩ := hp.i.form
  obtain ⟨aj, cj, rfl, hsj, hzj⟩ := hp.j
  have hC1 := fun W (h : RowsV W (.slice ai p.regInit.length ci) intE p.regInit) => clones64_any p.regInit hf.i hf.ii ai ci W h
  have hC2 := fun W (h : Seg W aj (p.locInit.flatMap intE)) => clone64_any p.locInit p.locInit.length cj aj rfl hf.j W h hzj
  have HI : Hid (RowsV w (.slice ai p.regInit.length ci) intE p.regInit) := hp.i
  have HJ : Hid (Seg w aj (p.locInit.flatMap intE)) := hsj
  obtain ⟨ri, hri⟩ : ∃ r, p.regInit = r := ⟨_, rfl⟩
  obtain ⟨lj, hlj⟩ : ∃ r, p.locInit = r := ⟨_, rfl⟩
  rw [hri] at hC1 HI
  rw [hlj] at hC2 HJ
  simp only [hri, hlj, hn0]
  obtain ⟨ni, hni⟩ : ∃ k, ri.length = k := ⟨_, rfl⟩
  obtain ⟨nj, hnj⟩ : ∃ k, lj.length = k := ⟨_, rfl⟩
  have HNI : Hid (ri.length = ni) := hni
  have HNJ : Hid (lj.length = nj) := hnj
  rw [hni] at hC1 HI
  rw [hnj] at hC2
  simp only [hni, hnj]
  clear hp hsj hri hlj hni hnj hf hn0
  have hnI : (n : Int) ≤ 1048576 := by omega
  have t1 : True := trivial
  have t2 : True := trivial
  have t3 : True := trivial
  go_enter Try.func47, Try.ntmps47
  go_wp2_with (first
    | (clear t1; refine wpList_boxS rfl 28 _ rfl [.slice at' n ct, vr, vl, .slice ai ni ci, .slice aj nj cj] rfl ?_; intro W0 b1 F0 C0; have B0 := F_b F0)
    | (clear t2; refine wpList_allocS rfl 32 rfl [.slice none 0 0, .slice none 0 0, .slice none 0 0, .slice none 0 0, .slice none 0 0, .int .i64 0] zeroSt ?_; intro W1 b2 F1 D1; have C1 := C0.fresh F1; have B1 := F1.trans B0 B0.size; have hb2 : w.heap.size ≤ b2 := Nat.le_trans B0.size (Nat.le_of_eq F1.at'.symm); have n12 : b1 ≠ b2 := (by have := C0.lt; have := F1.at'; omega); have x0 : W1.cell? ⟨b1, 0, none⟩ = some (.slice at' n ct) := C1.cell 0; clear F0 F1 C0))
  clear x0
  refine region_invA 12 (fun a0 listed a' w' => ∃ lo6 hi6 lo9 hi9 : Nat, ∃ x7 x8 x9 x10 x11 x12 x13 x14 x15 x16 x17 x18 : Value, a' = ((((((((((((a0.put (some 7) x7).put (some 8) x8).put (some 9) x9).put (some 10) x10).put (some 11) x11).put (some 12) x12).put (some 13) x13).put (some 14) x14).put (some 15) x15).put (some 16) x16).put (some 17) x17).put (some 18) x18) ∧ Hid (Below W1.heap.size W1 w') ∧ (((listed).getD 6 false = true → (listed).getD 9 false = true → hi6 ≤ lo9 ∨ hi9 ≤ lo6) ∧ ((listed).getD 6 false = true → hi6 ≤ w'.heap.size) ∧ ((listed).getD 9 false = true → hi9 ≤ w'.heap.size)) ∧ (listed.getD 0 false = true → x7 = (.int .i64 (n : Int))) ∧ (listed.getD 1 false = true → ∃ g, x8 = .slice (some ⟨g, 0, none⟩) n n ∧ W1.heap.size ≤ g ∧ IsS w' g 3 (List.replicate n (.int .i64 0))) ∧ (listed.getD 2 false = true → x9 = (.int .i64 (n : Int))) ∧ (listed.getD 3 false = true → ∃ g, x10 = .slice (some ⟨g, 0, none⟩) n n ∧ W1.heap.size ≤ g ∧ IsS w' g 3 (List.replicate n (.int .i64 0))) ∧ (listed.getD 4 false = true → x11 = (.pointer (some ⟨b1, 3, none⟩))) ∧ (listed.getD 5 false = true → x12 = (.slice ai ni ci)) ∧ (listed.getD 6 false = true → ∃ vs, OwnA w' W1.heap.size x13 vs ri ∧ ∀ (j : Nat) u k, vs[j]? = some u → u.ownBlock = some k → lo6 ≤ k ∧ k < hi6) ∧ (listed.getD 7 false = true → x14 = (.pointer (some ⟨b1, 4, none⟩))) ∧ (listed.getD 8 false = true → x15 = (.slice aj nj cj)) ∧ (listed.getD 9 false = true → w'.ownsRow W1.heap.size 2 1 x16 nj (lj.flatMap intE) ∧ ∀ k, x16.ownBlock = some k → lo9 ≤ k ∧ k < hi9) ∧ (listed.getD 10 false = true → x17 = (.int .i64 (n : Int))) ∧ (listed.getD 11 false = true → ∃ g, x18 = .slice (some ⟨g, 0, none⟩) n n ∧ W1.heap.size ≤ g ∧ IsS w' g 48 (List.replicate n (.slice none 0 0)))) (by kernel_rfl) (by kernel_rfl) ?i0 ?istep ?iend
  case i0 => exact ⟨0, 0, 0, 0, _, _, _, _, _, _, _, _, _, _, _, _, by first | (simp only [Act.put, List.setIfInBounds_toArray, List.set_cons_succ, List.set_cons_zero]; done) | (simp only [Act.put, List.setIfInBounds_toArray, List.set_cons_succ, List.set_cons_zero]; rfl) | rfl, below_drew (Below.refl _ _), ⟨fun h => (not_rep h).elim, fun h => (not_rep h).elim, fun h => (not_rep h).elim⟩, fun h => (not_rep h).elim, fun h => (not_rep h).elim, fun h => (not_rep h).elim, fun h => (not_rep h).elim, fun h => (not_rep h).elim, fun h => (not_rep h).elim, fun h => (not_rep h).elim, fun h => (not_rep h).elim, fun h => (not_rep h).elim, fun h => (not_rep h).elim, fun h => (not_rep h).elim, fun h => (not_rep h).elim⟩
  case istep =>
    rintro i listed a' w' hi hr ⟨lo6, hi6, lo9, hi9, x7, x8, x9, x10, x11, x12, x13, x14, x15, x16, x17, x18, rfl, HBw, HX, d0, d1, d2, d3, d4, d5, d6, d7, d8, d9, d10, d11⟩
    obtain ⟨hun, oj, hoj, hwt⟩ := mem_ready.1 hr
    simp only [Act.put, List.setIfInBounds_toArray, List.set_cons_succ, List.set_cons_zero]
    have hcase : i = 0 ∨ i = 1 ∨ i = 2 ∨ i = 3 ∨ i = 4 ∨ i = 5 ∨ i = 6 ∨ i = 7 ∨ i = 8 ∨ i = 9 ∨ i = 10 ∨ i = 11 := by omega
    rcases hcase with rfl | rfl | rfl | rfl | rfl | rfl | rfl | rfl | rfl | rfl | rfl | rfl
    · have hoj2 := hoj
      obtain rfl := Option.some.inj hoj
      refine wpOp_value hoj2 rfl (v := (.int .i64 (n : Int))) (w' := w') (by first | rfl | (go_simp; done) | (simp [go_sem]; done) | (simp [execOp, go_sem]; done)) ?_
      exact ⟨lo6, hi6, lo9, hi9, (.int .i64 (n : Int)), x8, x9, x10, x11, x12, x13, x14, x15, x16, x17, x18, by first | (simp only [Act.put, List.setIfInBounds_toArray, List.set_cons_succ, List.set_cons_zero]; done) | (simp only [Act.put, List.setIfInBounds_toArray, List.set_cons_succ, List.set_cons_zero]; rfl) | rfl, Below.then HBw.out (Below.refl _ _), ⟨fun h1 h2 => HX.1 (keep (by decide) h1) (keep (by decide) h2), fun h => Nat.le_trans (HX.2.1 (keep (by decide) h)) (Below.size (B := w'.heap.size) (Below.refl _ _)), fun h => Nat.le_trans (HX.2.2 (keep (by decide) h)) (Below.size (B := w'.heap.size) (Below.refl _ _))⟩, fun _ => rfl, fun h => (Exists.elim (d1 (keep (by decide) h)) fun g h => ⟨g, h.1, h.2.1, h.2.2.grown (Below.refl _ _)⟩), fun h => (d2 (keep (by decide) h)), fun h => (Exists.elim (d3 (keep (by decide) h)) fun g h => ⟨g, h.1, h.2.1, h.2.2.grown (Below.refl _ _)⟩), fun h => (d4 (keep (by decide) h)), fun h => (d5 (keep (by decide) h)), fun h => (Exists.elim (d6 (keep (by decide) h)) fun vs h => ⟨vs, h.1.below (Below.refl _ _), h.2⟩), fun h => (d7 (keep (by decide) h)), fun h => (d8 (keep (by decide) h)), fun h => ⟨own_below (d9 (keep (by decide) h)).1 (Below.refl _ _), (d9 (keep (by decide) h)).2⟩, fun h => (d10 (keep (by decide) h)), fun h => (Exists.elim (d11 (keep (by decide) h)) fun g h => ⟨g, h.1, h.2.1, h.2.2.grown (Below.refl _ _)⟩)⟩
    · have hoj2 := hoj
      obtain rfl := Option.some.inj hoj
      have e0 := d0 (hwt ⟨0, .data⟩ (by simp) rfl)
      subst e0
      refine wpOp_value hoj2 rfl (exec_make1 eIntI rfl _ _ rfl n hn rfl rfl) ?_
      have B9 := F_b (Fresh.alloc w' (.cells (List.replicate n (.int .i64 0)).toArray 3))
      exact ⟨lo6, hi6, lo9, hi9, (.int .i64 (n : Int)), _, x9, x10, x11, x12, x13, x14, x15, x16, x17, x18, by first | (simp only [Act.put, List.setIfInBounds_toArray, List.set_cons_succ, List.set_cons_zero]; done) | (simp only [Act.put, List.setIfInBounds_toArray, List.set_cons_succ, List.set_cons_zero]; rfl) | rfl, Below.then HBw.out B9, ⟨fun h1 h2 => HX.1 (keep (by decide) h1) (keep (by decide) h2), fun h => Nat.le_trans (HX.2.1 (keep (by decide) h)) (Below.size (B := w'.heap.size) B9), fun h => Nat.le_trans (HX.2.2 (keep (by decide) h)) (Below.size (B := w'.heap.size) B9)⟩, fun h => (d0 (keep (by decide) h)), fun _ => ⟨_, rfl, HBw.out.size, IsS.new w' 3 (List.replicate n (.int .i64 0))⟩, fun h => (d2 (keep (by decide) h)), fun h => (Exists.elim (d3 (keep (by decide) h)) fun g h => ⟨g, h.1, h.2.1, h.2.2.grown B9⟩), fun h => (d4 (keep (by decide) h)), fun h => (d5 (keep (by decide) h)), fun h => (Exists.elim (d6 (keep (by decide) h)) fun vs h => ⟨vs, h.1.below B9, h.2⟩), fun h => (d7 (keep (by decide) h)), fun h => (d8 (keep (by decide) h)), fun h => ⟨own_below (d9 (keep (by decide) h)).1 B9, (d9 (keep (by decide) h)).2⟩, fun h => (d10 (keep (by decide) h)), fun h => (Exists.elim (d11 (keep (by decide) h)) fun g h => ⟨g, h.1, h.2.1, h.2.2.grown B9⟩)⟩
    · have hoj2 := hoj
      obtain rfl := Option.some.inj hoj
      refine wpOp_value hoj2 rfl (v := (.int .i64 (n : Int))) (w' := w') (by first | rfl | (go_simp; done) | (simp [go_sem]; done) | (simp [execOp, go_sem]; done)) ?_
      exact ⟨lo6, hi6, lo9, hi9, x7, x8, (.int .i64 (n : Int)), x10, x11, x12, x13, x14, x15, x16, x17, x18, by first | (simp only [Act.put, List.setIfInBounds_toArray, List.set_cons_succ, List.set_cons_zero]; done) | (simp only [Act.put, List.setIfInBounds_toArray, List.set_cons_succ, List.set_cons_zero]; rfl) | rfl, Below.then HBw.out (Below.refl _ _), ⟨fun h1 h2 => HX.1 (keep (by decide) h1) (keep (by decide) h2), fun h => Nat.le_trans (HX.2.1 (keep (by decide) h)) (Below.size (B := w'.heap.size) (Below.refl _ _)), fun h => Nat.le_trans (HX.2.2 (keep (by decide) h)) (Below.size (B := w'.heap.size) (Below.refl _ _))⟩, fun h => (d0 (keep (by decide) h)), fun h => (Exists.elim (d1 (keep (by decide) h)) fun g h => ⟨g, h.1, h.2.1, h.2.2.grown (Below.refl _ _)⟩), fun _ => rfl, fun h => (Exists.elim (d3 (keep (by decide) h)) fun g h => ⟨g, h.1, h.2.1, h.2.2.grown (Below.refl _ _)⟩), fun h => (d4 (keep (by decide) h)), fun h => (d5 (keep (by decide) h)), fun h => (Exists.elim (d6 (keep (by decide) h)) fun vs h => ⟨vs, h.1.below (Below.refl _ _), h.2⟩), fun h => (d7 (keep (by decide) h)), fun h => (d8 (keep (by decide) h)), fun h => ⟨own_below (d9 (keep (by decide) h)).1 (Below.refl _ _), (d9 (keep (by decide) h)).2⟩, fun h => (d10 (keep (by decide) h)), fun h => (Exists.elim (d11 (keep (by decide) h)) fun g h => ⟨g, h.1, h.2.1, h.2.2.grown (Below.refl _ _)⟩)⟩
    · have hoj2 := hoj
      obtain rfl := Option.some.inj hoj
      have e2 := d2 (hwt ⟨2, .data⟩ (by simp) rfl)
      subst e2
      refine wpOp_value hoj2 rfl (exec_make1 eIntI rfl _ _ rfl n hn rfl rfl) ?_
      have B9 := F_b (Fresh.alloc w' (.cells (List.replicate n (.int .i64 0)).toArray 3))
      exact ⟨lo6, hi6, lo9, hi9, x7, x8, (.int .i64 (n : Int)), _, x11, x12, x13, x14, x15, x16, x17, x18, by first | (simp only [Act.put, List.setIfInBounds_toArray, List.set_cons_succ, List.set_cons_zero]; done) | (simp only [Act.put, List.setIfInBounds_toArray, List.set_cons_succ, List.set_cons_zero]; rfl) | rfl, Below.then HBw.out B9, ⟨fun h1 h2 => HX.1 (keep (by decide) h1) (keep (by decide) h2), fun h => Nat.le_trans (HX.2.1 (keep (by decide) h)) (Below.size (B := w'.heap.size) B9), fun h => Nat.le_trans (HX.2.2 (keep (by decide) h)) (Below.size (B := w'.heap.size) B9)⟩, fun h => (d0 (keep (by decide) h)), fun h => (Exists.elim (d1 (keep (by decide) h)) fun g h => ⟨g, h.1, h.2.1, h.2.2.grown B9⟩), fun h => (d2 (keep (by decide) h)), fun _ => ⟨_, rfl, HBw.out.size, IsS.new w' 3 (List.replicate n (.int .i64 0))⟩, fun h => (d4 (keep (by decide) h)), fun h => (d5 (keep (by decide) h)), fun h => (Exists.elim (d6 (keep (by decide) h)) fun vs h => ⟨vs, h.1.below B9, h.2⟩), fun h => (d7 (keep (by decide) h)), fun h => (d8 (keep (by decide) h)), fun h => ⟨own_below (d9 (keep (by decide) h)).1 B9, (d9 (keep (by decide) h)).2⟩, fun h => (d10 (keep (by decide) h)), fun h => (Exists.elim (d11 (keep (by decide) h)) fun g h => ⟨g, h.1, h.2.1, h.2.2.grown B9⟩)⟩
    · have hoj2 := hoj
      obtain rfl := Option.some.inj hoj
      refine wpOp_value hoj2 rfl (v := (.pointer (some ⟨b1, 3, none⟩))) (w' := w') (by first | rfl | (go_simp; done) | (simp [go_sem]; done) | (simp [execOp, go_sem]; done)) ?_
      exact ⟨lo6, hi6, lo9, hi9, x7, x8, x9, x10, (.pointer (some ⟨b1, 3, none⟩)), x12, x13, x14, x15, x16, x17, x18, by first | (simp only [Act.put, List.setIfInBounds_toArray, List.set_cons_succ, List.set_cons_zero]; done) | (simp only [Act.put, List.setIfInBounds_toArray, List.set_cons_succ, List.set_cons_zero]; rfl) | rfl, Below.then HBw.out (Below.refl _ _), ⟨fun h1 h2 => HX.1 (keep (by decide) h1) (keep (by decide) h2), fun h => Nat.le_trans (HX.2.1 (keep (by decide) h)) (Below.size (B := w'.heap.size) (Below.refl _ _)), fun h => Nat.le_trans (HX.2.2 (keep (by decide) h)) (Below.size (B := w'.heap.size) (Below.refl _ _))⟩, fun h => (d0 (keep (by decide) h)), fun h => (Exists.elim (d1 (keep (by decide) h)) fun g h => ⟨g, h.1, h.2.1, h.2.2.grown (Below.refl _ _)⟩), fun h => (d2 (keep (by decide) h)), fun h => (Exists.elim (d3 (keep (by decide) h)) fun g h => ⟨g, h.1, h.2.1, h.2.2.grown (Below.refl _ _)⟩), fun _ => rfl, fun h => (d5 (keep (by decide) h)), fun h => (Exists.elim (d6 (keep (by decide) h)) fun vs h => ⟨vs, h.1.below (Below.refl _ _), h.2⟩), fun h => (d7 (keep (by decide) h)), fun h => (d8 (keep (by decide) h)), fun h => ⟨own_below (d9 (keep (by decide) h)).1 (Below.refl _ _), (d9 (keep (by decide) h)).2⟩, fun h => (d10 (keep (by decide) h)), fun h => (Exists.elim (d11 (keep (by decide) h)) fun g h => ⟨g, h.1, h.2.1, h.2.2.grown (Below.refl _ _)⟩)⟩
    · have hoj2 := hoj
      obtain rfl := Option.some.inj hoj
      have e4 := d4 (hwt ⟨4, .data⟩ (by simp) rfl)
      subst e4
      refine wpOp_cell hoj2 rfl 25 _ rfl rfl (v := (.slice ai ni ci)) (ldcRr w' ((IsS.cell (C1.grown HBw.out) 3).trans rfl)) ?_
      exact ⟨lo6, hi6, lo9, hi9, x7, x8, x9, x10, (.pointer (some ⟨b1, 3, none⟩)), (.slice ai ni ci), x13, x14, x15, x16, x17, x18, by first | (simp only [Act.put, List.setIfInBounds_toArray, List.set_cons_succ, List.set_cons_zero]; done) | (simp only [Act.put, List.setIfInBounds_toArray, List.set_cons_succ, List.set_cons_zero]; rfl) | rfl, Below.then HBw.out (Below.refl _ _), ⟨fun h1 h2 => HX.1 (keep (by decide) h1) (keep (by decide) h2), fun h => Nat.le_trans (HX.2.1 (keep (by decide) h)) (Below.size (B := w'.heap.size) (Below.refl _ _)), fun h => Nat.le_trans (HX.2.2 (keep (by decide) h)) (Below.size (B := w'.heap.size) (Below.refl _ _))⟩, fun h => (d0 (keep (by decide) h)), fun h => (Exists.elim (d1 (keep (by decide) h)) fun g h => ⟨g, h.1, h.2.1, h.2.2.grown (Below.refl _ _)⟩), fun h => (d2 (keep (by decide) h)), fun h => (Exists.elim (d3 (keep (by decide) h)) fun g h => ⟨g, h.1, h.2.1, h.2.2.grown (Below.refl _ _)⟩), fun h => (d4 (keep (by decide) h)), fun _ => rfl, fun h => (Exists.elim (d6 (keep (by decide) h)) fun vs h => ⟨vs, h.1.below (Below.refl _ _), h.2⟩), fun h => (d7 (keep (by decide) h)), fun h => (d8 (keep (by decide) h)), fun h => ⟨own_below (d9 (keep (by decide) h)).1 (Below.refl _ _), (d9 (keep (by decide) h)).2⟩, fun h => (d10 (keep (by decide) h)), fun h => (Exists.elim (d11 (keep (by decide) h)) fun g h => ⟨g, h.1, h.2.1, h.2.2.grown (Below.refl _ _)⟩)⟩
    · have hoj2 := hoj
      obtain rfl := Option.some.inj hoj
      have e5 := d5 (hwt ⟨5, .data⟩ (by simp) rfl)
      subst e5
      refine wpOp_call hoj2 rfl (f := 97) (args := #[.slice ai ni ci]) (by first | rfl | (go_simp; done) | (simp [go_sem]; done) | (simp [execOp, go_sem]; done)) ?_
      refine (hC1 w' (HI.out.below (Below.then B1 HBw.out))).mono ?_
      rintro e w4 ⟨v7, rfl, ⟨vs, O7⟩, B4⟩
      refine ⟨_, rfl, ?_⟩
      exact ⟨w'.heap.size, w4.heap.size, lo9, hi9, x7, x8, x9, x10, x11, (.slice ai ni ci), v7, x14, x15, x16, x17, x18, by first | (simp only [Act.put, List.setIfInBounds_toArray, List.set_cons_succ, List.set_cons_zero]; done) | (simp only [Act.put, List.setIfInBounds_toArray, List.set_cons_succ, List.set_cons_zero]; rfl) | rfl, Below.then HBw.out B4, ⟨fun _ h2 => .inr (HX.2.2 (keep (by decide) h2)), fun _ => Nat.le_refl _, fun h => Nat.le_trans (HX.2.2 (keep (by decide) h)) (Below.size (B := w'.heap.size) B4)⟩, fun h => (d0 (keep (by decide) h)), fun h => (Exists.elim (d1 (keep (by decide) h)) fun g h => ⟨g, h.1, h.2.1, h.2.2.grown B4⟩), fun h => (d2 (keep (by decide) h)), fun h => (Exists.elim (d3 (keep (by decide) h)) fun g h => ⟨g, h.1, h.2.1, h.2.2.grown B4⟩), fun h => (d4 (keep (by decide) h)), fun h => (d5 (keep (by decide) h)), fun _ => ⟨vs, O7.raise HBw.out.size, fun j u k hu hk => O7.range hu hk⟩, fun h => (d7 (keep (by decide) h)), fun h => (d8 (keep (by decide) h)), fun h => ⟨own_below (d9 (keep (by decide) h)).1 B4, (d9 (keep (by decide) h)).2⟩, fun h => (d10 (keep (by decide) h)), fun h => (Exists.elim (d11 (keep (by decide) h)) fun g h => ⟨g, h.1, h.2.1, h.2.2.grown B4⟩)⟩
    · have hoj2 := hoj
      obtain rfl := Option.some.inj hoj
      refine wpOp_value hoj2 rfl (v := (.pointer (some ⟨b1, 4, none⟩))) (w' := w') (by first | rfl | (go_simp; done) | (simp [go_sem]; done) | (simp [execOp, go_sem]; done)) ?_
      exact ⟨lo6, hi6, lo9, hi9, x7, x8, x9, x10, x11, x12, x13, (.pointer (some ⟨b1, 4, none⟩)), x15, x16, x17, x18, by first | (simp only [Act.put, List.setIfInBounds_toArray, List.set_cons_succ, List.set_cons_zero]; done) | (simp only [Act.put, List.setIfInBounds_toArray, List.set_cons_succ, List.set_cons_zero]; rfl) | rfl, Below.then HBw.out (Below.refl _ _), ⟨fun h1 h2 => HX.1 (keep (by decide) h1) (keep (by decide) h2), fun h => Nat.le_trans (HX.2.1 (keep (by decide) h)) (Below.size (B := w'.heap.size) (Below.refl _ _)), fun h => Nat.le_trans (HX.2.2 (keep (by decide) h)) (Below.size (B := w'.heap.size) (Below.refl _ _))⟩, fun h => (d0 (keep (by decide) h)), fun h => (Exists.elim (d1 (keep (by decide) h)) fun g h => ⟨g, h.1, h.2.1, h.2.2.grown (Below.refl _ _)⟩), fun h => (d2 (keep (by decide) h)), fun h => (Exists.elim (d3 (keep (by decide) h)) fun g h => ⟨g, h.1, h.2.1, h.2.2.grown (Below.refl _ _)⟩), fun h => (d4 (keep (by decide) h)), fun h => (d5 (keep (by decide) h)), fun h => (Exists.elim (d6 (keep (by decide) h)) fun vs h => ⟨vs, h.1.below (Below.refl _ _), h.2⟩), fun _ => rfl, fun h => (d8 (keep (by decide) h)), fun h => ⟨own_below (d9 (keep (by decide) h)).1 (Below.refl _ _), (d9 (keep (by decide) h)).2⟩, fun h => (d10 (keep (by decide) h)), fun h => (Exists.elim (d11 (keep (by decide) h)) fun g h => ⟨g, h.1, h.2.1, h.2.2.grown (Below.refl _ _)⟩)⟩
    · have hoj2 := hoj
      obtain rfl := Option.some.inj hoj
      have e7 := d7 (hwt ⟨7, .data⟩ (by simp) rfl)
      subst e7
      refine wpOp_cell hoj2 rfl 26 _ rfl rfl (v := (.slice aj nj cj)) (ldcR w' ((IsS.cell (C1.grown HBw.out) 4).trans rfl)) ?_
      exact ⟨lo6, hi6, lo9, hi9, x7, x8, x9, x10, x11, x12, x13, (.pointer (some ⟨b1, 4, none⟩)), (.slice aj nj cj), x16, x17, x18, by first | (simp only [Act.put, List.setIfInBounds_toArray, List.set_cons_succ, List.set_cons_zero]; done) | (simp only [Act.put, List.setIfInBounds_toArray, List.set_cons_succ, List.set_cons_zero]; rfl) | rfl, Below.then HBw.out (Below.refl _ _), ⟨fun h1 h2 => HX.1 (keep (by decide) h1) (keep (by decide) h2), fun h => Nat.le_trans (HX.2.1 (keep (by decide) h)) (Below.size (B := w'.heap.size) (Below.refl _ _)), fun h => Nat.le_trans (HX.2.2 (keep (by decide) h)) (Below.size (B := w'.heap.size) (Below.refl _ _))⟩, fun h => (d0 (keep (by decide) h)), fun h => (Exists.elim (d1 (keep (by decide) h)) fun g h => ⟨g, h.1, h.2.1, h.2.2.grown (Below.refl _ _)⟩), fun h => (d2 (keep (by decide) h)), fun h => (Exists.elim (d3 (keep (by decide) h)) fun g h => ⟨g, h.1, h.2.1, h.2.2.grown (Below.refl _ _)⟩), fun h => (d4 (keep (by decide) h)), fun h => (d5 (keep (by decide) h)), fun h => (Exists.elim (d6 (keep (by decide) h)) fun vs h => ⟨vs, h.1.below (Below.refl _ _), h.2⟩), fun h => (d7 (keep (by decide) h)), fun _ => rfl, fun h => ⟨own_below (d9 (keep (by decide) h)).1 (Below.refl _ _), (d9 (keep (by decide) h)).2⟩, fun h => (d10 (keep (by decide) h)), fun h => (Exists.elim (d11 (keep (by decide) h)) fun g h => ⟨g, h.1, h.2.1, h.2.2.grown (Below.refl _ _)⟩)⟩
    · have hoj2 := hoj
      obtain rfl := Option.some.inj hoj
      have e8 := d8 (hwt ⟨8, .data⟩ (by simp) rfl)
      subst e8
      refine wpOp_call hoj2 rfl (f := 98) (args := #[.slice aj nj cj]) (by first | rfl | (go_simp; done) | (simp [go_sem]; done) | (simp [execOp, go_sem]; done)) ?_
      refine (hC2 w' (HJ.out.below (Below.then B1 HBw.out))).mono ?_
      rintro e w4 ⟨v7, rfl, O7, B4⟩
      refine ⟨_, rfl, ?_⟩
      exact ⟨lo6, hi6, w'.heap.size, w4.heap.size, x7, x8, x9, x10, x11, x12, x13, x14, (.slice aj nj cj), v7, x17, x18, by first | (simp only [Act.put, List.setIfInBounds_toArray, List.set_cons_succ, List.set_cons_zero]; done) | (simp only [Act.put, List.setIfInBounds_toArray, List.set_cons_succ, List.set_cons_zero]; rfl) | rfl, Below.then HBw.out B4, ⟨fun h1 _ => .inl (HX.2.1 (keep (by decide) h1)), fun h => Nat.le_trans (HX.2.1 (keep (by decide) h)) (Below.size (B := w'.heap.size) B4), fun _ => Nat.le_refl _⟩, fun h => (d0 (keep (by decide) h)), fun h => (Exists.elim (d1 (keep (by decide) h)) fun g h => ⟨g, h.1, h.2.1, h.2.2.grown B4⟩), fun h => (d2 (keep (by decide) h)), fun h => (Exists.elim (d3 (keep (by decide) h)) fun g h => ⟨g, h.1, h.2.1, h.2.2.grown B4⟩), fun h => (d4 (keep (by decide) h)), fun h => (d5 (keep (by decide) h)), fun h => (Exists.elim (d6 (keep (by decide) h)) fun vs h => ⟨vs, h.1.below B4, h.2⟩), fun h => (d7 (keep (by decide) h)), fun h => (d8 (keep (by decide) h)), fun _ => ⟨own_raise O7 HBw.out.size, fun k hk => own_lt O7 hk⟩, fun h => (d10 (keep (by decide) h)), fun h => (Exists.elim (d11 (keep (by decide) h)) fun g h => ⟨g, h.1, h.2.1, h.2.2.grown B4⟩)⟩
    · have hoj2 := hoj
      obtain rfl := Option.some.inj hoj
      refine wpOp_value hoj2 rfl (v := (.int .i64 (n : Int))) (w' := w') (by first | rfl | (go_simp; done) | (simp [go_sem]; done) | (simp [execOp, go_sem]; done)) ?_
      exact ⟨lo6, hi6, lo9, hi9, x7, x8, x9, x10, x11, x12, x13, x14, x15, x16, (.int .i64 (n : Int)), x18, by first | (simp only [Act.put, List.setIfInBounds_toArray, List.set_cons_succ, List.set_cons_zero]; done) | (simp only [Act.put, List.setIfInBounds_toArray, List.set_cons_succ, List.set_cons_zero]; rfl) | rfl, Below.then HBw.out (Below.refl _ _), ⟨fun h1 h2 => HX.1 (keep (by decide) h1) (keep (by decide) h2), fun h => Nat.le_trans (HX.2.1 (keep (by decide) h)) (Below.size (B := w'.heap.size) (Below.refl _ _)), fun h => Nat.le_trans (HX.2.2 (keep (by decide) h)) (Below.size (B := w'.heap.size) (Below.refl _ _))⟩, fun h => (d0 (keep (by decide) h)), fun h => (Exists.elim (d1 (keep (by decide) h)) fun g h => ⟨g, h.1, h.2.1, h.2.2.grown (Below.refl _ _)⟩), fun h => (d2 (keep (by decide) h)), fun h => (Exists.elim (d3 (keep (by decide) h)) fun g h => ⟨g, h.1, h.2.1, h.2.2.grown (Below.refl _ _)⟩), fun h => (d4 (keep (by decide) h)), fun h => (d5 (keep (by decide) h)), fun h => (Exists.elim (d6 (keep (by decide) h)) fun vs h => ⟨vs, h.1.below (Below.refl _ _), h.2⟩), fun h => (d7 (keep (by decide) h)), fun h => (d8 (keep (by decide) h)), fun h => ⟨own_below (d9 (keep (by decide) h)).1 (Below.refl _ _), (d9 (keep (by decide) h)).2⟩, fun _ => rfl, fun h => (Exists.elim (d11 (keep (by decide) h)) fun g h => ⟨g, h.1, h.2.1, h.2.2.grown (Below.refl _ _)⟩)⟩
    · have hoj2 := hoj
      obtain rfl := Option.some.inj hoj
      have e10 := d10 (hwt ⟨10, .data⟩ (by simp) rfl)
      subst e10
      refine wpOp_value hoj2 rfl (exec_make1 eWrs rfl _ _ rfl n hn rfl rfl) ?_
      have B9 := F_b (Fresh.alloc w' (.cells (List.replicate n (.slice none 0 0)).toArray 48))
      exact ⟨lo6, hi6, lo9, hi9, x7, x8, x9, x10, x11, x12, x13, x14, x15, x16, (.int .i64 (n : Int)), _, by first | (simp only [Act.put, List.setIfInBounds_toArray, List.set_cons_succ, List.set_cons_zero]; done) | (simp only [Act.put, List.setIfInBounds_toArray, List.set_cons_succ, List.set_cons_zero]; rfl) | rfl, Below.then HBw.out B9, ⟨fun h1 h2 => HX.1 (keep (by decide) h1) (keep (by decide) h2), fun h => Nat.le_trans (HX.2.1 (keep (by decide) h)) (Below.size (B := w'.heap.size) B9), fun h => Nat.le_trans (HX.2.2 (keep (by decide) h)) (Below.size (B := w'.heap.size) B9)⟩, fun h => (d0 (keep (by decide) h)), fun h => (Exists.elim (d1 (keep (by decide) h)) fun g h => ⟨g, h.1, h.2.1, h.2.2.grown B9⟩), fun h => (d2 (keep (by decide) h)), fun h => (Exists.elim (d3 (keep (by decide) h)) fun g h => ⟨g, h.1, h.2.1, h.2.2.grown B9⟩), fun h => (d4 (keep (by decide) h)), fun h => (d5 (keep (by decide) h)), fun h => (Exists.elim (d6 (keep (by decide) h)) fun vs h => ⟨vs, h.1.below B9, h.2⟩), fun h => (d7 (keep (by decide) h)), fun h => (d8 (keep (by decide) h)), fun h => ⟨own_below (d9 (keep (by decide) h)).1 B9, (d9 (keep (by decide) h)).2⟩, fun h => (d10 (keep (by decide) h)), fun _ => ⟨_, rfl, HBw.out.size, IsS.new w' 48 (List.replicate n (.slice none 0 0))⟩⟩
  case iend =>
    rintro a' w' ⟨lo6, hi6, lo9, hi9, x7, x8, x9, x10, x11, x12, x13, x14, x15, x16, x17, x18, rfl, HBw, HX, d0, d1, d2, d3, d4, d5, d6, d7, d8, d9, d10, d11⟩
    replace d0 := d0 rfl
    replace d1 := d1 rfl
    replace d2 := d2 rfl
    replace d3 := d3 rfl
    replace d4 := d4 rfl
    replace d5 := d5 rfl
    replace d6 := d6 rfl
    replace d7 := d7 rfl
    replace d8 := d8 rfl
    replace d9 := d9 rfl
    replace d10 := d10 rfl
    replace d11 := d11 rfl
    replace HX := HX.1 rfl rfl
    simp only [Act.put, List.setIfInBounds_toArray, List.set_cons_succ, List.set_cons_zero]
    simp only [List.drop_succ_cons, List.drop_zero]
    obtain ⟨gp, e8, hgp, I8⟩ := d1
    obtain ⟨gh, e10, hgh, I10⟩ := d3
    obtain ⟨vs, O13, R13⟩ := d6
    obtain ⟨O16, R16⟩ := d9
    obtain ⟨gb, e18, hgb, I18⟩ := d11
    subst e8 e10 e18 d0 d2 d4 d5 d7 d8 d10
    have B12 := HBw.out
    have B02 := Below.then B1 B12
    have D2 := D1.grown B12
    have hon := own_cell O13.out
    have hom := own_cell O16
    clear HBw
    obtain ⟨ar, cr, hvr⟩ := own_form O13.out
    obtain ⟨am, cm, hvm⟩ := own_form O16
    subst hvr hvm
    rw [HNI.out] at O13
    simp only [HNI.out]
    go_wp2_with (first
      | (clear t3; refine wpList_storeW rfl 32 _ _ rfl rfl [.slice (some ⟨gp, 0, none⟩) n n, .slice (some ⟨gh, 0, none⟩) n n, .slice ar ni cr, .slice am nj cm, .slice (some ⟨gb, 0, none⟩) n n, .int .i64 (-1)] rfl D2 rfl infoSt (by simp [Value.oneCell']) ?_; intro W3 U3 D3))
    have hsz := B1.size
    have hb2l := D1.lt
    have hUb : ∀ k, W1.heap.size ≤ k → W3.heap[k]? = w'.heap[k]? := fun k hk => U3.block k (by omega)
    have O13b : OwnA W3 w.heap.size (.slice ar ni cr) vs ri := (O13.same hUb).raise hsz
    have O16b : W3.ownsRow w.heap.size 2 1 (.slice am nj cm) nj (lj.flatMap intE) := own_raise (own_same O16 fun k hk => hUb k (own_lt O16 hk).1) hsz
    refine ret_S (cs := [.slice (some ⟨gp, 0, none⟩) n n, .slice (some ⟨gh, 0, none⟩) n n, .slice ar ni cr, .slice am nj cm, .slice (some ⟨gb, 0, none⟩) n n, .int .i64 (-1)]) rfl rfl rfl D3 _ Try.underlying32 rfl infoSt ⟨gp, gh, gb, _, _, vs, rfl, ⟨own_rep (Nat.le_trans hsz hgp) ((hUb gp hgp).trans I8) hn, O13b, ?_, ?_⟩, (hUb gh hgh).trans I10, (hUb gb hgb).trans I18, U3.trans B02 hb2⟩
    · rw [HNJ.out]; exact O16b
    · intro j u k hu hk hk2
      have h1 := R13 j u k hu hk
      have h2 := R16 k hk2
      omega
end Go.Proofs.Ytegpnicajlndlaa
/- Runs in plain mathematics; what a right program gives; sc's turn as one step. -/
namespace Go.Proofs.Ytegpnicajlndlaa
open Go.RowKit M
set_option linter.unusedSimpArgs false
set_option linter.unusedVariables false

/-- What a right program is. -/
structure Vld (p : PG) : Prop where
  n0 : 0 < p.threads.length
  n4 : p.threads.length ≤ 4
  rl : p.regs.length = p.threads.length
  il : p.regInit.length = p.threads.length
  rows : ∀ (i : Nat) r q, p.regs[i]? = some r → p.regInit[i]? = some q → q.length = r.length
  few : ∀ (i : Nat) r, p.regs[i]? = some r → r.length ≤ 8
  ll : p.locInit.length = p.locs.length
  l16 : p.locs.length ≤ 16
  ops : OpsTo p.threads p.regs p.locs.length p.threads.length
theorem vld_of {p : PG} (h : validV p = 0) : Vld p := by
  unfold validV at h
  split at h
  · cases h
  · rename_i h1
    split at h
    · rename_i h2; exact absurd h h2
    · rename_i h2
      have hr : regsErr p = 0 := Classical.byContradiction h2
      unfold regsErr at hr
      split at hr
      · cases hr
      · rename_i h3
        split at hr
        · cases hr
        · rename_i h4
          split at hr
          · cases hr
          · rename_i h5
            split at h
            · cases h
            · rename_i h6
              split at h
              · cases h
              · rename_i h7
                split at h
                · cases h
                · rename_i h8
                  have hR : RegsTo p.regs p.regInit p.regs.length := Classical.byContradiction h4
                  refine ⟨by omega, by omega, Classical.byContradiction fun e => h3 (.inl e), Classical.byContradiction fun e => h3 (.inr e), fun i r q hr hq => (hR i r q (List.getElem?_eq_some_iff.1 hr).1 hr hq).1, fun i r hr => ?_, Classical.byContradiction fun e => h6 (.inl e), by omega, ?_⟩
                  · exact Classical.byContradiction fun e => h5 ⟨i, r, (List.getElem?_eq_some_iff.1 hr).1, hr, by omega⟩
                  · exact Classical.byContradiction fun e => h8 (opsB_f e)
theorem opIn_of {o : Op5} {r : List ByteArray} {nl : Nat} (h : opOk o r nl = true) : OpIn o r.length nl := by
  unfold opOk at h
  simp only [Bool.and_eq_true] at h
  obtain ⟨⟨⟨⟨⟨h1, h2⟩, h3⟩, h4⟩, h5⟩, h6⟩ := h
  have key : ∀ (n : Int) (m : Nat) (b : Bool), b = true → numOk n b m = true → 0 ≤ n ∧ n < m := fun n m b hb hn => by
    subst hb
    unfold numOk at hn
    simpa using hn
  refine ⟨fun hk => key _ _ _ ?_ h3, fun hk => key _ _ _ ?_ h4, fun hk => key _ _ _ ?_ h5⟩
  · unfold uReg
    rcases hk with h | h | h | h | h | h <;> simp [h]
  · unfold uSrc; exact decide_eq_true hk
  · unfold uLoc; exact decide_eq_true hk
/-- A thread's next instruction is done; none: there is no such thread or instruction. -/
def stepS (ths : List (List Op5)) (pc : List Int) (regs : List (List Int)) (mem : List Int) (i : Int) : Option (List Int × List (List Int) × List Int) :=
  if 0 ≤ i ∧ i < ths.length then
    if pc.getD i.toNat 0 < ((ths.getD i.toNat []).length : Int) then
      (fun o => (pc.set i.toNat (pc.getD i.toNat 0 + 1), regs.set i.toNat (doR o (regs.getD i.toNat []) mem), doM o (regs.getD i.toNat []) mem)) <$> (ths.getD i.toNat [])[(pc.getD i.toNat 0).toNat]?
    else none
  else none
/-- What holds of each state of a run. -/
structure Inv (p : PG) (pc : List Int) (regs : List (List Int)) (mem : List Int) : Prop where
  pl : pc.length = p.threads.length
  ps : ∀ (i : Nat) x, pc[i]? = some x → 0 ≤ x
  rl : regs.length = p.threads.length
  rs : ∀ (i : Nat) r q, p.regs[i]? = some r → regs[i]? = some q → q.length = r.length
  ml : mem.length = p.locs.length
theorem inv_start {p : PG} (h : Vld p) : Inv p (List.replicate p.threads.length 0) p.regInit p.locInit :=
  ⟨by simp, fun i x hx => (by
    rw [List.getElem?_replicate] at hx
    split at hx
    · cases hx; omega
    · cases hx), h.il, h.rows, h.ll⟩
/-- A step that goes: the thread, its instruction and its registers. -/
theorem step_some {p : PG} {pc : List Int} {regs : List (List Int)} {mem : List Int} {i : Int} {t : List Int × List (List Int) × List Int} (hv : Vld p) (hI : Inv p pc regs mem) (h : stepS p.threads pc regs mem i = some t) :
    ∃ (j qn : Nat) (th : List Op5) (o : Op5) (rj : List Int), i = (j : Int) ∧ p.threads[j]? = some th ∧ pc[j]? = some (qn : Int) ∧ th[qn]? = some o ∧ regs[j]? = some rj ∧ OpIn o rj.length mem.length ∧ t = (pc.set j ((qn : Int) + 1), regs.set j (doR o rj mem), doM o rj mem) := by
  unfold stepS at h
  split at h
  · rename_i h1
    split at h
    · rename_i h2
      obtain ⟨j, rfl⟩ : ∃ j : Nat, i = (j : Int) := ⟨i.toNat, by omega⟩
      have hj : j < p.threads.length := by omega
      simp only [Int.toNat_natCast] at h h2
      obtain ⟨o, ho, ht⟩ := Option.map_eq_some_iff.1 h
      have hth : p.threads[j]? = some (p.threads.getD j []) := by simp [hj]
      have hpc : pc[j]? = some (pc.getD j 0) := by have := hI.pl; simp [show j < pc.length by omega]
      have hrj : regs[j]? = some (regs.getD j []) := by have := hI.rl; simp [show j < regs.length by omega]
      have hp0 := hI.ps j _ hpc
      have hr : p.regs[j]? = some (p.regs.getD j []) := by have := hv.rl; simp [show j < p.regs.length by omega]
      have hoi := opIn_of (hv.ops j _ _ hj hth hr o (List.mem_of_getElem? ho))
      refine ⟨j, (pc.getD j 0).toNat, _, o, _, rfl, hth, by rw [hpc]; congr 1; omega, ho, hrj, ?_, ?_⟩
      · rw [hI.rs j _ _ hr hrj, hI.ml]; exact hoi
      · rw [← ht, show (((pc.getD j 0).toNat : Nat) : Int) = pc.getD j 0 by omega]
    · cases h
  · cases h
theorem inv_step {p : PG} {pc : List Int} {regs : List (List Int)} {mem : List Int} {i : Int} {t : List Int × List (List Int) × List Int} (hv : Vld p) (hI : Inv p pc regs mem) (h : stepS p.threads pc regs mem i = some t) : Inv p t.1 t.2.1 t.2.2 := by
  obtain ⟨j, qn, th, o, rj, rfl, hth, hpc, ho, hrj, hoi, rfl⟩ := step_some hv hI h
  refine ⟨by rw [List.length_set]; exact hI.pl, fun i x hx => ?_, by rw [List.length_set]; exact hI.rl, fun i r q hr hq => ?_, by rw [doM_len]; exact hI.ml⟩
  · rw [List.getElem?_set] at hx
    split at hx
    · split at hx
      · cases hx; omega
      · cases hx
    · exact hI.ps i x hx
  · rw [List.getElem?_set] at hq
    split at hq
    · rename_i e
      subst e
      split at hq
      · cases hq; rw [doR_len]; exact hI.rs j r rj hr hrj
      · cases hq
    · exact hI.rs i r q hr hq
theorem step_none {p : PG} {pc : List Int} {regs : List (List Int)} {mem : List Int} {i : Int} (hI : Inv p pc regs mem) (h : stepS p.threads pc regs mem i = none) :
    i < 0 ∨ (¬ i < 0 ∧ (p.threads.length : Int) ≤ i) ∨ ∃ (j : Nat) (th : List Op5) (q : Int), i = (j : Int) ∧ p.threads[j]? = some th ∧ j < pc.length ∧ pc[j]? = some q ∧ (th.length : Int) ≤ q := by
  unfold stepS at h
  by_cases h0 : i < 0
  · exact .inl h0
  by_cases h1 : (p.threads.length : Int) ≤ i
  · exact .inr (.inl ⟨h0, h1⟩)
  rw [if_pos (by omega)] at h
  obtain ⟨j, rfl⟩ : ∃ j : Nat, i = (j : Int) := ⟨i.toNat, by omega⟩
  have hj : j < p.threads.length := by omega
  simp only [Int.toNat_natCast] at h
  have hth : p.threads[j]? = some (p.threads.getD j []) := by simp [hj]
  have hjp : j < pc.length := by have := hI.pl; omega
  have hpc : pc[j]? = some (pc.getD j 0) := by simp [hjp]
  have hp0 := hI.ps j _ hpc
  refine .inr (.inr ⟨j, _, _, rfl, hth, hjp, hpc, ?_⟩)
  split at h
  · rename_i h2
    have hlt : (pc.getD j 0).toNat < (p.threads.getD j []).length := by omega
    rw [List.getElem?_eq_getElem hlt] at h
    cases h
  · omega
theorem row_few {ths : List (List Op5)} {j : Nat} {th : List Op5} (h : ths[j]? = some th) (hf : ths.flatten.length ≤ 1048576) : th.length ≤ 1048576 :=
  Nat.le_trans (by have := flat_at h (Nat.le_refl _); rw [List.take_length, List.length_append] at this; omega) hf
theorem turn_none (p : PG) (hf : p.Few) (pc : List Int) (regs : List (List Int)) (mem : List Int) (hI : Inv p pc regs mem) (i : Int) (B ct : Nat) (at0 : Option Addr) (vpc vph vrg vmm vbf vlk : Value) (w : World) (h : stepS p.threads pc regs mem i = none)
    (hT : RowsV w (.slice at0 p.threads.length ct) op5L p.threads) (hpc : w.ownsRow B 3 1 vpc pc.length (pc.flatMap intE)) :
    Calls Try.prog 75 #[.slice at0 p.threads.length ct, .agg #[vpc, vph, vrg, vmm, vbf, vlk], .int .i64 i] w fun e w' => e = .returned (.bool false) ∧ Below w.heap.size w w' := by
  rcases step_none hI h with h0 | ⟨h0, h1⟩ | ⟨j, th, q, rfl, hth, hj, hq, hle⟩
  · exact turn_neg i at0 _ ct vpc vph vrg vmm vbf vlk h0 w
  · exact turn_big i at0 _ ct vpc vph vrg vmm vbf vlk h0 h1 w
  · exact turn_end j _ ct p.threads th pc q B at0 vpc vph vrg vmm vbf vlk w rfl hth hj hq hle hT hpc
theorem turn_some (p : PG) (hv : Vld p) (hf : p.Few) (pc : List Int) (regs : List (List Int)) (mem : List Int) (hI : Inv p pc regs mem) (i : Int) (B ct : Nat) (at0 : Option Addr) (vpc vph vrg vmm vbf vlk : Value) (vs : List Value) (w : World) (t : List Int × List (List Int) × List Int) (h : stepS p.threads pc regs mem i = some t)
    (hT : RowsV w (.slice at0 p.threads.length ct) op5L p.threads) (hS : StO w B vpc vrg vmm vs pc regs mem) :
    Calls Try.prog 75 #[.slice at0 p.threads.length ct, .agg #[vpc, vph, vrg, vmm, vbf, vlk], .int .i64 i] w fun e w' => e = .returned (.bool true) ∧ StO w' B vpc vrg vmm vs t.1 t.2.1 t.2.2 ∧ Fr w w' (vs ++ [vmm, vpc]) := by
  obtain ⟨j, qn, th, o, rj, rfl, hth, hpc, ho, hrj, hoi, rfl⟩ := step_some hv hI h
  have hjv : j < vs.length := by rw [hS.rg.len]; exact (List.getElem?_eq_some_iff.1 hrj).1
  obtain ⟨uu, huu⟩ : ∃ u, vs[j]? = some u := ⟨_, List.getElem?_eq_getElem hjv⟩
  have hr : p.regs[j]? = some (p.regs.getD j []) := by have := hv.rl; have := (List.getElem?_eq_some_iff.1 hth).1; simp [show j < p.regs.length by omega]
  have hrl : rj.length ≤ 1048576 := by rw [hI.rs j _ _ hr hrj]; have := hv.few j _ hr; omega
  have hml : mem.length ≤ 1048576 := by rw [hI.ml]; exact hf.l
  refine (turn_go j qn _ ct p.threads th o pc regs rj mem B at0 vpc vph vrg vmm vbf vlk uu vs w w rfl hth ho (List.getElem?_eq_some_iff.1 hpc).1 hpc hrj huu (row_few hth hf.tt) hrl hml hoi hT hS).mono ?_
  rintro e w' ⟨rfl, O1, O2, O3, F⟩
  have hdu : ∀ k, vrg.ownBlock = some k → ∀ v ∈ [uu, vmm, vpc], v.ownBlock ≠ some k := fun k hk v hv => by
    simp only [List.mem_cons, List.not_mem_nil, or_false] at hv
    rcases hv with rfl | rfl | rfl
    · exact own_diff hS.rg.out (hS.rg.row j v rj huu hrj) (by decide) hk
    · exact own_diff hS.rg.out hS.mm (by decide) hk
    · exact own_diff hS.rg.out hS.pc (by decide) hk
  refine ⟨rfl, ⟨by rw [List.length_set]; exact O1, ⟨by rw [List.length_set]; exact hS.rg.len, by rw [List.length_set]; exact F.own hS.rg.out hdu, fun j' u xs hu hx => ?_, hS.rg.apart⟩, by rw [doM_len]; exact O3, hS.am⟩, F.more ?_⟩
  · rw [List.getElem?_set] at hx
    split at hx
    · rename_i e
      subst e
      split at hx
      · cases hx
        rw [huu] at hu
        cases hu
        rw [doR_len]; exact O2
      · cases hx
    · rename_i e
      have hrow := hS.rg.row j' u xs hu hx
      refine F.own hrow fun k hk v hv => ?_
      simp only [List.mem_cons, List.not_mem_nil, or_false] at hv
      rcases hv with rfl | rfl | rfl
      · exact hS.rg.apart j' j u v k (fun e' => e e'.symm) hu huu hk
      · exact hS.am j' u k hu hk
      · exact own_diff hrow hS.pc (by decide) hk
  · intro v hv
    simp only [List.mem_cons, List.not_mem_nil, or_false] at hv
    rcases hv with rfl | rfl | rfl
    · exact List.mem_append_left _ (List.mem_of_getElem? huu)
    · simp
    · simp
/-- Instructions in an order. -/
def playS (ths : List (List Op5)) : List Int → List Int → List (List Int) → List Int → Option (List Int × List (List Int) × List Int)
  | [], pc, regs, mem => some (pc, regs, mem)
  | i :: l, pc, regs, mem => match stepS ths pc regs mem i with
    | none => none
    | some t => playS ths l t.1 t.2.1 t.2.2
theorem playS_snoc (ths : List (List Op5)) : ∀ (l : List Int) (i : Int) (pc : List Int) (regs : List (List Int)) (mem : List Int), playS ths (l ++ [i]) pc regs mem = match playS ths l pc regs mem with
    | none => none
    | some t => stepS ths t.1 t.2.1 t.2.2 i
  | [], i, pc, regs, mem => by
    simp only [List.nil_append, playS]
    cases stepS ths pc regs mem i with
    | none => rfl
    | some t => rfl
  | x :: l, i, pc, regs, mem => by
    simp only [List.cons_append, playS]
    cases stepS ths pc regs mem x with
    | none => rfl
    | some t => exact playS_snoc ths l i t.1 t.2.1 t.2.2
theorem playS_stop (ths : List (List Op5)) : ∀ (l m : List Int) (pc : List Int) (regs : List (List Int)) (mem : List Int), playS ths l pc regs mem = none → playS ths (l ++ m) pc regs mem = none
  | [], m, pc, regs, mem, h => by simp [playS] at h
  | x :: l, m, pc, regs, mem, h => by
    simp only [List.cons_append, playS] at h ⊢
    cases hs : stepS ths pc regs mem x with
    | none => rfl
    | some t => rw [hs] at h; exact playS_stop ths l m t.1 t.2.1 t.2.2 h
end Go.Proofs.Ytegpnicajlndlaa

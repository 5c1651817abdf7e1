/- add: a node is put behind the others. -/
import Derived.Test.YtjnbhcakfenbhaaDoorV1
import Derived.Test.YtjnbhcakfenbhaaDoorH0
namespace Go.Proofs.YtjnbhcakfenbhaaDoor
open Go.RowKit Go.Shelf M
set_option linter.unusedSimpArgs false
set_option linter.unusedVariables false

section
variable {F : Fence} {N : Nat} {w : World} {b t o : Nat} {cs : List Value} {ops : Array Oper} {rest : List Oper} {op : Oper} {a : Act} {Q : Exit → Act → World → Prop}
theorem plainIn (hgd : op.guard = none) (hnc : ∀ c, op.op ≠ .call c) (hnd : ∀ c, op.op ≠ .defer c) {v : Value} {W : World} (hr : (execOp a.eval op).run Tryd.prog w = .ok (.value v) W)
    (h : wpListIn F N Tryd.prog ops Q rest (a.put op.dst v) W) : wpListIn F N Tryd.prog ops Q (op :: rest) a w := by
  refine wpListIn_plain hgd fun K hK => ⟨fun f hf => ?_, ?_⟩
  · exfalso
    unfold Oper.about at hf
    cases ho : op.op <;> simp_all
  · rw [Oper.semAt_plain F _ _ hnd, hr]
    exact hK _ _ h
theorem skipIn (hgd : op.guard = none) (hnc : ∀ c, op.op ≠ .call c) (hnd : ∀ c, op.op ≠ .defer c) {W : World} (hr : (execOp a.eval op).run Tryd.prog w = .ok .skip W)
    (h : wpListIn F N Tryd.prog ops Q rest (a.put op.dst undef) W) : wpListIn F N Tryd.prog ops Q (op :: rest) a w := by
  refine wpListIn_plain hgd fun K hK => ⟨fun f hf => ?_, ?_⟩
  · exfalso
    unfold Oper.about at hf
    cases ho : op.op <;> simp_all
  · rw [Oper.semAt_plain F _ _ hnd, hr]
    exact hK _ _ h
theorem inStore1 (hgd : op.guard = none) (ty : TypeId) (x y : Operand) (ho : op.op = .store ty x y) (hx : a.eval x = .pointer (some ⟨b, o, none⟩)) (v : Value) (hy : a.eval y = v) (hc : IsS w b t cs)
    (hk : o < cs.length) (hi : (Tryd.prog.info? ty).map (·.size) = some 1) (h1 : v.oneCell' = true)
    (h : ∀ W, Upd w W b → IsS W b t (cs.set o v) → wpListIn F N Tryd.prog ops Q rest (a.put op.dst undef) W) : wpListIn F N Tryd.prog ops Q (op :: rest) a w := by
  refine skipIn hgd (by rw [ho]; intro c e; cases e) (by rw [ho]; intro c e; cases e) ?_ (h _ (Upd.setCell w b o v) (hc.set1 o v))
  unfold execOp
  simp only [ho, hx, hy, Instr.storeAt, Instr.sureAddr, Sem.run_bind, Sem.run_pure, Result.andThen_ok, run_store1 w b o ty v (hc.there o 1 (by omega)) hi h1]
end
section
variable {F : Fence} {m : Nat} {P : Program} {ops : Array Oper} {Q : Exit → Act → World → Prop} {C : World → Prop}
/-- The one that may come up now, where it only runs. -/
theorem atC_run (hfn : ∀ f, F.fn f) {n : Nat} {L : Act → World → Prop} {f : Nat} {listed : Array Bool} {a : Act} {w : World} (i : Nat) {oi : Oper} (hi : ops[i]? = some oi) (hB : (decide (i < n) && decide (Region.ready .any ops listed = [i])) = true)
    (hnd : ∀ c, oi.op ≠ .defer c) (hw : Region.wanted oi (yielded ops a.tmps) = true) {v : Value} {w' : World} (hr : (execOp a.eval oi).run P w = .ok (.value v) w') (hc : C w')
    (h : AtC F m P ops Q C n L f (listed.setIfInBounds i true) (a.put oi.dst v) w') : AtC F m P ops Q C n L (f + 1) listed a w := by
  refine atC_next i hi hB fun K hK => ?_
  rw [if_pos hw]
  refine ⟨fun f _ => hfn f, ?_⟩
  rw [Oper.semAt_eq _ _ _ hnd, hr]
  exact hK _ _ hc h
theorem atC_ex (hfn : ∀ f, F.fn f) {n : Nat} {L : Act → World → Prop} {f : Nat} {listed : Array Bool} {a : Act} {w : World} (i : Nat) {oi : Oper} (hi : ops[i]? = some oi) (hB : (decide (i < n) && decide (Region.ready .any ops listed = [i])) = true)
    (hnd : ∀ c, oi.op ≠ .defer c) (hw : Region.wanted oi (yielded ops a.tmps) = true) {R : Value → World → Prop} (hr : ∃ v w', (execOp a.eval oi).run P w = .ok (.value v) w' ∧ R v w')
    (h : ∀ v w', R v w' → C w' ∧ AtC F m P ops Q C n L f (listed.setIfInBounds i true) (a.put oi.dst v) w') : AtC F m P ops Q C n L (f + 1) listed a w := by
  obtain ⟨v, w', hr, hR⟩ := hr
  exact atC_run hfn i hi hB hnd hw hr (h v w' hR).1 (h v w' hR).2
end
theorem run_loadP {op : Oper} {a : Act} {w : World} {b t o : Nat} {cs : List Value} (ty : TypeId) (x : Operand) (ho : op.op = .load ty x) (hx : a.eval x = .pointer (some ⟨b, o, none⟩)) (hc : IsS w b t cs) (k : Nat) (sub : List Value) (hsub : (cs.drop o).take k = sub) (d : TypeDesc)
    (hu : Tryd.prog.underlying ty = some d) (hd : d.isRow = true) (hi : (Tryd.prog.info? ty).map (·.size) = some sub.length) : (execOp a.eval op).run Tryd.prog w = .ok (.value (.agg sub.toArray)) w := by
  subst hsub
  unfold execOp
  simp only [ho, hx, Sem.run_bind, run_loadAt_mid w b o ty _ d (hc.range o k) hu hd hi, Result.andThen_ok, Sem.run_pure]
theorem run_load1 {op : Oper} {a : Act} {w : World} {b t o : Nat} {cs : List Value} (ty : TypeId) (x : Operand) (ho : op.op = .load ty x) (hx : a.eval x = .pointer (some ⟨b, o, none⟩)) (hc : IsS w b t cs) {v : Value} (hv : cs[o]? = some v)
    (hl : ∀ w, w.cell? ⟨b, o, none⟩ = some v → (Instr.loadAt ty (.pointer (some ⟨b, o, none⟩))).run Tryd.prog w = .ok v w) : (execOp a.eval op).run Tryd.prog w = .ok (.value v) w := by
  unfold execOp
  simp only [ho, hx, Sem.run_bind, hl w ((hc.cell o).trans hv), Result.andThen_ok, Sem.run_pure]
theorem run_buildNd {op : Oper} {a : Act} {w : World} (x : Operand) (ho : op.op = .buildSlice 23 1 #[(0, x)]) (t : Nd) (hx : a.eval x = .agg (ndL t).toArray) :
    ∃ v W, (execOp a.eval op).run Tryd.prog w = .ok (.value v) W ∧ (∃ b, v = .slice (some ⟨b, 0, none⟩) 1 1 ∧ Fresh w W b ∧ IsS W b 52 (ndL t)) := by
  refine ⟨_, _, ?_, _, rfl, Fresh.alloc w (.cells (ndL t).toArray 52), IsS.new w 52 _⟩
  generalize a.eval = ev at hx ⊢
  unfold execOp
  simp [ho, hx, go_sem, Value.cells, ndL]
theorem run_appNd {op : Oper} {a : Act} {w : World} (sl x : Operand) (ho : op.op = .call { callee := .builtin .append, args := #[sl, x], argTypes := #[23, 23] })
    (B : Nat) (v : Value) (out : List Nd) (hs : a.eval sl = v) (hown : w.ownsRow B 52 6 v out.length (cellsL out)) (b : Nat) (nd : Nd) (hx : a.eval x = .slice (some ⟨b, 0, none⟩) 1 1) (hb : IsS w b 52 (ndL nd)) (hn : out.length ≤ 16777216) (hB : B ≤ w.heap.size) :
    ∃ v' W, (execOp a.eval op).run Tryd.prog w = .ok (.value v') W ∧ (W.ownsRow B 52 6 v' (out ++ [nd]).length (cellsL (out ++ [nd])) ∧ Step none v.ownBlock v'.ownBlock w W) := by
  obtain ⟨v', W, h1, h2, h3⟩ := run_appN B v out hown b 1 nd hb hn hB op.type
  refine ⟨v', W, ?_, h2, h3⟩
  unfold execOp
  simp only [ho, resolve, invoke, builtin, Sem.run_bind, Sem.run_pure, Result.andThen_ok, List.map_toArray, List.map_cons, List.map_nil, hs, hx, h1]
theorem own_formN {W : World} {base e s n : Nat} {v : Value} {xs : List Value} (h : W.ownsRow base e s v n xs) : ∃ a cap, v = .slice a n cap := by
  rcases h.2 with ⟨rfl, rfl⟩ | ⟨g', cap', cur, rfl, _⟩
  · exact ⟨_, _, rfl⟩
  · exact ⟨_, _, rfl⟩
theorem own_neN {W : World} {base e s n b t : Nat} {v : Value} {xs cs : List Value} (h : W.ownsRow base e s v n xs) (hc : IsS W b t cs) (hte : t ≠ e) : v.ownBlock ≠ some b := by
  rcases h.2 with ⟨rfl, _⟩ | ⟨g, cap, cur, rfl, hg, hh, rest⟩
  · intro e; cases e
  · intro e'
    cases e'
    rw [show W.heap[g]? = _ from hc] at hh
    cases hh
    exact hte rfl
theorem own_grN {W W' : World} {base e s n : Nat} {v : Value} {xs : List Value} (h : W.ownsRow base e s v n xs) (hb : Below W.heap.size W W') : W'.ownsRow base e s v n xs := by
  refine ⟨h.1, ?_⟩
  rcases h.2 with hn | ⟨g, cap, cur, rfl, hg, hh, rest⟩
  · exact Or.inl hn
  · exact Or.inr ⟨g, cap, cur, rfl, hg, (hb.block g (Array.getElem?_eq_some_iff.1 hh).1).trans hh, rest⟩
theorem own_updF {W W' : World} {base e s n b : Nat} {v : Value} {xs : List Value} (h : W.ownsRow base e s v n xs) (U : Upd W W' b) (hb : v.ownBlock ≠ some b) : W'.ownsRow base e s v n xs := by
  refine ⟨h.1, ?_⟩
  rcases h.2 with hn | ⟨g, cap, cur, rfl, hg, hh, rest⟩
  · exact Or.inl hn
  · exact Or.inr ⟨g, cap, cur, rfl, hg, (U.block g (fun e => hb (by rw [← e]; rfl))).trans hh, rest⟩
theorem infoCd : (Tryd.prog.info? 23).map (·.size) = some 1 := by kernel_rfl
section
variable {gs : List GT} {a : Option Addr} {cap base br : Nat}
theorem cadd_no (hn : Few gs) (σ : CS) (ok : Ok gs σ) (hk : 1 ≤ σ.k) (nd : Nd) (hl : σ.nodes.length = 1024) (w : World) (hP : PC gs a cap base br w σ) :
    Calls Tryd.prog 65 #[.pointer (some ⟨br, 0, none⟩), .agg (ndL nd).toArray] w fun en w' => OutC gs a cap base br w (nodeC gs σ nd) (.int .i64 (nodeI σ)) en w' := by
  obtain ⟨v, d, h1, h2, h3, h4⟩ := hP.ex
  obtain ⟨k, hk2⟩ : ∃ k, σ.k = k + 1 := ⟨σ.k - 1, by omega⟩
  have hkl := ok.k
  have e2 : nodeC gs σ nd = ⟨σ.k, σ.deep, σ.nodes, some ((gEnd gs k).line, (gEnd gs k).col, 1)⟩ := by
    unfold nodeC failC
    rw [if_neg (by rw [ok.F]; simp), if_pos hl, if_neg (by rw [ok.F]; simp), hk2, gEnd_at (by omega)]
    rfl
  rw [e2]
  obtain ⟨a0, c0, rfl⟩ := own_formN h4
  rw [hl] at h3
  rw [hk2] at h3
  refine (add_no a cap k d a0 c0 nd gs hn.1 (by have := hn.1; omega) br w hP.toks h3).mono ?_
  rintro en w' ⟨ht, B⟩
  exact OutC.thrown rfl ht (below_lower B hP.sz)
set_option maxRecDepth 100000 in
set_option maxHeartbeats 2000000 in
theorem cadd_yes (σ : CS) (ok : Ok gs σ) (nd : Nd) (hl : σ.nodes.length < 1024) (w : World) (hP : PC gs a cap base br w σ) :
    Calls Tryd.prog 65 #[.pointer (some ⟨br, 0, none⟩), .agg (ndL nd).toArray] w fun en w' => OutC gs a cap base br w (nodeC gs σ nd) (.int .i64 (nodeI σ)) en w' := by
  obtain ⟨v, d, h1, h2, h3, h4⟩ := hP.ex
  have hbr := hP.lt
  have e2 : nodeC gs σ nd = ⟨σ.k, σ.deep, σ.nodes ++ [nd], none⟩ := by unfold nodeC; rw [if_neg (by rw [ok.F]; simp), if_neg (by omega)]
  have e3 : nodeI σ = (σ.nodes.length : Int) := by unfold nodeI; rw [if_neg (by rw [ok.F]; simp; omega)]
  rw [e2, e3]
  obtain ⟨a0, c0, rfl⟩ := own_formN h4
  have hlen : ((σ.nodes.length : Int) == 1024) = false := (by simp; omega)
  have hl2 : σ.nodes.length ≤ 1024 := by omega
  go_enter Tryd.func65, Tryd.ntmps65
  go_wp2_with (first
    | (refine wpList_boxS rfl 52 _ rfl (ndL nd) rfl ?_; intro W1 b3 F1 N1; have B1 := F1.trans (Below.refl _ w) (Nat.le_refl _); have R1 := h3.fresh F1; have O1 := own_grN h4 B1; have hb3 : w.heap.size ≤ b3 := Nat.le_of_eq F1.at'.symm; have c3 : W1.cell? ⟨br, 3, none⟩ = some (.slice a0 σ.nodes.length c0) := R1.cell 3; have o3 : (Value.slice a0 σ.nodes.length c0).ownBlock ≠ some b3 := (fun hg => (by have := (h4.lt _ hg).2; omega)); clear F1))
  obtain ⟨X, hX⟩ : ∃ X : World, X = { W1 with drawn := W1.drawn + 1 } := ⟨_, rfl⟩
  have N2 : IsS X b3 52 (ndL nd) := (by rw [hX]; exact N1)
  have R2 : IsS X br 71 (rdL a gs.length cap σ.k d (.slice a0 σ.nodes.length c0)) := (by rw [hX]; exact R1)
  have B2 : Below w.heap.size w X := (by rw [hX]; exact ⟨B1.os, B1.tape, B1.output, B1.size, B1.block⟩)
  have O2 : X.ownsRow base 52 6 (.slice a0 σ.nodes.length c0) σ.nodes.length (cellsL σ.nodes) := (by rw [hX]; exact own_grN O1 ⟨rfl, rfl, rfl, Nat.le_refl _, fun _ _ => rfl⟩)
  clear N1 R1 O1 c3 h3 h4
  try dsimp only [Act.put]
  refine (wpIn_wide (n := 0)).1 ?_
  refine region_headC (fun w => IsS w br 71 (rdL a gs.length cap σ.k d (.slice a0 σ.nodes.length c0)) ∧ IsS w b3 52 (ndL nd)) 10 (by kernel_rfl) (by decide) ?_
  rw [← hX]
  clear hX B1
  refine atC_take (fun _ => trivial) (headed_of (by kernel_rfl)) 0 rfl (by kernel_rfl) (fun c a w h => h) (v := .pointer (some ⟨br, 0, none⟩)) (.inl ⟨rfl, fun w hc => ?y0⟩) ⟨R2, N2⟩ ?_
  case y0 =>
    rfl
  simp only [Act.put, List.getElem_toArray, List.getElem_cons_zero, List.getElem_cons_succ, List.setIfInBounds_toArray, List.set_cons_succ, List.set_cons_zero]
  refine atC_take (fun _ => trivial) (headed_of (by kernel_rfl)) 1 rfl (by kernel_rfl) (fun c a w h => h) (v := .pointer (some ⟨br, 0, none⟩)) (.inl ⟨rfl, fun w hc => ?y1⟩) ⟨R2, N2⟩ ?_
  case y1 =>
    rfl
  simp only [Act.put, List.getElem_toArray, List.getElem_cons_zero, List.getElem_cons_succ, List.setIfInBounds_toArray, List.set_cons_succ, List.set_cons_zero]
  refine atC_take (fun _ => trivial) (headed_of (by kernel_rfl)) 2 rfl (by kernel_rfl) (fun c a w h => h) (v := .pointer (some ⟨br, 0, none⟩)) (.inl ⟨rfl, fun w hc => ?y2⟩) ⟨R2, N2⟩ ?_
  case y2 =>
    first | rfl | simp [execOp, go_sem]
  simp only [Act.put, List.getElem_toArray, List.getElem_cons_zero, List.getElem_cons_succ, List.setIfInBounds_toArray, List.set_cons_succ, List.set_cons_zero]
  refine atC_take (fun _ => trivial) (headed_of (by kernel_rfl)) 3 rfl (by kernel_rfl) (fun c a w h => h) (v := .pointer (some ⟨br, 3, none⟩)) (.inl ⟨rfl, fun w hc => ?y3⟩) ⟨R2, N2⟩ ?_
  case y3 =>
    first | rfl | simp [execOp, go_sem]
  simp only [Act.put, List.getElem_toArray, List.getElem_cons_zero, List.getElem_cons_succ, List.setIfInBounds_toArray, List.set_cons_succ, List.set_cons_zero]
  refine atC_take (fun _ => trivial) (headed_of (by kernel_rfl)) 4 rfl (by kernel_rfl) (fun c a w h => h) (v := .slice a0 σ.nodes.length c0) (.inl ⟨rfl, fun w hc => ?y4⟩) ⟨R2, N2⟩ ?_
  case y4 =>
    exact run_load1 23 _ rfl rfl hc.1 rfl ldCd
  simp only [Act.put, List.getElem_toArray, List.getElem_cons_zero, List.getElem_cons_succ, List.setIfInBounds_toArray, List.set_cons_succ, List.set_cons_zero]
  refine atC_take (fun _ => trivial) (headed_of (by kernel_rfl)) 5 rfl (by kernel_rfl) (fun c a w h => h) (v := .agg (ndL nd).toArray) (.inl ⟨rfl, fun w hc => ?y5⟩) ⟨R2, N2⟩ ?_
  case y5 =>
    exact run_loadP 52 _ rfl rfl hc.2 6 (ndL nd) rfl _ Tryd.underlying52 rfl infoNd
  simp only [Act.put, List.getElem_toArray, List.getElem_cons_zero, List.getElem_cons_succ, List.setIfInBounds_toArray, List.set_cons_succ, List.set_cons_zero]
  refine atC_ex (fun _ => trivial) 6 rfl (by kernel_rfl) (by intro c h; cases h) rfl (run_buildNd (w := X) _ rfl nd rfl) ?_
  rintro _ Y ⟨b9, rfl, FY, NY⟩
  refine ⟨⟨R2.fresh FY, N2.fresh FY⟩, ?_⟩
  simp only [Act.put, List.getElem_toArray, List.getElem_cons_zero, List.getElem_cons_succ, List.setIfInBounds_toArray, List.set_cons_succ, List.set_cons_zero]
  have O3 := own_grN O2 (FY.trans (Below.refl _ _) (Nat.le_refl _))
  have B3 := FY.trans B2 B2.size
  have R3 := R2.fresh FY
  have N3 := N2.fresh FY
  clear R2 N2 O2 B2 FY
  refine atC_ex (fun _ => trivial) 7 rfl (by kernel_rfl) (by intro c h; cases h) rfl (run_appNd (w := Y) _ _ rfl base (.slice a0 σ.nodes.length c0) σ.nodes rfl O3 b9 nd rfl NY (by omega) (Nat.le_trans hP.sz B3.size)) ?_
  rintro v2 Z ⟨O4, S4⟩
  have nrow := own_neN O3 R3 (by decide)
  have R4 := R3.step S4 (by intro e; cases e) (Ne.symm nrow)
  have N4 := N3.step S4 (by intro e; cases e) (Ne.symm o3)
  refine ⟨⟨R4, N4⟩, ?_⟩
  simp only [Act.put, List.getElem_toArray, List.getElem_cons_zero, List.getElem_cons_succ, List.setIfInBounds_toArray, List.set_cons_succ, List.set_cons_zero]
  refine atC_take (fun _ => trivial) (headed_of (by kernel_rfl)) 8 rfl (by kernel_rfl) (fun c a w h => h) (v := .pointer (some ⟨br, 0, none⟩)) (.inl ⟨rfl, fun w hc => ?y8⟩) ⟨R4, N4⟩ ?_
  case y8 =>
    first | rfl | simp [execOp, go_sem]
  simp only [Act.put, List.getElem_toArray, List.getElem_cons_zero, List.getElem_cons_succ, List.setIfInBounds_toArray, List.set_cons_succ, List.set_cons_zero]
  refine atC_take (fun _ => trivial) (headed_of (by kernel_rfl)) 9 rfl (by kernel_rfl) (fun c a w h => h) (v := .pointer (some ⟨br, 3, none⟩)) (.inl ⟨rfl, fun w hc => ?y9⟩) ⟨R4, N4⟩ ?_
  case y9 =>
    first | rfl | simp [execOp, go_sem]
  simp only [Act.put, List.getElem_toArray, List.getElem_cons_zero, List.getElem_cons_succ, List.setIfInBounds_toArray, List.set_cons_succ, List.set_cons_zero]
  have B4 : Below base w Z := (below_lower B3 hP.sz).trans (S4.below (by intro b e; cases e) (fun b e => (O3.lt b e).1) (Nat.le_trans hP.sz B3.size))
  have nrow2 := own_neN O4 R4 (by decide)
  refine atC_end (by kernel_rfl) ?_
  simp only [List.drop_succ_cons, List.drop_zero]
  obtain ⟨m, hm⟩ : ∃ m, (σ.nodes ++ [nd]).length = m := ⟨_, rfl⟩
  have HM : Hid ((m : Int) - 1 = (σ.nodes.length : Int)) := (by show _ = _; rw [← hm]; simp)
  have HN : Hid ((σ.nodes ++ [nd]).length = m) := hm
  have hm2 : m ≤ 1024 := (by rw [← hm]; simp; omega)
  have hm1 : 1 ≤ m := (by rw [← hm]; simp)
  rw [hm] at O4
  clear hm
  obtain ⟨a5, c5, rfl⟩ := own_formN O4
  gi_wp2_with (first
    | (refine inStore1 rfl 23 _ _ rfl rfl (.slice a5 m c5) rfl R4 (by simp [rdL]) infoCd rfl ?_; intro W9 U9 R9x; have R9 : IsS W9 br 71 (rdL a gs.length cap σ.k d (.slice a5 m c5)) := R9x; have O9 := own_updF O4 U9 nrow2; have B9 : Below base w W9 := U9.trans B4 hP.bb; have c9 : W9.cell? ⟨br, 3, none⟩ = some (.slice a5 m c5) := R9.cell 3))
  clear R4 N4 O3 S4 nrow nrow2 O4 B4 NY R3 N3
  go_wp2_with fail
  go_ret
  rw [HM.out]
  exact OutC.ret rfl ⟨⟨_, d, h1, h2, R9, (by show W9.ownsRow base _ 6 _ (σ.nodes ++ [nd]).length _; rw [HN.out]; exact O9)⟩, toks_low hP.toks hP.tb B9, hP.tb, hP.bb, Nat.le_trans hP.sz B9.size, (by show (σ.nodes ++ [nd]).length ≤ _; rw [HN.out]; exact hm2)⟩ B9
theorem cadd_any (hn : Few gs) (σ : CS) (ok : Ok gs σ) (hk : 1 ≤ σ.k) (nd : Nd) (w : World) (hP : PC gs a cap base br w σ) :
    Calls Tryd.prog 65 #[.pointer (some ⟨br, 0, none⟩), .agg (ndL nd).toArray] w fun en w' => OutC gs a cap base br w (nodeC gs σ nd) (.int .i64 (nodeI σ)) en w' := by
  have := hP.len
  by_cases h : σ.nodes.length = 1024
  · exact cadd_no hn σ ok hk nd h w hP
  · exact cadd_yes σ ok nd (by omega) w hP
end
end Go.Proofs.YtjnbhcakfenbhaaDoor

/- Inverse and Compose, which go through a relation's pairs. -/
import Derived.Test.YtdjlfpkemdiadaaDoorRlX4
import Derived.Test.YtdjlfpkemdiadaaDoorRlY2
import Derived.Test.YtdjlfpkemdiadaaDoorRlY0
namespace Go.Proofs.YtdjlfpkemdiadaaDoor
open Go.RowKit Go.Shelf M
attribute [local go_sem] Oper.semAt_some
set_option linter.unusedSimpArgs false
set_option linter.unusedVariables false

section
variable {F : Fence} {N : Nat} {ops : Array Oper} {rest : List Oper} {op : Oper} {a : Act} {w : World} {Q : Exit → Act → World → Prop}
theorem wpListIn_boxR (hgd : op.guard = none) (x : Operand) (ho : op.op = .box 43 x) {n : Int} {f : Nat → Nat} (hx : a.eval x = relv n f)
    (h : ∀ W b, Fresh w W b → IsR W b n f → wpListIn F N Tryd.prog ops Q rest (a.put op.dst (.pointer (some ⟨b, 0, none⟩))) W) : wpListIn F N Tryd.prog ops Q (op :: rest) a w := by
  refine plainIn hgd (by rw [ho]; intro c e; cases e) (by rw [ho]; intro c e; cases e) ?_ (h _ _ (Fresh.alloc w (.cells (cellsR n f) 43)) (IsR.new w n f))
  unfold execOp
  unfold relv at hx
  have hb : (Instr.box 43 (.agg (cellsR n f))).run Tryd.prog w = .ok (.pointer (some ⟨w.heap.size, 0, none⟩)) (w.alloc (.cells (cellsR n f) 43)) := by
    simp [go_sem, Value.cells]
  simp only [ho, hx, Sem.run_bind, hb, Result.andThen_ok, Sem.run_pure]
end

theorem right_is {N : Nat} {f : Nat → Nat} (h : Right N f) (hN : N ≤ 64) : rightB (N : Int) f = true := by
  unfold rightB
  rw [Bool.and_eq_true, decide_eq_true_eq, List.all_eq_true]
  refine ⟨⟨by omega, by omega⟩, fun a ha => ?_⟩
  refine (okRow_bits N f a (h.wf a)).2 (fun b hb ht => ?_)
  have := h.in' a (by simpa using ha) b hb ht
  omega
theorem edges_right {N : Nat} {f : Nat → Nat} (h : Right N f) (hN : N ≤ 64) (w : World) : Calls Tryd.prog 74 #[relv N f] w fun e w' => ∃ b, e = .returned (.func (.func 92) #[] #[.pointer (some ⟨b, 0, none⟩)]) ∧ w.heap.size ≤ b ∧ IsR w' b N f ∧ Below w.heap.size w w' := by
  have := edges_any N f w h.wf
  have e1 : nN (N : Int) f = N := if_pos (right_is h hN)
  have e2 : nF (N : Int) f = f := if_pos (right_is h hN)
  rw [e1, e2] at this
  exact this

/-- The pairs turned about, of those that have come. -/
def tuF (l : List (Nat × Nat)) : Nat → Nat := l.foldl (fun c e => upd c e.2 (c e.2 ||| 2 ^ e.1)) void
/-- The rows joined, of the pairs that have come. -/
def coF (G : Nat → Nat) (l : List (Nat × Nat)) : Nat → Nat := l.foldl (fun c e => upd c e.1 (c e.1 ||| G e.2)) void

theorem valsP_snoc (l : List (Fin 64 × Fin 64)) (x : Fin 64 × Fin 64) : valsP (l ++ [x]) = valsP l ++ [(x.1.val, x.2.val)] := by simp [valsP]
theorem valsP_in (l : List (Fin 64 × Fin 64)) : ∀ e ∈ valsP l, e.1 < 64 := by
  intro e he
  simp only [valsP, List.mem_map] at he
  obtain ⟨x, _, rfl⟩ := he
  exact x.1.isLt
theorem tuF_snoc (l : List (Nat × Nat)) (a b : Nat) : tuF (l ++ [(a, b)]) = upd (tuF l) b (tuF l b ||| 2 ^ a) := by simp [tuF]
theorem coF_snoc (G : Nat → Nat) (l : List (Nat × Nat)) (a b : Nat) : coF G (l ++ [(a, b)]) = upd (coF G l) a (coF G l a ||| G b) := by simp [coF]
theorem tuF_bit (l : List (Nat × Nat)) (j a : Nat) : (tuF l j).testBit a = decide ((a, j) ∈ l) := by
  have key : ∀ (l : List (Nat × Nat)) (c : Nat → Nat), ((l.foldl (fun c e => upd c e.2 (c e.2 ||| 2 ^ e.1)) c) j).testBit a = ((c j).testBit a || decide ((a, j) ∈ l)) := by
    intro l
    induction l with
    | nil => intro c; simp
    | cons e l ih =>
      intro c
      rw [List.foldl_cons, ih]
      unfold upd
      by_cases h : j = e.2
      · subst h
        rw [if_pos rfl, Nat.testBit_or, Nat.testBit_two_pow]
        by_cases h2 : e.1 = a
        · subst h2; simp
        · have : ¬ ((a, e.2) = e) := fun hh => h2 (by rw [← hh])
          simp [h2, this]
      · rw [if_neg h]
        have : ¬ ((a, j) = e) := fun hh => h (by rw [← hh])
        simp [this]
  have := key l void
  simpa [tuF, void] using this
theorem coF_bit (G : Nat → Nat) (l : List (Nat × Nat)) (j b : Nat) : (coF G l j).testBit b = true ↔ ∃ c, (j, c) ∈ l ∧ (G c).testBit b = true := by
  have key : ∀ (l : List (Nat × Nat)) (c : Nat → Nat), ((l.foldl (fun c e => upd c e.1 (c e.1 ||| G e.2)) c) j).testBit b = true ↔ ((c j).testBit b = true ∨ ∃ i, (j, i) ∈ l ∧ (G i).testBit b = true) := by
    intro l
    induction l with
    | nil => intro c; simp
    | cons e l ih =>
      intro c
      rw [List.foldl_cons, ih]
      unfold upd
      by_cases h : j = e.1
      · subst h
        rw [if_pos rfl, Nat.testBit_or, Bool.or_eq_true]
        constructor
        · rintro ((h1 | h1) | ⟨i, h1, h2⟩)
          · exact .inl h1
          · exact .inr ⟨e.2, by simp, h1⟩
          · exact .inr ⟨i, by simp [h1], h2⟩
        · rintro (h1 | ⟨i, h1, h2⟩)
          · exact .inl (.inl h1)
          · rcases List.mem_cons.1 h1 with h3 | h3
            · rw [← h3] at *; exact .inl (.inr h2)
            · exact .inr ⟨i, h3, h2⟩
      · rw [if_neg h]
        constructor
        · rintro (h1 | ⟨i, h1, h2⟩)
          · exact .inl h1
          · exact .inr ⟨i, by simp [h1], h2⟩
        · rintro (h1 | ⟨i, h1, h2⟩)
          · exact .inl h1
          · rcases List.mem_cons.1 h1 with h3 | h3
            · exact absurd (by rw [← h3]) h
            · exact .inr ⟨i, h3, h2⟩
  have := key l void
  simpa [coF, void] using this
theorem tuF_lt (l : List (Nat × Nat)) (h : ∀ e ∈ l, e.1 < 64) (j : Nat) : tuF l j < 18446744073709551616 := by
  have : tuF l j < 2 ^ 64 := Nat.lt_pow_two_of_testBit _ fun b hb => by
    rw [tuF_bit, decide_eq_false]
    intro hm
    have := h _ hm
    simp at this
    omega
  exact this
theorem coF_lt {G : Nat → Nat} (hG : Wf G) (l : List (Nat × Nat)) (j : Nat) : coF G l j < 18446744073709551616 := by
  have : coF G l j < 2 ^ 64 := Nat.lt_pow_two_of_testBit _ fun b hb => by
    cases h : (coF G l j).testBit b
    · rfl
    · obtain ⟨c, _, hc⟩ := (coF_bit G l j b).1 h
      rw [Nat.testBit_lt_two_pow (Nat.lt_of_lt_of_le (hG c) (Nat.pow_le_pow_right (n := 2) (by omega) hb))] at hc
      cases hc
  exact this

set_option maxRecDepth 100000 in
set_option maxHeartbeats 2000000 in
theorem inv_any (n : Int) (f : Nat → Nat) (w : World) (hf : Hid (Wf f)) (hT : TabAt w) :
    Calls Tryd.prog 39 #[relv n f] w fun e w' => e = .returned (relv (nN n f) (tuF (edgesL (nN n f).toNat (nF n f)))) ∧ Below w.heap.size w w' := by
  have c1 : Hid (∀ W, Calls Tryd.prog 70 #[relv n f] W fun e w' => e = .returned (relv (nN n f) (nF n f)) ∧ Below W.heap.size W w') := fun W => right_any n f W hf
  obtain ⟨N, h1, hN64, h3⟩ := n_right' n f hf.out
  rw [h1] at c1 ⊢
  rw [Int.toNat_natCast]
  have hR : Hid (Right N (nF n f)) := h3
  generalize nF n f = F at *
  clear h1 h3
  have ce : Hid (∀ W, Calls Tryd.prog 74 #[relv N F] W fun e w' => ∃ b, e = .returned (.func (.func 92) #[] #[.pointer (some ⟨b, 0, none⟩)]) ∧ W.heap.size ≤ b ∧ IsR w' b N F ∧ Below W.heap.size W w') := fun W => edges_right hR.out hN64 W
  have hf72 : Fence.wide.fn 70 := trivial
  have hf19 : Fence.wide.fn 74 := trivial
  have hf73 : Fence.wide.fn 92 := trivial
  have tk1 : True := trivial
  have tk2 : True := trivial
  refine (callsIn_wide (n := 8)).1 ?_
  refine callsIn_of_wp_marks Tryd.func39 rfl trivial ?_ rfl
  simp only [Tryd.ntmps39, List.size_toArray, List.length_cons, List.length_nil, Nat.reduceAdd, Nat.reduceSub, Array.replicate_succ, Array.replicate_zero, List.push_toArray, List.append_toArray, List.nil_append, List.cons_append]
  gi_wp2_with (first
      | (refine wpListIn_boxR rfl _ rfl rfl ?_; intro W1 b1 F1 r1; have B1 := Fresh.trans (Below.refl _ w) (Nat.le_refl _) F1)
      | (refine wpListIn_allocR rfl rfl ?_; clear tk1; intro W3 b2 F3 r2; replace B1 := Fresh.trans B1 B1.size F3; replace r1 := r1.fresh F3; have hb1 : w.heap.size ≤ b1 := (by rw [F1.at']; exact Nat.le_refl _); have hb2 : b1 < b2 := (by rw [F3.at', F1.size]; omega); clear F1 F3)
      | (refine wpListIn_allocR rfl rfl ?_; intro W4 b3 F4 r3; replace B1 := Fresh.trans B1 B1.size F4; replace r1 := r1.fresh F4; replace r2 := r2.fresh F4; have hb3 : b2 < b3 := (by rw [F4.at']; exact hb23); clear F4 hb23)
      | (refine wpListIn_loadR rfl _ rfl rfl r1 ?_)
      | (refine wpListIn_buildRN rfl _ rfl rfl ?_)
      | (gi_at_call 70; refine (callsIn_wide.2 (c1.out _)).mono ?_; rintro e w' ⟨rfl, hw'⟩; replace r1 := r1.grown hw'; replace r2 := r2.grown hw'; replace B1 := B1.trans (hw'.mono B1.size); clear hw')
      | (gi_at_call 74; refine (callsIn_wide.2 (ce.out _)).mono ?_; rintro e W7 ⟨Bn, rfl, hBn, rn, hw'⟩; replace r1 := r1.grown hw'; replace r2 := r2.grown hw'; have hb4 := r3.lt; replace r3 := r3.grown hw'; replace B1 := B1.trans (hw'.mono B1.size); clear hw')
      | (refine wpListIn_storeR rfl _ _ rfl rfl rfl r1 ?_; clear tk2; intro W5 U5 q1; replace B1 := U5.trans B1 (by omega); replace r2 := r2.upd U5 (by omega); clear U5 r1; have r1 := q1; clear q1; have cn1 := r1.n; have hb23 := r2.lt)
      | (refine wpListIn_storeR rfl _ _ rfl rfl rfl r3 ?_; intro W6 U6 q3; replace B1 := U6.trans B1 (by omega); replace r1 := r1.upd U6 (by omega); replace r2 := r2.upd U6 (by omega); clear U6 r3; have r3 := q3; clear q3))

  have hpos := hT.pos
  have hsB := B1.size
  have tW := hT.below B1
  have hnl := rn.lt
  have rr := r2
  have rc := r3
  have HF : Hid (Wf F) := hR.out.wf
  refine rangeO (bs := [b3, W7.heap.size + 1]) (ts := []) rfl (by omega) (gf := 92) (lb := #[.pointer (some ⟨Bn, 0, none⟩)]) rfl trivial (enters_of Tryd.func92 (by kernel_rfl) rfl)
    (edges1_O Bn N hN64 F HF [b3, W7.heap.size + 1] [] (fun hm => (List.mem_cons.1 hm).elim (fun e => by omega) (fun e => by have := List.mem_singleton.1 e; omega)) (by simp; omega) (by simp) W7 rn tW (8 - 1)) (fun b hb => by simp at hb; omega) (by simp) (Below.refl _ _) (fun _ => rfl)
    (fun pre W => (IsR W b3 N (tuF (valsP pre)) ∧ IsR W b2 0 void) ∧ Below w.heap.size w W ∧ W7.heap.size ≤ W.heap.size)
    (fun _ _ _ => False)
    ?ownI ?ownX ?start
    (fun x a' W => ∃ Bx, W7.heap.size ≤ Bx ∧ Pair W Bx x.1.val x.2.val ∧ a' = { tmps := #[relv n f, .pointer (some ⟨b1, 0, none⟩), .pointer (some ⟨b2, 0, none⟩), .pointer (some ⟨b3, 0, none⟩), .pointer (some ⟨Bx, 0, none⟩), relv n f, relv N F, .pointer (some ⟨b1, 0, none⟩), .int .i64 (N : Nat), relv N void, relv N F, .func (.func 92) #[] #[.pointer (some ⟨Bn, 0, none⟩)], .agg #[.int .i64 (x.1.val : Nat), .int .i64 (x.2.val : Nat)], undef, undef, undef, undef, undef, undef, undef, undef, undef, undef, undef, undef], defers := [] })
    ?ownA ?assign ?body ?done ?stop
  case ownI => exact OwnFrom.and (OwnFrom.and (Own.from (isR_own b3 N (fun pre => tuF (valsP pre))) _) (Own.from (isR_own b2 0 (fun _ => void)) _)) (OwnFrom.and (ownFrom_below (Nat.le_refl _) (by omega)) (fun s X Y row hs hg hr => Nat.le_trans hs hg.size))
  case ownX => exact fun _ _ _ _ _ hs _ _ => hs
  case start => exact ⟨⟨rc.congr (fun j _ => rfl), rr⟩, B1, Nat.le_refl _⟩
  case ownA =>
    intro x a'
    intro s X Y row hs hg hr
    obtain ⟨Bx, h1, h2, h3⟩ := hs
    exact ⟨Bx, h1, pair_own Bx _ _ () X Y row h2 hg (fun r e => (hr r e).2), h3⟩
  case assign =>
    rintro l pre x W K ⟨⟨q3, q2⟩, hB, hS⟩ hK
    dsimp only [encE]
    gi_wp2
    exact hK _ _ ((KeepsOthers.alloc _ _).from _) (KpB.of_below ((Below.refl _ W).alloc (Nat.le_refl _) _)) ⟨⟨q3.alloc _, q2.alloc _⟩, hB.alloc hB.size _, by simp; omega⟩ ⟨W.heap.size, hS, Pair.new W _ _, rfl⟩
  case body =>
    rintro l pre x a' W ⟨⟨q3, q2⟩, hB, hS⟩ ⟨Bx, hBx, hx, rfl⟩ hlen
    have hx0 := hx.c0
    have hx1 := hx.c1
    have hrow := q3.row x.2.val x.2.isLt
    have hfz := q3.frozen (1 + x.2.val)
    have hxl := tuF_lt (valsP pre) (valsP_in pre) x.2.val
    have hw := wrap_pow x.1.val x.1.isLt
    have hor := or_pow (tuF (valsP pre) x.2.val) x.1.val hxl x.1.isLt
    have hk1 : (x.2.val : Int) < 64 := by have := x.2.isLt; omega
    have hk2 : (x.1.val : Int) < 64 := by have := x.1.isLt; omega
    have U0 := Upd.setCell W b3 (1 + x.2.val) (.int .u64 (((tuF (valsP pre) x.2.val ||| 2 ^ x.1.val) : Nat) : Int))
    have U : Upd W (W.setCell ⟨b3, 1 + x.2.val, none⟩ (.int .u64 (((tuF (valsP pre) x.2.val ||| 2 ^ x.1.val) : Nat) : Int))).drew b3 := ⟨U0.os, U0.tape, U0.output, U0.size, U0.block⟩
    have hset := (q3.set x.2.val (tuF (valsP pre) x.2.val ||| 2 ^ x.1.val) x.2.isLt).drew
    have hk := KpB.of_upd (B := W7.heap.size) (bs := [b3, W7.heap.size + 1]) (ts := []) U (by simp)
    have hk0 := KpB.of_upd (B := W7.heap.size) (bs := [b3]) (ts := []) U (by simp)
    have HQ : ∀ act : Act, ownPostB W7.heap.size W7.heap.size [b3, W7.heap.size + 1] [] (fun pre W => (IsR W b3 N (tuF (valsP pre)) ∧ IsR W b2 0 void) ∧ Below w.heap.size w W ∧ W7.heap.size ≤ W.heap.size) (fun _ _ _ => False) (pre ++ [x]) W .normal act (W.setCell ⟨b3, 1 + x.2.val, none⟩ (.int .u64 (((tuF (valsP pre) x.2.val ||| 2 ^ x.1.val) : Nat) : Int))).drew := fun act =>
      ⟨hk0.keepsFrom (fun b hb => by simp at hb; omega), hk, ⟨by rw [valsP_snoc, tuF_snoc]; exact hset, q2.upd U (by omega)⟩, U.trans hB (by omega), Nat.le_trans hS hk.1⟩
    refine wpIn_mono (Q := fun e _ w' => e = Exit.normal ∧ w' = (W.setCell ⟨b3, 1 + x.2.val, none⟩ (.int .u64 (((tuF (valsP pre) x.2.val ||| 2 ^ x.1.val) : Nat) : Int))).drew) ?_ (fun e a' w' h => by obtain ⟨rfl, rfl⟩ := h; exact HQ a')
    clear HQ U U0 hset hk hk0 q3 q2 hB hS hx hlen hxl
    generalize tuF (valsP pre) x.2.val ||| 2 ^ x.1.val = z at *
    generalize tuF (valsP pre) x.2.val = z0 at *
    generalize x.1.val = xa at *
    generalize x.2.val = xb at *
    
    clear rn r1 r2 r3 rr rc B1 tW hT ce hR HF
    gi_wp2_with fail
    refine still_tail_round 11 (by kernel_rfl) (by kernel_rfl) (by kernel_rfl) ?_
    simp only [List.take_succ_cons, List.take_zero, List.drop_succ_cons, List.drop_zero]
    repeat still_step
    refine wpStill_nil ?_
    gi_wp2_with fail
    all_goals exact ⟨rfl, rfl⟩
  case done =>
    rintro D ys W hD hys ⟨⟨q3, q2⟩, hB, hS⟩ hK
    rw [hys] at q3
    gi_wp2_with (first
      | (refine wpListIn_loadR rfl _ rfl rfl q3 ?_)
      | (refine wpListIn_storeR rfl _ _ rfl rfl rfl q2 ?_; intro W9 U9 r9))
    have hK' : W9.heap[D]? = some (.deferred (some [])) := (U9.block D (by omega)).trans hK
    refine ⟨by simp, .inl ⟨_, _, rfl, run_takeDeferred hK', ?_⟩⟩
    refine ⟨_, results_cell_row rfl _ _ b2 43 (cellsR N (tuF (edgesL N F))) (0, 0) _ rfl ?_ Tryd.underlying43 rfl (by rw [cellsR_size]; exact info25), ?_, ?_⟩
    · exact (World.putObj_heap_other (by omega)).trans r9
    · rfl
    · exact (U9.trans hB (by omega)).trans (belowK_b (w := w) (Nat.le_refl _) W9 D _ _ (by omega) hK' rfl rfl)
  case stop =>
    rintro D c pre W _ _ h _
    exact h.elim

set_option maxRecDepth 100000 in
set_option maxHeartbeats 2000000 in
theorem comp_any (n : Int) (f : Nat → Nat) (m : Int) (g : Nat → Nat) (w : World) (hf : Hid (Wf f)) (hg : Hid (Wf g)) (hT : TabAt w) :
    Calls Tryd.prog 38 #[relv n f, relv m g] w fun e w' => e = .returned (relv (alN n f m g) (coF (alG n f m g) (edgesL (alN n f m g).toNat (alF n f m g)))) ∧ Below w.heap.size w w' := by
  have c1 : Hid (∀ W, Calls Tryd.prog 73 #[relv n f, relv m g] W fun e w' => e = .returned (.tuple #[relv (alN n f m g) (alF n f m g), relv (alN n f m g) (alG n f m g)]) ∧ Below W.heap.size W w') := fun W => alike_any n f m g W hf hg
  obtain ⟨N, hN, hN64, hF, hG⟩ := al_right n f m g hf.out hg.out
  rw [hN] at c1 ⊢
  rw [Int.toNat_natCast]
  have hR : Hid (Right N (alF n f m g)) := hF
  have HG : Hid (Wf (alG n f m g)) := hG.wf
  generalize alF n f m g = F at *
  generalize alG n f m g = G at *
  clear hN hF hG
  have ce : Hid (∀ W, Calls Tryd.prog 74 #[relv N F] W fun e w' => ∃ b, e = .returned (.func (.func 92) #[] #[.pointer (some ⟨b, 0, none⟩)]) ∧ W.heap.size ≤ b ∧ IsR w' b N F ∧ Below W.heap.size W w') := fun W => edges_right hR.out hN64 W
  have hf75 : Fence.wide.fn 73 := trivial
  have hf19 : Fence.wide.fn 74 := trivial
  have hf73 : Fence.wide.fn 92 := trivial
  have tk0 : True := trivial
  have tk1 : True := trivial
  have tk2 : True := trivial
  refine (callsIn_wide (n := 8)).1 ?_
  refine callsIn_of_wp_marks Tryd.func38 rfl trivial ?_ rfl
  simp only [Tryd.ntmps38, List.size_toArray, List.length_cons, List.length_nil, Nat.reduceAdd, Nat.reduceSub, Array.replicate_succ, Array.replicate_zero, List.push_toArray, List.append_toArray, List.nil_append, List.cons_append]
  gi_wp2_with (first
      | (refine wpListIn_boxR rfl _ rfl rfl ?_; clear tk0; intro W1 b1 F1 r1; have B1 := Fresh.trans (Below.refl _ w) (Nat.le_refl _) F1)
      | (refine wpListIn_boxR rfl _ rfl rfl ?_; intro W2 b2 F2 r2; replace B1 := Fresh.trans B1 B1.size F2; replace r1 := r1.fresh F2)
      | (refine wpListIn_allocR rfl rfl ?_; clear tk1; intro W3 b3 F3 r3; replace B1 := Fresh.trans B1 B1.size F3; replace r1 := r1.fresh F3; replace r2 := r2.fresh F3; have hb1 : w.heap.size ≤ b1 := (by rw [F1.at']; exact Nat.le_refl _); have hb2 : b1 < b2 := (by rw [F2.at', F1.size]; omega); have hb3 : b2 < b3 := (by rw [F3.at', F2.size]; omega); clear F1 F2 F3)
      | (refine wpListIn_allocR rfl rfl ?_; intro W4 b4 F4 r4; replace B1 := Fresh.trans B1 B1.size F4; replace r1 := r1.fresh F4; replace r2 := r2.fresh F4; replace r3 := r3.fresh F4; have hb4 : b3 < b4 := (by rw [F4.at']; exact hb34); clear F4 hb34)
      | (refine wpListIn_loadR rfl _ rfl rfl r1 ?_)
      | (refine wpListIn_loadR rfl _ rfl rfl r2 ?_)
      | (refine wpListIn_buildRN rfl _ rfl rfl ?_)
      | (gi_at_call 73; refine (callsIn_wide.2 (c1.out _)).mono ?_; rintro e w' ⟨rfl, hw'⟩; replace r1 := r1.grown hw'; replace r2 := r2.grown hw'; replace r3 := r3.grown hw'; replace B1 := B1.trans (hw'.mono B1.size); clear hw')
      | (gi_at_call 74; refine (callsIn_wide.2 (ce.out _)).mono ?_; rintro e W7 ⟨Bn, rfl, hBn, rn, hw'⟩; replace r1 := r1.grown hw'; replace r2 := r2.grown hw'; replace r3 := r3.grown hw'; have hb5 := r4.lt; replace r4 := r4.grown hw'; replace B1 := B1.trans (hw'.mono B1.size); clear hw')
      | (refine wpListIn_storeR rfl _ _ rfl rfl rfl r1 ?_; clear tk2; intro W5 U5 q1; replace B1 := U5.trans B1 (by omega); replace r2 := r2.upd U5 (by omega); replace r3 := r3.upd U5 (by omega); clear U5 r1; have r1 := q1; clear q1)
      | (refine wpListIn_storeR rfl _ _ rfl rfl rfl r2 ?_; intro W5 U5 q2; replace B1 := U5.trans B1 (by omega); replace r1 := r1.upd U5 (by omega); replace r3 := r3.upd U5 (by omega); clear U5 r2; have r2 := q2; clear q2; have cn1 := r1.n; have hb34 := r3.lt)
      | (refine wpListIn_storeR rfl _ _ rfl rfl rfl r4 ?_; intro W6 U6 q4; replace B1 := U6.trans B1 (by omega); replace r1 := r1.upd U6 (by omega); replace r2 := r2.upd U6 (by omega); replace r3 := r3.upd U6 (by omega); clear U6 r4; have r4 := q4; clear q4))

  have hpos := hT.pos
  have hsB := B1.size
  have tW := hT.below B1
  have hnl := rn.lt
  have rr := r3
  have rc := r4
  have HF : Hid (Wf F) := hR.out.wf
  refine rangeO (bs := [b4, W7.heap.size + 1]) (ts := []) rfl (by omega) (gf := 92) (lb := #[.pointer (some ⟨Bn, 0, none⟩)]) rfl trivial (enters_of Tryd.func92 (by kernel_rfl) rfl)
    (edges1_O Bn N hN64 F HF [b4, W7.heap.size + 1] [] (fun hm => (List.mem_cons.1 hm).elim (fun e => by omega) (fun e => by have := List.mem_singleton.1 e; omega)) (by simp; omega) (by simp) W7 rn tW (8 - 1)) (fun b hb => by simp at hb; omega) (by simp) (Below.refl _ _) (fun _ => rfl)
    (fun pre W => (IsR W b4 N (coF G (valsP pre)) ∧ IsR W b3 0 void ∧ IsR W b2 N G) ∧ Below w.heap.size w W ∧ W7.heap.size ≤ W.heap.size)
    (fun _ _ _ => False)
    ?ownI ?ownX ?start
    (fun x a' W => ∃ Bx, W7.heap.size ≤ Bx ∧ Pair W Bx x.1.val x.2.val ∧ a' = { tmps := #[relv n f, relv m g, .pointer (some ⟨b1, 0, none⟩), .pointer (some ⟨b2, 0, none⟩), .pointer (some ⟨b3, 0, none⟩), .pointer (some ⟨b4, 0, none⟩), .pointer (some ⟨Bx, 0, none⟩), .tuple #[relv N F, relv N G], relv n f, relv m g, .tuple #[relv N F, relv N G], relv N F, relv N G, .pointer (some ⟨b1, 0, none⟩), .int .i64 (N : Nat), relv N void, relv N F, .func (.func 92) #[] #[.pointer (some ⟨Bn, 0, none⟩)], .agg #[.int .i64 (x.1.val : Nat), .int .i64 (x.2.val : Nat)], undef, undef, undef, undef, undef, undef, undef, undef, undef, undef, undef, undef, undef, undef], defers := [] })
    ?ownA ?assign ?body ?done ?stop
  case ownI => exact OwnFrom.and (OwnFrom.and (Own.from (isR_own b4 N (fun pre => coF G (valsP pre))) _) (OwnFrom.and (Own.from (isR_own b3 0 (fun _ => void)) _) (Own.from (isR_own b2 N (fun _ => G)) _))) (OwnFrom.and (ownFrom_below (Nat.le_refl _) (by omega)) (fun s X Y row hs hg hr => Nat.le_trans hs hg.size))
  case ownX => exact fun _ _ _ _ _ hs _ _ => hs
  case start => exact ⟨⟨rc.congr (fun j _ => rfl), rr, r2⟩, B1, Nat.le_refl _⟩
  case ownA =>
    intro x a'
    intro s X Y row hs hg hr
    obtain ⟨Bx, h1, h2, h3⟩ := hs
    exact ⟨Bx, h1, pair_own Bx _ _ () X Y row h2 hg (fun r e => (hr r e).2), h3⟩
  case assign =>
    rintro l pre x W K ⟨⟨q3, q2, q5⟩, hB, hS⟩ hK
    dsimp only [encE]
    gi_wp2
    exact hK _ _ ((KeepsOthers.alloc _ _).from _) (KpB.of_below ((Below.refl _ W).alloc (Nat.le_refl _) _)) ⟨⟨q3.alloc _, q2.alloc _, q5.alloc _⟩, hB.alloc hB.size _, by simp; omega⟩ ⟨W.heap.size, hS, Pair.new W _ _, rfl⟩
  case body =>
    rintro l pre x a' W ⟨⟨q3, q2, q5⟩, hB, hS⟩ ⟨Bx, hBx, hx, rfl⟩ hlen
    have hx0 := hx.c0
    have hx1 := hx.c1
    have hrow := q3.row x.1.val x.1.isLt
    have hfz := q3.frozen (1 + x.1.val)
    have hxl := coF_lt HG.out (valsP pre) x.1.val
    have hrow2 := q5.row x.2.val x.2.isLt
    have hor := u64_or_nat (coF G (valsP pre) x.1.val) (G x.2.val) hxl (HG.out x.2.val)
    have hk1 : (x.1.val : Int) < 64 := by have := x.1.isLt; omega
    have hk2 : (x.2.val : Int) < 64 := by have := x.2.isLt; omega
    have U0 := Upd.setCell W b4 (1 + x.1.val) (.int .u64 (((coF G (valsP pre) x.1.val ||| G x.2.val) : Nat) : Int))
    have U : Upd W (W.setCell ⟨b4, 1 + x.1.val, none⟩ (.int .u64 (((coF G (valsP pre) x.1.val ||| G x.2.val) : Nat) : Int))).drew b4 := ⟨U0.os, U0.tape, U0.output, U0.size, U0.block⟩
    have hset := (q3.set x.1.val (coF G (valsP pre) x.1.val ||| G x.2.val) x.1.isLt).drew
    have hk := KpB.of_upd (B := W7.heap.size) (bs := [b4, W7.heap.size + 1]) (ts := []) U (by simp)
    have hk0 := KpB.of_upd (B := W7.heap.size) (bs := [b4]) (ts := []) U (by simp)
    have HQ : ∀ act : Act, ownPostB W7.heap.size W7.heap.size [b4, W7.heap.size + 1] [] (fun pre W => (IsR W b4 N (coF G (valsP pre)) ∧ IsR W b3 0 void ∧ IsR W b2 N G) ∧ Below w.heap.size w W ∧ W7.heap.size ≤ W.heap.size) (fun _ _ _ => False) (pre ++ [x]) W .normal act (W.setCell ⟨b4, 1 + x.1.val, none⟩ (.int .u64 (((coF G (valsP pre) x.1.val ||| G x.2.val) : Nat) : Int))).drew := fun act =>
      ⟨hk0.keepsFrom (fun b hb => by simp at hb; omega), hk, ⟨by rw [valsP_snoc, coF_snoc]; exact hset, q2.upd U (by omega), q5.upd U (by omega)⟩, U.trans hB (by omega), Nat.le_trans hS hk.1⟩
    refine wpIn_mono (Q := fun e _ w' => e = Exit.normal ∧ w' = (W.setCell ⟨b4, 1 + x.1.val, none⟩ (.int .u64 (((coF G (valsP pre) x.1.val ||| G x.2.val) : Nat) : Int))).drew) ?_ (fun e a' w' h => by obtain ⟨rfl, rfl⟩ := h; exact HQ a')
    clear HQ U U0 hset hk hk0 q3 q2 q5 hB hS hx hlen hxl
    generalize coF G (valsP pre) x.1.val ||| G x.2.val = z at *
    generalize coF G (valsP pre) x.1.val = z0 at *
    generalize x.1.val = xa at *
    generalize x.2.val = xb at *
    generalize G xb = z1 at *
    clear rn r1 r2 r4 r3 rr rc B1 tW hT ce hR HF
    gi_wp2_with fail
    refine still_tail_round 13 (by kernel_rfl) (by kernel_rfl) (by kernel_rfl) ?_
    simp only [List.take_succ_cons, List.take_zero, List.drop_succ_cons, List.drop_zero]
    repeat still_step
    refine wpStill_nil ?_
    gi_wp2_with fail
    all_goals exact ⟨rfl, rfl⟩
  case done =>
    rintro D ys W hD hys ⟨⟨q3, q2, q5⟩, hB, hS⟩ hK
    rw [hys] at q3
    gi_wp2_with (first
      | (refine wpListIn_loadR rfl _ rfl rfl q3 ?_)
      | (refine wpListIn_storeR rfl _ _ rfl rfl rfl q2 ?_; intro W9 U9 r9))
    have hK' : W9.heap[D]? = some (.deferred (some [])) := (U9.block D (by omega)).trans hK
    refine ⟨by simp, .inl ⟨_, _, rfl, run_takeDeferred hK', ?_⟩⟩
    refine ⟨_, results_cell_row rfl _ _ b3 43 (cellsR N (coF G (edgesL N F))) (0, 0) _ rfl ?_ Tryd.underlying43 rfl (by rw [cellsR_size]; exact info25), ?_, ?_⟩
    · exact (World.putObj_heap_other (by omega)).trans r9
    · rfl
    · exact (U9.trans hB (by omega)).trans (belowK_b (w := w) (Nat.le_refl _) W9 D _ _ (by omega) hK' rfl rfl)
  case stop =>
    rintro D c pre W _ _ h _
    exact h.elim
end Go.Proofs.YtdjlfpkemdiadaaDoor

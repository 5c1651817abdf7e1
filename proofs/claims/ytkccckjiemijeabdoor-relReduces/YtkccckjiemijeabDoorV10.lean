/- RelReduces: the law's loop, and the law. -/
import Derived.Test.YtkccckjiemijeabDoorV9
namespace Go.Proofs.YtkccckjiemijeabDoor
open Go.RowKit Go.Shelf M P
attribute [local go_sem] Oper.semAt_some
set_option linter.unusedSimpArgs false
set_option linter.unusedVariables false

theorem readR {op : Oper} {a : Act} {w : World} (x : Operand) (ho : op.op = .load 25 x) {b : Nat} (hx : a.eval x = .pointer (some ⟨b, 0, none⟩)) {n : Int} {f : Nat → Nat} (hc : IsR w b n f) : (execOp a.eval op).run Tryd.prog w = .ok (.value (relv n f)) w := by
  unfold execOp
  have := run_loadAt_mid (P := Tryd.prog) w b 0 25 (cellsL n f) _ hc.range Tryd.underlying25 rfl (by rw [cellsL_length]; exact info25)
  simp only [ho, hx, Sem.run_bind, this, Result.andThen_ok, Sem.run_pure]
  rfl
theorem readF {op : Oper} {a : Act} {w : World} (x y : Operand) (ho : op.op = .binOp .eql 25 x y 25) {n : Int} {f g : Nat → Nat} (hx : a.eval x = relv n f) (hy : a.eval y = relv n g) (h : rowsEq f g = false) : (execOp a.eval op).run Tryd.prog w = .ok (.value (.bool false)) w := by
  unfold execOp
  have h1 := eqlG n f g w
  have h2 := eqGuardR .eql x y n n f g w
  rw [h] at h1
  simp [ho, hx, hy, Sem.run_bind, h1, h2]
theorem equalFn56 (d : Nat) (fn : Fn) (cs lb : Array Value) (w : World) : (Op.equalIn (d + 1) 56 (.func fn cs lb) .nilFunc).run Tryd.prog w = .ok false w := by
  simp [Op.equalIn, run_underlying Tryd.underlying56]
theorem eqlFn56 (fn : Fn) (cs lb : Array Value) (w : World) : (binOp .eql 56 (.func fn cs lb) .nilFunc).run Tryd.prog w = .ok (.bool false) w := by
  have h := equalFn56 9999 fn cs lb w
  simp only [binOp]
  simp [Op.equal, Op.maxDepth, h]
theorem one_row (a b j : Nat) : ofF [((a : Int), (b : Int))] j = if j = a then 2 ^ b else 0 := by
  simp [ofF, stepE, upd, void]
theorem one_bit (a b c d : Nat) : Bt (ofF [((a : Int), (b : Int))]) c d ↔ c = a ∧ d = b := by
  unfold Bt
  rw [one_row]
  split
  · rename_i h
    rw [Nat.testBit_two_pow]
    simp [h, eq_comm]
  · rename_i h
    simp [h]
/-- Without one of its pairs, as the program goes. -/
def LessAt (N : Nat) (X Pp : Nat → Nat) (a b : Nat) : Prop :=
  ∃ E Y Z, ofV N [((a : Int), (b : Int))] = .tuple #[relv N E, .int .i64 0] ∧ AnsV 16 #[relv N X, relv N E] (relv N Y) ∧ AnsV 22 #[relv N Y] (relv N Z) ∧ rowsEq Z Pp = false
theorem less_at {N : Nat} {F : Nat → Nat} (hN : N ≤ 64) (hF : Right N F) (a b : Nat) (h : (a, b) ∈ edgesL N (redF N F)) : LessAt N (redF N F) (wsh F N) a b := by
  have hX := right_red hF
  obtain ⟨h1, h2, h3⟩ := mem_edges.1 h
  have ha : a < 64 := by omega
  have hb := (right_le hX ha h3).2
  have hok : ([((a : Int), (b : Int))].all (okE N)) = true := by
    have e1 : (0 : Int) ≤ a ∧ (a : Int) < N := by omega
    have e2 : (0 : Int) ≤ b ∧ (b : Int) < N := by omega
    simp [okE, e1, e2]
  have hE : Right N (ofF [((a : Int), (b : Int))]) := right_bits (ofF_lt N (by omega) _ hok) (fun c d hc hd => by
    obtain ⟨rfl, rfl⟩ := (one_bit a b c d).1 hd
    exact ⟨h1, hb⟩)
  have hY : Right N (opF notN (redF N F) (ofF [((a : Int), (b : Int))])) := right_sub hX
  refine ⟨_, _, _, ?_, minus_R hN hX hE, plus_R hN hY, ?_⟩
  · unfold ofV
    have e : (0 : Int) ≤ (N : Int) ∧ (N : Int) ≤ 64 := by omega
    rw [hok, decide_eq_true e]
    rfl
  · cases hq : rowsEq (wsh (opF notN (redF N F) (ofF [((a : Int), (b : Int))])) N) (wsh F N)
    · rfl
    · exfalso
      have := (rowsEq_iff _ _).1 hq a ha
      refine red_less hN hF hE a b ha h2 h3 ((one_bit a b a b).2 ⟨rfl, rfl⟩) ?_
      unfold Bt
      rw [this]
      exact wsh_ge hN hF a b ha ((red_bits hN hF a b ha h2).1 h3).1

set_option maxRecDepth 100000 in
set_option maxHeartbeats 4000000 in
theorem relReduces_right (N : Nat) (F : Nat → Nat) (w : World) (hN : N ≤ 64) (hF : Right N F) (hac : acyc N F = true) (hT : TabAt w) :
    Calls Tryd.prog 7 #[relv N F] w fun e w' => e = .returned (.bool true) ∧ Below w.heap.size w w' := by
  have a8 : Hid (AnsV 8 #[] (.bool true)) := works_any
  have a9 : Hid (∀ z W, Calls Tryd.prog 9 #[.int .i64 z] W fun e w' => e = .returned (.int .i64 z) ∧ w' = W) := fun z W => num_any z W
  have a10 : Hid (∀ W, Calls Tryd.prog 10 #[relv N F] W fun e w' => e = .returned (.int .i64 0) ∧ Below W.heap.size W w') := fun W => by
    have := check_any N F W hF.wf
    unfold checkN at this
    rwa [if_pos (right_is hF hN)] at this
  have a37 : Hid (AnsV 37 #[relv N F] (.tuple #[relv N (redF N F), .bool true])) := by
    have := reduce_any N F hF.wf N (right_nN hF hN)
    rwa [right_nF hF hN, if_pos hac] at this
  have hX := right_red hF
  have a22r : Hid (AnsV 22 #[relv N F] (relv N (wsh F N))) := plus_R hN hF
  have a22x : AnsV 22 #[relv N (redF N F)] (relv N (wsh F N)) := by
    have := plus_R hN hX
    rwa [relv_congr rfl (fun j hj => red_same hN hF hac j hj)] at this
  have a16 : AnsV 16 #[relv N (redF N F), relv N F] (relv N void) := by
    have := minus_R hN hX hF
    rwa [relv_congr rfl (fun j hj => red_sub hN hF j hj)] at this
  have ce : Hid (∀ W, Calls Tryd.prog 38 #[relv N (redF N F)] W fun e w' => ∃ b, e = .returned (.func (.func 52) #[] #[.pointer (some ⟨b, 0, none⟩)]) ∧ W.heap.size ≤ b ∧ IsR w' b N (redF N F) ∧ Below W.heap.size W w') := fun W => edges_right hX hN W
  have hless : Hid (∀ a b, (a, b) ∈ edgesL N (redF N F) → LessAt N (redF N F) (wsh F N) a b) := fun a b h => less_at hN hF a b h
  have hXw : Hid (Wf (redF N F)) := hX.wf
  generalize redF N F = X at *
  generalize wsh F N = Pp at *
  clear hF hac hX
  have hf8 : Fence.wide.fn 8 := trivial
  have hf9 : Fence.wide.fn 9 := trivial
  have hf10 : Fence.wide.fn 10 := trivial
  have hf37 : Fence.wide.fn 37 := trivial
  have hf22 : Fence.wide.fn 22 := trivial
  have hf38 : Fence.wide.fn 38 := trivial
  have hf52 : Fence.wide.fn 52 := trivial
  have tk1 : True := trivial
  refine (callsIn_wide (n := 8)).1 ?_
  refine callsIn_of_wp_marks Tryd.func7 rfl trivial ?_ rfl
  simp only [Tryd.ntmps7, List.size_toArray, List.length_cons, List.length_nil, Nat.reduceAdd, Nat.reduceSub, Array.replicate_succ, Array.replicate_zero, List.push_toArray, List.append_toArray, List.nil_append, List.cons_append]
  gi_wp2_with (first
    | (refine wpListIn_boxR rfl _ rfl rfl ?_; intro W1 b1 F1 r1; have B1 := Fresh.trans (Below.refl _ w) (Nat.le_refl _) F1; have hb1 : w.heap.size ≤ b1 := (by rw [F1.at']; exact Nat.le_refl _); clear F1)
    | (refine wpListIn_allocB rfl rfl ?_; intro W2 b2 F2 k2; have hb2 : w.heap.size ≤ b2 := (by rw [F2.at']; exact B1.size); replace B1 := Fresh.trans B1 B1.size F2; replace r1 := r1.fresh F2; clear F2)
    | (gi_at_call 8; refine (callsIn_wide.2 (a8.out _ (hT.below B1))).mono ?_; rintro e w' ⟨rfl, hw'⟩; replace r1 := r1.grown hw'; replace k2 := boxed_grown k2 hw'; replace B1 := B1.trans (hw'.mono B1.size); clear hw')
    | (refine wpListIn_loadR rfl _ rfl rfl r1 ?_)
    | (gi_at_call 37; refine (callsIn_wide.2 (a37.out _ (hT.below B1))).mono ?_; rintro e w' ⟨rfl, hw'⟩; replace r1 := r1.grown hw'; replace k2 := boxed_grown k2 hw'; replace B1 := B1.trans (hw'.mono B1.size); clear hw')
    | (refine wpListIn_allocR rfl rfl ?_; clear tk1; intro W3 b3 F3 r3; have hb3 : w.heap.size ≤ b3 := (by rw [F3.at']; exact B1.size); have h13 : b1 ≠ b3 := (by rw [F3.at']; have := r1.lt; omega); have h23 : b2 ≠ b3 := (by rw [F3.at']; have := k2.lt; omega); replace B1 := Fresh.trans B1 B1.size F3; replace r1 := r1.fresh F3; replace k2 := boxed_fresh k2 F3; clear F3)
    | (refine wpListIn_storeR rfl _ _ rfl rfl rfl r3 ?_; intro W4 U4 q3; replace B1 := U4.trans B1 hb3; replace r1 := r1.upd U4 h13; replace k2 := boxed_upd' k2 U4 h23; clear U4 r3; have r3 := q3; clear q3)
    | (gi_at_call 10; refine (callsIn_wide.2 (a10.out _)).mono ?_; rintro e w' ⟨rfl, hw'⟩; replace r1 := r1.grown hw'; replace r3 := r3.grown hw'; replace k2 := boxed_grown k2 hw'; replace B1 := B1.trans (hw'.mono B1.size); clear hw')
    | (gi_at_call 9; refine (callsIn_wide.2 (a9.out _ _)).mono ?_; rintro e w' ⟨rfl, hw'⟩; replace hw' := hw'.symm; subst hw')
    | (gi_at_call 22; refine (callsIn_wide.2 (a22r.out _ (hT.below B1))).mono ?_; rintro e w' ⟨rfl, hw'⟩; replace r1 := r1.grown hw'; replace r3 := r3.grown hw'; replace k2 := boxed_grown k2 hw'; replace B1 := B1.trans (hw'.mono B1.size); clear hw')
    | (refine wpListIn_allocR rfl rfl ?_; intro W5 b5 F5 r5; have hb5 : w.heap.size ≤ b5 := (by rw [F5.at']; exact B1.size); have h15 : b1 ≠ b5 := (by rw [F5.at']; have := r1.lt; omega); have h25 : b2 ≠ b5 := (by rw [F5.at']; have := k2.lt; omega); have h35 : b3 ≠ b5 := (by rw [F5.at']; have := r3.lt; omega); replace B1 := Fresh.trans B1 B1.size F5; replace r1 := r1.fresh F5; replace r3 := r3.fresh F5; replace k2 := boxed_fresh k2 F5; clear F5)
    | (refine wpListIn_storeR rfl _ _ rfl rfl rfl r5 ?_; intro W6 U6 q5; replace B1 := U6.trans B1 hb5; replace r1 := r1.upd U6 h15; replace r3 := r3.upd U6 h35; replace k2 := boxed_upd' k2 U6 h25; clear U6 r5; have r5 := q5; clear q5))
  have tW := hT.below B1
  refine wpIn_wide.2 (grow_all (by kernel_rfl) (by kernel_rfl) ?_)
  refine wpG_loadR rfl _ rfl rfl r3 ?_
  try simp only [Act.put, List.setIfInBounds_toArray, List.set_cons_succ, List.set_cons_zero]
  refine wpG_call tW rfl a22x (fun w => by first | rfl | (go_simp; done)) ?_
  try simp only [Act.put, List.setIfInBounds_toArray, List.set_cons_succ, List.set_cons_zero]
  refine wpG_loadR rfl _ rfl rfl r5 ?_
  try simp only [Act.put, List.setIfInBounds_toArray, List.set_cons_succ, List.set_cons_zero]
  refine wpG_neRR rfl _ _ rfl rfl rfl ?_
  try simp only [Act.put, List.setIfInBounds_toArray, List.set_cons_succ, List.set_cons_zero]
  refine wpG_put rfl (v := .bool false) (fun w => by first | rfl | (go_simp; done)) ?_
  try simp only [Act.put, List.setIfInBounds_toArray, List.set_cons_succ, List.set_cons_zero]
  refine wpG_loadR rfl _ rfl rfl r3 ?_
  try simp only [Act.put, List.setIfInBounds_toArray, List.set_cons_succ, List.set_cons_zero]
  refine wpG_loadR rfl _ rfl rfl r1 ?_
  try simp only [Act.put, List.setIfInBounds_toArray, List.set_cons_succ, List.set_cons_zero]
  refine wpG_call tW rfl a16 (fun w => by first | rfl | (go_simp; done)) ?_
  try simp only [Act.put, List.setIfInBounds_toArray, List.set_cons_succ, List.set_cons_zero]
  refine wpG_put rfl (v := .pointer (some ⟨b1, 0, none⟩)) (fun w => by go_simp; done) ?_
  try simp only [Act.put, List.setIfInBounds_toArray, List.set_cons_succ, List.set_cons_zero]
  refine wpG_loadN rfl _ rfl rfl r1 ?_
  try simp only [Act.put, List.setIfInBounds_toArray, List.set_cons_succ, List.set_cons_zero]
  refine wpG_buildRN rfl _ rfl rfl ?_
  try simp only [Act.put, List.setIfInBounds_toArray, List.set_cons_succ, List.set_cons_zero]
  refine wpG_neRR rfl _ _ rfl rfl rfl ?_
  try simp only [Act.put, List.setIfInBounds_toArray, List.set_cons_succ, List.set_cons_zero]
  refine wpG_put rfl (v := .bool false) (fun w => by first | rfl | (go_simp; done)) ?_
  try simp only [Act.put, List.setIfInBounds_toArray, List.set_cons_succ, List.set_cons_zero]
  refine wpG_nil ?_
  intro W7 hW7
  try simp only [Act.put, List.setIfInBounds_toArray, List.set_cons_succ, List.set_cons_zero]
  replace r1 := r1.grown hW7
  replace r3 := r3.grown hW7
  replace r5 := r5.grown hW7
  replace k2 := boxed_grown k2 hW7
  replace B1 := B1.trans (hW7.mono B1.size)
  clear hW7 tW a22x a16 a22r a10 a37 a8
  have hfn : ∀ lb W, (binOp .eql 56 (.func (.func 52) #[] lb) .nilFunc).run Tryd.prog W = .ok (.bool false) W := fun lb W => eqlFn56 _ _ lb W
  gi_wp2_with (first
    | (refine wpListIn_allocI rfl rfl ?_; intro W8 b6 F8 k6; have hb6 : w.heap.size ≤ b6 := (by rw [F8.at']; exact B1.size); have h16 : b1 ≠ b6 := (by rw [F8.at']; have := r1.lt; omega); have h26 : b2 ≠ b6 := (by rw [F8.at']; have := k2.lt; omega); have h36 : b3 ≠ b6 := (by rw [F8.at']; have := r3.lt; omega); have h56 : b5 ≠ b6 := (by rw [F8.at']; have := r5.lt; omega); replace B1 := Fresh.trans B1 B1.size F8; replace r1 := r1.fresh F8; replace r3 := r3.fresh F8; replace r5 := r5.fresh F8; replace k2 := boxed_fresh k2 F8; clear F8)
    | (refine wpListIn_storeI rfl _ _ rfl rfl rfl k6 ?_; intro W9 U9 q6; replace B1 := U9.trans B1 hb6; replace r1 := r1.upd U9 h16; replace r3 := r3.upd U9 h36; replace r5 := r5.upd U9 h56; replace k2 := boxed_upd' k2 U9 h26; clear U9 k6; have k6 := q6; clear q6)
    | (refine wpListIn_loadR rfl _ rfl rfl r3 ?_)
    | (gi_at_call 38; refine (callsIn_wide.2 (ce.out _)).mono ?_; rintro e W10 ⟨Bn, rfl, hBn, rn, hw'⟩; have h6l := k6.lt; have h1w := r1.lt; have h2w := k2.lt; have h3w := r3.lt; have h5w := r5.lt; replace r1 := r1.grown hw'; replace r3 := r3.grown hw'; replace r5 := r5.grown hw'; replace k2 := boxed_grown k2 hw'; replace k6 := boxed_grown k6 hw'; replace B1 := B1.trans (hw'.mono B1.size); clear hw'))
  have hpos := hT.pos
  have tW := hT.below B1
  have hnl := rn.lt
  have h1l : b1 < W9.heap.size := h1w
  have h2l : b2 < W9.heap.size := h2w
  have h3l : b3 < W9.heap.size := h3w
  have h5l : b5 < W9.heap.size := h5w
  refine rangeQ (bs := [b6, W10.heap.size + 1]) (ts := []) rfl (by omega) (gf := 52) (lb := #[.pointer (some ⟨Bn, 0, none⟩)]) rfl trivial (enters_of Tryd.func52 (by kernel_rfl) rfl)
    (edges1_Q Bn N hN X hXw [b6, W10.heap.size + 1] [] (by simp; omega) (by simp; omega) (by simp) W10 rn tW (8 - 1)) (fun b hb => by simp at hb; omega) (by simp) (Below.refl _ _) (fun _ => rfl)
    (fun pre W => (Boxed W b6 3 (.int .i64 ((pre.length : Nat) : Int)) ∧ pre.length < 40) ∧ (IsR W b1 N F ∧ IsR W b3 N X ∧ IsR W b5 N Pp) ∧ Boxed W b2 4 (.bool false) ∧ Below w.heap.size w W ∧ W10.heap.size ≤ W.heap.size)
    (fun c pre W => c = .exit 0 ∧ Boxed W b2 4 (.bool false) ∧ Below w.heap.size w W)
    ?ownI ?ownX ?start
    (fun x a' W => ∃ Bx, W10.heap.size ≤ Bx ∧ Pair W Bx x.1.val x.2.val ∧ a' = { tmps := #[relv N F, .pointer (some ⟨b1, 0, none⟩), .pointer (some ⟨b2, 0, none⟩), .pointer (some ⟨b3, 0, none⟩), .bool true, .pointer (some ⟨b5, 0, none⟩), .pointer (some ⟨b6, 0, none⟩), .func (.func 52) #[] #[.pointer (some ⟨Bn, 0, none⟩)], .pointer (some ⟨Bx, 0, none⟩), undef, undef, .bool true, .bool false, .tuple #[relv N X, .bool true], relv N F, .tuple #[relv N X, .bool true], relv N X, .bool true, .bool true, .bool false, undef, undef, undef, undef, undef, undef, undef, undef, undef, undef, undef, undef, undef, undef, relv N F, .int .i64 0, .int .i64 0, .bool false, undef, undef, undef, relv N F, relv N Pp, relv N X, relv N Pp, relv N Pp, .bool false, .bool false, relv N X, relv N F, relv N void, .pointer (some ⟨b1, 0, none⟩), .int .i64 (N : Nat), relv N void, .bool false, .bool false, relv N X, .func (.func 52) #[] #[.pointer (some ⟨Bn, 0, none⟩)], .func (.func 52) #[] #[.pointer (some ⟨Bn, 0, none⟩)], .bool false, .func (.func 52) #[] #[.pointer (some ⟨Bn, 0, none⟩)], .agg #[.int .i64 (x.1.val : Nat), .int .i64 (x.2.val : Nat)], undef, undef, undef, undef, undef, undef, undef, undef, undef, undef, undef, undef, undef, undef, undef, undef, undef, undef, undef, undef, undef, undef, undef], defers := [] })
    ?ownA ?assign ?body ?done ?stop
  case ownI => exact OwnFrom.and (OwnFrom.and (Own.from (boxed_own b6 3 (fun pre : List (Fin 64 × Fin 64) => .int .i64 ((pre.length : Nat) : Int))) _) (ownFrom_pure _ (fun pre : List (Fin 64 × Fin 64) => pre.length < 40))) (OwnFrom.and (OwnFrom.and (Own.from (isR_own b1 N (fun _ => F)) _) (OwnFrom.and (Own.from (isR_own b3 N (fun _ => X)) _) (Own.from (isR_own b5 N (fun _ => Pp)) _))) (OwnFrom.and (Own.from (boxed_own b2 4 (fun _ => .bool false)) _) (OwnFrom.and (ownFrom_below (Nat.le_refl _) (by omega)) (fun s X Y row hs hg hr => Nat.le_trans hs hg.size))))
  case ownX => exact fun c => OwnFrom.and (ownFrom_pure _ (fun _ => c = .exit 0)) (OwnFrom.and (Own.from (boxed_own b2 4 (fun _ => .bool false)) _) (ownFrom_below (Nat.le_refl _) (by omega)))
  case start => exact ⟨⟨k6, by simp⟩, ⟨r1, r3, r5⟩, k2, B1, Nat.le_refl _⟩
  case ownA =>
    intro x a'
    intro s X Y row hs hg hr
    obtain ⟨Bx, h1, h2, h3⟩ := hs
    exact ⟨Bx, h1, pair_own Bx _ _ () X Y row h2 hg (fun r e => (hr r e).2), h3⟩
  case assign =>
    rintro l pre x W K ⟨⟨q6, hl⟩, ⟨q1, q3, q5⟩, q2, hB, hS⟩ hK
    dsimp only [encE]
    gi_wp2
    exact hK _ _ ((KeepsOthers.alloc _ _).from _) (KpB.of_below ((Below.refl _ W).alloc (Nat.le_refl _) _)) ⟨⟨q6.alloc _, hl⟩, ⟨q1.alloc _, q3.alloc _, q5.alloc _⟩, q2.alloc _, hB.alloc hB.size _, by simp; omega⟩ ⟨W.heap.size, hS, Pair.new W _ _, rfl⟩
  case body =>
    rintro l pre x a' W ⟨⟨q6, hl⟩, ⟨q1, q3, q5⟩, q2, hB, hS⟩ ⟨Bx, hBx, hx, rfl⟩ hpre
    have hx0 := hx.c0
    have hx1 := hx.c1
    have cn1 := q1.n
    have hmem : (x.1.val, x.2.val) ∈ edgesL N X := hpre.subset (by simp [valsP])
    obtain ⟨E, Y, Z, e1, a16e, a22e, hne⟩ := hless.out _ _ hmem
    have hZ : Hid (rowsEq Z Pp = false) := hne
    have hA16 : Hid (AnsV 16 #[relv N X, relv N E] (relv N Y)) := a16e
    have hA22 : Hid (AnsV 22 #[relv N Y] (relv N Z)) := a22e
    have hO : Hid (Calls Tryd.prog 39 #[.int .i64 (N : Nat), .slice (some ⟨W.heap.size, 0, none⟩) 1 1] (W.alloc (.cells #[.int .i64 (x.1.val : Nat), .int .i64 (x.2.val : Nat)] 59)) fun e w' => e = .returned (.tuple #[relv N E, .int .i64 0]) ∧ Below W.heap.size W w') := by
      have hp := Pair.new W (x.1.val : Nat) (x.2.val : Nat)
      have hP : Prs (W.alloc (.cells #[.int .i64 (x.1.val : Nat), .int .i64 (x.2.val : Nat)] 59)) (some ⟨W.heap.size, 0, none⟩) [((x.1.val : Int), (x.2.val : Int))] := fun j hj => by
        obtain rfl : j = 0 := by simp at hj; exact hj
        exact ⟨_, 0, rfl, hp.c0, hp.c1⟩
      have := of_any N (some ⟨W.heap.size, 0, none⟩) 1 [((x.1.val : Int), (x.2.val : Int))] _ hP (by simp)
      rw [e1] at this
      exact this.mono fun e w' ⟨he, hb⟩ => ⟨he, ((Below.refl _ W).alloc (Nat.le_refl _) _).trans (hb.mono (by simp))⟩
    have hf39 : Fence.wide.fn 39 := trivial
    have hf16 : Fence.wide.fn 16 := trivial
    clear k2 k6 r1 r3 r5 rn B1 ce tW e1 a16e a22e hne hmem hpre hless
    gi_wp2_with (first
      | (gi_at_call 39; refine (CallsIn.inRound l (callsIn_wide.2 hO.out)).mono ?_; rintro e W11 ⟨rfl, hw'⟩; have B12 := hw'; clear hw')
      | (refine wpListIn_allocR rfl rfl ?_; intro W12 b9 F9 r9; have hb9 : W.heap.size ≤ b9 := (by rw [F9.at']; exact B12.size); replace B12 := Fresh.trans B12 B12.size F9; clear F9)
      | (refine wpListIn_storeR rfl _ _ rfl rfl rfl r9 ?_; intro W13 U9 q9; replace B12 := U9.trans B12 hb9; clear U9 r9))
    replace q1 := q1.grown B12
    replace q3 := q3.grown B12
    replace q5 := q5.grown B12
    replace q6 := boxed_grown q6 B12
    replace q2 := boxed_grown q2 B12
    replace hB := hB.trans (B12.mono hB.size)
    have tW := hT.below hB
    have KP := KpB.of_below (B := W10.heap.size) (bs := [b6]) (ts := []) B12
    replace hS : W10.heap.size ≤ W13.heap.size := Nat.le_trans hS B12.size
    clear hx0 hx1 cn1 hx hO
    refine region_headC (fun w => Below W13.heap.size W13 w) 10 (by kernel_rfl) (by decide) ?_
    refine atC_take (fun _ => trivial) (headed_of (by kernel_rfl)) 0 rfl (by kernel_rfl) (fun c a w h => h) (v := .int .i64 0) (.inl ⟨rfl, fun w hc => ?y0⟩) (below_drawn W13) ?_
    case y0 =>
      rfl
    simp only [Act.put, List.getElem_toArray, List.getElem_cons_zero, List.getElem_cons_succ, List.setIfInBounds_toArray, List.set_cons_succ, List.set_cons_zero]
    refine atC_next 1 rfl (by kernel_rfl) (fun K hK => ?_)
    go_simp
    gi_at_call 9
    refine (CallsIn.inRound l (callsIn_wide.2 (a9.out _ _))).mono ?_
    rintro e W14 ⟨rfl, hw14⟩
    have B14 : Below W13.heap.size W13 W14 := by rw [hw14]; exact below_drawn W13
    clear hw14
    refine hK _ _ B14 ?_
    clear hK K
    refine atC_take (fun _ => trivial) (headed_of (by kernel_rfl)) 2 rfl (by kernel_rfl) (fun c a w h => h) (v := .bool false) (.inl ⟨rfl, fun w hc => ?y2⟩) B14 ?_
    case y2 =>
      simp [execOp, go_sem]
    simp only [Act.put, List.getElem_toArray, List.getElem_cons_zero, List.getElem_cons_succ, List.setIfInBounds_toArray, List.set_cons_succ, List.set_cons_zero]
    refine atC_take (fun _ => trivial) (headed_of (by kernel_rfl)) 3 rfl (by kernel_rfl) (fun c a w h => h) (v := .bool false) (.inl ⟨rfl, fun w hc => ?y3⟩) B14 ?_
    case y3 =>
      rfl
    simp only [Act.put, List.getElem_toArray, List.getElem_cons_zero, List.getElem_cons_succ, List.setIfInBounds_toArray, List.set_cons_succ, List.set_cons_zero]
    refine atC_take (fun _ => trivial) (headed_of (by kernel_rfl)) 4 rfl (by kernel_rfl) (fun c a w h => h) (v := relv N X) (.inl ⟨rfl, fun w hc => ?y4⟩) B14 ?_
    case y4 =>
      exact readR _ rfl rfl (q3.grown hc)
    simp only [Act.put, List.getElem_toArray, List.getElem_cons_zero, List.getElem_cons_succ, List.setIfInBounds_toArray, List.set_cons_succ, List.set_cons_zero]
    refine atC_take (fun _ => trivial) (headed_of (by kernel_rfl)) 5 rfl (by kernel_rfl) (fun c a w h => h) (v := relv N E) (.inl ⟨rfl, fun w hc => ?y5⟩) B14 ?_
    case y5 =>
      exact readR _ rfl rfl (q9.grown hc)
    simp only [Act.put, List.getElem_toArray, List.getElem_cons_zero, List.getElem_cons_succ, List.setIfInBounds_toArray, List.set_cons_succ, List.set_cons_zero]
    refine atC_take (fun _ => trivial) (headed_of (by kernel_rfl)) 8 rfl (by kernel_rfl) (fun c a w h => h) (v := relv N Pp) (.inl ⟨rfl, fun w hc => ?y8⟩) B14 ?_
    case y8 =>
      exact readR _ rfl rfl (q5.grown hc)
    simp only [Act.put, List.getElem_toArray, List.getElem_cons_zero, List.getElem_cons_succ, List.setIfInBounds_toArray, List.set_cons_succ, List.set_cons_zero]
    refine atC_next 6 rfl (by kernel_rfl) (fun K hK => ?_)
    go_simp
    gi_at_call 16
    refine (CallsIn.inRound l (callsIn_wide.2 (hA16.out _ (tW.below B14)))).mono ?_
    rintro e W15 ⟨rfl, hw15⟩
    have B15 : Below W13.heap.size W13 W15 := B14.trans (hw15.mono B14.size)
    clear hw15
    refine hK _ _ B15 ?_
    clear hK K
    refine atC_next 7 rfl (by kernel_rfl) (fun K hK => ?_)
    go_simp
    gi_at_call 22
    refine (CallsIn.inRound l (callsIn_wide.2 (hA22.out _ (tW.below B15)))).mono ?_
    rintro e W16 ⟨rfl, hw16⟩
    have B16 : Below W13.heap.size W13 W16 := B15.trans (hw16.mono B15.size)
    clear hw16
    refine hK _ _ B16 ?_
    clear hK K
    refine atC_take (fun _ => trivial) (headed_of (by kernel_rfl)) 9 rfl (by kernel_rfl) (fun c a w h => h) (v := .bool false) (.inl ⟨rfl, fun w hc => ?y9⟩) B16 ?_
    case y9 =>
      exact readF _ _ rfl rfl rfl hZ.out
    simp only [Act.put, List.getElem_toArray, List.getElem_cons_zero, List.getElem_cons_succ, List.setIfInBounds_toArray, List.set_cons_succ, List.set_cons_zero]
    refine atC_end (by kernel_rfl) ?_
    simp only [List.drop_succ_cons, List.drop_zero]
    replace q6 := boxed_grown q6 B16
    replace q2 := boxed_grown q2 B16
    replace q1 := q1.grown B16
    replace q3 := q3.grown B16
    replace q5 := q5.grown B16
    replace hB := hB.trans (B16.mono hB.size)
    replace KP := KP.trans (KpB.of_below B16)
    replace hS : W10.heap.size ≤ W16.heap.size := Nat.le_trans hS B16.size
    clear q9 B12 B14 B15 B16 tW hA16 hA22 hZ
    have HQ : Hid (∀ W17, Upd W16 W17 b6 → Boxed W17 b6 3 (.int .i64 ((pre.length : Int) + 1)) → KeepsFrom W10.heap.size W W17 ∧ KpB W10.heap.size [b6, W10.heap.size + 1] [] W W17 ∧ Boxed W17 b2 4 (.bool false) ∧ Below w.heap.size w W17 ∧ W10.heap.size ≤ W17.heap.size ∧ (IsR W17 b1 N F ∧ IsR W17 b3 N X ∧ IsR W17 b5 N Pp)) := fun W17 U h => by
      have KQ := KP.trans (KpB.of_upd U (by simp))
      exact ⟨KQ.keepsFrom (fun b hb => by simp at hb; omega), KQ.weaken (fun b hb => by simp at hb ⊢; exact Or.inl hb), boxed_upd' q2 U h26, U.trans hB hb6, by rw [U.size]; exact hS, q1.upd U h16, q3.upd U h36, q5.upd U h56⟩
    have cell6 := q6.cell
    have hlen : (pre.length : Int) < 40 := by omega
    have hlen0 : (0 : Int) ≤ pre.length := by omega
    by_cases hge : (40 : Int) ≤ (pre.length : Int) + 1
    · gi_wp2_with (refine wpListIn_storeI rfl _ _ rfl rfl rfl q6 ?_; intro W17 U17 q17; have cell17 := q17.cell)
      obtain ⟨t1, t2, t3, t4, t5, t6⟩ := HQ.out W17 U17 q17
      exact ⟨t1, t2, rfl, t3, t4⟩
    · gi_wp2_with (refine wpListIn_storeI rfl _ _ rfl rfl rfl q6 ?_; intro W17 U17 q17; have cell17 := q17.cell)
      obtain ⟨t1, t2, t3, t4, t5, t6⟩ := HQ.out W17 U17 q17
      exact ⟨t1, t2, ⟨by simpa using q17, by simp; omega⟩, t6, t3, t4, t5⟩
  case done =>
    rintro D ys W hD hys ⟨⟨q6, hl⟩, ⟨q1, q3, q5⟩, q2, hB, hS⟩ hK
    have cell2 := q2.cell
    have fz2 := boxed_frozen q2
    have U2 := Upd.setCell W b2 0 (.bool true)
    have hK' : (W.setCell ⟨b2, 0, none⟩ (.bool true)).heap[D]? = some (.deferred (some [])) := (U2.block D (by omega)).trans hK
    have e2 := boxed_set q2 (.bool true)
    have BB := U2.trans hB hb2
    clear q6 q1 q3 q5 q2 hB k2 k6 r1 r3 r5 rn B1
    gi_wp2
    refine ⟨by simp, .inl ⟨_, _, rfl, run_takeDeferred hK', ?_⟩⟩
    exact ⟨_, results_b rfl rfl ((World.putObj_heap_other (by omega)).trans e2), rfl, BB.trans (belowK_b (w := w) (Nat.le_refl _) _ D _ _ (by omega) hK' rfl rfl)⟩
  case stop =>
    rintro D c pre W hD _ ⟨rfl, q2, hB⟩ hK
    have cell2 := q2.cell
    have fz2 := boxed_frozen q2
    have U2 := Upd.setCell W b2 0 (.bool true)
    have hK' : (W.setCell ⟨b2, 0, none⟩ (.bool true)).heap[D]? = some (.deferred (some [])) := (U2.block D (by omega)).trans hK
    have e2 := boxed_set q2 (.bool true)
    have BB := U2.trans hB hb2
    clear q2 hB k2 k6 r1 r3 r5 rn B1
    gi_wp2
    refine ⟨by simp, .inl ⟨_, _, rfl, run_takeDeferred hK', ?_⟩⟩
    exact ⟨_, results_b rfl rfl ((World.putObj_heap_other (by omega)).trans e2), rfl, BB.trans (belowK_b (w := w) (Nat.le_refl _) _ D _ _ (by omega) hK' rfl rfl)⟩

theorem relReduces_any (n : Int) (f : Nat → Nat) (w : World) (hf : Wf f) (hT : TabAt w) :
    Calls Tryd.prog 7 #[relv n f] w fun e w' => e = .returned (.bool true) ∧ Below w.heap.size w w' := by
  cases h1 : rightB n f
  · exact relReduces_wrong n f w hf h1 hT
  · obtain ⟨N, k1, k2, k3⟩ := n_right' n f hf
    rw [show nN n f = n from if_pos h1] at k1
    rw [show nF n f = f from if_pos h1] at k3
    subst k1
    cases hac : acyc N f
    · exact relReduces_round N f w k2 k3 hac hT
    · exact relReduces_right N f w k2 k3 hac hT
end Go.Proofs.YtkccckjiemijeabDoor

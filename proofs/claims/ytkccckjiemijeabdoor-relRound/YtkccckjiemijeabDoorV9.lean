/- RelReduces: steps on one cell, and the two ways that come to no loop. -/
import Derived.Test.YtkccckjiemijeabDoorV8
import Derived.Test.YtkccckjiemijeabDoorG6
namespace Go.Proofs.YtkccckjiemijeabDoor
open Go.RowKit Go.Shelf M P
attribute [local go_sem] Oper.semAt_some
set_option linter.unusedSimpArgs false
set_option linter.unusedVariables false

theorem boxed_grown {w W : World} {b t : Nat} {v : Value} (h : Boxed w b t v) (k : Below w.heap.size w W) : Boxed W b t v := (k.block b h.lt).trans h

section
variable {ops : Array Oper} {rest : List Oper} {op : Oper} {a : Act} {w : World} {Q : Exit → Act → World → Prop}
theorem wpList_allocB (hgd : op.guard = none) (ho : op.op = .alloc 4)
    (h : ∀ W b, Fresh w W b → Boxed W b 4 (.bool false) → wpList Tryd.prog ops Q rest (a.put op.dst (.pointer (some ⟨b, 0, none⟩))) W) : wpList Tryd.prog ops Q (op :: rest) a w := by
  refine wpList_plain hgd fun K hK => ?_
  unfold Oper.wp execOp
  simp [ho, go_sem, Value.cells]
  exact hK _ _ (h _ _ (Fresh.alloc w _) (Boxed.new w 4 (.bool false)))
theorem wpList_storeB (hgd : op.guard = none) (x y : Operand) (ho : op.op = .store 4 x y) {b : Nat} (hx : a.eval x = .pointer (some ⟨b, 0, none⟩)) {u : Bool} (hy : a.eval y = .bool u) {v : Value} (hc : Boxed w b 4 v)
    (h : ∀ W, Upd w W b → Boxed W b 4 (.bool u) → wpList Tryd.prog ops Q rest (a.put op.dst undef) W) : wpList Tryd.prog ops Q (op :: rest) a w := by
  refine wpList_plain hgd fun K hK => ?_
  unfold Oper.wp execOp
  have h1 := hc.cell
  have h2 := boxed_frozen hc
  simp only [ho, hx, hy]
  simp [go_sem, Value.cells, h1, h2]
  exact hK _ _ (h _ (Upd.setCell w b 0 _) (boxed_set hc _))
theorem wpList_eqRR (hgd : op.guard = none) (x y : Operand) (ho : op.op = .binOp .eql 25 x y 25) {n : Int} {f : Nat → Nat} (hx : a.eval x = relv n f) (hy : a.eval y = relv n f)
    (h : wpList Tryd.prog ops Q rest (a.put op.dst (.bool true)) w) : wpList Tryd.prog ops Q (op :: rest) a w := by
  refine wpList_plain hgd fun K hK => ?_
  unfold Oper.wp execOp
  have h1 := eqlR n f w
  have h2 := eqGuardR .eql x y n n f f w
  simp only [ho, hx, hy]
  simp [Sem.run_bind, h1, h2]
  exact hK _ _ h
variable {F : Fence} {N : Nat}
theorem wpListIn_allocB (hgd : op.guard = none) (ho : op.op = .alloc 4)
    (h : ∀ W b, Fresh w W b → Boxed W b 4 (.bool false) → wpListIn F N Tryd.prog ops Q rest (a.put op.dst (.pointer (some ⟨b, 0, none⟩))) W) : wpListIn F N Tryd.prog ops Q (op :: rest) a w := by
  refine plainIn hgd (by rw [ho]; intro c e; cases e) (by rw [ho]; intro c e; cases e) ?_ (h _ _ (Fresh.alloc w (.cells #[.bool false] 4)) (Boxed.new w 4 (.bool false)))
  unfold execOp
  simp [ho, go_sem, Value.cells]
theorem wpListIn_storeB (hgd : op.guard = none) (x y : Operand) (ho : op.op = .store 4 x y) {b : Nat} (hx : a.eval x = .pointer (some ⟨b, 0, none⟩)) {u : Bool} (hy : a.eval y = .bool u) {v : Value} (hc : Boxed w b 4 v)
    (h : ∀ W, Upd w W b → Boxed W b 4 (.bool u) → wpListIn F N Tryd.prog ops Q rest (a.put op.dst undef) W) : wpListIn F N Tryd.prog ops Q (op :: rest) a w := by
  refine skipIn hgd (by rw [ho]; intro c e; cases e) (by rw [ho]; intro c e; cases e) ?_ (h _ (Upd.setCell w b 0 (.bool u)) (boxed_set hc _))
  unfold execOp
  have h1 := hc.cell
  have h2 := boxed_frozen hc
  simp only [ho, hx, hy]
  simp [go_sem, Value.cells, h1, h2]
theorem wpListIn_allocI (hgd : op.guard = none) (ho : op.op = .alloc 3)
    (h : ∀ W b, Fresh w W b → Boxed W b 3 (.int .i64 0) → wpListIn F N Tryd.prog ops Q rest (a.put op.dst (.pointer (some ⟨b, 0, none⟩))) W) : wpListIn F N Tryd.prog ops Q (op :: rest) a w := by
  refine plainIn hgd (by rw [ho]; intro c e; cases e) (by rw [ho]; intro c e; cases e) ?_ (h _ _ (Fresh.alloc w (.cells #[.int .i64 0] 3)) (Boxed.new w 3 (.int .i64 0)))
  unfold execOp
  simp [ho, go_sem, Value.cells]
theorem wpListIn_storeI (hgd : op.guard = none) (x y : Operand) (ho : op.op = .store 3 x y) {b : Nat} (hx : a.eval x = .pointer (some ⟨b, 0, none⟩)) {z : Int} (hy : a.eval y = .int .i64 z) {v : Value} (hc : Boxed w b 3 v)
    (h : ∀ W, Upd w W b → Boxed W b 3 (.int .i64 z) → wpListIn F N Tryd.prog ops Q rest (a.put op.dst undef) W) : wpListIn F N Tryd.prog ops Q (op :: rest) a w := by
  refine skipIn hgd (by rw [ho]; intro c e; cases e) (by rw [ho]; intro c e; cases e) ?_ (h _ (Upd.setCell w b 0 (.int .i64 z)) (boxed_set hc _))
  unfold execOp
  have h1 := hc.cell
  have h2 := boxed_frozen hc
  simp only [ho, hx, hy]
  simp [go_sem, Value.cells, h1, h2]
end

theorem ret_B {fn : Func} {p : Tmp} {R : Ending → World → Prop} {a : Act} {w : World} {b : Nat} {v : Value} (h : fn.results = #[.cell p 4]) (hp : a.tmps.getD p undef = .pointer (some ⟨b, 0, none⟩))
    (hd : a.defers = []) (hc : Boxed w b 4 v) (hR : R (.returned v) w) : bodyPost Tryd.prog fn R .ret a w :=
  ⟨hd, _, results_b h hp hc, hR⟩

theorem red_void (j : Nat) : redF 0 void j = void j := by
  unfold redF opF notN void
  simp

set_option maxRecDepth 100000 in
set_option maxHeartbeats 2000000 in
theorem relReduces_wrong (n : Int) (f : Nat → Nat) (w : World) (hf : Wf f) (hr : rightB n f = false) (hT : TabAt w) :
    Calls Tryd.prog 7 #[relv n f] w fun e w' => e = .returned (.bool true) ∧ Below w.heap.size w w' := by
  have a8 : Hid (AnsV 8 #[] (.bool true)) := works_any
  have a9 : Hid (∀ z W, Calls Tryd.prog 9 #[.int .i64 z] W fun e w' => e = .returned (.int .i64 z) ∧ w' = W) := fun z W => num_any z W
  have a10 : Hid (∀ W, Calls Tryd.prog 10 #[relv n f] W fun e w' => e = .returned (.int .i64 20) ∧ Below W.heap.size W w') := fun W => by
    have := check_any n f W hf
    unfold checkN at this
    rwa [hr] at this
  have a37 : Hid (AnsV 37 #[relv n f] (.tuple #[relv 0 void, .bool true])) := by
    have e1 : nN n f = ((0 : Nat) : Int) := by unfold nN; rw [hr]; rfl
    have e2 : nF n f = void := by unfold nF; rw [hr]; rfl
    have := reduce_any n f hf 0 e1
    rw [e2, if_pos (by rfl)] at this
    rwa [relv_congr (n := ((0 : Nat) : Int)) (m := 0) rfl (fun j _ => red_void j)] at this
  clear hr hf
  go_enter Tryd.func7, Tryd.ntmps7
  go_wp2_with (first
    | (refine wpList_boxR rfl _ rfl rfl ?_; intro W1 b1 F1 r1; have B1 := Fresh.trans (Below.refl _ w) (Nat.le_refl _) F1; clear F1)
    | (refine wpList_allocB rfl rfl ?_; intro W2 b2 F2 k2; have hb2 : w.heap.size ≤ b2 := (by rw [F2.at']; exact B1.size); replace B1 := Fresh.trans B1 B1.size F2; replace r1 := r1.fresh F2; clear F2)
    | (go_at_call 8; refine (a8.out _ (hT.below B1)).mono ?_; rintro e w' ⟨rfl, hw'⟩; replace r1 := r1.grown hw'; replace k2 := boxed_grown k2 hw'; replace B1 := B1.trans (hw'.mono B1.size); clear hw')
    | (refine wpList_loadR rfl _ rfl rfl r1 ?_)
    | (go_at_call 37; refine (a37.out _ (hT.below B1)).mono ?_; rintro e w' ⟨rfl, hw'⟩; replace r1 := r1.grown hw'; replace k2 := boxed_grown k2 hw'; replace B1 := B1.trans (hw'.mono B1.size); clear hw')
    | (refine wpList_allocR rfl rfl ?_; intro W3 b3 F3 r3; have hb3 : w.heap.size ≤ b3 := (by rw [F3.at']; exact B1.size); have h13 : b1 ≠ b3 := (by rw [F3.at']; have := r1.lt; omega); have h23 : b2 ≠ b3 := (by rw [F3.at']; have := k2.lt; omega); replace B1 := Fresh.trans B1 B1.size F3; replace r1 := r1.fresh F3; replace k2 := boxed_fresh k2 F3; clear F3)
    | (refine wpList_storeR rfl _ _ rfl rfl rfl r3 ?_; intro W4 U4 q3; replace B1 := U4.trans B1 hb3; replace r1 := r1.upd U4 h13; replace k2 := boxed_upd' k2 U4 h23; clear U4 r3; have r3 := q3; clear q3)
    | (go_at_call 10; refine (a10.out _).mono ?_; rintro e w' ⟨rfl, hw'⟩; replace r1 := r1.grown hw'; replace r3 := r3.grown hw'; replace k2 := boxed_grown k2 hw'; replace B1 := B1.trans (hw'.mono B1.size); clear hw')
    | (go_at_call 9; refine (a9.out _ _).mono ?_; rintro e w' ⟨rfl, hw'⟩; replace hw' := hw'.symm; subst hw')
    | (refine wpList_loadR rfl _ rfl rfl r3 ?_)
    | (refine wpList_buildR0 rfl rfl ?_)
    | (refine wpList_eqRR rfl _ _ rfl rfl rfl ?_)
    | (refine wpList_storeB rfl _ _ rfl rfl rfl k2 ?_; intro W5 U5 q2; replace B1 := U5.trans B1 hb2; clear U5 k2))
  exact ret_B rfl rfl rfl q2 ⟨rfl, B1⟩

set_option maxRecDepth 100000 in
set_option maxHeartbeats 2000000 in
theorem relReduces_round (N : Nat) (F : Nat → Nat) (w : World) (hN : N ≤ 64) (hF : Right N F) (hac : acyc N F = false) (hT : TabAt w) :
    Calls Tryd.prog 7 #[relv N F] w fun e w' => e = .returned (.bool true) ∧ Below w.heap.size w w' := by
  have a8 : Hid (AnsV 8 #[] (.bool true)) := works_any
  have a9 : Hid (∀ z W, Calls Tryd.prog 9 #[.int .i64 z] W fun e w' => e = .returned (.int .i64 z) ∧ w' = W) := fun z W => num_any z W
  have a10 : Hid (∀ W, Calls Tryd.prog 10 #[relv N F] W fun e w' => e = .returned (.int .i64 0) ∧ Below W.heap.size W w') := fun W => by
    have := check_any N F W hF.wf
    unfold checkN at this
    rwa [if_pos (right_is hF hN)] at this
  have a28 : Hid (AnsV 28 #[relv N F] (.bool false)) := by
    have := acyclic_any N F hF.wf
    rwa [right_nN hF hN, right_nF hF hN, Int.toNat_natCast, show irr N (wsh F N) = false from hac] at this
  have a37 : Hid (AnsV 37 #[relv N F] (.tuple #[relv 0 void, .bool false])) := by
    have := reduce_any N F hF.wf N (right_nN hF hN)
    rwa [right_nF hF hN, if_neg (by rw [hac]; simp)] at this
  clear hF hac
  go_enter Tryd.func7, Tryd.ntmps7
  go_wp2_with (first
    | (refine wpList_boxR rfl _ rfl rfl ?_; intro W1 b1 F1 r1; have B1 := Fresh.trans (Below.refl _ w) (Nat.le_refl _) F1; clear F1)
    | (refine wpList_allocB rfl rfl ?_; intro W2 b2 F2 k2; have hb2 : w.heap.size ≤ b2 := (by rw [F2.at']; exact B1.size); replace B1 := Fresh.trans B1 B1.size F2; replace r1 := r1.fresh F2; clear F2)
    | (go_at_call 8; refine (a8.out _ (hT.below B1)).mono ?_; rintro e w' ⟨rfl, hw'⟩; replace r1 := r1.grown hw'; replace k2 := boxed_grown k2 hw'; replace B1 := B1.trans (hw'.mono B1.size); clear hw')
    | (refine wpList_loadR rfl _ rfl rfl r1 ?_)
    | (refine wpList_loadRg rfl _ rfl rfl r1 ?_)
    | (go_at_call 37; refine (a37.out _ (hT.below B1)).mono ?_; rintro e w' ⟨rfl, hw'⟩; replace r1 := r1.grown hw'; replace k2 := boxed_grown k2 hw'; replace B1 := B1.trans (hw'.mono B1.size); clear hw')
    | (refine wpList_allocR rfl rfl ?_; intro W3 b3 F3 r3; have hb3 : w.heap.size ≤ b3 := (by rw [F3.at']; exact B1.size); have h13 : b1 ≠ b3 := (by rw [F3.at']; have := r1.lt; omega); have h23 : b2 ≠ b3 := (by rw [F3.at']; have := k2.lt; omega); replace B1 := Fresh.trans B1 B1.size F3; replace r1 := r1.fresh F3; replace k2 := boxed_fresh k2 F3; clear F3)
    | (refine wpList_storeR rfl _ _ rfl rfl rfl r3 ?_; intro W4 U4 q3; replace B1 := U4.trans B1 hb3; replace r1 := r1.upd U4 h13; replace k2 := boxed_upd' k2 U4 h23; clear U4 r3; have r3 := q3; clear q3)
    | (go_at_call 10; refine (a10.out _).mono ?_; rintro e w' ⟨rfl, hw'⟩; replace r1 := r1.grown hw'; replace r3 := r3.grown hw'; replace k2 := boxed_grown k2 hw'; replace B1 := B1.trans (hw'.mono B1.size); clear hw')
    | (go_at_call 28; refine (a28.out _ (hT.below B1)).mono ?_; rintro e w' ⟨rfl, hw'⟩; replace r1 := r1.grown hw'; replace r3 := r3.grown hw'; replace k2 := boxed_grown k2 hw'; replace B1 := B1.trans (hw'.mono B1.size); clear hw')
    | (go_at_call 9; refine (a9.out _ _).mono ?_; rintro e w' ⟨rfl, hw'⟩; replace hw' := hw'.symm; subst hw')
    | (refine wpList_loadR rfl _ rfl rfl r3 ?_)
    | (refine wpList_buildR0 rfl rfl ?_)
    | (refine wpList_eqRR rfl _ _ rfl rfl rfl ?_)
    | (refine wpList_storeB rfl _ _ rfl rfl rfl k2 ?_; intro W5 U5 q2; replace B1 := U5.trans B1 hb2; clear U5 k2))
  exact ret_B rfl rfl rfl q2 ⟨rfl, B1⟩
end Go.Proofs.YtkccckjiemijeabDoor

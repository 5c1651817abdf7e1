/- StateTotal: the law. -/
import Derived.Test.YtbhgchhoeokjhaaDoorWK
import Derived.Test.YtbhgchhoeokjhaaDoorCM
namespace Go.Proofs.YtbhgchhoeokjhaaDoor
open Go Go.RowKit M
set_option linter.unusedSimpArgs false
set_option linter.unusedVariables false

section
variable {w W : World} {b : Nat} {x y : FS} {ops : Array Oper} {rest : List Oper} {op : Oper} {a : Act} {Q : Exit → Act → World → Prop}
theorem wpList_runV (hw : Region.wanted op (yielded ops a.tmps) = true) {v : Value} (hr : (execOp a.eval op).run Tryd.prog w = .ok (.value v) W) (h : wpList Tryd.prog ops Q rest (a.put op.dst v) W) : wpList Tryd.prog ops Q (op :: rest) a w := by
  refine wpList_step fun K hK => ?_
  simp only [hw, if_true]
  unfold Oper.wp
  rw [hr]
  exact hK _ _ h
theorem exec_loadF (p : Operand) (ho : op.op = .load 24 p) (hp : a.eval p = .pointer (some ⟨b, 0, none⟩)) (hc : IsS w b 24 (encF x)) : (execOp a.eval op).run Tryd.prog w = .ok (.value (.agg (encF x).toArray)) w := by
  have hr := run_loadAt_mid (P := Tryd.prog) w b 0 24 _ _ (hc.range 0 49) Tryd.underlying24 rfl (by rw [whole]; exact infoFx x)
  rw [whole] at hr
  unfold execOp
  simp only [ho, hp, Sem.run_bind, hr, Result.andThen_ok, Sem.run_pure]
theorem stop_leq {p q : Operand} (ho : op.op = .binOp .leq 3 p q 3) (h : Hid (wpList Tryd.prog ops Q (op :: rest) a w)) : wpList Tryd.prog ops Q (op :: rest) a w := h
theorem wpList_loadGF (hw : Region.wanted op (yielded ops a.tmps) = true) (p : Operand) (ho : op.op = .load 24 p) (hp : a.eval p = .pointer (some ⟨b, 0, none⟩)) (hc : IsS w b 24 (encF x))
    (h : wpList Tryd.prog ops Q rest (a.put op.dst (.agg (encF x).toArray)) w) : wpList Tryd.prog ops Q (op :: rest) a w := wpList_runV hw (exec_loadF p ho hp hc) h
theorem wpList_eqGF (hw : Region.wanted op (yielded ops a.tmps) = true) (p q : Operand) (ho : op.op = .binOp .eql 24 p q 24) (hx : a.eval p = .agg (encF x).toArray) (hy : a.eval q = .agg (encF y).toArray) (h : wpList Tryd.prog ops Q rest (a.put op.dst (.bool (decide (x = y)))) w) : wpList Tryd.prog ops Q (op :: rest) a w := wpList_runV hw (exec_eqF ho hx hy) h
end
set_option maxRecDepth 100000 in
set_option maxHeartbeats 4000000 in
theorem total_walk (a b c : FS) (x y z : Int) (hx : cmpF a b = x) (hxr : cmpF b a = -x) (hy : cmpF b c = y) (hz : cmpF a c = z) (d : Bool) (hd : decide (a = b) = d) (h0 : (x = -1 ∧ d = false) ∨ (x = 0 ∧ d = true) ∨ (x = 1 ∧ d = false)) (h1 : y = -1 ∨ y = 0 ∨ y = 1) (h2 : z = -1 ∨ z = 0 ∨ z = 1) (hA : ¬ (x ≤ 0 ∧ y ≤ 0 ∧ 0 < z)) (hB : ¬ (0 ≤ x ∧ 0 ≤ y ∧ z < 0)) (w : World) (hT : Tab10 w) :
    Calls Tryd.prog 4 #[.agg (encF a).toArray, .agg (encF b).toArray, .agg (encF c).toArray] w fun e w' => e = .returned (.bool true) ∧ Below w.heap.size w w' := by
  have k1 := fun W => compare_any a b W
  have k2 := fun W => compare_any b c W
  have k3 := fun W => compare_any a c W
  have k4 := fun W => compare_any b a W
  have kw := fun W (h : Tab10 W) => works_any W h
  rw [hx] at k1
  rw [hy] at k2
  rw [hz] at k3
  rw [hxr] at k4
  clear hx hy hz hxr
  have t1 : True := trivial
  have t2 : True := trivial
  have t3 : True := trivial
  have H1 : Hid (y = -1 ∨ y = 0 ∨ y = 1) := h1
  have H2 : Hid (z = -1 ∨ z = 0 ∨ z = 1) := h2
  have HA : Hid (¬ (x ≤ 0 ∧ y ≤ 0 ∧ 0 < z)) := hA
  have HB : Hid (¬ (0 ≤ x ∧ 0 ≤ y ∧ z < 0)) := hB
  clear h1 h2 hA hB
  have hEq : ∀ w, (Op.equalIn 10000 24 (.agg (encF a).toArray) (.agg (encF b).toArray)).run Tryd.prog w = .ok d w := fun w => by rw [equalFF, hd]
  have hGd : ∀ (p q : Operand) w, (eqGuard .eql 24 p q (.agg (encF a).toArray) (.agg (encF b).toArray)).run Tryd.prog w = .ok () w := fun p q w => eqGuardF .eql p q _ _ w
  clear hd
  have k4' : ∀ xr : Int, xr = -x → ∀ W, Calls Tryd.prog 10 #[.agg (encF b).toArray, .agg (encF a).toArray] W fun e w' => e = .returned (.int .i64 xr) ∧ Grew W w' := fun xr e => by rw [e]; exact k4
  clear k4
  rcases h0 with ⟨rfl, rfl⟩ | ⟨rfl, rfl⟩ | ⟨rfl, rfl⟩
  · have k4 := k4' 1 rfl
    clear k4'
    go_enter Tryd.func4, Tryd.ntmps4
    go_wp2_with (first
      | (clear t1; refine wpList_boxS rfl _ _ rfl (encF a) rfl ?_; intro w1 b1 F1 I1)
      | (clear t2; refine wpList_boxS rfl _ _ rfl (encF b) rfl ?_; intro w2 b2 F2 I2; have J2 := I1.fresh F2)
      | (clear t3; refine wpList_boxS rfl _ _ rfl (encF c) rfl ?_; intro w3 b3 F3 I3; have J3 := J2.fresh F3; have K3 := I2.fresh F3; have B3 := Below.then (Below.then (fresh_b F1) (fresh_b F2)) (fresh_b F3))
      | (go_at_call 9; refine (kw _ (hT.below B3)).mono ?_; rintro e w4 ⟨rfl, B4⟩; have I4 := I3.grown B4; have J4 := J3.grown B4; have K4 := K3.grown B4; have l1 : True := trivial)
      | (clear l1; refine wpList_loadF rfl _ rfl rfl J4 ?_; have l2 : True := trivial)
      | (clear l2; refine wpList_loadF rfl _ rfl rfl K4 ?_; have ta : True := trivial)
      | (clear ta; go_at_call 10; refine (k1 _).mono ?_; rintro e w5 ⟨rfl, G5⟩; have B5 := G5.below; have I5 := I4.grown B5; have J5 := J4.grown B5; have K5 := K4.grown B5; have l3 : True := trivial)
      | (clear l3; refine wpList_loadF rfl _ rfl rfl K5 ?_; have l4 : True := trivial)
      | (clear l4; refine wpList_loadF rfl _ rfl rfl I5 ?_; have tb : True := trivial)
      | (clear tb; go_at_call 10; refine (k2 _).mono ?_; rintro e w6 ⟨rfl, G6⟩; have B6 := G6.below; have I6 := I5.grown B6; have J6 := J5.grown B6; have K6 := K5.grown B6; have l5 : True := trivial)
      | (clear l5; refine wpList_loadF rfl _ rfl rfl J6 ?_; have l6 : True := trivial)
      | (clear l6; refine wpList_loadF rfl _ rfl rfl I6 ?_; have tc : True := trivial)
      | (clear tc; go_at_call 10; refine (k3 _).mono ?_; rintro e w7 ⟨rfl, G7⟩; have B7 := G7.below; have J7 := J6.grown B7; have K7 := K6.grown B7; have l7 : True := trivial)
      | (clear l7; refine wpList_loadGF (by rfl) _ rfl rfl K7 ?_; have l8 : True := trivial)
      | (clear l8; refine wpList_loadGF (by rfl) _ rfl rfl J7 ?_; have td : True := trivial)
      | (clear td; go_at_call 10; refine (k4 _).mono ?_; rintro e w8 ⟨rfl, G8⟩; have B8 := G8.below; have J8 := J7.grown B8; have K8 := K7.grown B8; have l9 : True := trivial)
      | (clear l9; refine wpList_loadGF (by rfl) _ rfl rfl J8 ?_; have l0 : True := trivial)
      | (clear l0; refine wpList_loadGF (by rfl) _ rfl rfl K8 ?_; have lz : True := trivial)
      | (clear lz; refine stop_leq (p := .tmp 43) rfl ?_))
    refine Lib.hid ?_
    rcases H1.out with rfl | rfl | rfl <;> rcases H2.out with rfl | rfl | rfl
    all_goals first
      | (exfalso; have hA' := HA.out; have hB' := HB.out; omega)
      | (clear H1 H2 HA HB; go_wp2; go_ret; exact ⟨rfl, Below.then (Below.then (Below.then (Below.then (Below.then B3 B4) B5) B6) B7) B8⟩)
  · have k4 := k4' 0 rfl
    clear k4'
    go_enter Tryd.func4, Tryd.ntmps4
    go_wp2_with (first
      | (clear t1; refine wpList_boxS rfl _ _ rfl (encF a) rfl ?_; intro w1 b1 F1 I1)
      | (clear t2; refine wpList_boxS rfl _ _ rfl (encF b) rfl ?_; intro w2 b2 F2 I2; have J2 := I1.fresh F2)
      | (clear t3; refine wpList_boxS rfl _ _ rfl (encF c) rfl ?_; intro w3 b3 F3 I3; have J3 := J2.fresh F3; have K3 := I2.fresh F3; have B3 := Below.then (Below.then (fresh_b F1) (fresh_b F2)) (fresh_b F3))
      | (go_at_call 9; refine (kw _ (hT.below B3)).mono ?_; rintro e w4 ⟨rfl, B4⟩; have I4 := I3.grown B4; have J4 := J3.grown B4; have K4 := K3.grown B4; have l1 : True := trivial)
      | (clear l1; refine wpList_loadF rfl _ rfl rfl J4 ?_; have l2 : True := trivial)
      | (clear l2; refine wpList_loadF rfl _ rfl rfl K4 ?_; have ta : True := trivial)
      | (clear ta; go_at_call 10; refine (k1 _).mono ?_; rintro e w5 ⟨rfl, G5⟩; have B5 := G5.below; have I5 := I4.grown B5; have J5 := J4.grown B5; have K5 := K4.grown B5; have l3 : True := trivial)
      | (clear l3; refine wpList_loadF rfl _ rfl rfl K5 ?_; have l4 : True := trivial)
      | (clear l4; refine wpList_loadF rfl _ rfl rfl I5 ?_; have tb : True := trivial)
      | (clear tb; go_at_call 10; refine (k2 _).mono ?_; rintro e w6 ⟨rfl, G6⟩; have B6 := G6.below; have I6 := I5.grown B6; have J6 := J5.grown B6; have K6 := K5.grown B6; have l5 : True := trivial)
      | (clear l5; refine wpList_loadF rfl _ rfl rfl J6 ?_; have l6 : True := trivial)
      | (clear l6; refine wpList_loadF rfl _ rfl rfl I6 ?_; have tc : True := trivial)
      | (clear tc; go_at_call 10; refine (k3 _).mono ?_; rintro e w7 ⟨rfl, G7⟩; have B7 := G7.below; have J7 := J6.grown B7; have K7 := K6.grown B7; have l7 : True := trivial)
      | (clear l7; refine wpList_loadGF (by rfl) _ rfl rfl K7 ?_; have l8 : True := trivial)
      | (clear l8; refine wpList_loadGF (by rfl) _ rfl rfl J7 ?_; have td : True := trivial)
      | (clear td; go_at_call 10; refine (k4 _).mono ?_; rintro e w8 ⟨rfl, G8⟩; have B8 := G8.below; have J8 := J7.grown B8; have K8 := K7.grown B8; have l9 : True := trivial)
      | (clear l9; refine wpList_loadGF (by rfl) _ rfl rfl J8 ?_; have l0 : True := trivial)
      | (clear l0; refine wpList_loadGF (by rfl) _ rfl rfl K8 ?_; have lz : True := trivial)
      | (clear lz; refine stop_leq (p := .tmp 43) rfl ?_))
    refine Lib.hid ?_
    rcases H1.out with rfl | rfl | rfl <;> rcases H2.out with rfl | rfl | rfl
    all_goals first
      | (exfalso; have hA' := HA.out; have hB' := HB.out; omega)
      | (clear H1 H2 HA HB; go_wp2; go_ret; exact ⟨rfl, Below.then (Below.then (Below.then (Below.then (Below.then B3 B4) B5) B6) B7) B8⟩)
  · have k4 := k4' (-1) rfl
    clear k4'
    go_enter Tryd.func4, Tryd.ntmps4
    go_wp2_with (first
      | (clear t1; refine wpList_boxS rfl _ _ rfl (encF a) rfl ?_; intro w1 b1 F1 I1)
      | (clear t2; refine wpList_boxS rfl _ _ rfl (encF b) rfl ?_; intro w2 b2 F2 I2; have J2 := I1.fresh F2)
      | (clear t3; refine wpList_boxS rfl _ _ rfl (encF c) rfl ?_; intro w3 b3 F3 I3; have J3 := J2.fresh F3; have K3 := I2.fresh F3; have B3 := Below.then (Below.then (fresh_b F1) (fresh_b F2)) (fresh_b F3))
      | (go_at_call 9; refine (kw _ (hT.below B3)).mono ?_; rintro e w4 ⟨rfl, B4⟩; have I4 := I3.grown B4; have J4 := J3.grown B4; have K4 := K3.grown B4; have l1 : True := trivial)
      | (clear l1; refine wpList_loadF rfl _ rfl rfl J4 ?_; have l2 : True := trivial)
      | (clear l2; refine wpList_loadF rfl _ rfl rfl K4 ?_; have ta : True := trivial)
      | (clear ta; go_at_call 10; refine (k1 _).mono ?_; rintro e w5 ⟨rfl, G5⟩; have B5 := G5.below; have I5 := I4.grown B5; have J5 := J4.grown B5; have K5 := K4.grown B5; have l3 : True := trivial)
      | (clear l3; refine wpList_loadF rfl _ rfl rfl K5 ?_; have l4 : True := trivial)
      | (clear l4; refine wpList_loadF rfl _ rfl rfl I5 ?_; have tb : True := trivial)
      | (clear tb; go_at_call 10; refine (k2 _).mono ?_; rintro e w6 ⟨rfl, G6⟩; have B6 := G6.below; have I6 := I5.grown B6; have J6 := J5.grown B6; have K6 := K5.grown B6; have l5 : True := trivial)
      | (clear l5; refine wpList_loadF rfl _ rfl rfl J6 ?_; have l6 : True := trivial)
      | (clear l6; refine wpList_loadF rfl _ rfl rfl I6 ?_; have tc : True := trivial)
      | (clear tc; go_at_call 10; refine (k3 _).mono ?_; rintro e w7 ⟨rfl, G7⟩; have B7 := G7.below; have J7 := J6.grown B7; have K7 := K6.grown B7; have l7 : True := trivial)
      | (clear l7; refine wpList_loadGF (by rfl) _ rfl rfl K7 ?_; have l8 : True := trivial)
      | (clear l8; refine wpList_loadGF (by rfl) _ rfl rfl J7 ?_; have td : True := trivial)
      | (clear td; go_at_call 10; refine (k4 _).mono ?_; rintro e w8 ⟨rfl, G8⟩; have B8 := G8.below; have J8 := J7.grown B8; have K8 := K7.grown B8; have l9 : True := trivial)
      | (clear l9; refine wpList_loadGF (by rfl) _ rfl rfl J8 ?_; have l0 : True := trivial)
      | (clear l0; refine wpList_loadGF (by rfl) _ rfl rfl K8 ?_; have lz : True := trivial)
      | (clear lz; refine stop_leq (p := .tmp 43) rfl ?_))
    refine Lib.hid ?_
    rcases H1.out with rfl | rfl | rfl <;> rcases H2.out with rfl | rfl | rfl
    all_goals first
      | (exfalso; have hA' := HA.out; have hB' := HB.out; omega)
      | (clear H1 H2 HA HB; go_wp2; go_ret; exact ⟨rfl, Below.then (Below.then (Below.then (Below.then (Below.then B3 B4) B5) B6) B7) B8⟩)
theorem total_any (a b c : FS) (w : World) (hT : Tab10 w) :
    Calls Tryd.prog 4 #[.agg (encF a).toArray, .agg (encF b).toArray, .agg (encF c).toArray] w fun e w' => e = .returned (.bool true) ∧ Below w.heap.size w w' := by
  refine total_walk a b c _ _ _ rfl (cmpF_neg a b) rfl rfl _ rfl ?_ (cmpF_bd b c) (cmpF_bd a c) ?_ ?_ w hT
  · rcases cmpF_bd a b with h | h | h
    · exact .inl ⟨h, by simp only [decide_eq_false_iff_not]; intro e; rw [e, cmpF_refl] at h; cases h⟩
    · exact .inr (.inl ⟨h, by simpa using cmpF_zero h⟩)
    · exact .inr (.inr ⟨h, by simp only [decide_eq_false_iff_not]; intro e; rw [e, cmpF_refl] at h; cases h⟩)
  · rintro ⟨h1, h2, h3⟩
    have := cmpF_trans h1 h2
    omega
  · rintro ⟨h1, h2, h3⟩
    have e1 := cmpF_neg a b
    have e2 := cmpF_neg b c
    have e3 := cmpF_neg a c
    have := cmpF_trans (a := c) (b := b) (c := a) (by omega) (by omega)
    omega
end Go.Proofs.YtbhgchhoeokjhaaDoor

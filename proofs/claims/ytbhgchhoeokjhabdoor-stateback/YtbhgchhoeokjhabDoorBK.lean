/- StateBack: the law. -/
import Derived.Test.YtbhgchhoeokjhabDoorWK
import Derived.Test.YtbhgchhoeokjhabDoorCM
import Derived.Test.YtbhgchhoeokjhabDoorA3
namespace Go.Proofs.YtbhgchhoeokjhabDoor
open Go Go.RowKit M
set_option linter.unusedSimpArgs false
set_option linter.unusedVariables false

section
variable {w W : World} {b : Nat} {x y : FS} {ops : Array Oper} {rest : List Oper} {op : Oper} {a : Act} {Q : Exit → Act → World → Prop}
theorem wpList_runV (hw : Region.wanted op (yielded ops a.tmps) = true) {v : Value} (hr : (execOp a.eval op).run Tryd.prog w = .ok (.value v) W) (h : wpList Tryd.prog ops Q rest (a.put op.dst v) W) : wpList Tryd.prog ops Q (op :: rest) a w := by
  refine wpList_step fun K hK => ?_
  simp only [hw, if_true]
  unfold Oper.wp
  rw [hr]
  exact hK _ _ h
theorem exec_loadF (p : Operand) (ho : op.op = .load 27 p) (hp : a.eval p = .pointer (some ⟨b, 0, none⟩)) (hc : IsS w b 27 (encF x)) : (execOp a.eval op).run Tryd.prog w = .ok (.value (.agg (encF x).toArray)) w := by
  have hr := run_loadAt_mid (P := Tryd.prog) w b 0 27 _ _ (hc.range 0 49) Tryd.underlying27 rfl (by rw [whole]; exact infoFx x)
  rw [whole] at hr
  unfold execOp
  simp only [ho, hp, Sem.run_bind, hr, Result.andThen_ok, Sem.run_pure]
theorem wpList_loadGF (hw : Region.wanted op (yielded ops a.tmps) = true) (p : Operand) (ho : op.op = .load 27 p) (hp : a.eval p = .pointer (some ⟨b, 0, none⟩)) (hc : IsS w b 27 (encF x))
    (h : wpList Tryd.prog ops Q rest (a.put op.dst (.agg (encF x).toArray)) w) : wpList Tryd.prog ops Q (op :: rest) a w := wpList_runV hw (exec_loadF p ho hp hc) h
theorem wpList_eqAs (hw : Region.wanted op (yielded ops a.tmps) = true) (p q : Operand) (ho : op.op = .binOp .eql 27 p q 27) (hx : a.eval p = .agg (encF x).toArray) (hy : a.eval q = .agg (encF y).toArray) (d : Bool) (hd : decide (x = y) = d) (h : wpList Tryd.prog ops Q rest (a.put op.dst (.bool d)) w) : wpList Tryd.prog ops Q (op :: rest) a w := by
  subst hd; exact wpList_runV hw (exec_eqF ho hx hy) h
theorem wpList_neqSame (hw : Region.wanted op (yielded ops a.tmps) = true) (p q : Operand) (ho : op.op = .binOp .neq 27 p q 27) (hx : a.eval p = .agg (encF x).toArray) (hy : a.eval q = .agg (encF x).toArray) (h : wpList Tryd.prog ops Q rest (a.put op.dst (.bool false)) w) : wpList Tryd.prog ops Q (op :: rest) a w := by
  have := exec_neqF (w := w) ho hx hy
  rw [show (!decide (x = x)) = false by simp] at this
  exact wpList_runV hw this h
theorem wpList_eqSame (hw : Region.wanted op (yielded ops a.tmps) = true) (p q : Operand) (ho : op.op = .binOp .eql 27 p q 27) (hx : a.eval p = .agg (encF x).toArray) (hy : a.eval q = .agg (encF x).toArray) (h : wpList Tryd.prog ops Q rest (a.put op.dst (.bool true)) w) : wpList Tryd.prog ops Q (op :: rest) a w := wpList_eqAs hw p q ho hx hy true (by simp) h
end
theorem num_any (e : Int) (w : World) : Calls Tryd.prog 13 #[.int .i64 e] w fun x w' => x = .returned (.int .i64 e) ∧ w' = w := by
  go_enter Tryd.func13, Tryd.ntmps13
  go_wp2
  go_ret
  exact ⟨rfl, rfl⟩
set_option maxRecDepth 100000 in
set_option maxHeartbeats 1000000 in
theorem back_11 (x y : FS) (a b s : ByteArray) (eb : Int) (k1 : ∀ W, Calls Tryd.prog 17 #[.agg (encF x).toArray] W fun e w' => e = .returned (.tuple #[.string a, .int .i64 4]) ∧ Below W.heap.size W w')
    (k2 : ∀ W, Calls Tryd.prog 17 #[.agg (encF y).toArray] W fun e w' => e = .returned (.tuple #[.string b, .int .i64 eb]) ∧ Below W.heap.size W w')
    (ks : ∀ W, Calls Tryd.prog 18 #[.string s] W fun e w' => e = .returned (.tuple #[.agg (encF FS.zero).toArray, .int .i64 5]) ∧ Below W.heap.size W w') (w : World) (hT : Tab10 w) :
    Calls Tryd.prog 4 #[.agg (encF x).toArray, .agg (encF y).toArray, .string s] w fun e w' => e = .returned (.bool true) ∧ Below w.heap.size w w' := by
  have kw := fun W (h : Tab10 W) => works_any W h
  have t1 : True := trivial
  have t2 : True := trivial
  go_enter Tryd.func4, Tryd.ntmps4
  go_wp2_with (first
      | (clear t1; refine wpList_boxS rfl _ _ rfl (encF x) rfl ?_; intro w1 b1 F1 J1)
      | (clear t2; refine wpList_boxS rfl _ _ rfl (encF y) rfl ?_; intro w2 b2 F2 I2; have J2 := J1.fresh F2; have B2 := Below.then (fresh_b F1) (fresh_b F2))
      | (go_at_call 6; refine (kw _ (hT.below B2)).mono ?_; rintro e w3 ⟨rfl, B3⟩; have I3 := I2.grown B3; have J3 := J2.grown B3; have l1 : True := trivial)
      | (clear l1; refine wpList_loadF rfl _ rfl rfl J3 ?_; have ta : True := trivial)
      | (clear ta; go_at_call 17; refine (k1 _).mono ?_; rintro e w4 ⟨rfl, B4⟩; have I4 := I3.grown B4; have J4 := J3.grown B4; have l2 : True := trivial)
      | (clear l2; refine wpList_loadF rfl _ rfl rfl I4 ?_; have tb : True := trivial)
      | (clear tb; go_at_call 17; refine (k2 _).mono ?_; rintro e w5 ⟨rfl, B5⟩; have I5 := I4.grown B5; have J5 := J4.grown B5; have tz : True := trivial)
      | (go_at_call 13; refine (num_any _ _).mono ?_; rintro e w' ⟨rfl, hw'⟩; replace hw' := hw'.symm; subst hw')
      | (clear tz; go_at_call 18; refine (ks _).mono ?_; rintro e w10 ⟨rfl, B10⟩; have th : True := trivial)
      | (clear th; refine wpList_allocS rfl _ rfl (encF FS.zero) zeroF ?_; intro w11 b11 F11 N11; have ti : True := trivial)
      | (clear ti; refine wpList_storeF rfl _ _ rfl rfl rfl N11 ?_; intro w12 U12 K12; have B12 : Below w10.heap.size w10 w12 := U12.trans (fresh_b F11) (by rw [F11.at']; exact Nat.le_refl _); have l7 : True := trivial)
      | (clear l7; refine wpList_loadF rfl _ rfl rfl K12 ?_; have tj : True := trivial)
      | (clear tj; refine wpList_build0F rfl rfl ?_; have tk : True := trivial)
      | (clear tk; refine wpList_eqSame (by rfl) _ _ rfl rfl rfl ?_))
  go_ret
  exact ⟨rfl, Below.then (Below.then (Below.then (Below.then (Below.then (B2) B3) B4) B5) B10) B12⟩
set_option maxRecDepth 100000 in
set_option maxHeartbeats 1000000 in
theorem back_12 (x y : FS) (a b s : ByteArray) (eb : Int) (z : FS) (k1 : ∀ W, Calls Tryd.prog 17 #[.agg (encF x).toArray] W fun e w' => e = .returned (.tuple #[.string a, .int .i64 4]) ∧ Below W.heap.size W w')
    (k2 : ∀ W, Calls Tryd.prog 17 #[.agg (encF y).toArray] W fun e w' => e = .returned (.tuple #[.string b, .int .i64 eb]) ∧ Below W.heap.size W w')
    (ks : ∀ W, Calls Tryd.prog 18 #[.string s] W fun e w' => e = .returned (.tuple #[.agg (encF z).toArray, .int .i64 0]) ∧ Below W.heap.size W w')
    (kz : ∀ W, Calls Tryd.prog 17 #[.agg (encF z).toArray] W fun e w' => e = .returned (.tuple #[.string s, .int .i64 0]) ∧ Below W.heap.size W w')
    (kc : ∀ W, Calls Tryd.prog 15 #[.agg (encF z).toArray] W fun e w' => e = .returned (.int .i64 0) ∧ Below W.heap.size W w') (w : World) (hT : Tab10 w) :
    Calls Tryd.prog 4 #[.agg (encF x).toArray, .agg (encF y).toArray, .string s] w fun e w' => e = .returned (.bool true) ∧ Below w.heap.size w w' := by
  have kw := fun W (h : Tab10 W) => works_any W h
  have t1 : True := trivial
  have t2 : True := trivial
  go_enter Tryd.func4, Tryd.ntmps4
  go_wp2_with (first
      | (clear t1; refine wpList_boxS rfl _ _ rfl (encF x) rfl ?_; intro w1 b1 F1 J1)
      | (clear t2; refine wpList_boxS rfl _ _ rfl (encF y) rfl ?_; intro w2 b2 F2 I2; have J2 := J1.fresh F2; have B2 := Below.then (fresh_b F1) (fresh_b F2))
      | (go_at_call 6; refine (kw _ (hT.below B2)).mono ?_; rintro e w3 ⟨rfl, B3⟩; have I3 := I2.grown B3; have J3 := J2.grown B3; have l1 : True := trivial)
      | (clear l1; refine wpList_loadF rfl _ rfl rfl J3 ?_; have ta : True := trivial)
      | (clear ta; go_at_call 17; refine (k1 _).mono ?_; rintro e w4 ⟨rfl, B4⟩; have I4 := I3.grown B4; have J4 := J3.grown B4; have l2 : True := trivial)
      | (clear l2; refine wpList_loadF rfl _ rfl rfl I4 ?_; have tb : True := trivial)
      | (clear tb; go_at_call 17; refine (k2 _).mono ?_; rintro e w5 ⟨rfl, B5⟩; have I5 := I4.grown B5; have J5 := J4.grown B5; have tz : True := trivial)
      | (go_at_call 13; refine (num_any _ _).mono ?_; rintro e w' ⟨rfl, hw'⟩; replace hw' := hw'.symm; subst hw')
      | (clear tz; go_at_call 18; refine (ks _).mono ?_; rintro e w10 ⟨rfl, B10⟩; have th : True := trivial)
      | (clear th; refine wpList_allocS rfl _ rfl (encF FS.zero) zeroF ?_; intro w11 b11 F11 N11; have ti : True := trivial)
      | (clear ti; refine wpList_storeF rfl _ _ rfl rfl rfl N11 ?_; intro w12 U12 K12; have B12 : Below w10.heap.size w10 w12 := U12.trans (fresh_b F11) (by rw [F11.at']; exact Nat.le_refl _); have l7 : True := trivial)
      | (clear l7; refine wpList_loadF rfl _ rfl rfl K12 ?_; have tj : True := trivial)
      | (clear tj; go_at_call 17; refine (kz _).mono ?_; rintro e w13 ⟨rfl, B13⟩; have K13 := K12.grown B13; have l8 : True := trivial)
      | (clear l8; refine wpList_loadF rfl _ rfl rfl K13 ?_; have tk : True := trivial)
      | (clear tk; go_at_call 15; refine (kc _).mono ?_; rintro e w14 ⟨rfl, B14⟩))
  go_ret
  exact ⟨rfl, Below.then (Below.then (Below.then (Below.then (Below.then (Below.then (Below.then (B2) B3) B4) B5) B10) B12) B13) B14⟩
set_option maxRecDepth 100000 in
set_option maxHeartbeats 1000000 in
theorem back_21 (x y : FS) (a b s : ByteArray) (k1 : ∀ W, Calls Tryd.prog 17 #[.agg (encF x).toArray] W fun e w' => e = .returned (.tuple #[.string a, .int .i64 0]) ∧ Below W.heap.size W w')
    (k2 : ∀ W, Calls Tryd.prog 17 #[.agg (encF y).toArray] W fun e w' => e = .returned (.tuple #[.string b, .int .i64 4]) ∧ Below W.heap.size W w')
    (kd : ∀ W, Calls Tryd.prog 18 #[.string a] W fun e w' => e = .returned (.tuple #[.agg (encF x).toArray, .int .i64 0]) ∧ Below W.heap.size W w')
    (ks : ∀ W, Calls Tryd.prog 18 #[.string s] W fun e w' => e = .returned (.tuple #[.agg (encF FS.zero).toArray, .int .i64 5]) ∧ Below W.heap.size W w') (w : World) (hT : Tab10 w) :
    Calls Tryd.prog 4 #[.agg (encF x).toArray, .agg (encF y).toArray, .string s] w fun e w' => e = .returned (.bool true) ∧ Below w.heap.size w w' := by
  have kw := fun W (h : Tab10 W) => works_any W h
  have t1 : True := trivial
  have t2 : True := trivial
  go_enter Tryd.func4, Tryd.ntmps4
  go_wp2_with (first
      | (clear t1; refine wpList_boxS rfl _ _ rfl (encF x) rfl ?_; intro w1 b1 F1 J1)
      | (clear t2; refine wpList_boxS rfl _ _ rfl (encF y) rfl ?_; intro w2 b2 F2 I2; have J2 := J1.fresh F2; have B2 := Below.then (fresh_b F1) (fresh_b F2))
      | (go_at_call 6; refine (kw _ (hT.below B2)).mono ?_; rintro e w3 ⟨rfl, B3⟩; have I3 := I2.grown B3; have J3 := J2.grown B3; have l1 : True := trivial)
      | (clear l1; refine wpList_loadF rfl _ rfl rfl J3 ?_; have ta : True := trivial)
      | (clear ta; go_at_call 17; refine (k1 _).mono ?_; rintro e w4 ⟨rfl, B4⟩; have I4 := I3.grown B4; have J4 := J3.grown B4; have l2 : True := trivial)
      | (clear l2; refine wpList_loadF rfl _ rfl rfl I4 ?_; have tb : True := trivial)
      | (clear tb; go_at_call 17; refine (k2 _).mono ?_; rintro e w5 ⟨rfl, B5⟩; have I5 := I4.grown B5; have J5 := J4.grown B5; have tc : True := trivial)
      | (go_at_call 13; refine (num_any _ _).mono ?_; rintro e w' ⟨rfl, hw'⟩; replace hw' := hw'.symm; subst hw')
      | (clear tc; go_at_call 18; refine (kd _).mono ?_; rintro e w6 ⟨rfl, B6⟩; have I6 := I5.grown B6; have J6 := J5.grown B6; have td : True := trivial)
      | (clear td; refine wpList_allocS rfl _ rfl (encF FS.zero) zeroF ?_; intro w7 b7 F7 N7; have te : True := trivial)
      | (clear te; refine wpList_storeF rfl _ _ rfl rfl rfl N7 ?_; intro w8 U8 K8; have J8 := (J6.fresh F7).upd U8 (by have := J6.lt; rw [F7.at']; omega); have I8 := (I6.fresh F7).upd U8 (by have := I6.lt; rw [F7.at']; omega); have B8 : Below w6.heap.size w6 w8 := U8.trans (fresh_b F7) (by rw [F7.at']; exact Nat.le_refl _); have l3 : True := trivial)
      | (clear l3; refine wpList_loadGF (by rfl) _ rfl rfl K8 ?_; have l4 : True := trivial)
      | (clear l4; refine wpList_loadGF (by rfl) _ rfl rfl J8 ?_; have tf : True := trivial)
      | (clear tf; refine wpList_neqSame (by rfl) _ _ rfl rfl rfl ?_; have tz : True := trivial)
      | (clear tz; go_at_call 18; refine (ks _).mono ?_; rintro e w10 ⟨rfl, B10⟩; have th : True := trivial)
      | (clear th; refine wpList_allocS rfl _ rfl (encF FS.zero) zeroF ?_; intro w11 b11 F11 N11; have ti : True := trivial)
      | (clear ti; refine wpList_storeF rfl _ _ rfl rfl rfl N11 ?_; intro w12 U12 K12; have B12 : Below w10.heap.size w10 w12 := U12.trans (fresh_b F11) (by rw [F11.at']; exact Nat.le_refl _); have l7 : True := trivial)
      | (clear l7; refine wpList_loadF rfl _ rfl rfl K12 ?_; have tj : True := trivial)
      | (clear tj; refine wpList_build0F rfl rfl ?_; have tk : True := trivial)
      | (clear tk; refine wpList_eqSame (by rfl) _ _ rfl rfl rfl ?_))
  go_ret
  exact ⟨rfl, Below.then (Below.then (Below.then (Below.then (Below.then (Below.then (Below.then (B2) B3) B4) B5) B6) B8) B10) B12⟩
set_option maxRecDepth 100000 in
set_option maxHeartbeats 1000000 in
theorem back_22 (x y : FS) (a b s : ByteArray) (z : FS) (k1 : ∀ W, Calls Tryd.prog 17 #[.agg (encF x).toArray] W fun e w' => e = .returned (.tuple #[.string a, .int .i64 0]) ∧ Below W.heap.size W w')
    (k2 : ∀ W, Calls Tryd.prog 17 #[.agg (encF y).toArray] W fun e w' => e = .returned (.tuple #[.string b, .int .i64 4]) ∧ Below W.heap.size W w')
    (kd : ∀ W, Calls Tryd.prog 18 #[.string a] W fun e w' => e = .returned (.tuple #[.agg (encF x).toArray, .int .i64 0]) ∧ Below W.heap.size W w')
    (ks : ∀ W, Calls Tryd.prog 18 #[.string s] W fun e w' => e = .returned (.tuple #[.agg (encF z).toArray, .int .i64 0]) ∧ Below W.heap.size W w')
    (kz : ∀ W, Calls Tryd.prog 17 #[.agg (encF z).toArray] W fun e w' => e = .returned (.tuple #[.string s, .int .i64 0]) ∧ Below W.heap.size W w')
    (kc : ∀ W, Calls Tryd.prog 15 #[.agg (encF z).toArray] W fun e w' => e = .returned (.int .i64 0) ∧ Below W.heap.size W w') (w : World) (hT : Tab10 w) :
    Calls Tryd.prog 4 #[.agg (encF x).toArray, .agg (encF y).toArray, .string s] w fun e w' => e = .returned (.bool true) ∧ Below w.heap.size w w' := by
  have kw := fun W (h : Tab10 W) => works_any W h
  have t1 : True := trivial
  have t2 : True := trivial
  go_enter Tryd.func4, Tryd.ntmps4
  go_wp2_with (first
      | (clear t1; refine wpList_boxS rfl _ _ rfl (encF x) rfl ?_; intro w1 b1 F1 J1)
      | (clear t2; refine wpList_boxS rfl _ _ rfl (encF y) rfl ?_; intro w2 b2 F2 I2; have J2 := J1.fresh F2; have B2 := Below.then (fresh_b F1) (fresh_b F2))
      | (go_at_call 6; refine (kw _ (hT.below B2)).mono ?_; rintro e w3 ⟨rfl, B3⟩; have I3 := I2.grown B3; have J3 := J2.grown B3; have l1 : True := trivial)
      | (clear l1; refine wpList_loadF rfl _ rfl rfl J3 ?_; have ta : True := trivial)
      | (clear ta; go_at_call 17; refine (k1 _).mono ?_; rintro e w4 ⟨rfl, B4⟩; have I4 := I3.grown B4; have J4 := J3.grown B4; have l2 : True := trivial)
      | (clear l2; refine wpList_loadF rfl _ rfl rfl I4 ?_; have tb : True := trivial)
      | (clear tb; go_at_call 17; refine (k2 _).mono ?_; rintro e w5 ⟨rfl, B5⟩; have I5 := I4.grown B5; have J5 := J4.grown B5; have tc : True := trivial)
      | (go_at_call 13; refine (num_any _ _).mono ?_; rintro e w' ⟨rfl, hw'⟩; replace hw' := hw'.symm; subst hw')
      | (clear tc; go_at_call 18; refine (kd _).mono ?_; rintro e w6 ⟨rfl, B6⟩; have I6 := I5.grown B6; have J6 := J5.grown B6; have td : True := trivial)
      | (clear td; refine wpList_allocS rfl _ rfl (encF FS.zero) zeroF ?_; intro w7 b7 F7 N7; have te : True := trivial)
      | (clear te; refine wpList_storeF rfl _ _ rfl rfl rfl N7 ?_; intro w8 U8 K8; have J8 := (J6.fresh F7).upd U8 (by have := J6.lt; rw [F7.at']; omega); have I8 := (I6.fresh F7).upd U8 (by have := I6.lt; rw [F7.at']; omega); have B8 : Below w6.heap.size w6 w8 := U8.trans (fresh_b F7) (by rw [F7.at']; exact Nat.le_refl _); have l3 : True := trivial)
      | (clear l3; refine wpList_loadGF (by rfl) _ rfl rfl K8 ?_; have l4 : True := trivial)
      | (clear l4; refine wpList_loadGF (by rfl) _ rfl rfl J8 ?_; have tf : True := trivial)
      | (clear tf; refine wpList_neqSame (by rfl) _ _ rfl rfl rfl ?_; have tz : True := trivial)
      | (clear tz; go_at_call 18; refine (ks _).mono ?_; rintro e w10 ⟨rfl, B10⟩; have th : True := trivial)
      | (clear th; refine wpList_allocS rfl _ rfl (encF FS.zero) zeroF ?_; intro w11 b11 F11 N11; have ti : True := trivial)
      | (clear ti; refine wpList_storeF rfl _ _ rfl rfl rfl N11 ?_; intro w12 U12 K12; have B12 : Below w10.heap.size w10 w12 := U12.trans (fresh_b F11) (by rw [F11.at']; exact Nat.le_refl _); have l7 : True := trivial)
      | (clear l7; refine wpList_loadF rfl _ rfl rfl K12 ?_; have tj : True := trivial)
      | (clear tj; go_at_call 17; refine (kz _).mono ?_; rintro e w13 ⟨rfl, B13⟩; have K13 := K12.grown B13; have l8 : True := trivial)
      | (clear l8; refine wpList_loadF rfl _ rfl rfl K13 ?_; have tk : True := trivial)
      | (clear tk; go_at_call 15; refine (kc _).mono ?_; rintro e w14 ⟨rfl, B14⟩))
  go_ret
  exact ⟨rfl, Below.then (Below.then (Below.then (Below.then (Below.then (Below.then (Below.then (Below.then (Below.then (B2) B3) B4) B5) B6) B8) B10) B12) B13) B14⟩
set_option maxRecDepth 100000 in
set_option maxHeartbeats 1000000 in
theorem back_3t1 (x y : FS) (a b s : ByteArray) (k1 : ∀ W, Calls Tryd.prog 17 #[.agg (encF x).toArray] W fun e w' => e = .returned (.tuple #[.string a, .int .i64 0]) ∧ Below W.heap.size W w')
    (k2 : ∀ W, Calls Tryd.prog 17 #[.agg (encF y).toArray] W fun e w' => e = .returned (.tuple #[.string b, .int .i64 0]) ∧ Below W.heap.size W w')
    (kd : ∀ W, Calls Tryd.prog 18 #[.string a] W fun e w' => e = .returned (.tuple #[.agg (encF x).toArray, .int .i64 0]) ∧ Below W.heap.size W w')
    (ha : a.size ≤ maxLen) (hb : b.size ≤ maxLen) (hle : a.size ≤ b.size) (hbeg : ((b.extract 0 a.size).toList == a.toList) = true) (hd : decide (x = y) = true)
    (ks : ∀ W, Calls Tryd.prog 18 #[.string s] W fun e w' => e = .returned (.tuple #[.agg (encF FS.zero).toArray, .int .i64 5]) ∧ Below W.heap.size W w') (w : World) (hT : Tab10 w) :
    Calls Tryd.prog 4 #[.agg (encF x).toArray, .agg (encF y).toArray, .string s] w fun e w' => e = .returned (.bool true) ∧ Below w.heap.size w w' := by
  have kw := fun W (h : Tab10 W) => works_any W h
  have t1 : True := trivial
  have t2 : True := trivial
  go_enter Tryd.func4, Tryd.ntmps4
  go_wp2_with (first
      | (clear t1; refine wpList_boxS rfl _ _ rfl (encF x) rfl ?_; intro w1 b1 F1 J1)
      | (clear t2; refine wpList_boxS rfl _ _ rfl (encF y) rfl ?_; intro w2 b2 F2 I2; have J2 := J1.fresh F2; have B2 := Below.then (fresh_b F1) (fresh_b F2))
      | (go_at_call 6; refine (kw _ (hT.below B2)).mono ?_; rintro e w3 ⟨rfl, B3⟩; have I3 := I2.grown B3; have J3 := J2.grown B3; have l1 : True := trivial)
      | (clear l1; refine wpList_loadF rfl _ rfl rfl J3 ?_; have ta : True := trivial)
      | (clear ta; go_at_call 17; refine (k1 _).mono ?_; rintro e w4 ⟨rfl, B4⟩; have I4 := I3.grown B4; have J4 := J3.grown B4; have l2 : True := trivial)
      | (clear l2; refine wpList_loadF rfl _ rfl rfl I4 ?_; have tb : True := trivial)
      | (clear tb; go_at_call 17; refine (k2 _).mono ?_; rintro e w5 ⟨rfl, B5⟩; have I5 := I4.grown B5; have J5 := J4.grown B5; have tc : True := trivial)
      | (go_at_call 13; refine (num_any _ _).mono ?_; rintro e w' ⟨rfl, hw'⟩; replace hw' := hw'.symm; subst hw')
      | (clear tc; go_at_call 18; refine (kd _).mono ?_; rintro e w6 ⟨rfl, B6⟩; have I6 := I5.grown B6; have J6 := J5.grown B6; have td : True := trivial)
      | (clear td; refine wpList_allocS rfl _ rfl (encF FS.zero) zeroF ?_; intro w7 b7 F7 N7; have te : True := trivial)
      | (clear te; refine wpList_storeF rfl _ _ rfl rfl rfl N7 ?_; intro w8 U8 K8; have J8 := (J6.fresh F7).upd U8 (by have := J6.lt; rw [F7.at']; omega); have I8 := (I6.fresh F7).upd U8 (by have := I6.lt; rw [F7.at']; omega); have B8 : Below w6.heap.size w6 w8 := U8.trans (fresh_b F7) (by rw [F7.at']; exact Nat.le_refl _); have l3 : True := trivial)
      | (clear l3; refine wpList_loadGF (by rfl) _ rfl rfl K8 ?_; have l4 : True := trivial)
      | (clear l4; refine wpList_loadGF (by rfl) _ rfl rfl J8 ?_; have tf : True := trivial)
      | (clear tf; refine wpList_neqSame (by rfl) _ _ rfl rfl rfl ?_; have l5 : True := trivial)
      | (clear l5; refine wpList_loadF rfl _ rfl rfl J8 ?_; have l6 : True := trivial)
      | (clear l6; refine wpList_loadF rfl _ rfl rfl I8 ?_; have tg : True := trivial)
      | (clear tg; refine wpList_eqAs (by rfl) _ _ rfl rfl rfl _ hd ?_; have tz : True := trivial)
      | (clear tz; go_at_call 18; refine (ks _).mono ?_; rintro e w10 ⟨rfl, B10⟩; have th : True := trivial)
      | (clear th; refine wpList_allocS rfl _ rfl (encF FS.zero) zeroF ?_; intro w11 b11 F11 N11; have ti : True := trivial)
      | (clear ti; refine wpList_storeF rfl _ _ rfl rfl rfl N11 ?_; intro w12 U12 K12; have B12 : Below w10.heap.size w10 w12 := U12.trans (fresh_b F11) (by rw [F11.at']; exact Nat.le_refl _); have l7 : True := trivial)
      | (clear l7; refine wpList_loadF rfl _ rfl rfl K12 ?_; have tj : True := trivial)
      | (clear tj; refine wpList_build0F rfl rfl ?_; have tk : True := trivial)
      | (clear tk; refine wpList_eqSame (by rfl) _ _ rfl rfl rfl ?_))
  go_ret
  exact ⟨rfl, Below.then (Below.then (Below.then (Below.then (Below.then (Below.then (Below.then (B2) B3) B4) B5) B6) B8) B10) B12⟩
set_option maxRecDepth 100000 in
set_option maxHeartbeats 1000000 in
theorem back_3t2 (x y : FS) (a b s : ByteArray) (z : FS) (k1 : ∀ W, Calls Tryd.prog 17 #[.agg (encF x).toArray] W fun e w' => e = .returned (.tuple #[.string a, .int .i64 0]) ∧ Below W.heap.size W w')
    (k2 : ∀ W, Calls Tryd.prog 17 #[.agg (encF y).toArray] W fun e w' => e = .returned (.tuple #[.string b, .int .i64 0]) ∧ Below W.heap.size W w')
    (kd : ∀ W, Calls Tryd.prog 18 #[.string a] W fun e w' => e = .returned (.tuple #[.agg (encF x).toArray, .int .i64 0]) ∧ Below W.heap.size W w')
    (ha : a.size ≤ maxLen) (hb : b.size ≤ maxLen) (hle : a.size ≤ b.size) (hbeg : ((b.extract 0 a.size).toList == a.toList) = true) (hd : decide (x = y) = true)
    (ks : ∀ W, Calls Tryd.prog 18 #[.string s] W fun e w' => e = .returned (.tuple #[.agg (encF z).toArray, .int .i64 0]) ∧ Below W.heap.size W w')
    (kz : ∀ W, Calls Tryd.prog 17 #[.agg (encF z).toArray] W fun e w' => e = .returned (.tuple #[.string s, .int .i64 0]) ∧ Below W.heap.size W w')
    (kc : ∀ W, Calls Tryd.prog 15 #[.agg (encF z).toArray] W fun e w' => e = .returned (.int .i64 0) ∧ Below W.heap.size W w') (w : World) (hT : Tab10 w) :
    Calls Tryd.prog 4 #[.agg (encF x).toArray, .agg (encF y).toArray, .string s] w fun e w' => e = .returned (.bool true) ∧ Below w.heap.size w w' := by
  have kw := fun W (h : Tab10 W) => works_any W h
  have t1 : True := trivial
  have t2 : True := trivial
  go_enter Tryd.func4, Tryd.ntmps4
  go_wp2_with (first
      | (clear t1; refine wpList_boxS rfl _ _ rfl (encF x) rfl ?_; intro w1 b1 F1 J1)
      | (clear t2; refine wpList_boxS rfl _ _ rfl (encF y) rfl ?_; intro w2 b2 F2 I2; have J2 := J1.fresh F2; have B2 := Below.then (fresh_b F1) (fresh_b F2))
      | (go_at_call 6; refine (kw _ (hT.below B2)).mono ?_; rintro e w3 ⟨rfl, B3⟩; have I3 := I2.grown B3; have J3 := J2.grown B3; have l1 : True := trivial)
      | (clear l1; refine wpList_loadF rfl _ rfl rfl J3 ?_; have ta : True := trivial)
      | (clear ta; go_at_call 17; refine (k1 _).mono ?_; rintro e w4 ⟨rfl, B4⟩; have I4 := I3.grown B4; have J4 := J3.grown B4; have l2 : True := trivial)
      | (clear l2; refine wpList_loadF rfl _ rfl rfl I4 ?_; have tb : True := trivial)
      | (clear tb; go_at_call 17; refine (k2 _).mono ?_; rintro e w5 ⟨rfl, B5⟩; have I5 := I4.grown B5; have J5 := J4.grown B5; have tc : True := trivial)
      | (go_at_call 13; refine (num_any _ _).mono ?_; rintro e w' ⟨rfl, hw'⟩; replace hw' := hw'.symm; subst hw')
      | (clear tc; go_at_call 18; refine (kd _).mono ?_; rintro e w6 ⟨rfl, B6⟩; have I6 := I5.grown B6; have J6 := J5.grown B6; have td : True := trivial)
      | (clear td; refine wpList_allocS rfl _ rfl (encF FS.zero) zeroF ?_; intro w7 b7 F7 N7; have te : True := trivial)
      | (clear te; refine wpList_storeF rfl _ _ rfl rfl rfl N7 ?_; intro w8 U8 K8; have J8 := (J6.fresh F7).upd U8 (by have := J6.lt; rw [F7.at']; omega); have I8 := (I6.fresh F7).upd U8 (by have := I6.lt; rw [F7.at']; omega); have B8 : Below w6.heap.size w6 w8 := U8.trans (fresh_b F7) (by rw [F7.at']; exact Nat.le_refl _); have l3 : True := trivial)
      | (clear l3; refine wpList_loadGF (by rfl) _ rfl rfl K8 ?_; have l4 : True := trivial)
      | (clear l4; refine wpList_loadGF (by rfl) _ rfl rfl J8 ?_; have tf : True := trivial)
      | (clear tf; refine wpList_neqSame (by rfl) _ _ rfl rfl rfl ?_; have l5 : True := trivial)
      | (clear l5; refine wpList_loadF rfl _ rfl rfl J8 ?_; have l6 : True := trivial)
      | (clear l6; refine wpList_loadF rfl _ rfl rfl I8 ?_; have tg : True := trivial)
      | (clear tg; refine wpList_eqAs (by rfl) _ _ rfl rfl rfl _ hd ?_; have tz : True := trivial)
      | (clear tz; go_at_call 18; refine (ks _).mono ?_; rintro e w10 ⟨rfl, B10⟩; have th : True := trivial)
      | (clear th; refine wpList_allocS rfl _ rfl (encF FS.zero) zeroF ?_; intro w11 b11 F11 N11; have ti : True := trivial)
      | (clear ti; refine wpList_storeF rfl _ _ rfl rfl rfl N11 ?_; intro w12 U12 K12; have B12 : Below w10.heap.size w10 w12 := U12.trans (fresh_b F11) (by rw [F11.at']; exact Nat.le_refl _); have l7 : True := trivial)
      | (clear l7; refine wpList_loadF rfl _ rfl rfl K12 ?_; have tj : True := trivial)
      | (clear tj; go_at_call 17; refine (kz _).mono ?_; rintro e w13 ⟨rfl, B13⟩; have K13 := K12.grown B13; have l8 : True := trivial)
      | (clear l8; refine wpList_loadF rfl _ rfl rfl K13 ?_; have tk : True := trivial)
      | (clear tk; go_at_call 15; refine (kc _).mono ?_; rintro e w14 ⟨rfl, B14⟩))
  go_ret
  exact ⟨rfl, Below.then (Below.then (Below.then (Below.then (Below.then (Below.then (Below.then (Below.then (Below.then (B2) B3) B4) B5) B6) B8) B10) B12) B13) B14⟩
set_option maxRecDepth 100000 in
set_option maxHeartbeats 1000000 in
theorem back_3f1 (x y : FS) (a b s : ByteArray) (k1 : ∀ W, Calls Tryd.prog 17 #[.agg (encF x).toArray] W fun e w' => e = .returned (.tuple #[.string a, .int .i64 0]) ∧ Below W.heap.size W w')
    (k2 : ∀ W, Calls Tryd.prog 17 #[.agg (encF y).toArray] W fun e w' => e = .returned (.tuple #[.string b, .int .i64 0]) ∧ Below W.heap.size W w')
    (kd : ∀ W, Calls Tryd.prog 18 #[.string a] W fun e w' => e = .returned (.tuple #[.agg (encF x).toArray, .int .i64 0]) ∧ Below W.heap.size W w')
    (ha : a.size ≤ maxLen) (hb : b.size ≤ maxLen) (hle : a.size ≤ b.size) (hbeg : ((b.extract 0 a.size).toList == a.toList) = false) (hd : decide (x = y) = false)
    (ks : ∀ W, Calls Tryd.prog 18 #[.string s] W fun e w' => e = .returned (.tuple #[.agg (encF FS.zero).toArray, .int .i64 5]) ∧ Below W.heap.size W w') (w : World) (hT : Tab10 w) :
    Calls Tryd.prog 4 #[.agg (encF x).toArray, .agg (encF y).toArray, .string s] w fun e w' => e = .returned (.bool true) ∧ Below w.heap.size w w' := by
  have kw := fun W (h : Tab10 W) => works_any W h
  have t1 : True := trivial
  have t2 : True := trivial
  go_enter Tryd.func4, Tryd.ntmps4
  go_wp2_with (first
      | (clear t1; refine wpList_boxS rfl _ _ rfl (encF x) rfl ?_; intro w1 b1 F1 J1)
      | (clear t2; refine wpList_boxS rfl _ _ rfl (encF y) rfl ?_; intro w2 b2 F2 I2; have J2 := J1.fresh F2; have B2 := Below.then (fresh_b F1) (fresh_b F2))
      | (go_at_call 6; refine (kw _ (hT.below B2)).mono ?_; rintro e w3 ⟨rfl, B3⟩; have I3 := I2.grown B3; have J3 := J2.grown B3; have l1 : True := trivial)
      | (clear l1; refine wpList_loadF rfl _ rfl rfl J3 ?_; have ta : True := trivial)
      | (clear ta; go_at_call 17; refine (k1 _).mono ?_; rintro e w4 ⟨rfl, B4⟩; have I4 := I3.grown B4; have J4 := J3.grown B4; have l2 : True := trivial)
      | (clear l2; refine wpList_loadF rfl _ rfl rfl I4 ?_; have tb : True := trivial)
      | (clear tb; go_at_call 17; refine (k2 _).mono ?_; rintro e w5 ⟨rfl, B5⟩; have I5 := I4.grown B5; have J5 := J4.grown B5; have tc : True := trivial)
      | (go_at_call 13; refine (num_any _ _).mono ?_; rintro e w' ⟨rfl, hw'⟩; replace hw' := hw'.symm; subst hw')
      | (clear tc; go_at_call 18; refine (kd _).mono ?_; rintro e w6 ⟨rfl, B6⟩; have I6 := I5.grown B6; have J6 := J5.grown B6; have td : True := trivial)
      | (clear td; refine wpList_allocS rfl _ rfl (encF FS.zero) zeroF ?_; intro w7 b7 F7 N7; have te : True := trivial)
      | (clear te; refine wpList_storeF rfl _ _ rfl rfl rfl N7 ?_; intro w8 U8 K8; have J8 := (J6.fresh F7).upd U8 (by have := J6.lt; rw [F7.at']; omega); have I8 := (I6.fresh F7).upd U8 (by have := I6.lt; rw [F7.at']; omega); have B8 : Below w6.heap.size w6 w8 := U8.trans (fresh_b F7) (by rw [F7.at']; exact Nat.le_refl _); have l3 : True := trivial)
      | (clear l3; refine wpList_loadGF (by rfl) _ rfl rfl K8 ?_; have l4 : True := trivial)
      | (clear l4; refine wpList_loadGF (by rfl) _ rfl rfl J8 ?_; have tf : True := trivial)
      | (clear tf; refine wpList_neqSame (by rfl) _ _ rfl rfl rfl ?_; have l5 : True := trivial)
      | (clear l5; refine wpList_loadF rfl _ rfl rfl J8 ?_; have l6 : True := trivial)
      | (clear l6; refine wpList_loadF rfl _ rfl rfl I8 ?_; have tg : True := trivial)
      | (clear tg; refine wpList_eqAs (by rfl) _ _ rfl rfl rfl _ hd ?_; have tz : True := trivial)
      | (clear tz; go_at_call 18; refine (ks _).mono ?_; rintro e w10 ⟨rfl, B10⟩; have th : True := trivial)
      | (clear th; refine wpList_allocS rfl _ rfl (encF FS.zero) zeroF ?_; intro w11 b11 F11 N11; have ti : True := trivial)
      | (clear ti; refine wpList_storeF rfl _ _ rfl rfl rfl N11 ?_; intro w12 U12 K12; have B12 : Below w10.heap.size w10 w12 := U12.trans (fresh_b F11) (by rw [F11.at']; exact Nat.le_refl _); have l7 : True := trivial)
      | (clear l7; refine wpList_loadF rfl _ rfl rfl K12 ?_; have tj : True := trivial)
      | (clear tj; refine wpList_build0F rfl rfl ?_; have tk : True := trivial)
      | (clear tk; refine wpList_eqSame (by rfl) _ _ rfl rfl rfl ?_))
  go_ret
  exact ⟨rfl, Below.then (Below.then (Below.then (Below.then (Below.then (Below.then (Below.then (B2) B3) B4) B5) B6) B8) B10) B12⟩
set_option maxRecDepth 100000 in
set_option maxHeartbeats 1000000 in
theorem back_3f2 (x y : FS) (a b s : ByteArray) (z : FS) (k1 : ∀ W, Calls Tryd.prog 17 #[.agg (encF x).toArray] W fun e w' => e = .returned (.tuple #[.string a, .int .i64 0]) ∧ Below W.heap.size W w')
    (k2 : ∀ W, Calls Tryd.prog 17 #[.agg (encF y).toArray] W fun e w' => e = .returned (.tuple #[.string b, .int .i64 0]) ∧ Below W.heap.size W w')
    (kd : ∀ W, Calls Tryd.prog 18 #[.string a] W fun e w' => e = .returned (.tuple #[.agg (encF x).toArray, .int .i64 0]) ∧ Below W.heap.size W w')
    (ha : a.size ≤ maxLen) (hb : b.size ≤ maxLen) (hle : a.size ≤ b.size) (hbeg : ((b.extract 0 a.size).toList == a.toList) = false) (hd : decide (x = y) = false)
    (ks : ∀ W, Calls Tryd.prog 18 #[.string s] W fun e w' => e = .returned (.tuple #[.agg (encF z).toArray, .int .i64 0]) ∧ Below W.heap.size W w')
    (kz : ∀ W, Calls Tryd.prog 17 #[.agg (encF z).toArray] W fun e w' => e = .returned (.tuple #[.string s, .int .i64 0]) ∧ Below W.heap.size W w')
    (kc : ∀ W, Calls Tryd.prog 15 #[.agg (encF z).toArray] W fun e w' => e = .returned (.int .i64 0) ∧ Below W.heap.size W w') (w : World) (hT : Tab10 w) :
    Calls Tryd.prog 4 #[.agg (encF x).toArray, .agg (encF y).toArray, .string s] w fun e w' => e = .returned (.bool true) ∧ Below w.heap.size w w' := by
  have kw := fun W (h : Tab10 W) => works_any W h
  have t1 : True := trivial
  have t2 : True := trivial
  go_enter Tryd.func4, Tryd.ntmps4
  go_wp2_with (first
      | (clear t1; refine wpList_boxS rfl _ _ rfl (encF x) rfl ?_; intro w1 b1 F1 J1)
      | (clear t2; refine wpList_boxS rfl _ _ rfl (encF y) rfl ?_; intro w2 b2 F2 I2; have J2 := J1.fresh F2; have B2 := Below.then (fresh_b F1) (fresh_b F2))
      | (go_at_call 6; refine (kw _ (hT.below B2)).mono ?_; rintro e w3 ⟨rfl, B3⟩; have I3 := I2.grown B3; have J3 := J2.grown B3; have l1 : True := trivial)
      | (clear l1; refine wpList_loadF rfl _ rfl rfl J3 ?_; have ta : True := trivial)
      | (clear ta; go_at_call 17; refine (k1 _).mono ?_; rintro e w4 ⟨rfl, B4⟩; have I4 := I3.grown B4; have J4 := J3.grown B4; have l2 : True := trivial)
      | (clear l2; refine wpList_loadF rfl _ rfl rfl I4 ?_; have tb : True := trivial)
      | (clear tb; go_at_call 17; refine (k2 _).mono ?_; rintro e w5 ⟨rfl, B5⟩; have I5 := I4.grown B5; have J5 := J4.grown B5; have tc : True := trivial)
      | (go_at_call 13; refine (num_any _ _).mono ?_; rintro e w' ⟨rfl, hw'⟩; replace hw' := hw'.symm; subst hw')
      | (clear tc; go_at_call 18; refine (kd _).mono ?_; rintro e w6 ⟨rfl, B6⟩; have I6 := I5.grown B6; have J6 := J5.grown B6; have td : True := trivial)
      | (clear td; refine wpList_allocS rfl _ rfl (encF FS.zero) zeroF ?_; intro w7 b7 F7 N7; have te : True := trivial)
      | (clear te; refine wpList_storeF rfl _ _ rfl rfl rfl N7 ?_; intro w8 U8 K8; have J8 := (J6.fresh F7).upd U8 (by have := J6.lt; rw [F7.at']; omega); have I8 := (I6.fresh F7).upd U8 (by have := I6.lt; rw [F7.at']; omega); have B8 : Below w6.heap.size w6 w8 := U8.trans (fresh_b F7) (by rw [F7.at']; exact Nat.le_refl _); have l3 : True := trivial)
      | (clear l3; refine wpList_loadGF (by rfl) _ rfl rfl K8 ?_; have l4 : True := trivial)
      | (clear l4; refine wpList_loadGF (by rfl) _ rfl rfl J8 ?_; have tf : True := trivial)
      | (clear tf; refine wpList_neqSame (by rfl) _ _ rfl rfl rfl ?_; have l5 : True := trivial)
      | (clear l5; refine wpList_loadF rfl _ rfl rfl J8 ?_; have l6 : True := trivial)
      | (clear l6; refine wpList_loadF rfl _ rfl rfl I8 ?_; have tg : True := trivial)
      | (clear tg; refine wpList_eqAs (by rfl) _ _ rfl rfl rfl _ hd ?_; have tz : True := trivial)
      | (clear tz; go_at_call 18; refine (ks _).mono ?_; rintro e w10 ⟨rfl, B10⟩; have th : True := trivial)
      | (clear th; refine wpList_allocS rfl _ rfl (encF FS.zero) zeroF ?_; intro w11 b11 F11 N11; have ti : True := trivial)
      | (clear ti; refine wpList_storeF rfl _ _ rfl rfl rfl N11 ?_; intro w12 U12 K12; have B12 : Below w10.heap.size w10 w12 := U12.trans (fresh_b F11) (by rw [F11.at']; exact Nat.le_refl _); have l7 : True := trivial)
      | (clear l7; refine wpList_loadF rfl _ rfl rfl K12 ?_; have tj : True := trivial)
      | (clear tj; go_at_call 17; refine (kz _).mono ?_; rintro e w13 ⟨rfl, B13⟩; have K13 := K12.grown B13; have l8 : True := trivial)
      | (clear l8; refine wpList_loadF rfl _ rfl rfl K13 ?_; have tk : True := trivial)
      | (clear tk; go_at_call 15; refine (kc _).mono ?_; rintro e w14 ⟨rfl, B14⟩))
  go_ret
  exact ⟨rfl, Below.then (Below.then (Below.then (Below.then (Below.then (Below.then (Below.then (Below.then (Below.then (B2) B3) B4) B5) B6) B8) B10) B12) B13) B14⟩
set_option maxRecDepth 100000 in
set_option maxHeartbeats 1000000 in
theorem back_41 (x y : FS) (a b s : ByteArray) (k1 : ∀ W, Calls Tryd.prog 17 #[.agg (encF x).toArray] W fun e w' => e = .returned (.tuple #[.string a, .int .i64 0]) ∧ Below W.heap.size W w')
    (k2 : ∀ W, Calls Tryd.prog 17 #[.agg (encF y).toArray] W fun e w' => e = .returned (.tuple #[.string b, .int .i64 0]) ∧ Below W.heap.size W w')
    (kd : ∀ W, Calls Tryd.prog 18 #[.string a] W fun e w' => e = .returned (.tuple #[.agg (encF x).toArray, .int .i64 0]) ∧ Below W.heap.size W w')
    (ha : a.size ≤ maxLen) (hb : b.size ≤ maxLen) (hle : b.size < a.size) (hd : decide (x = y) = false)
    (ks : ∀ W, Calls Tryd.prog 18 #[.string s] W fun e w' => e = .returned (.tuple #[.agg (encF FS.zero).toArray, .int .i64 5]) ∧ Below W.heap.size W w') (w : World) (hT : Tab10 w) :
    Calls Tryd.prog 4 #[.agg (encF x).toArray, .agg (encF y).toArray, .string s] w fun e w' => e = .returned (.bool true) ∧ Below w.heap.size w w' := by
  have kw := fun W (h : Tab10 W) => works_any W h
  have t1 : True := trivial
  have t2 : True := trivial
  go_enter Tryd.func4, Tryd.ntmps4
  go_wp2_with (first
      | (clear t1; refine wpList_boxS rfl _ _ rfl (encF x) rfl ?_; intro w1 b1 F1 J1)
      | (clear t2; refine wpList_boxS rfl _ _ rfl (encF y) rfl ?_; intro w2 b2 F2 I2; have J2 := J1.fresh F2; have B2 := Below.then (fresh_b F1) (fresh_b F2))
      | (go_at_call 6; refine (kw _ (hT.below B2)).mono ?_; rintro e w3 ⟨rfl, B3⟩; have I3 := I2.grown B3; have J3 := J2.grown B3; have l1 : True := trivial)
      | (clear l1; refine wpList_loadF rfl _ rfl rfl J3 ?_; have ta : True := trivial)
      | (clear ta; go_at_call 17; refine (k1 _).mono ?_; rintro e w4 ⟨rfl, B4⟩; have I4 := I3.grown B4; have J4 := J3.grown B4; have l2 : True := trivial)
      | (clear l2; refine wpList_loadF rfl _ rfl rfl I4 ?_; have tb : True := trivial)
      | (clear tb; go_at_call 17; refine (k2 _).mono ?_; rintro e w5 ⟨rfl, B5⟩; have I5 := I4.grown B5; have J5 := J4.grown B5; have tc : True := trivial)
      | (go_at_call 13; refine (num_any _ _).mono ?_; rintro e w' ⟨rfl, hw'⟩; replace hw' := hw'.symm; subst hw')
      | (clear tc; go_at_call 18; refine (kd _).mono ?_; rintro e w6 ⟨rfl, B6⟩; have I6 := I5.grown B6; have J6 := J5.grown B6; have td : True := trivial)
      | (clear td; refine wpList_allocS rfl _ rfl (encF FS.zero) zeroF ?_; intro w7 b7 F7 N7; have te : True := trivial)
      | (clear te; refine wpList_storeF rfl _ _ rfl rfl rfl N7 ?_; intro w8 U8 K8; have J8 := (J6.fresh F7).upd U8 (by have := J6.lt; rw [F7.at']; omega); have I8 := (I6.fresh F7).upd U8 (by have := I6.lt; rw [F7.at']; omega); have B8 : Below w6.heap.size w6 w8 := U8.trans (fresh_b F7) (by rw [F7.at']; exact Nat.le_refl _); have l3 : True := trivial)
      | (clear l3; refine wpList_loadGF (by rfl) _ rfl rfl K8 ?_; have l4 : True := trivial)
      | (clear l4; refine wpList_loadGF (by rfl) _ rfl rfl J8 ?_; have tf : True := trivial)
      | (clear tf; refine wpList_neqSame (by rfl) _ _ rfl rfl rfl ?_; have l5 : True := trivial)
      | (clear l5; refine wpList_loadF rfl _ rfl rfl J8 ?_; have l6 : True := trivial)
      | (clear l6; refine wpList_loadF rfl _ rfl rfl I8 ?_; have tg : True := trivial)
      | (clear tg; refine wpList_eqAs (by rfl) _ _ rfl rfl rfl _ hd ?_; have tz : True := trivial)
      | (clear tz; go_at_call 18; refine (ks _).mono ?_; rintro e w10 ⟨rfl, B10⟩; have th : True := trivial)
      | (clear th; refine wpList_allocS rfl _ rfl (encF FS.zero) zeroF ?_; intro w11 b11 F11 N11; have ti : True := trivial)
      | (clear ti; refine wpList_storeF rfl _ _ rfl rfl rfl N11 ?_; intro w12 U12 K12; have B12 : Below w10.heap.size w10 w12 := U12.trans (fresh_b F11) (by rw [F11.at']; exact Nat.le_refl _); have l7 : True := trivial)
      | (clear l7; refine wpList_loadF rfl _ rfl rfl K12 ?_; have tj : True := trivial)
      | (clear tj; refine wpList_build0F rfl rfl ?_; have tk : True := trivial)
      | (clear tk; refine wpList_eqSame (by rfl) _ _ rfl rfl rfl ?_))
  go_ret
  exact ⟨rfl, Below.then (Below.then (Below.then (Below.then (Below.then (Below.then (Below.then (B2) B3) B4) B5) B6) B8) B10) B12⟩
set_option maxRecDepth 100000 in
set_option maxHeartbeats 1000000 in
theorem back_42 (x y : FS) (a b s : ByteArray) (z : FS) (k1 : ∀ W, Calls Tryd.prog 17 #[.agg (encF x).toArray] W fun e w' => e = .returned (.tuple #[.string a, .int .i64 0]) ∧ Below W.heap.size W w')
    (k2 : ∀ W, Calls Tryd.prog 17 #[.agg (encF y).toArray] W fun e w' => e = .returned (.tuple #[.string b, .int .i64 0]) ∧ Below W.heap.size W w')
    (kd : ∀ W, Calls Tryd.prog 18 #[.string a] W fun e w' => e = .returned (.tuple #[.agg (encF x).toArray, .int .i64 0]) ∧ Below W.heap.size W w')
    (ha : a.size ≤ maxLen) (hb : b.size ≤ maxLen) (hle : b.size < a.size) (hd : decide (x = y) = false)
    (ks : ∀ W, Calls Tryd.prog 18 #[.string s] W fun e w' => e = .returned (.tuple #[.agg (encF z).toArray, .int .i64 0]) ∧ Below W.heap.size W w')
    (kz : ∀ W, Calls Tryd.prog 17 #[.agg (encF z).toArray] W fun e w' => e = .returned (.tuple #[.string s, .int .i64 0]) ∧ Below W.heap.size W w')
    (kc : ∀ W, Calls Tryd.prog 15 #[.agg (encF z).toArray] W fun e w' => e = .returned (.int .i64 0) ∧ Below W.heap.size W w') (w : World) (hT : Tab10 w) :
    Calls Tryd.prog 4 #[.agg (encF x).toArray, .agg (encF y).toArray, .string s] w fun e w' => e = .returned (.bool true) ∧ Below w.heap.size w w' := by
  have kw := fun W (h : Tab10 W) => works_any W h
  have t1 : True := trivial
  have t2 : True := trivial
  go_enter Tryd.func4, Tryd.ntmps4
  go_wp2_with (first
      | (clear t1; refine wpList_boxS rfl _ _ rfl (encF x) rfl ?_; intro w1 b1 F1 J1)
      | (clear t2; refine wpList_boxS rfl _ _ rfl (encF y) rfl ?_; intro w2 b2 F2 I2; have J2 := J1.fresh F2; have B2 := Below.then (fresh_b F1) (fresh_b F2))
      | (go_at_call 6; refine (kw _ (hT.below B2)).mono ?_; rintro e w3 ⟨rfl, B3⟩; have I3 := I2.grown B3; have J3 := J2.grown B3; have l1 : True := trivial)
      | (clear l1; refine wpList_loadF rfl _ rfl rfl J3 ?_; have ta : True := trivial)
      | (clear ta; go_at_call 17; refine (k1 _).mono ?_; rintro e w4 ⟨rfl, B4⟩; have I4 := I3.grown B4; have J4 := J3.grown B4; have l2 : True := trivial)
      | (clear l2; refine wpList_loadF rfl _ rfl rfl I4 ?_; have tb : True := trivial)
      | (clear tb; go_at_call 17; refine (k2 _).mono ?_; rintro e w5 ⟨rfl, B5⟩; have I5 := I4.grown B5; have J5 := J4.grown B5; have tc : True := trivial)
      | (go_at_call 13; refine (num_any _ _).mono ?_; rintro e w' ⟨rfl, hw'⟩; replace hw' := hw'.symm; subst hw')
      | (clear tc; go_at_call 18; refine (kd _).mono ?_; rintro e w6 ⟨rfl, B6⟩; have I6 := I5.grown B6; have J6 := J5.grown B6; have td : True := trivial)
      | (clear td; refine wpList_allocS rfl _ rfl (encF FS.zero) zeroF ?_; intro w7 b7 F7 N7; have te : True := trivial)
      | (clear te; refine wpList_storeF rfl _ _ rfl rfl rfl N7 ?_; intro w8 U8 K8; have J8 := (J6.fresh F7).upd U8 (by have := J6.lt; rw [F7.at']; omega); have I8 := (I6.fresh F7).upd U8 (by have := I6.lt; rw [F7.at']; omega); have B8 : Below w6.heap.size w6 w8 := U8.trans (fresh_b F7) (by rw [F7.at']; exact Nat.le_refl _); have l3 : True := trivial)
      | (clear l3; refine wpList_loadGF (by rfl) _ rfl rfl K8 ?_; have l4 : True := trivial)
      | (clear l4; refine wpList_loadGF (by rfl) _ rfl rfl J8 ?_; have tf : True := trivial)
      | (clear tf; refine wpList_neqSame (by rfl) _ _ rfl rfl rfl ?_; have l5 : True := trivial)
      | (clear l5; refine wpList_loadF rfl _ rfl rfl J8 ?_; have l6 : True := trivial)
      | (clear l6; refine wpList_loadF rfl _ rfl rfl I8 ?_; have tg : True := trivial)
      | (clear tg; refine wpList_eqAs (by rfl) _ _ rfl rfl rfl _ hd ?_; have tz : True := trivial)
      | (clear tz; go_at_call 18; refine (ks _).mono ?_; rintro e w10 ⟨rfl, B10⟩; have th : True := trivial)
      | (clear th; refine wpList_allocS rfl _ rfl (encF FS.zero) zeroF ?_; intro w11 b11 F11 N11; have ti : True := trivial)
      | (clear ti; refine wpList_storeF rfl _ _ rfl rfl rfl N11 ?_; intro w12 U12 K12; have B12 : Below w10.heap.size w10 w12 := U12.trans (fresh_b F11) (by rw [F11.at']; exact Nat.le_refl _); have l7 : True := trivial)
      | (clear l7; refine wpList_loadF rfl _ rfl rfl K12 ?_; have tj : True := trivial)
      | (clear tj; go_at_call 17; refine (kz _).mono ?_; rintro e w13 ⟨rfl, B13⟩; have K13 := K12.grown B13; have l8 : True := trivial)
      | (clear l8; refine wpList_loadF rfl _ rfl rfl K13 ?_; have tk : True := trivial)
      | (clear tk; go_at_call 15; refine (kc _).mono ?_; rintro e w14 ⟨rfl, B14⟩))
  go_ret
  exact ⟨rfl, Below.then (Below.then (Below.then (Below.then (Below.then (Below.then (Below.then (Below.then (Below.then (B2) B3) B4) B5) B6) B8) B10) B12) B13) B14⟩
end Go.Proofs.YtbhgchhoeokjhabDoor

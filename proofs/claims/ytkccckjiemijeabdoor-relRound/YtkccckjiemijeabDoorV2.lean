/- works: the chapter's first examples hold. -/
import Derived.Test.YtkccckjiemijeabDoorV1
namespace Go.Proofs.YtkccckjiemijeabDoor
open Go.RowKit Go.Shelf M P
set_option linter.unusedSimpArgs false
set_option linter.unusedVariables false

section
variable {ops : Array Oper} {rest : List Oper} {op : Oper} {a : Act} {w : World} {Q : Exit → Act → World → Prop}
theorem wpList_loadRg (hw : Region.wanted op (yielded ops a.tmps) = true) (x : Operand) (ho : op.op = .load 25 x) {b : Nat} (hx : a.eval x = .pointer (some ⟨b, 0, none⟩)) {n : Int} {f : Nat → Nat} (hc : IsR w b n f)
    (h : wpList Tryd.prog ops Q rest (a.put op.dst (relv n f)) w) : wpList Tryd.prog ops Q (op :: rest) a w := by
  refine wpList_step fun K hK => ?_
  rw [if_pos hw]
  unfold Oper.wp execOp
  have := run_loadAt_mid (P := Tryd.prog) w b 0 25 (cellsL n f) _ hc.range Tryd.underlying25 rfl (by rw [cellsL_length]; exact info25)
  simp only [ho, hx, Sem.run_bind, this, Result.andThen_ok, Sem.run_pure]
  exact hK _ _ h
end
theorem below_drewN' {B : Nat} {w W : World} (h : Below B w W) (m : Nat) : Below B w (W.drewN m) := ⟨h.os, h.tape, h.output, h.size, h.block⟩
theorem nats_new (w : World) : Nats (w.alloc (.cells #[.int .i64 0, .int .i64 1, .int .i64 2] 3)) (some ⟨w.heap.size, 0, none⟩) [0, 1, 2] := fun j hj => by
  refine ⟨w.heap.size, 0, rfl, ?_⟩
  rw [cell_of_row _ _ (0 + j) #[.int .i64 0, .int .i64 1, .int .i64 2] 3 (0, 0) (heap_alloc_last w _), Nat.zero_add]
  have : j = 0 ∨ j = 1 ∨ j = 2 := by simp at hj; omega
  rcases this with rfl | rfl | rfl <;> rfl
theorem prs_new (w : World) : Prs (w.alloc (.cells #[.int .i64 0, .int .i64 1, .int .i64 1, .int .i64 2] 59)) (some ⟨w.heap.size, 0, none⟩) [(0, 1), (1, 2)] := fun j hj => by
  have h : j = 0 ∨ j = 1 := by simp at hj; omega
  refine ⟨w.heap.size, 0, rfl, ?_, ?_⟩
  · rw [cell_of_row _ _ _ #[.int .i64 0, .int .i64 1, .int .i64 1, .int .i64 2] 59 (0, 0) (heap_alloc_last w _)]
    rcases h with rfl | rfl <;> rfl
  · rw [cell_of_row _ _ _ #[.int .i64 0, .int .i64 1, .int .i64 1, .int .i64 2] 59 (0, 0) (heap_alloc_last w _)]
    rcases h with rfl | rfl <;> rfl

set_option maxRecDepth 100000 in
set_option maxHeartbeats 2000000 in
theorem works_any : AnsV 8 #[] (.bool true) := fun w hT => by
  have h3N := right_nN r0_right (by decide)
  have h3F := right_nF r0_right (by decide)
  have hW := right_wsh (by decide) r0_right 3 (Nat.le_refl _)
  have hS := right_or hW (right_id 3 (by decide))
  have hC := right_co r0_right r0_right
  have c39 : Hid (∀ (W : World) (b : Nat), Prs W (some ⟨b, 0, none⟩) [(0, 1), (1, 2)] → Calls Tryd.prog 39 #[.int .i64 3, .slice (some ⟨b, 0, none⟩) 2 2] W fun e w' => e = .returned (.tuple #[relv 3 R0, .int .i64 0]) ∧ Below W.heap.size W w') := fun W b hp => by
    have := of_any 3 (some ⟨b, 0, none⟩) 2 [(0, 1), (1, 2)] W hp (by decide)
    rwa [r0_of] at this
  have c27 : Hid (∀ W, TabAt W → Calls Tryd.prog 27 #[relv 3 R0] W fun e w' => ∃ a cap, e = .returned (.tuple #[.slice a 3 cap, .bool true]) ∧ Nats w' a [0, 1, 2] ∧ Below W.heap.size W w') := fun W hT' => by
    have := extend_any 3 R0 r0_right.wf W hT'
    rw [show ((3 : Int)) = ((3 : Nat) : Int) from rfl, h3N, h3F, Int.toNat_natCast, r0_acyc, r0_ord] at this
    refine this.mono ?_
    rintro e w' ⟨hb, (⟨h, _⟩ | ⟨_, v, he, ho⟩)⟩
    · cases h
    · obtain ⟨a, cap, rfl, hn⟩ := nats_own ho
      exact ⟨a, cap, he, hn, hb⟩
  have c9 : Hid (∀ W, Calls Tryd.prog 9 #[.int .i64 0] W fun e w' => e = .returned (.int .i64 0) ∧ w' = W) := fun W => num_any 0 W
  have c22 : Hid (AnsV 22 #[relv 3 R0] (relv 3 (wsh R0 3))) := by
    have := plus_any 3 R0 r0_right.wf
    rwa [show ((3 : Int)) = ((3 : Nat) : Int) from rfl, h3N, h3F, Int.toNat_natCast] at this
  have c17a : Hid (AnsV 17 #[relv 3 (wsh R0 3)] (.int .i64 3)) := fun W _ => by
    have := count_any 3 (wsh R0 3) W hW.wf
    rwa [show ((3 : Int)) = ((3 : Nat) : Int) from rfl, right_nF hW (by decide), r0_plus] at this
  have c24 : Hid (AnsV 24 #[relv 3 R0] (relv 3 (opF orN (wsh R0 3) (idF 3)))) := by
    have := star_any 3 R0 r0_right.wf
    rwa [show ((3 : Int)) = ((3 : Nat) : Int) from rfl, h3N, h3F, Int.toNat_natCast] at this
  have c17b : Hid (AnsV 17 #[relv 3 (opF orN (wsh R0 3) (idF 3))] (.int .i64 6)) := fun W _ => by
    have := count_any 3 (opF orN (wsh R0 3) (idF 3)) W hS.wf
    rwa [show ((3 : Int)) = ((3 : Nat) : Int) from rfl, right_nF hS (by decide), r0_star] at this
  have c18 : Hid (AnsV 18 #[relv 3 R0, relv 3 R0] (relv 3 (coF R0 (edgesL 3 R0)))) := comp_R (by decide) r0_right r0_right
  have c29 : Hid (AnsV 29 #[relv 3 (coF R0 (edgesL 3 R0)), .int .i64 0, .int .i64 2] (.bool true)) := fun W _ => by
    have := has_rel 3 (coF R0 (edgesL 3 R0)) 0 2 W hC.wf
    rwa [show ((3 : Int)) = ((3 : Nat) : Int) from rfl, right_nN hC (by decide), right_nF hC (by decide), show (((3 : Nat) : Int)) = (3 : Int) from rfl, r0_comp] at this
  have c28 : Hid (AnsV 28 #[relv 3 R0] (.bool true)) := by
    have := acyclic_any 3 R0 r0_right.wf
    rw [show ((3 : Int)) = ((3 : Nat) : Int) from rfl, h3N, h3F, Int.toNat_natCast] at this
    have e : irr 3 (wsh R0 3) = true := r0_acyc
    rwa [e] at this
  have c35 : Hid (∀ (W : World) a cap a' cap', Nats W a [0, 1, 2] → Nats W a' [0, 1, 2] → Calls Tryd.prog 35 #[.slice a 3 cap, .slice a' 3 cap'] W fun e w' => e = .returned (.bool true) ∧ Below W.heap.size W w') := fun W a cap a' cap' h1 h2 =>
    (sameInts_eq a a' cap cap' [0, 1, 2] W h1 h2 (by decide)).mono fun e w' ⟨he, m, hw⟩ => ⟨he, by rw [hw]; exact below_drewN' (Below.refl _ _) m⟩
  clear h3N h3F hW hS hC
  generalize opF orN (wsh R0 3) (idF 3) = X2 at *
  generalize wsh R0 3 = X1 at *
  generalize coF R0 (edgesL 3 R0) = X3 at *
  generalize R0 = X0 at *
  have tk1 : True := trivial
  have hpn := prs_new w
  have B0 : Below w.heap.size w (w.alloc (.cells #[.int .i64 0, .int .i64 1, .int .i64 1, .int .i64 2] 59)) := (Below.refl _ w).alloc (Nat.le_refl _) _
  go_enter Tryd.func8, Tryd.ntmps8
  go_wp2_with (first
    | (go_at_call 39; refine (c39.out _ _ hpn).mono ?_; rintro e w1 ⟨rfl, hw'⟩; have B1 := B0.trans (hw'.mono B0.size); clear hw' B0 hpn)
    | (refine wpList_allocR rfl rfl ?_; intro W3 b1 F3 r1; have hb1 : w.heap.size ≤ b1 := (by rw [F3.at']; exact B1.size); replace B1 := Fresh.trans B1 B1.size F3; clear F3)
    | (refine wpList_storeR rfl _ _ rfl rfl rfl r1 ?_; intro W4 U4 q1; replace B1 := U4.trans B1 hb1; clear U4 r1; have r1 := q1; clear q1)
    | (refine wpList_loadR rfl _ rfl rfl r1 ?_)
    | (go_at_call 27; refine (c27.out _ (hT.below B1)).mono ?_; rintro e w2 ⟨ad, cap, rfl, hN, hw'⟩; replace r1 := r1.grown hw'; replace B1 := B1.trans (hw'.mono B1.size); clear hw')
    | (go_at_call 9; refine (c9.out _).mono ?_; rintro e w' ⟨rfl, hw'⟩; replace hw' := hw'.symm; subst hw'; clear c9)
    | (refine wpList_loadRg rfl _ rfl rfl r1 ?_)
    | (go_at_call 22; refine (c22.out _ (hT.below B1)).mono ?_; rintro e w' ⟨rfl, hw'⟩; replace r1 := r1.grown hw'; replace hN := hN.below hw'; replace B1 := B1.trans (hw'.mono B1.size); clear hw')
    | (go_at_call 17; clear tk1; refine (c17a.out _ (hT.below B1)).mono ?_; rintro e w' ⟨rfl, hw'⟩; replace r1 := r1.grown hw'; replace hN := hN.below hw'; replace B1 := B1.trans (hw'.mono B1.size); clear hw')
    | (go_at_call 24; refine (c24.out _ (hT.below B1)).mono ?_; rintro e w' ⟨rfl, hw'⟩; replace r1 := r1.grown hw'; replace hN := hN.below hw'; replace B1 := B1.trans (hw'.mono B1.size); clear hw')
    | (go_at_call 17; refine (c17b.out _ (hT.below B1)).mono ?_; rintro e w' ⟨rfl, hw'⟩; replace r1 := r1.grown hw'; replace hN := hN.below hw'; replace B1 := B1.trans (hw'.mono B1.size); clear hw')
    | (go_at_call 18; refine (c18.out _ (hT.below B1)).mono ?_; rintro e w' ⟨rfl, hw'⟩; replace r1 := r1.grown hw'; replace hN := hN.below hw'; replace B1 := B1.trans (hw'.mono B1.size); clear hw')
    | (go_at_call 29; refine (c29.out _ (hT.below B1)).mono ?_; rintro e w' ⟨rfl, hw'⟩; replace r1 := r1.grown hw'; replace hN := hN.below hw'; replace B1 := B1.trans (hw'.mono B1.size); clear hw')
    | (go_at_call 28; refine (c28.out _ (hT.below B1)).mono ?_; rintro e w10 ⟨rfl, hw'⟩; replace r1 := r1.grown hw'; replace hN := hN.below hw'; replace B1 := B1.trans (hw'.mono B1.size); clear hw'; have hN2 := nats_new w10; have B9 : Below w10.heap.size w10 (w10.alloc (.cells #[.int .i64 0, .int .i64 1, .int .i64 2] 3)) := (Below.refl _ w10).alloc (Nat.le_refl _) _; replace hN := hN.below B9; replace B1 := B1.trans (B9.mono B1.size))
    | (go_at_call 35; refine (c35.out _ _ _ _ _ hN hN2).mono ?_; rintro e w' ⟨rfl, hw'⟩; replace B1 := B1.trans (hw'.mono B1.size)))
  go_ret
  exact ⟨rfl, B1⟩
end Go.Proofs.YtkccckjiemijeabDoor

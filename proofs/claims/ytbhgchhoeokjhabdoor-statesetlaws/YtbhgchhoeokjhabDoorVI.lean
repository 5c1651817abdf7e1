/- choose's closures: which members are wanted; a member put behind those that were. -/
import Derived.Test.YtbhgchhoeokjhabDoorQB
import Derived.Test.YtbhgchhoeokjhabDoorQA
namespace Go.Proofs.YtbhgchhoeokjhabDoor
open Go Go.RowKit M
set_option linter.unusedSimpArgs false
set_option linter.unusedVariables false

theorem union_want (p q : Bool) (w : World) : Calls Tryd.prog 26 #[.bool p, .bool q] w fun e w' => e = .returned (.bool (p || q)) ∧ w' = w := by
  cases p <;> cases q <;> (go_enter Tryd.func26, Tryd.ntmps26; go_wp2; go_ret; exact ⟨rfl, rfl⟩)
theorem meet_want (p q : Bool) (w : World) : Calls Tryd.prog 27 #[.bool p, .bool q] w fun e w' => e = .returned (.bool (p && q)) ∧ w' = w := by
  cases p <;> cases q <;> (go_enter Tryd.func27, Tryd.ntmps27; go_wp2; go_ret; exact ⟨rfl, rfl⟩)
theorem minus_want (p q : Bool) (w : World) : Calls Tryd.prog 28 #[.bool p, .bool q] w fun e w' => e = .returned (.bool (p && !q)) ∧ w' = w := by
  cases p <;> cases q <;> (go_enter Tryd.func28, Tryd.ntmps28; go_wp2; go_ret; exact ⟨rfl, rfl⟩)
/-- What choose's closure holds: which are wanted, and those that were put. -/
structure ChoW (W : World) (B bf bl g : Nat) (v : Value) (out : List FS) : Prop where
  f : IsS W bf 54 [.func (.func g) #[] #[]]
  l : IsS W bl 22 [v]
  own : OwnL W B v out
  low : B ≤ bl
  hB : B ≤ W.heap.size
theorem ChoW.below {W W' : World} {B bf bl g : Nat} {v : Value} {out : List FS} (h : ChoW W B bf bl g v out) (hb : Below W.heap.size W W') : ChoW W' B bf bl g v out :=
  ⟨h.f.grown hb, h.l.grown hb, own_belowW h.own hb, h.low, Nat.le_trans h.hB hb.size⟩
theorem isS_grownBy {W W' : World} {b t : Nat} {cs : List Value} {r : Option Nat} (h : IsS W b t cs) (hg : W.grownBy W' r) (hne : r ≠ some b) : IsS W' b t cs :=
  (hg.block b h.lt (fun e => hne e.symm)).trans h
theorem infoSl : (Tryd.prog.info? 22).map (·.size) = some 1 := by kernel_rfl
set_option maxRecDepth 100000 in
set_option maxHeartbeats 2000000 in
/-- A member is put behind the others if it is wanted. -/
theorem visit_union {W : World} {B bf bl : Nat} {v : Value} {out : List FS} (X : FS) (p q r : Bool) (hn : out.length < 4194304) (hg : ∀ W, Calls Tryd.prog 26 #[.bool p, .bool q] W fun e w' => e = .returned (.bool r) ∧ w' = W) (hW : ChoW W B bf bl 26 v out) :
    Calls Tryd.prog 43 #[.agg (encF X).toArray, .bool p, .bool q, .pointer (some ⟨bf, 0, none⟩), .pointer (some ⟨bl, 0, none⟩)] W fun e w' => e = .returned (.tuple #[]) ∧ ∃ v', ChoW w' B bf bl 26 v' (if r then out ++ [X] else out) ∧ Below B W w' := by
  have hBW := hW.hB
  obtain ⟨a0, c0, rfl⟩ := own_form hW.own
  have HW : Hid (ChoW W B bf bl 26 (.slice a0 out.length c0) out) := hW
  clear hW
  cases r with
  | false =>
    have ta : True := trivial
    go_enter Tryd.func43, Tryd.ntmps43
    go_wp2_with (first
      | (clear ta; refine wpList_boxS rfl _ _ rfl (encF X) rfl ?_; intro W1 b1 F1 I1; have B1 := fresh_b F1; have HW1 : Hid (ChoW W1 B bf bl 26 (.slice a0 out.length c0) out) := HW.out.below B1; have c1 : W1.cell? ⟨bf, 0, none⟩ = some (.func (.func 26) #[] #[]) := HW1.out.f.cell 0)
      | (go_at_call 26; refine (hg _).mono ?_; rintro e w' ⟨rfl, hw'⟩; replace hw' := hw'.symm; subst hw'))
    go_end0
    exact ⟨rfl, ⟨_, HW1.out⟩, B1.mono hBW⟩
  | true =>
    have ta : True := trivial
    have tb : True := trivial
    go_enter Tryd.func43, Tryd.ntmps43
    go_wp2_with (first
      | (clear ta; refine wpList_boxS rfl _ _ rfl (encF X) rfl ?_; intro W1 b1 F1 I1; have B1 := fresh_b F1; have HW1 : Hid (ChoW W1 B bf bl 26 (.slice a0 out.length c0) out) := HW.out.below B1; have c1 : W1.cell? ⟨bf, 0, none⟩ = some (.func (.func 26) #[] #[]) := HW1.out.f.cell 0; have c2 : W1.cell? ⟨bl, 0, none⟩ = some (.slice a0 out.length c0) := HW1.out.l.cell 0)
      | (go_at_call 26; refine (hg _).mono ?_; rintro e w' ⟨rfl, hw'⟩; replace hw' := hw'.symm; subst hw')
      | (refine wpList_loadF rfl _ rfl rfl I1 ?_)
      | (clear tb; refine wpList_buildF rfl _ rfl X rfl ?_; intro W2 b2 F2 I2; have B2 := fresh_b F2; have HW2 : Hid (ChoW W2 B bf bl 26 (.slice a0 out.length c0) out) := HW1.out.below B2; have hB2 := HW2.out.hB; clear c1 c2)
      | (at_builtin; refine wpList_appF rfl _ _ rfl B (.slice a0 out.length c0) out rfl HW2.out.own b2 X rfl I2 hn hB2 ?_; intro v3 W3 O3 G3; have l3 : IsS W3 bl 22 [.slice a0 out.length c0] := isS_grownBy HW2.out.l G3 (own_ne HW2.out.own HW2.out.l (by decide)); have f3 : IsS W3 bf 54 [.func (.func 26) #[] #[]] := isS_grownBy HW2.out.f G3 (own_ne HW2.out.own HW2.out.f (by decide)); obtain ⟨a1, c1', hv3⟩ := own_form O3; subst hv3)
      | (refine wpList_store1 rfl 22 _ _ rfl rfl (.slice a1 (out ++ [X]).length c1') rfl l3 (by simp) infoSl rfl ?_; intro W4 U4 l4))
    go_end0
    have B3 : Below B W W3 := grown_below ((Below.then B1 B2).mono hBW) HW2.out.own hB2 G3
    have hB3 : B ≤ W3.heap.size := Nat.le_trans hBW B3.size
    refine ⟨rfl, ⟨_, ⟨f3.upd U4 ?_, l4, own_updN O3 U4 (own_ne O3 l3 (by decide)), HW2.out.low, by rw [U4.size]; exact hB3⟩⟩, U4.trans B3 HW2.out.low⟩
    intro e
    rw [e] at f3
    have h := f3.symm.trans l3
    simp at h
set_option maxRecDepth 100000 in
set_option maxHeartbeats 2000000 in
/-- A member is put behind the others if it is wanted. -/
theorem visit_meet {W : World} {B bf bl : Nat} {v : Value} {out : List FS} (X : FS) (p q r : Bool) (hn : out.length < 4194304) (hg : ∀ W, Calls Tryd.prog 27 #[.bool p, .bool q] W fun e w' => e = .returned (.bool r) ∧ w' = W) (hW : ChoW W B bf bl 27 v out) :
    Calls Tryd.prog 43 #[.agg (encF X).toArray, .bool p, .bool q, .pointer (some ⟨bf, 0, none⟩), .pointer (some ⟨bl, 0, none⟩)] W fun e w' => e = .returned (.tuple #[]) ∧ ∃ v', ChoW w' B bf bl 27 v' (if r then out ++ [X] else out) ∧ Below B W w' := by
  have hBW := hW.hB
  obtain ⟨a0, c0, rfl⟩ := own_form hW.own
  have HW : Hid (ChoW W B bf bl 27 (.slice a0 out.length c0) out) := hW
  clear hW
  cases r with
  | false =>
    have ta : True := trivial
    go_enter Tryd.func43, Tryd.ntmps43
    go_wp2_with (first
      | (clear ta; refine wpList_boxS rfl _ _ rfl (encF X) rfl ?_; intro W1 b1 F1 I1; have B1 := fresh_b F1; have HW1 : Hid (ChoW W1 B bf bl 27 (.slice a0 out.length c0) out) := HW.out.below B1; have c1 : W1.cell? ⟨bf, 0, none⟩ = some (.func (.func 27) #[] #[]) := HW1.out.f.cell 0)
      | (go_at_call 27; refine (hg _).mono ?_; rintro e w' ⟨rfl, hw'⟩; replace hw' := hw'.symm; subst hw'))
    go_end0
    exact ⟨rfl, ⟨_, HW1.out⟩, B1.mono hBW⟩
  | true =>
    have ta : True := trivial
    have tb : True := trivial
    go_enter Tryd.func43, Tryd.ntmps43
    go_wp2_with (first
      | (clear ta; refine wpList_boxS rfl _ _ rfl (encF X) rfl ?_; intro W1 b1 F1 I1; have B1 := fresh_b F1; have HW1 : Hid (ChoW W1 B bf bl 27 (.slice a0 out.length c0) out) := HW.out.below B1; have c1 : W1.cell? ⟨bf, 0, none⟩ = some (.func (.func 27) #[] #[]) := HW1.out.f.cell 0; have c2 : W1.cell? ⟨bl, 0, none⟩ = some (.slice a0 out.length c0) := HW1.out.l.cell 0)
      | (go_at_call 27; refine (hg _).mono ?_; rintro e w' ⟨rfl, hw'⟩; replace hw' := hw'.symm; subst hw')
      | (refine wpList_loadF rfl _ rfl rfl I1 ?_)
      | (clear tb; refine wpList_buildF rfl _ rfl X rfl ?_; intro W2 b2 F2 I2; have B2 := fresh_b F2; have HW2 : Hid (ChoW W2 B bf bl 27 (.slice a0 out.length c0) out) := HW1.out.below B2; have hB2 := HW2.out.hB; clear c1 c2)
      | (at_builtin; refine wpList_appF rfl _ _ rfl B (.slice a0 out.length c0) out rfl HW2.out.own b2 X rfl I2 hn hB2 ?_; intro v3 W3 O3 G3; have l3 : IsS W3 bl 22 [.slice a0 out.length c0] := isS_grownBy HW2.out.l G3 (own_ne HW2.out.own HW2.out.l (by decide)); have f3 : IsS W3 bf 54 [.func (.func 27) #[] #[]] := isS_grownBy HW2.out.f G3 (own_ne HW2.out.own HW2.out.f (by decide)); obtain ⟨a1, c1', hv3⟩ := own_form O3; subst hv3)
      | (refine wpList_store1 rfl 22 _ _ rfl rfl (.slice a1 (out ++ [X]).length c1') rfl l3 (by simp) infoSl rfl ?_; intro W4 U4 l4))
    go_end0
    have B3 : Below B W W3 := grown_below ((Below.then B1 B2).mono hBW) HW2.out.own hB2 G3
    have hB3 : B ≤ W3.heap.size := Nat.le_trans hBW B3.size
    refine ⟨rfl, ⟨_, ⟨f3.upd U4 ?_, l4, own_updN O3 U4 (own_ne O3 l3 (by decide)), HW2.out.low, by rw [U4.size]; exact hB3⟩⟩, U4.trans B3 HW2.out.low⟩
    intro e
    rw [e] at f3
    have h := f3.symm.trans l3
    simp at h
set_option maxRecDepth 100000 in
set_option maxHeartbeats 2000000 in
/-- A member is put behind the others if it is wanted. -/
theorem visit_minus {W : World} {B bf bl : Nat} {v : Value} {out : List FS} (X : FS) (p q r : Bool) (hn : out.length < 4194304) (hg : ∀ W, Calls Tryd.prog 28 #[.bool p, .bool q] W fun e w' => e = .returned (.bool r) ∧ w' = W) (hW : ChoW W B bf bl 28 v out) :
    Calls Tryd.prog 43 #[.agg (encF X).toArray, .bool p, .bool q, .pointer (some ⟨bf, 0, none⟩), .pointer (some ⟨bl, 0, none⟩)] W fun e w' => e = .returned (.tuple #[]) ∧ ∃ v', ChoW w' B bf bl 28 v' (if r then out ++ [X] else out) ∧ Below B W w' := by
  have hBW := hW.hB
  obtain ⟨a0, c0, rfl⟩ := own_form hW.own
  have HW : Hid (ChoW W B bf bl 28 (.slice a0 out.length c0) out) := hW
  clear hW
  cases r with
  | false =>
    have ta : True := trivial
    go_enter Tryd.func43, Tryd.ntmps43
    go_wp2_with (first
      | (clear ta; refine wpList_boxS rfl _ _ rfl (encF X) rfl ?_; intro W1 b1 F1 I1; have B1 := fresh_b F1; have HW1 : Hid (ChoW W1 B bf bl 28 (.slice a0 out.length c0) out) := HW.out.below B1; have c1 : W1.cell? ⟨bf, 0, none⟩ = some (.func (.func 28) #[] #[]) := HW1.out.f.cell 0)
      | (go_at_call 28; refine (hg _).mono ?_; rintro e w' ⟨rfl, hw'⟩; replace hw' := hw'.symm; subst hw'))
    go_end0
    exact ⟨rfl, ⟨_, HW1.out⟩, B1.mono hBW⟩
  | true =>
    have ta : True := trivial
    have tb : True := trivial
    go_enter Tryd.func43, Tryd.ntmps43
    go_wp2_with (first
      | (clear ta; refine wpList_boxS rfl _ _ rfl (encF X) rfl ?_; intro W1 b1 F1 I1; have B1 := fresh_b F1; have HW1 : Hid (ChoW W1 B bf bl 28 (.slice a0 out.length c0) out) := HW.out.below B1; have c1 : W1.cell? ⟨bf, 0, none⟩ = some (.func (.func 28) #[] #[]) := HW1.out.f.cell 0; have c2 : W1.cell? ⟨bl, 0, none⟩ = some (.slice a0 out.length c0) := HW1.out.l.cell 0)
      | (go_at_call 28; refine (hg _).mono ?_; rintro e w' ⟨rfl, hw'⟩; replace hw' := hw'.symm; subst hw')
      | (refine wpList_loadF rfl _ rfl rfl I1 ?_)
      | (clear tb; refine wpList_buildF rfl _ rfl X rfl ?_; intro W2 b2 F2 I2; have B2 := fresh_b F2; have HW2 : Hid (ChoW W2 B bf bl 28 (.slice a0 out.length c0) out) := HW1.out.below B2; have hB2 := HW2.out.hB; clear c1 c2)
      | (at_builtin; refine wpList_appF rfl _ _ rfl B (.slice a0 out.length c0) out rfl HW2.out.own b2 X rfl I2 hn hB2 ?_; intro v3 W3 O3 G3; have l3 : IsS W3 bl 22 [.slice a0 out.length c0] := isS_grownBy HW2.out.l G3 (own_ne HW2.out.own HW2.out.l (by decide)); have f3 : IsS W3 bf 54 [.func (.func 28) #[] #[]] := isS_grownBy HW2.out.f G3 (own_ne HW2.out.own HW2.out.f (by decide)); obtain ⟨a1, c1', hv3⟩ := own_form O3; subst hv3)
      | (refine wpList_store1 rfl 22 _ _ rfl rfl (.slice a1 (out ++ [X]).length c1') rfl l3 (by simp) infoSl rfl ?_; intro W4 U4 l4))
    go_end0
    have B3 : Below B W W3 := grown_below ((Below.then B1 B2).mono hBW) HW2.out.own hB2 G3
    have hB3 : B ≤ W3.heap.size := Nat.le_trans hBW B3.size
    refine ⟨rfl, ⟨_, ⟨f3.upd U4 ?_, l4, own_updN O3 U4 (own_ne O3 l3 (by decide)), HW2.out.low, by rw [U4.size]; exact hB3⟩⟩, U4.trans B3 HW2.out.low⟩
    intro e
    rw [e] at f3
    have h := f3.symm.trans l3
    simp at h
end Go.Proofs.YtbhgchhoeokjhabDoor

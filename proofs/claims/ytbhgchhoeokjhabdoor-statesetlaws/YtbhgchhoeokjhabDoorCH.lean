/- choose; Union, Meet and Minus of the program. -/
import Derived.Test.YtbhgchhoeokjhabDoorWA
namespace Go.Proofs.YtbhgchhoeokjhabDoor
open Go Go.RowKit M
set_option linter.unusedSimpArgs false
set_option linter.unusedVariables false

section
variable {w : World} {ops : Array Oper} {rest : List Oper} {op : Oper} {a : Act} {Q : Exit → Act → World → Prop}
theorem wpList_box1 (hgd : op.guard = none) (ty : TypeId) (x : Operand) (ho : op.op = .box ty x) (v : Value) (hx : a.eval x = v) (hv : v.cells = #[v])
    (h : ∀ W b, Fresh w W b → IsS W b ty [v] → wpList Tryd.prog ops Q rest (a.put op.dst (.pointer (some ⟨b, 0, none⟩))) W) : wpList Tryd.prog ops Q (op :: rest) a w := by
  refine wpList_plain hgd fun K hK => ?_
  unfold Oper.wp execOp
  simp only [ho, hx]
  have hb : (Instr.box ty v).run Tryd.prog w = .ok (.pointer (some ⟨w.heap.size, 0, none⟩)) (w.alloc (.cells [v].toArray ty)) := by
    simp [go_sem]
    exact congrArg (fun c => w.alloc (.cells c ty)) hv
  simp only [Sem.run_bind, hb, Result.andThen_ok, Sem.run_pure]
  exact hK _ _ (h _ _ (Fresh.alloc w _) (IsS.new w ty [v]))
theorem wpList_alloc1 (hgd : op.guard = none) (ty : TypeId) (ho : op.op = .alloc ty) (v : Value) (hv : v.cells = #[v]) (hz : ∀ w, (zeroValue ty).run Tryd.prog w = .ok v w)
    (h : ∀ W b, Fresh w W b → IsS W b ty [v] → wpList Tryd.prog ops Q rest (a.put op.dst (.pointer (some ⟨b, 0, none⟩))) W) : wpList Tryd.prog ops Q (op :: rest) a w := by
  refine wpList_plain hgd fun K hK => ?_
  unfold Oper.wp
  have hr : (execOp a.eval op).run Tryd.prog w = .ok (.value (.pointer (some ⟨w.heap.size, 0, none⟩))) (w.alloc (.cells [v].toArray ty)) := by
    unfold execOp
    simp [ho, go_sem, hz]
    exact congrArg (fun c => w.alloc (.cells c ty)) hv
  rw [hr]
  exact hK _ _ (h _ _ (Fresh.alloc w _) (IsS.new w ty [v]))
end
/-- What was put of what was gone through. -/
def fltF (f : Bool → Bool → Bool) (d : List (FS × Bool × Bool)) : List FS := (d.filter fun p => f p.2.1 p.2.2).map (·.1)
theorem fltF_snoc (f : Bool → Bool → Bool) (d : List (FS × Bool × Bool)) (X : FS) (p q : Bool) : fltF f (d ++ [(X, p, q)]) = if f p q then fltF f d ++ [X] else fltF f d := by
  unfold fltF
  rw [List.filter_append, List.map_append]
  cases h : f p q <;> simp [h]
theorem fltF_len (f : Bool → Bool → Bool) (d : List (FS × Bool × Bool)) : (fltF f d).length ≤ d.length := by unfold fltF; rw [List.length_map]; exact List.length_filter_le _ _
theorem SlH.below {w W : World} {a : Option Addr} {n c : Nat} {l : List FS} (h : SlH w a n c l) (hB : Below w.heap.size w W) : SlH W a n c l := ⟨h.len, h.cap, h.max, h.seg.below hB⟩
theorem zeroSl (w : World) : (zeroValue 22).run Tryd.prog w = .ok (.slice none 0 0) w := Tryd.zeroValue22 w
set_option maxRecDepth 100000 in
set_option maxHeartbeats 4000000 in
theorem choose_union (xs ys : List FS) (a1 a2 : Option Addr) (n1 n2 c1 c2 : Nat) (w : World) (hS1 : SlH w a1 n1 c1 xs) (hS2 : SlH w a2 n2 c2 ys) (hn1 : n1 ≤ 8000) (hn2 : n2 ≤ 8000) :
    Calls Tryd.prog 25 #[.slice a1 n1 c1, .slice a2 n2 c2, .func (.func 26) #[] #[]] w fun e w' => ∃ v, e = .returned (.tuple #[v, .int .i64 (twoE xs ys)]) ∧ OwnL w' w.heap.size v (twoL orB xs ys) ∧ Below w.heap.size w w' := by
  have HS1 : Hid (SlH w a1 n1 c1 xs) := hS1
  have HS2 : Hid (SlH w a2 n2 c2 ys) := hS2
  have hR1 := fun W (h : Seg W a1 (flatF xs)) => rises_any a1 c1 xs (by rw [hS1.len]; omega) W h
  have hR2 := fun W (h : Seg W a2 (flatF ys)) => rises_any a2 c2 ys (by rw [hS2.len]; omega) W h
  simp only [hS1.len] at hR1
  simp only [hS2.len] at hR2
  have hwalk := fun (bf bl : Nat) (W : World) (hW : Below w.heap.size w W) (hP : ∃ v, ChoW W w.heap.size bf bl 26 v (fltF orB [])) =>
    walk_any (fun d W => ∃ v, ChoW W w.heap.size bf bl 26 v (fltF orB d)) (mrg xs ys) xs ys rfl a1 a2 n1 n2 c1 c2 hS1 hS2 W hW hP (fun d W W' ⟨v, h⟩ hB => ⟨v, h.below hB⟩) (fun d X p q r hd W ⟨v, h⟩ hB =>
      (visit_union X p q (orB p q) (by
        have h1 := fltF_len orB d
        have h2 := mrg_len xs ys
        rw [← hd, List.length_append] at h2
        rw [hS1.len, hS2.len] at h2
        omega) (fun W => union_want p q W) h).mono fun e w' ⟨h1, v', h2, h3⟩ => ⟨h1, ⟨v', (by rw [fltF_snoc]; exact h2)⟩, hB.trans h3⟩)
  clear hS1 hS2
  have HE : Hid (∃ e, twoE xs ys = e ∧ e = if setB xs = true ∧ setB ys = true then 0 else 100) := ⟨_, rfl, rfl⟩
  have ta : True := trivial
  cases s1 : setB xs with
  | false =>
    have e1 : twoE xs ys = 100 := by unfold twoE; rw [s1]; simp
    have e2 : twoL orB xs ys = [] := by unfold twoL; rw [s1]; simp
    rw [e1, e2]
    simp only [s1] at hR1
    clear hwalk hR2 HE e1 e2
    go_enter Tryd.func25, Tryd.ntmps25
    go_wp2_with (first
      | (clear ta; refine wpList_box1 rfl _ _ rfl (.func (.func 26) #[] #[]) rfl rfl ?_; intro W1 bf F1 I1; have B1 := fresh_b F1)
      | (go_at_call 12; refine (hR1 _ (HS1.out.seg.below B1)).mono ?_; rintro e W2 ⟨rfl, B2⟩))
    go_ret2
    exact ⟨_, rfl, World.ownsRow_nil _ _ _ _, Below.then B1 B2⟩
  | true =>
    simp only [s1] at hR1
    cases s2 : setB ys with
    | false =>
      have e1 : twoE xs ys = 100 := by unfold twoE; rw [s2]; simp
      have e2 : twoL orB xs ys = [] := by unfold twoL; rw [s2]; simp
      rw [e1, e2]
      simp only [s2] at hR2
      clear hwalk HE e1 e2
      go_enter Tryd.func25, Tryd.ntmps25
      go_wp2_with (first
        | (clear ta; refine wpList_box1 rfl _ _ rfl (.func (.func 26) #[] #[]) rfl rfl ?_; intro W1 bf F1 I1; have B1 := fresh_b F1; have tb : True := trivial)
        | (clear tb; go_at_call 12; refine (hR1 _ (HS1.out.seg.below B1)).mono ?_; rintro e W2 ⟨rfl, B2⟩; have B12 := Below.then B1 B2; have tc : True := trivial)
        | (clear tc; go_at_call 12; refine (hR2 _ (HS2.out.seg.below B12)).mono ?_; rintro e W3 ⟨rfl, B3⟩))
      go_ret2
      exact ⟨_, rfl, World.ownsRow_nil _ _ _ _, Below.then B12 B3⟩
    | true =>
      have e1 : twoE xs ys = 0 := by unfold twoE; rw [s1, s2]; simp
      have e2 : twoL orB xs ys = fltF orB (mrg xs ys) := by unfold twoL; rw [s1, s2]; simp [twoF, fltF]
      rw [e1, e2]
      simp only [s2] at hR2
      clear HE e1 e2
      have td : True := trivial
      go_enter Tryd.func25, Tryd.ntmps25
      go_wp2_with (first
        | (clear ta; refine wpList_box1 rfl _ _ rfl (.func (.func 26) #[] #[]) rfl rfl ?_; intro W1 bf F1 I1; have B1 := fresh_b F1; have tb : True := trivial)
        | (clear tb; go_at_call 12; refine (hR1 _ (HS1.out.seg.below B1)).mono ?_; rintro e W2 ⟨rfl, B2⟩; have B12 := Below.then B1 B2; have tc : True := trivial)
        | (clear tc; go_at_call 12; refine (hR2 _ (HS2.out.seg.below B12)).mono ?_; rintro e W3 ⟨rfl, B3⟩; have B13 := Below.then B12 B3)
        | (clear td; refine wpList_alloc1 rfl 22 rfl (.slice none 0 0) rfl zeroSl ?_; intro W4 bl F4 L4; have B14 := Below.then B13 (fresh_b F4); have hbl : w.heap.size ≤ bl := (by have := F4.at'; have := B13.size; omega); have HC : Hid (ChoW W4 w.heap.size bf bl 26 (.slice none 0 0) (fltF orB [])) := ⟨I1.grown (Below.then (Below.then B2 B3) (fresh_b F4)), L4, World.ownsRow_nil _ _ _ _, hbl, B14.size⟩; clear F4 L4 I1 F1 hR1 hR2)
        | (go_at_call 42; refine (hwalk bf bl _ B14 ⟨_, HC.out⟩).mono ?_; rintro e W5 ⟨rfl, ⟨v5, C5⟩, B15⟩; clear hwalk; have HC5 : Hid (ChoW W5 w.heap.size bf bl 26 v5 (fltF orB (mrg xs ys))) := C5; clear C5; obtain ⟨a5, c5, hv5⟩ := own_form HC5.out.own; generalize (fltF orB (mrg xs ys)).length = n5 at hv5; subst hv5; have l5 : W5.cell? ⟨bl, 0, none⟩ = some (.slice a5 n5 c5) := HC5.out.l.cell 0))
      go_ret2
      exact ⟨_, rfl, HC5.out.own, B15⟩
set_option maxRecDepth 100000 in
theorem union_any (xs ys : List FS) (a1 a2 : Option Addr) (n1 n2 c1 c2 : Nat) (w : World) (hS1 : SlH w a1 n1 c1 xs) (hS2 : SlH w a2 n2 c2 ys) (hn1 : n1 ≤ 8000) (hn2 : n2 ≤ 8000) :
    Calls Tryd.prog 8 #[.slice a1 n1 c1, .slice a2 n2 c2] w fun e w' => ∃ v, e = .returned (.tuple #[v, .int .i64 (twoE xs ys)]) ∧ OwnL w' w.heap.size v (twoL orB xs ys) ∧ Below w.heap.size w w' := by
  have h := choose_union xs ys a1 a2 n1 n2 c1 c2 w hS1 hS2 hn1 hn2
  generalize twoE xs ys = E at *
  generalize twoL orB xs ys = L at *
  clear hS1 hS2
  go_enter Tryd.func8, Tryd.ntmps8
  go_wp2_with (first
    | (go_at_call 25; refine h.mono ?_; rintro e W2 ⟨v, rfl, O2, B2⟩))
  go_ret2
  exact ⟨_, rfl, O2, B2⟩
set_option maxRecDepth 100000 in
set_option maxHeartbeats 4000000 in
theorem choose_meet (xs ys : List FS) (a1 a2 : Option Addr) (n1 n2 c1 c2 : Nat) (w : World) (hS1 : SlH w a1 n1 c1 xs) (hS2 : SlH w a2 n2 c2 ys) (hn1 : n1 ≤ 8000) (hn2 : n2 ≤ 8000) :
    Calls Tryd.prog 25 #[.slice a1 n1 c1, .slice a2 n2 c2, .func (.func 27) #[] #[]] w fun e w' => ∃ v, e = .returned (.tuple #[v, .int .i64 (twoE xs ys)]) ∧ OwnL w' w.heap.size v (twoL andB xs ys) ∧ Below w.heap.size w w' := by
  have HS1 : Hid (SlH w a1 n1 c1 xs) := hS1
  have HS2 : Hid (SlH w a2 n2 c2 ys) := hS2
  have hR1 := fun W (h : Seg W a1 (flatF xs)) => rises_any a1 c1 xs (by rw [hS1.len]; omega) W h
  have hR2 := fun W (h : Seg W a2 (flatF ys)) => rises_any a2 c2 ys (by rw [hS2.len]; omega) W h
  simp only [hS1.len] at hR1
  simp only [hS2.len] at hR2
  have hwalk := fun (bf bl : Nat) (W : World) (hW : Below w.heap.size w W) (hP : ∃ v, ChoW W w.heap.size bf bl 27 v (fltF andB [])) =>
    walk_any (fun d W => ∃ v, ChoW W w.heap.size bf bl 27 v (fltF andB d)) (mrg xs ys) xs ys rfl a1 a2 n1 n2 c1 c2 hS1 hS2 W hW hP (fun d W W' ⟨v, h⟩ hB => ⟨v, h.below hB⟩) (fun d X p q r hd W ⟨v, h⟩ hB =>
      (visit_meet X p q (andB p q) (by
        have h1 := fltF_len andB d
        have h2 := mrg_len xs ys
        rw [← hd, List.length_append] at h2
        rw [hS1.len, hS2.len] at h2
        omega) (fun W => meet_want p q W) h).mono fun e w' ⟨h1, v', h2, h3⟩ => ⟨h1, ⟨v', (by rw [fltF_snoc]; exact h2)⟩, hB.trans h3⟩)
  clear hS1 hS2
  have HE : Hid (∃ e, twoE xs ys = e ∧ e = if setB xs = true ∧ setB ys = true then 0 else 100) := ⟨_, rfl, rfl⟩
  have ta : True := trivial
  cases s1 : setB xs with
  | false =>
    have e1 : twoE xs ys = 100 := by unfold twoE; rw [s1]; simp
    have e2 : twoL andB xs ys = [] := by unfold twoL; rw [s1]; simp
    rw [e1, e2]
    simp only [s1] at hR1
    clear hwalk hR2 HE e1 e2
    go_enter Tryd.func25, Tryd.ntmps25
    go_wp2_with (first
      | (clear ta; refine wpList_box1 rfl _ _ rfl (.func (.func 27) #[] #[]) rfl rfl ?_; intro W1 bf F1 I1; have B1 := fresh_b F1)
      | (go_at_call 12; refine (hR1 _ (HS1.out.seg.below B1)).mono ?_; rintro e W2 ⟨rfl, B2⟩))
    go_ret2
    exact ⟨_, rfl, World.ownsRow_nil _ _ _ _, Below.then B1 B2⟩
  | true =>
    simp only [s1] at hR1
    cases s2 : setB ys with
    | false =>
      have e1 : twoE xs ys = 100 := by unfold twoE; rw [s2]; simp
      have e2 : twoL andB xs ys = [] := by unfold twoL; rw [s2]; simp
      rw [e1, e2]
      simp only [s2] at hR2
      clear hwalk HE e1 e2
      go_enter Tryd.func25, Tryd.ntmps25
      go_wp2_with (first
        | (clear ta; refine wpList_box1 rfl _ _ rfl (.func (.func 27) #[] #[]) rfl rfl ?_; intro W1 bf F1 I1; have B1 := fresh_b F1; have tb : True := trivial)
        | (clear tb; go_at_call 12; refine (hR1 _ (HS1.out.seg.below B1)).mono ?_; rintro e W2 ⟨rfl, B2⟩; have B12 := Below.then B1 B2; have tc : True := trivial)
        | (clear tc; go_at_call 12; refine (hR2 _ (HS2.out.seg.below B12)).mono ?_; rintro e W3 ⟨rfl, B3⟩))
      go_ret2
      exact ⟨_, rfl, World.ownsRow_nil _ _ _ _, Below.then B12 B3⟩
    | true =>
      have e1 : twoE xs ys = 0 := by unfold twoE; rw [s1, s2]; simp
      have e2 : twoL andB xs ys = fltF andB (mrg xs ys) := by unfold twoL; rw [s1, s2]; simp [twoF, fltF]
      rw [e1, e2]
      simp only [s2] at hR2
      clear HE e1 e2
      have td : True := trivial
      go_enter Tryd.func25, Tryd.ntmps25
      go_wp2_with (first
        | (clear ta; refine wpList_box1 rfl _ _ rfl (.func (.func 27) #[] #[]) rfl rfl ?_; intro W1 bf F1 I1; have B1 := fresh_b F1; have tb : True := trivial)
        | (clear tb; go_at_call 12; refine (hR1 _ (HS1.out.seg.below B1)).mono ?_; rintro e W2 ⟨rfl, B2⟩; have B12 := Below.then B1 B2; have tc : True := trivial)
        | (clear tc; go_at_call 12; refine (hR2 _ (HS2.out.seg.below B12)).mono ?_; rintro e W3 ⟨rfl, B3⟩; have B13 := Below.then B12 B3)
        | (clear td; refine wpList_alloc1 rfl 22 rfl (.slice none 0 0) rfl zeroSl ?_; intro W4 bl F4 L4; have B14 := Below.then B13 (fresh_b F4); have hbl : w.heap.size ≤ bl := (by have := F4.at'; have := B13.size; omega); have HC : Hid (ChoW W4 w.heap.size bf bl 27 (.slice none 0 0) (fltF andB [])) := ⟨I1.grown (Below.then (Below.then B2 B3) (fresh_b F4)), L4, World.ownsRow_nil _ _ _ _, hbl, B14.size⟩; clear F4 L4 I1 F1 hR1 hR2)
        | (go_at_call 42; refine (hwalk bf bl _ B14 ⟨_, HC.out⟩).mono ?_; rintro e W5 ⟨rfl, ⟨v5, C5⟩, B15⟩; clear hwalk; have HC5 : Hid (ChoW W5 w.heap.size bf bl 27 v5 (fltF andB (mrg xs ys))) := C5; clear C5; obtain ⟨a5, c5, hv5⟩ := own_form HC5.out.own; generalize (fltF andB (mrg xs ys)).length = n5 at hv5; subst hv5; have l5 : W5.cell? ⟨bl, 0, none⟩ = some (.slice a5 n5 c5) := HC5.out.l.cell 0))
      go_ret2
      exact ⟨_, rfl, HC5.out.own, B15⟩
set_option maxRecDepth 100000 in
theorem meet_any (xs ys : List FS) (a1 a2 : Option Addr) (n1 n2 c1 c2 : Nat) (w : World) (hS1 : SlH w a1 n1 c1 xs) (hS2 : SlH w a2 n2 c2 ys) (hn1 : n1 ≤ 8000) (hn2 : n2 ≤ 8000) :
    Calls Tryd.prog 9 #[.slice a1 n1 c1, .slice a2 n2 c2] w fun e w' => ∃ v, e = .returned (.tuple #[v, .int .i64 (twoE xs ys)]) ∧ OwnL w' w.heap.size v (twoL andB xs ys) ∧ Below w.heap.size w w' := by
  have h := choose_meet xs ys a1 a2 n1 n2 c1 c2 w hS1 hS2 hn1 hn2
  generalize twoE xs ys = E at *
  generalize twoL andB xs ys = L at *
  clear hS1 hS2
  go_enter Tryd.func9, Tryd.ntmps9
  go_wp2_with (first
    | (go_at_call 25; refine h.mono ?_; rintro e W2 ⟨v, rfl, O2, B2⟩))
  go_ret2
  exact ⟨_, rfl, O2, B2⟩
set_option maxRecDepth 100000 in
set_option maxHeartbeats 4000000 in
theorem choose_minus (xs ys : List FS) (a1 a2 : Option Addr) (n1 n2 c1 c2 : Nat) (w : World) (hS1 : SlH w a1 n1 c1 xs) (hS2 : SlH w a2 n2 c2 ys) (hn1 : n1 ≤ 8000) (hn2 : n2 ≤ 8000) :
    Calls Tryd.prog 25 #[.slice a1 n1 c1, .slice a2 n2 c2, .func (.func 28) #[] #[]] w fun e w' => ∃ v, e = .returned (.tuple #[v, .int .i64 (twoE xs ys)]) ∧ OwnL w' w.heap.size v (twoL subB xs ys) ∧ Below w.heap.size w w' := by
  have HS1 : Hid (SlH w a1 n1 c1 xs) := hS1
  have HS2 : Hid (SlH w a2 n2 c2 ys) := hS2
  have hR1 := fun W (h : Seg W a1 (flatF xs)) => rises_any a1 c1 xs (by rw [hS1.len]; omega) W h
  have hR2 := fun W (h : Seg W a2 (flatF ys)) => rises_any a2 c2 ys (by rw [hS2.len]; omega) W h
  simp only [hS1.len] at hR1
  simp only [hS2.len] at hR2
  have hwalk := fun (bf bl : Nat) (W : World) (hW : Below w.heap.size w W) (hP : ∃ v, ChoW W w.heap.size bf bl 28 v (fltF subB [])) =>
    walk_any (fun d W => ∃ v, ChoW W w.heap.size bf bl 28 v (fltF subB d)) (mrg xs ys) xs ys rfl a1 a2 n1 n2 c1 c2 hS1 hS2 W hW hP (fun d W W' ⟨v, h⟩ hB => ⟨v, h.below hB⟩) (fun d X p q r hd W ⟨v, h⟩ hB =>
      (visit_minus X p q (subB p q) (by
        have h1 := fltF_len subB d
        have h2 := mrg_len xs ys
        rw [← hd, List.length_append] at h2
        rw [hS1.len, hS2.len] at h2
        omega) (fun W => minus_want p q W) h).mono fun e w' ⟨h1, v', h2, h3⟩ => ⟨h1, ⟨v', (by rw [fltF_snoc]; exact h2)⟩, hB.trans h3⟩)
  clear hS1 hS2
  have HE : Hid (∃ e, twoE xs ys = e ∧ e = if setB xs = true ∧ setB ys = true then 0 else 100) := ⟨_, rfl, rfl⟩
  have ta : True := trivial
  cases s1 : setB xs with
  | false =>
    have e1 : twoE xs ys = 100 := by unfold twoE; rw [s1]; simp
    have e2 : twoL subB xs ys = [] := by unfold twoL; rw [s1]; simp
    rw [e1, e2]
    simp only [s1] at hR1
    clear hwalk hR2 HE e1 e2
    go_enter Tryd.func25, Tryd.ntmps25
    go_wp2_with (first
      | (clear ta; refine wpList_box1 rfl _ _ rfl (.func (.func 28) #[] #[]) rfl rfl ?_; intro W1 bf F1 I1; have B1 := fresh_b F1)
      | (go_at_call 12; refine (hR1 _ (HS1.out.seg.below B1)).mono ?_; rintro e W2 ⟨rfl, B2⟩))
    go_ret2
    exact ⟨_, rfl, World.ownsRow_nil _ _ _ _, Below.then B1 B2⟩
  | true =>
    simp only [s1] at hR1
    cases s2 : setB ys with
    | false =>
      have e1 : twoE xs ys = 100 := by unfold twoE; rw [s2]; simp
      have e2 : twoL subB xs ys = [] := by unfold twoL; rw [s2]; simp
      rw [e1, e2]
      simp only [s2] at hR2
      clear hwalk HE e1 e2
      go_enter Tryd.func25, Tryd.ntmps25
      go_wp2_with (first
        | (clear ta; refine wpList_box1 rfl _ _ rfl (.func (.func 28) #[] #[]) rfl rfl ?_; intro W1 bf F1 I1; have B1 := fresh_b F1; have tb : True := trivial)
        | (clear tb; go_at_call 12; refine (hR1 _ (HS1.out.seg.below B1)).mono ?_; rintro e W2 ⟨rfl, B2⟩; have B12 := Below.then B1 B2; have tc : True := trivial)
        | (clear tc; go_at_call 12; refine (hR2 _ (HS2.out.seg.below B12)).mono ?_; rintro e W3 ⟨rfl, B3⟩))
      go_ret2
      exact ⟨_, rfl, World.ownsRow_nil _ _ _ _, Below.then B12 B3⟩
    | true =>
      have e1 : twoE xs ys = 0 := by unfold twoE; rw [s1, s2]; simp
      have e2 : twoL subB xs ys = fltF subB (mrg xs ys) := by unfold twoL; rw [s1, s2]; simp [twoF, fltF]
      rw [e1, e2]
      simp only [s2] at hR2
      clear HE e1 e2
      have td : True := trivial
      go_enter Tryd.func25, Tryd.ntmps25
      go_wp2_with (first
        | (clear ta; refine wpList_box1 rfl _ _ rfl (.func (.func 28) #[] #[]) rfl rfl ?_; intro W1 bf F1 I1; have B1 := fresh_b F1; have tb : True := trivial)
        | (clear tb; go_at_call 12; refine (hR1 _ (HS1.out.seg.below B1)).mono ?_; rintro e W2 ⟨rfl, B2⟩; have B12 := Below.then B1 B2; have tc : True := trivial)
        | (clear tc; go_at_call 12; refine (hR2 _ (HS2.out.seg.below B12)).mono ?_; rintro e W3 ⟨rfl, B3⟩; have B13 := Below.then B12 B3)
        | (clear td; refine wpList_alloc1 rfl 22 rfl (.slice none 0 0) rfl zeroSl ?_; intro W4 bl F4 L4; have B14 := Below.then B13 (fresh_b F4); have hbl : w.heap.size ≤ bl := (by have := F4.at'; have := B13.size; omega); have HC : Hid (ChoW W4 w.heap.size bf bl 28 (.slice none 0 0) (fltF subB [])) := ⟨I1.grown (Below.then (Below.then B2 B3) (fresh_b F4)), L4, World.ownsRow_nil _ _ _ _, hbl, B14.size⟩; clear F4 L4 I1 F1 hR1 hR2)
        | (go_at_call 42; refine (hwalk bf bl _ B14 ⟨_, HC.out⟩).mono ?_; rintro e W5 ⟨rfl, ⟨v5, C5⟩, B15⟩; clear hwalk; have HC5 : Hid (ChoW W5 w.heap.size bf bl 28 v5 (fltF subB (mrg xs ys))) := C5; clear C5; obtain ⟨a5, c5, hv5⟩ := own_form HC5.out.own; generalize (fltF subB (mrg xs ys)).length = n5 at hv5; subst hv5; have l5 : W5.cell? ⟨bl, 0, none⟩ = some (.slice a5 n5 c5) := HC5.out.l.cell 0))
      go_ret2
      exact ⟨_, rfl, HC5.out.own, B15⟩
set_option maxRecDepth 100000 in
theorem minus_any (xs ys : List FS) (a1 a2 : Option Addr) (n1 n2 c1 c2 : Nat) (w : World) (hS1 : SlH w a1 n1 c1 xs) (hS2 : SlH w a2 n2 c2 ys) (hn1 : n1 ≤ 8000) (hn2 : n2 ≤ 8000) :
    Calls Tryd.prog 10 #[.slice a1 n1 c1, .slice a2 n2 c2] w fun e w' => ∃ v, e = .returned (.tuple #[v, .int .i64 (twoE xs ys)]) ∧ OwnL w' w.heap.size v (twoL subB xs ys) ∧ Below w.heap.size w w' := by
  have h := choose_minus xs ys a1 a2 n1 n2 c1 c2 w hS1 hS2 hn1 hn2
  generalize twoE xs ys = E at *
  generalize twoL subB xs ys = L at *
  clear hS1 hS2
  go_enter Tryd.func10, Tryd.ntmps10
  go_wp2_with (first
    | (go_at_call 25; refine h.mono ?_; rintro e W2 ⟨v, rfl, O2, B2⟩))
  go_ret2
  exact ⟨_, rfl, O2, B2⟩
end Go.Proofs.YtbhgchhoeokjhabDoor

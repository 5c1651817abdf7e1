/- The law's examples hold: works. -/
import Derived.Test.YtbhgchhoeokjhabDoorPP1
import Derived.Test.YtbhgchhoeokjhabDoorT1
namespace Go.Proofs.YtbhgchhoeokjhabDoor
open Go Go.RowKit M
set_option linter.unusedSimpArgs false
set_option linter.unusedVariables false

theorem fold_setO : ∀ (l : List Value) (k off : Nat) (A : Array Value) (i : Nat), off + k + l.length ≤ A.size → ((l.zipIdx k).foldl (fun cs (p : Value × Nat) => cs.setIfInBounds (off + p.2) p.1) A)[i]? = if off + k ≤ i ∧ i < off + k + l.length then l[i - (off + k)]? else A[i]?
  | [], k, off, A, i, h => by simp [show ¬ (off + k ≤ i ∧ i < off + k) by omega]
  | v :: l, k, off, A, i, h => by
    simp only [List.length_cons] at h
    rw [List.zipIdx_cons, List.foldl_cons, fold_setO l (k + 1) off _ i (by simp; omega)]
    simp only [List.length_cons]
    by_cases h1 : off + (k + 1) ≤ i ∧ i < off + (k + 1) + l.length
    · rw [if_pos h1, if_pos (by omega), show i - (off + k) = (i - (off + (k + 1))) + 1 by omega]; rfl
    · rw [if_neg h1]
      by_cases h2 : i = off + k
      · subst h2
        rw [if_pos (by omega), Array.getElem?_setIfInBounds_self_of_lt (by omega)]; simp
      · rw [if_neg (by omega), Array.getElem?_setIfInBounds_ne (by omega)]
theorem fill_put (A : List Value) (i : Nat) (x : FS) (rest : List (Nat × Value)) (h : i * 49 + 49 ≤ A.length) : Instr.fill (fun i => some (i * 49, 49)) A.toArray ((i, Value.agg (encF x).toArray) :: rest) = Instr.fill (fun i => some (i * 49, 49)) (putL A (i * 49) (encF x)).toArray rest := by
  have e : (Value.agg (encF x).toArray).cells = (encF x).toArray := rfl
  have hl := encF_len x
  have hf : ((encF x).toArray.zipIdx.foldl (fun cs (p : Value × Nat) => cs.setIfInBounds (i * 49 + p.2) p.1) A.toArray) = (putL A (i * 49) (encF x)).toArray := by
    rw [← Array.foldl_toList, Array.toList_zipIdx]
    apply Array.ext_getElem?
    intro t
    have h1 := fold_setO (encF x) 0 (i * 49) A.toArray t (by simp [hl]; omega)
    have h2 : (putL A (i * 49) (encF x)).toArray[t]? = (putL A (i * 49) (encF x))[t]? := by simp
    rw [h1, h2, putL_get _ _ _ _ (by omega)]
    simp
  conv => lhs; unfold Instr.fill
  simp only [e, List.size_toArray, hl, ne_eq, not_true_eq_false, decide_false, Bool.false_or, gt_iff_lt, show ¬ (A.length < i * 49 + 49) by omega, Bool.false_eq_true, if_false]
  rw [hf]
theorem exec_build3 {w : World} {op : Oper} {a : Act} (p q r : Operand) (ho : op.op = .buildSlice 22 3 #[(0, p), (1, q), (2, r)]) (x y z : FS) (hp : a.eval p = .agg (encF x).toArray) (hq : a.eval q = .agg (encF y).toArray) (hr : a.eval r = .agg (encF z).toArray) :
    (execOp a.eval op).run Tryd.prog w = .ok (.value (.slice (some ⟨w.heap.size, 0, none⟩) 3 3)) (w.alloc (.cells (flatF [x, y, z]).toArray 27)) := by
  obtain ⟨i, hi, hz, hk, _⟩ := eFin.info
  have hR : RowC (flatF (List.replicate 3 FS.zero)) (List.replicate 3 FS.zero) := row_full
  have hl : (flatF (List.replicate 3 FS.zero)).length = 147 := by rw [flatF_len, List.length_replicate]
  have h3 := ((hR.set 0 (by simp) x).set 1 (by simp) y).set 2 (by simp) z
  have hfin : putL (putL (putL (flatF (List.replicate 3 FS.zero)) (0 * 49) (encF x)) (1 * 49) (encF y)) (2 * 49) (encF z) = flatF [x, y, z] := by
    have := h3
    unfold RowC at this
    rw [List.take_of_length_le (by rw [putL_len', putL_len', putL_len', hl]; simp)] at this
    exact this
  have hmade : ((Array.range (3 * 49)).map ((Value.agg (encF FS.zero).toArray).cells[· % (Value.agg (encF FS.zero).toArray).cells.size]!)) = (flatF (List.replicate 3 FS.zero)).toArray := made_flat 3 FS.zero
  have hrun := run_buildSlice (P := Tryd.prog) w 22 27 3 #[(0, .agg (encF x).toArray), (1, .agg (encF y).toArray), (2, .agg (encF z).toArray)] (flatF [x, y, z]).toArray i _ Tryd.underlying22 hi hz (by rw [hk]; decide) (by rw [hk]; decide) (by
    rw [hk, hmade, fill_put _ 0 x _ (by rw [hl]; omega), fill_put _ 1 y _ (by rw [putL_len', hl]; omega), fill_put _ 2 z _ (by rw [putL_len', putL_len', hl]; omega), hfin]
    rfl)
  unfold execOp
  simp only [ho, List.map_toArray, List.map_cons, List.map_nil, hp, hq, hr, Sem.run_bind, hrun, Result.andThen_ok, Sem.run_pure]
section
variable {w : World} {ops : Array Oper} {rest : List Oper} {op : Oper} {a : Act} {Q : Exit → Act → World → Prop}
theorem wpList_build3F (hgd : op.guard = none) (p q r : Operand) (ho : op.op = .buildSlice 22 3 #[(0, p), (1, q), (2, r)]) (x y z : FS) (hp : a.eval p = .agg (encF x).toArray) (hq : a.eval q = .agg (encF y).toArray) (hr : a.eval r = .agg (encF z).toArray)
    (h : ∀ W b, Fresh w W b → IsS W b 27 (flatF [x, y, z]) → wpList Tryd.prog ops Q rest (a.put op.dst (.slice (some ⟨b, 0, none⟩) 3 3)) W) : wpList Tryd.prog ops Q (op :: rest) a w := by
  refine wpList_plain hgd fun K hK => ?_
  unfold Oper.wp
  rw [exec_build3 p q r ho x y z hp hq hr]
  exact hK _ _ (h _ _ (Fresh.alloc w _) (IsS.new w _ _))
theorem wpList_build1J (hgd : op.guard = none) (x : Operand) (ho : op.op = .buildSlice 43 1 #[(0, x)]) (z : Int) (hx : a.eval x = .int .i64 z)
    (h : ∀ W b, Fresh w W b → IsS W b 3 [.int .i64 z] → wpList Tryd.prog ops Q rest (a.put op.dst (.slice (some ⟨b, 0, none⟩) 1 1)) W) : wpList Tryd.prog ops Q (op :: rest) a w := by
  refine wpList_plain hgd fun K hK => ?_
  unfold Oper.wp
  rw [exec_build1 eI3 x ho (.int .i64 z) hx rfl]
  exact hK _ _ (h _ _ (Fresh.alloc w _) (IsS.new w 3 [.int .i64 z]))
theorem wpList_build2R (hgd : op.guard = none) (p q : Operand) (ho : op.op = .buildSlice 50 2 #[(0, p), (1, q)]) (r s : RF) (hp : a.eval p = .agg (rfL r).toArray) (hq : a.eval q = .agg (rfL s).toArray)
    (h : ∀ W b, Fresh w W b → IsS W b 49 (rfL r ++ rfL s) → wpList Tryd.prog ops Q rest (a.put op.dst (.slice (some ⟨b, 0, none⟩) 2 2)) W) : wpList Tryd.prog ops Q (op :: rest) a w := by
  refine wpList_plain hgd fun K hK => ?_
  have hr : (execOp a.eval op).run Tryd.prog w = .ok (.value (.slice (some ⟨w.heap.size, 0, none⟩) 2 2)) (w.alloc (.cells (rfL r ++ rfL s).toArray 49)) := by
    generalize a.eval = ev at hp hq ⊢
    unfold execOp
    simp [ho, hp, hq, go_sem, Value.cells, rfL]
  unfold Oper.wp
  rw [hr]
  exact hK _ _ (h _ _ (Fresh.alloc w _) (IsS.new w _ _))
end
def of2 (a b : Int) : FS := mkF 2 [a, b]
set_option maxRecDepth 100000 in
set_option maxHeartbeats 2000000 in
theorem of_any (x y : Int) (w : World) : Calls Tryd.prog 20 #[.int .i64 x, .int .i64 y] w fun e w' => e = .returned (.agg (encF (of2 x y)).toArray) ∧ Below w.heap.size w w' := by
  have e1 : Hid ((encF (mkF 2 [])).set 1 (.int .i64 x) = encF (mkF 2 [x])) := encF_set 2 [] x (by simp)
  have e2 : Hid ((encF (mkF 2 [x])).set 2 (.int .i64 y) = encF (mkF 2 [x, y])) := encF_set 2 [x] y (by simp)
  have ta : True := trivial
  have tb : True := trivial
  have tc : True := trivial
  have td : True := trivial
  go_enter Tryd.func20, Tryd.ntmps20
  go_wp2_with (first
    | (clear ta; refine wpList_allocS rfl _ rfl (encF FS.zero) zeroF ?_; intro w1 b1 F1 I1)
    | (refine wpList_buildNF rfl _ rfl 2 rfl ?_)
    | (clear tb; refine wpList_allocS rfl _ rfl (encF FS.zero) zeroF ?_; intro w2 b2 F2 I2; have J2 := I1.fresh F2; have hb : b1 < b2 := (by have := I1.lt; rw [F2.at']; omega); have hw : w.heap.size ≤ b1 := (by rw [F1.at']; exact Nat.le_refl _))
    | (clear tc; refine wpList_storeF rfl _ _ rfl rfl rfl I2 ?_; intro w3 U3 I3; have J3 := J2.upd U3 (by omega); have ts : True := trivial)
    | (clear ts; refine wpList_store1 rfl 2 _ _ rfl rfl (.int .i64 x) rfl I3 (by rw [encF_len]; omega) info2 rfl ?_; intro w4 U4 I4; rw [e1.out] at I4; have J4 := J3.upd U4 (by omega); have tt : True := trivial)
    | (clear tt; refine wpList_store1 rfl 2 _ _ rfl rfl (.int .i64 y) rfl I4 (by rw [encF_len]; omega) info2 rfl ?_; intro w5 U5 I5; rw [e2.out] at I5; have J5 := J4.upd U5 (by omega))
    | (refine wpList_loadF rfl _ rfl rfl I5 ?_)
    | (clear td; refine wpList_storeF rfl _ _ rfl rfl rfl J5 ?_; intro w6 U6 I6))
  have B2 := Below.then (fresh_b F1) (fresh_b F2)
  exact ret_S rfl rfl rfl I6 _ Tryd.underlying27 rfl (infoFx _) ⟨rfl, U6.trans (U5.trans (U4.trans (U3.trans B2 (by omega)) (by omega)) (by omega)) (by omega)⟩
theorem ex_sort : setF [of2 1 2, of2 0 9, of2 1 2] = [of2 0 9, of2 1 2] := by decide +kernel
theorem ex_text : txtV (of2 0 (-1)) [(0, ⟨#[69, 65, 88]⟩), (-1, ⟨#[120]⟩)] = .tuple #[.string ⟨#[48, 58, 69, 65, 88, 61, 48, 59, 32, 120, 61, 45, 49, 59]⟩, .int .i64 0] := by kernel_rfl
theorem ex_code : codeV (of2 0 (-1)) = .tuple #[.string ⟨#[4, 0, 1]⟩, .int .i64 0] := by kernel_rfl
theorem ex_prjE : prjE [of2 0 9, of2 1 2] [1] = 0 := by decide +kernel
theorem ex_prjL : prjL [of2 0 9, of2 1 2] [1] = [mkF 1 [2], mkF 1 [9]] := by decide +kernel
theorem num_anyW (e : Int) (w : World) : Calls Tryd.prog 13 #[.int .i64 e] w fun x w' => x = .returned (.int .i64 e) ∧ Below w.heap.size w w' := by
  go_enter Tryd.func13, Tryd.ntmps13
  go_wp2
  go_ret
  exact ⟨rfl, Below.refl _ _⟩
theorem rfs_two {W : World} {b : Nat} {r s : RF} (I : IsS W b 49 (rfL r ++ rfL s)) : RfS W (some ⟨b, 0, none⟩) [r, s] := fun j v hv => ⟨b, 0, rfl, I.lt, by rw [Nat.zero_add, I.cell]; simpa using hv⟩
theorem nums_one {W : World} {b : Nat} {z : Int} (I : IsS W b 3 [.int .i64 z]) : NumS W (some ⟨b, 0, none⟩) [z] := fun j v hv => ⟨b, 0, rfl, I.lt, by rw [Nat.zero_add, I.cell]; exact hv⟩
theorem of2_wf : Wf (of2 0 (-1)) := by unfold Wf; decide +kernel
set_option maxRecDepth 100000 in
set_option maxHeartbeats 4000000 in
theorem works_any (w : World) (hT : Tab10 w) : Calls Tryd.prog 6 #[] w fun e w' => e = .returned (.bool true) ∧ Below w.heap.size w w' := by
  have h12 := fun W => of_any 1 2 W
  have h09 := fun W => of_any 0 9 W
  have h01 := fun W => of_any 0 (-1) W
  have hso : ∀ W b, IsS W b 27 (flatF [of2 1 2, of2 0 9, of2 1 2]) → Calls Tryd.prog 7 #[.slice (some ⟨b, 0, none⟩) 3 3] W fun e w' => ∃ v, e = .returned v ∧ OwnL w' W.heap.size v [of2 0 9, of2 1 2] ∧ Below W.heap.size W w' := fun W b I => by
    have := sort_any (some ⟨b, 0, none⟩) 3 [of2 1 2, of2 0 9, of2 1 2] (by simp) W (by have := seg_row I row_full 0 [of2 1 2, of2 0 9, of2 1 2] rfl; rwa [Nat.zero_mul] at this)
    rw [ex_sort] at this
    exact this
  have htx : ∀ W b, IsS W b 49 (rfL (0, ⟨#[69, 65, 88]⟩) ++ rfL (-1, ⟨#[120]⟩)) → Tab10 W → Calls Tryd.prog 21 #[.agg (encF (of2 0 (-1))).toArray, .slice (some ⟨b, 0, none⟩) 2 2] W fun e w' => e = .returned (.tuple #[.string ⟨#[48, 58, 69, 65, 88, 61, 48, 59, 32, 120, 61, 45, 49, 59]⟩, .int .i64 0]) ∧ Below W.heap.size W w' := fun W b I T => by
    have := txt_any (of2 0 (-1)) of2_wf (some ⟨b, 0, none⟩) 2 [(0, ⟨#[69, 65, 88]⟩), (-1, ⟨#[120]⟩)] (by intro r hr; simp at hr; rcases hr with rfl | rfl <;> exact ⟨by decide, by decide⟩) (by decide) (by decide) W (rfs_two I) T
    rw [ex_text] at this
    exact this
  have hco := fun W => code_any (of2 0 (-1)) of2_wf W
  simp only [ex_code] at hco
  have hpj : ∀ W gs cs b, OwnL W W.heap.size (.slice none 0 0) [] → Seg W (some ⟨gs, 0, none⟩) (flatF [of2 0 9, of2 1 2]) → IsS W b 3 [.int .i64 1] → Calls Tryd.prog 19 #[.slice (some ⟨gs, 0, none⟩) 2 cs, .slice (some ⟨b, 0, none⟩) 1 1] W fun e w' => ∃ v, e = .returned (.tuple #[v, .int .i64 0]) ∧ OwnL w' W.heap.size v [mkF 1 [2], mkF 1 [9]] ∧ Below W.heap.size W w' := fun W gs cs b _ S I => by
    have := project_any (some ⟨gs, 0, none⟩) (some ⟨b, 0, none⟩) cs 1 [of2 0 9, of2 1 2] [1] (by simp) (by simp) W S (nums_one I)
    rw [ex_prjE, ex_prjL] at this
    exact this
  have hcell : Hid ((encF (mkF 1 [2]))[1]? = some (.int .i64 2)) := rfl
  have t1 : True := trivial
  have t2 : True := trivial
  have t3 : True := trivial
  have t4 : True := trivial
  have t5 : True := trivial
  have HT : Hid (Tab10 w) := hT
  clear hT
  have hnum := fun W => num_anyW 0 W
  obtain ⟨f12, e12⟩ : ∃ f, of2 1 2 = f := ⟨_, rfl⟩
  obtain ⟨f09, e09⟩ : ∃ f, of2 0 9 = f := ⟨_, rfl⟩
  obtain ⟨f01, e01⟩ : ∃ f, of2 0 (-1) = f := ⟨_, rfl⟩
  obtain ⟨p1, ep1⟩ : ∃ f, mkF 1 [2] = f := ⟨_, rfl⟩
  obtain ⟨p2, ep2⟩ : ∃ f, mkF 1 [9] = f := ⟨_, rfl⟩
  simp only [e12, e09, e01, ep1, ep2] at h12 h09 h01 hso htx hco hpj hcell
  clear e12 e09 e01 ep1 ep2
  go_enter Tryd.func6, Tryd.ntmps6
  go_wp2_with (first
    | (clear t1; go_at_call 20; refine (h12 _).mono ?_; rintro e w1 ⟨rfl, B1⟩)
    | (clear t2; go_at_call 20; refine (h09 _).mono ?_; rintro e w2 ⟨rfl, B2⟩)
    | (clear t3; go_at_call 20; refine (h12 _).mono ?_; rintro e w3 ⟨rfl, B3⟩; have B03 := Below.then (Below.then B1 B2) B3)
    | (refine wpList_build3F rfl _ _ _ rfl f12 f09 f12 rfl rfl rfl ?_; intro w4 b4 F4 I4)
    | (go_at_call 7; refine (hso _ _ I4).mono ?_; rintro e w5 ⟨v5, rfl, O5, B5⟩; obtain ⟨gs, cs, cells5, hv5, _, I5, R5, _, _, _⟩ := own_open O5 (n := 2) rfl (by omega); subst hv5; have B05 := Below.then (Below.then B03 (fresh_b F4)) B5)
    | (clear t4; go_at_call 20; refine (h01 _).mono ?_; rintro e w6 ⟨rfl, B6⟩)
    | (refine wpList_build2R rfl _ _ rfl (0, ⟨#[69, 65, 88]⟩) (-1, ⟨#[120]⟩) rfl rfl ?_; intro w7 b7 F7 I7; have B07 := Below.then (Below.then B05 B6) (fresh_b F7))
    | (go_at_call 21; refine (htx _ _ I7 (HT.out.below B07)).mono ?_; rintro e w8 ⟨rfl, B8⟩)
    | (clear t5; go_at_call 20; refine (h01 _).mono ?_; rintro e w9 ⟨rfl, B9⟩)
    | (go_at_call 17; refine (hco _).mono ?_; rintro e wA ⟨rfl, BA⟩)
    | (refine wpList_build1J rfl _ rfl 1 rfl ?_; intro wB bB FB IB; have B5B := Below.then (Below.then (Below.then (Below.then (Below.then B6 (fresh_b F7)) B8) B9) BA) (fresh_b FB); have SB : Seg wB (some ⟨gs, 0, none⟩) (flatF [f09, f12]) := (by have := seg_row (I5.grown B5B) R5 0 [f09, f12] rfl; rwa [Nat.zero_mul] at this))
    | (go_at_call 19; refine (hpj _ gs cs bB (World.ownsRow_nil _ _ _ _) SB IB).mono ?_; rintro e wC ⟨vC, rfl, OC, BC⟩; obtain ⟨gp, cp, cellsP, hvC, _, IP, RP, _, _, _⟩ := own_open OC (n := 2) rfl (by omega); subst hvC))
  have B5C := Below.then B5B BC
  have HX1 : wC.rangeAt gs 0 (encF f09) := by have := R5.range (I5.grown B5C) 0 (by simp); simpa using this
  have HB1 : gs < wC.heap.size := (I5.grown B5C).lt
  have cP : wC.cell? ⟨gp, 1, none⟩ = some (.int .i64 2) := by
    have := RP.range IP 0 (by simp)
    have h2 := this 1 (.int .i64 2) hcell.out
    simpa using h2
  have hst : True := trivial
  have hsc : True := trivial
  have hof := h09
  refine grow_tailW 46 (by kernel_rfl) (by kernel_rfl) ?_
  simp only [List.take_succ_cons, List.take_zero, List.drop_succ_cons, List.drop_zero]
  refine WG.put rfl (v := .slice (some ⟨gs, 0, none⟩) 2 cs) (fun w => by first | rfl | (go_simp; done) | (simp [go_sem]; done)) ?_
  simp only [Act.put, List.setIfInBounds_toArray, List.set_cons_succ, List.set_cons_zero]
  refine WG.put rfl (v := .int .i64 2) (fun w => by first | rfl | (go_simp; done) | (simp [go_sem]; done)) ?_
  simp only [Act.put, List.setIfInBounds_toArray, List.set_cons_succ, List.set_cons_zero]
  refine WG.put rfl (v := .bool true) (fun w => by first | rfl | (go_simp; done) | (simp [go_sem]; done)) ?_
  simp only [Act.put, List.setIfInBounds_toArray, List.set_cons_succ, List.set_cons_zero]
  refine WG.put rfl (v := .bool true) (fun w => by first | rfl | (go_simp; done) | (simp [go_sem]; done)) ?_
  simp only [Act.put, List.setIfInBounds_toArray, List.set_cons_succ, List.set_cons_zero]
  refine WG.put rfl (v := .slice (some ⟨gs, 0, none⟩) 2 cs) (fun w => by first | rfl | (go_simp; done) | (simp [go_sem]; done)) ?_
  simp only [Act.put, List.setIfInBounds_toArray, List.set_cons_succ, List.set_cons_zero]
  refine WG.put rfl (v := .pointer (some ⟨gs, 0, none⟩)) (fun w => by first | rfl | (go_simp; done) | (simp [go_sem]; done)) ?_
  simp only [Act.put, List.setIfInBounds_toArray, List.set_cons_succ, List.set_cons_zero]
  refine WG.elem (x := f09) rfl _ rfl rfl HB1 HX1 ?_
  simp only [Act.put, List.setIfInBounds_toArray, List.set_cons_succ, List.set_cons_zero]
  refine WG.call rfl (v := .agg (encF f09).toArray) (fun w _ => hof w) (fun w => by first | rfl | (go_simp; done) | (simp [go_sem]; done)) ?_
  simp only [Act.put, List.setIfInBounds_toArray, List.set_cons_succ, List.set_cons_zero]
  refine WG.eqF rfl _ _ rfl rfl rfl true (by simp) ?_
  simp only [Act.put, List.setIfInBounds_toArray, List.set_cons_succ, List.set_cons_zero]
  refine WG.put rfl (v := .bool true) (fun w => by first | rfl | (go_simp; done) | (simp [go_sem]; done)) ?_
  simp only [Act.put, List.setIfInBounds_toArray, List.set_cons_succ, List.set_cons_zero]
  refine WG.put rfl (v := .bool true) (fun w => by first | rfl | (go_simp; done) | (simp [go_sem]; done)) ?_
  simp only [Act.put, List.setIfInBounds_toArray, List.set_cons_succ, List.set_cons_zero]
  refine WG.put rfl (v := .int .i64 0) (fun w => by first | rfl | (go_simp; done) | (simp [go_sem]; done)) ?_
  simp only [Act.put, List.setIfInBounds_toArray, List.set_cons_succ, List.set_cons_zero]
  refine WG.call rfl (v := .int .i64 0) (fun w _ => hnum w) (fun w => by first | rfl | (go_simp; done) | (simp [go_sem]; done)) ?_
  simp only [Act.put, List.setIfInBounds_toArray, List.set_cons_succ, List.set_cons_zero]
  refine WG.put rfl (v := .bool true) (fun w => by first | rfl | (go_simp; done) | (simp [go_sem]; done)) ?_
  simp only [Act.put, List.setIfInBounds_toArray, List.set_cons_succ, List.set_cons_zero]
  refine WG.put rfl (v := .bool true) (fun w => by first | rfl | (go_simp; done) | (simp [go_sem]; done)) ?_
  simp only [Act.put, List.setIfInBounds_toArray, List.set_cons_succ, List.set_cons_zero]
  refine WG.put rfl (v := .bool true) (fun w => by first | rfl | (go_simp; done) | (simp [go_sem]; done)) ?_
  simp only [Act.put, List.setIfInBounds_toArray, List.set_cons_succ, List.set_cons_zero]
  refine WG.put rfl (v := .string ⟨#[48, 58, 69, 65, 88, 61, 48, 59, 32, 120, 61, 45, 49, 59]⟩) (fun w => by first | rfl | (go_simp; done) | (simp [go_sem]; done)) ?_
  simp only [Act.put, List.setIfInBounds_toArray, List.set_cons_succ, List.set_cons_zero]
  refine WG.put rfl (v := .bool true) (fun w => by first | rfl | (go_simp; done) | (simp [go_sem, hst]; done)) ?_
  simp only [Act.put, List.setIfInBounds_toArray, List.set_cons_succ, List.set_cons_zero]
  refine WG.put rfl (v := .bool true) (fun w => by first | rfl | (go_simp; done) | (simp [go_sem]; done)) ?_
  simp only [Act.put, List.setIfInBounds_toArray, List.set_cons_succ, List.set_cons_zero]
  refine WG.put rfl (v := .bool true) (fun w => by first | rfl | (go_simp; done) | (simp [go_sem]; done)) ?_
  simp only [Act.put, List.setIfInBounds_toArray, List.set_cons_succ, List.set_cons_zero]
  refine WG.put rfl (v := .int .i64 0) (fun w => by first | rfl | (go_simp; done) | (simp [go_sem]; done)) ?_
  simp only [Act.put, List.setIfInBounds_toArray, List.set_cons_succ, List.set_cons_zero]
  refine WG.call rfl (v := .int .i64 0) (fun w _ => hnum w) (fun w => by first | rfl | (go_simp; done) | (simp [go_sem]; done)) ?_
  simp only [Act.put, List.setIfInBounds_toArray, List.set_cons_succ, List.set_cons_zero]
  refine WG.put rfl (v := .bool true) (fun w => by first | rfl | (go_simp; done) | (simp [go_sem]; done)) ?_
  simp only [Act.put, List.setIfInBounds_toArray, List.set_cons_succ, List.set_cons_zero]
  refine WG.put rfl (v := .bool true) (fun w => by first | rfl | (go_simp; done) | (simp [go_sem]; done)) ?_
  simp only [Act.put, List.setIfInBounds_toArray, List.set_cons_succ, List.set_cons_zero]
  refine WG.put rfl (v := .bool true) (fun w => by first | rfl | (go_simp; done) | (simp [go_sem]; done)) ?_
  simp only [Act.put, List.setIfInBounds_toArray, List.set_cons_succ, List.set_cons_zero]
  refine WG.put rfl (v := .string ⟨#[4, 0, 1]⟩) (fun w => by first | rfl | (go_simp; done) | (simp [go_sem]; done)) ?_
  simp only [Act.put, List.setIfInBounds_toArray, List.set_cons_succ, List.set_cons_zero]
  refine WG.put rfl (v := .bool true) (fun w => by first | rfl | (go_simp; done) | (simp [go_sem, hsc]; done)) ?_
  simp only [Act.put, List.setIfInBounds_toArray, List.set_cons_succ, List.set_cons_zero]
  refine WG.put rfl (v := .bool true) (fun w => by first | rfl | (go_simp; done) | (simp [go_sem]; done)) ?_
  simp only [Act.put, List.setIfInBounds_toArray, List.set_cons_succ, List.set_cons_zero]
  refine WG.put rfl (v := .bool true) (fun w => by first | rfl | (go_simp; done) | (simp [go_sem]; done)) ?_
  simp only [Act.put, List.setIfInBounds_toArray, List.set_cons_succ, List.set_cons_zero]
  refine WG.put rfl (v := .int .i64 0) (fun w => by first | rfl | (go_simp; done) | (simp [go_sem]; done)) ?_
  simp only [Act.put, List.setIfInBounds_toArray, List.set_cons_succ, List.set_cons_zero]
  refine WG.call rfl (v := .int .i64 0) (fun w _ => hnum w) (fun w => by first | rfl | (go_simp; done) | (simp [go_sem]; done)) ?_
  simp only [Act.put, List.setIfInBounds_toArray, List.set_cons_succ, List.set_cons_zero]
  refine WG.put rfl (v := .bool true) (fun w => by first | rfl | (go_simp; done) | (simp [go_sem]; done)) ?_
  simp only [Act.put, List.setIfInBounds_toArray, List.set_cons_succ, List.set_cons_zero]
  refine WG.put rfl (v := .bool true) (fun w => by first | rfl | (go_simp; done) | (simp [go_sem]; done)) ?_
  simp only [Act.put, List.setIfInBounds_toArray, List.set_cons_succ, List.set_cons_zero]
  refine WG.put rfl (v := .bool true) (fun w => by first | rfl | (go_simp; done) | (simp [go_sem]; done)) ?_
  simp only [Act.put, List.setIfInBounds_toArray, List.set_cons_succ, List.set_cons_zero]
  refine WG.put rfl (v := .slice (some ⟨gp, 0, none⟩) 2 cp) (fun w => by first | rfl | (go_simp; done) | (simp [go_sem]; done)) ?_
  simp only [Act.put, List.setIfInBounds_toArray, List.set_cons_succ, List.set_cons_zero]
  refine WG.put rfl (v := .int .i64 2) (fun w => by first | rfl | (go_simp; done) | (simp [go_sem]; done)) ?_
  simp only [Act.put, List.setIfInBounds_toArray, List.set_cons_succ, List.set_cons_zero]
  refine WG.put rfl (v := .bool true) (fun w => by first | rfl | (go_simp; done) | (simp [go_sem]; done)) ?_
  simp only [Act.put, List.setIfInBounds_toArray, List.set_cons_succ, List.set_cons_zero]
  refine WG.put rfl (v := .bool true) (fun w => by first | rfl | (go_simp; done) | (simp [go_sem]; done)) ?_
  simp only [Act.put, List.setIfInBounds_toArray, List.set_cons_succ, List.set_cons_zero]
  refine WG.put rfl (v := .bool true) (fun w => by first | rfl | (go_simp; done) | (simp [go_sem]; done)) ?_
  simp only [Act.put, List.setIfInBounds_toArray, List.set_cons_succ, List.set_cons_zero]
  refine WG.put rfl (v := .slice (some ⟨gp, 0, none⟩) 2 cp) (fun w => by first | rfl | (go_simp; done) | (simp [go_sem]; done)) ?_
  simp only [Act.put, List.setIfInBounds_toArray, List.set_cons_succ, List.set_cons_zero]
  refine WG.put rfl (v := .pointer (some ⟨gp, 0, none⟩)) (fun w => by first | rfl | (go_simp; done) | (simp [go_sem]; done)) ?_
  simp only [Act.put, List.setIfInBounds_toArray, List.set_cons_succ, List.set_cons_zero]
  refine WG.put rfl (v := .pointer (some ⟨gp, 1, none⟩)) (fun w => by first | rfl | (go_simp; done) | (simp [go_sem]; done)) ?_
  simp only [Act.put, List.setIfInBounds_toArray, List.set_cons_succ, List.set_cons_zero]
  refine WG.put rfl (v := .pointer (some ⟨gp, 1, none⟩)) (fun w => by first | rfl | (go_simp; done) | (simp [go_sem]; done)) ?_
  simp only [Act.put, List.setIfInBounds_toArray, List.set_cons_succ, List.set_cons_zero]
  refine WG.cell rfl 2 _ rfl rfl cP ld2 ?_
  simp only [Act.put, List.setIfInBounds_toArray, List.set_cons_succ, List.set_cons_zero]
  refine WG.put rfl (v := .bool true) (fun w => by first | rfl | (go_simp; done) | (simp [go_sem]; done)) ?_
  simp only [Act.put, List.setIfInBounds_toArray, List.set_cons_succ, List.set_cons_zero]
  refine WG.put rfl (v := .bool true) (fun w => by first | rfl | (go_simp; done) | (simp [go_sem]; done)) ?_
  simp only [Act.put, List.setIfInBounds_toArray, List.set_cons_succ, List.set_cons_zero]
  refine WG.nil ?_
  intro wD BD
  go_wp2
  go_ret
  exact ⟨rfl, Below.then (Below.then B05 B5C) BD⟩
end Go.Proofs.YtbhgchhoeokjhabDoor

/- Several texts in one: R0, RJ. -/
import Derived.Test.YtbhgchhoeokjhabDoorCH
import Derived.Test.YtbhgchhoeokjhabDoorYA
import Derived.Test.YtbhgchhoeokjhabDoorGT
import Derived.Test.YtbhgchhoeokjhabDoorRI
/- Appends of whole lists of final states; a slice literal of two; what the law's in answers. -/
namespace Go.Proofs.YtbhgchhoeokjhabDoor
open Go Go.RowKit M
set_option linter.unusedSimpArgs false
set_option linter.unusedVariables false

section
variable {w : World} {ops : Array Oper} {rest : List Oper} {op : Oper} {a : Act} {Q : Exit → Act → World → Prop}
theorem wpList_b0L (hgd : op.guard = none) (ho : op.op = .buildSlice 22 0 #[])
    (h : ∀ W v, Below w.heap.size w W → OwnL W w.heap.size v [] → wpList Tryd.prog ops Q rest (a.put op.dst v) W) : wpList Tryd.prog ops Q (op :: rest) a w := by
  refine wpList_plain hgd fun K hK => ?_
  unfold Oper.wp
  rw [exec_build0 eFin ho]
  exact hK _ _ (h _ _ (fresh_b (Fresh.alloc w _)) (own_build0 eFin w))
theorem wpList_appL (hgd : op.guard = none) (s x : Operand) (ho : op.op = .call { callee := .builtin .append, args := #[s, x], argTypes := #[22, 22] })
    (B : Nat) (v : Value) (l : List FS) (hs : a.eval s = v) (hown : OwnL w B v l) (u : Value) (m : List FS) (hx : a.eval x = u) (hu : RowV w u m.length (flatF m)) (hn : l.length + m.length ≤ 4194304) (hB : B ≤ w.heap.size)
    (h : ∀ v' w', OwnL w' B v' (l ++ m) → w.grownBy w' v.ownBlock → wpList Tryd.prog ops Q rest (a.put op.dst v') w') : wpList Tryd.prog ops Q (op :: rest) a w := by
  refine wpList_appM eFin hgd s x ho B v l.length (flatF l) hs hown _ m.length (flatF m) hx hu (flatF_len _) (flatF_one _) hn hB fun v' w' h1 h2 => h v' w' ?_ h2
  unfold OwnL
  rw [List.length_append, flatF_append]
  exact h1
end
theorem range_below {w W : World} {b o : Nat} {cs : List Value} (h : w.rangeAt b o cs) (hB : Below w.heap.size w W) (hb : b < w.heap.size) : W.rangeAt b o cs := fun i u hu => by rw [hB.cell (p := ⟨b, o + i, none⟩) hb]; exact h i u hu
theorem own_seg' {w : World} {B n c : Nat} {a : Option Addr} {l : List FS} (h : OwnL w B (.slice a n c) l) : Seg w a (flatF l) := by
  obtain ⟨a', c', e, s⟩ := own_seg h
  injection e with e1 e2 e3
  rw [e1]; exact s
theorem own_null {w : World} {B n c : Nat} {a : Option Addr} {l : List FS} (h : OwnL w B (.slice a n c) l) : a = none → c = 0 := by
  obtain ⟨a', c', e, _, hz⟩ := own_row h
  injection e with e1 e2 e3
  rw [e1, e3]; exact hz
theorem exec_build2F {w : World} {op : Oper} {a : Act} (p q : Operand) (ho : op.op = .buildSlice 22 2 #[(0, p), (1, q)]) (x y : FS) (hp : a.eval p = .agg (encF x).toArray) (hq : a.eval q = .agg (encF y).toArray) :
    (execOp a.eval op).run Tryd.prog w = .ok (.value (.slice (some ⟨w.heap.size, 0, none⟩) 2 2)) (w.alloc (.cells (flatF [x, y]).toArray 27)) := by
  obtain ⟨i, hi, hz, hk, _⟩ := eFin.info
  have hR : RowC (flatF (List.replicate 2 FS.zero)) (List.replicate 2 FS.zero) := row_full
  have hl : (flatF (List.replicate 2 FS.zero)).length = 98 := by rw [flatF_len, List.length_replicate]
  have h3 := (hR.set 0 (by simp) x).set 1 (by simp) y
  have hfin : putL (putL (flatF (List.replicate 2 FS.zero)) (0 * 49) (encF x)) (1 * 49) (encF y) = flatF [x, y] := by
    have := h3
    unfold RowC at this
    rw [List.take_of_length_le (by rw [putL_len', putL_len', hl]; simp)] at this
    exact this
  have hmade : ((Array.range (2 * 49)).map ((Value.agg (encF FS.zero).toArray).cells[· % (Value.agg (encF FS.zero).toArray).cells.size]!)) = (flatF (List.replicate 2 FS.zero)).toArray := made_flat 2 FS.zero
  have hrun := run_buildSlice (P := Tryd.prog) w 22 27 2 #[(0, .agg (encF x).toArray), (1, .agg (encF y).toArray)] (flatF [x, y]).toArray i _ Tryd.underlying22 hi hz (by rw [hk]; decide) (by rw [hk]; decide) (by
    rw [hk, hmade, fill_put _ 0 x _ (by rw [hl]; omega), fill_put _ 1 y _ (by rw [putL_len', hl]; omega), hfin]
    rfl)
  unfold execOp
  simp only [ho, List.map_toArray, List.map_cons, List.map_nil, hp, hq, Sem.run_bind, hrun, Result.andThen_ok, Sem.run_pure]
section
variable {w : World} {ops : Array Oper} {rest : List Oper} {op : Oper} {a : Act} {Q : Exit → Act → World → Prop}
theorem wpList_build2F (hgd : op.guard = none) (p q : Operand) (ho : op.op = .buildSlice 22 2 #[(0, p), (1, q)]) (x y : FS) (hp : a.eval p = .agg (encF x).toArray) (hq : a.eval q = .agg (encF y).toArray)
    (h : ∀ W b, Fresh w W b → RowV W (.slice (some ⟨b, 0, none⟩) 2 2) [x, y].length (flatF [x, y]) → wpList Tryd.prog ops Q rest (a.put op.dst (.slice (some ⟨b, 0, none⟩) 2 2)) W) : wpList Tryd.prog ops Q (op :: rest) a w := by
  refine wpList_plain hgd fun K hK => ?_
  unfold Oper.wp
  rw [exec_build2F p q ho x y hp hq]
  have I : IsS (w.alloc (.cells (flatF [x, y]).toArray 27)) w.heap.size 27 (flatF [x, y]) := IsS.new w _ _
  exact hK _ _ (h _ _ (Fresh.alloc w _) ⟨some ⟨w.heap.size, 0, none⟩, 2, rfl, fun j v hv => ⟨w.heap.size, 0, rfl, I.lt, by rw [Nat.zero_add, I.cell]; exact hv⟩, fun e => by cases e⟩)
end
/-- Every member twice, from the last one on. -/
def twD (l : List FS) (j : Nat) : List FS := (l.drop j).reverse.flatMap fun x => [x, x]
theorem twD_step (l : List FS) (j : Nat) (h : j < l.length) : twD l j = twD l (j + 1) ++ [l.getD j FS.zero, l.getD j FS.zero] := by
  unfold twD
  rw [List.drop_eq_getElem_cons h, List.reverse_cons, List.flatMap_append, getD_at l j h]
  simp
theorem twD_end (l : List FS) : twD l l.length = [] := by unfold twD; simp
theorem twD_len (l : List FS) (j : Nat) : (twD l j).length ≤ 2 * l.length := by
  unfold twD
  have h : ∀ m : List FS, (m.flatMap fun x => [x, x]).length = 2 * m.length := by
    intro m
    induction m with
    | nil => rfl
    | cons x m ih => rw [List.flatMap_cons, List.length_append, ih, List.length_cons]; simp; omega
  rw [h, List.length_reverse, List.length_drop]; omega
theorem twD_set (l : List FS) : setF (twD l 0) = setF l := by
  refine setF_ext fun x _ => ?_
  unfold twD
  simp
set_option maxRecDepth 100000 in
set_option maxHeartbeats 2000000 in
theorem in_any (a : Option Addr) (cap : Nat) (l : List FS) (f : FS) (hn : l.length ≤ 8000) (w : World) (hS : Seg w a (flatF l)) :
    Calls Tryd.prog 14 #[.slice a l.length cap, .agg (encF f).toArray] w fun e w' => e = .returned (.bool (decide (f ∈ l))) ∧ Below w.heap.size w w' := by
  obtain ⟨n, hll⟩ : ∃ n, l.length = n := ⟨_, rfl⟩
  simp only [hll] at hn ⊢
  have HLL : Hid (l.length = n) := hll
  have HS : Hid (Seg w a (flatF l)) := hS
  have hnI : (n : Int) ≤ 8000 := by omega
  clear hll hS
  go_enter Tryd.func14, Tryd.ntmps14
  have ta : True := trivial
  go_wp2_with (first
    | (clear ta; refine wpList_boxS rfl _ _ rfl (encF f) rfl ?_; intro w1 b1 F1 I1; have B1 := fresh_b F1))
  go_loopw [5] (fun i wr => ∃ p : Nat, p ≤ n ∧ i = .int .i64 (p : Int) ∧ Hid (∀ j, j < p → l.getD j FS.zero ≠ f) ∧ Below w1.heap.size w1 wr) (fun i _ => n - (intOf i).toNat)
  case atStart => exact ⟨0, Nat.zero_le _, rfl, fun j hj => absurd hj (Nat.not_lt_zero _), Below.refl _ _⟩
  case round =>
    obtain ⟨p, hp, rfl, HF, BR⟩ := hrel
    have I2 := I1.grown BR
    by_cases hpl : p < n
    · have hpn : (p : Int) < (n : Int) := by omega
      obtain ⟨b, o, ea, HB, HX⟩ := seg_elem (HS.out.below (Below.then B1 BR)) p (by rw [HLL.out]; exact hpl)
      subst ea
      have hpl2 : p < l.length := by rw [HLL.out]; exact hpl
      have hmem : Hid (l.getD p FS.zero ∈ l) := by
        show _ ∈ _
        rw [getD_at l p hpl2]
        exact List.getElem_mem hpl2
      clear hpl2
      obtain ⟨X, hX⟩ : ∃ X, l.getD p FS.zero = X := ⟨_, rfl⟩
      have HXe : Hid (l.getD p FS.zero = X) := hX
      rw [hX] at HX hmem
      clear hX
      by_cases hxf : X = f
      · have hd : decide (X = f) = true := by simp [hxf]
        have HD : Hid (decide (f ∈ l) = true) := by rw [← hxf]; exact decide_eq_true hmem.out
        clear hxf
        go_wp2
        refine grow_allW (by kernel_rfl) (by kernel_rfl) ?_
        refine WG.put rfl (v := .slice (some ⟨b, o, none⟩) n cap) (fun w => by first | rfl | (go_simp; done) | (simp [go_sem]; done)) ?_
        simp only [Act.put, List.setIfInBounds_toArray, List.set_cons_succ, List.set_cons_zero]
        refine WG.put rfl (v := .int .i64 (p : Int)) (fun w => by first | rfl | (go_simp; done) | (simp [go_sem]; done)) ?_
        simp only [Act.put, List.setIfInBounds_toArray, List.set_cons_succ, List.set_cons_zero]
        refine WG.put rfl (v := .pointer (some ⟨b, o + p * 49, none⟩)) (fun w => by first | rfl | (go_simp; done) | (simp [go_sem, hpn]; done)) ?_
        simp only [Act.put, List.setIfInBounds_toArray, List.set_cons_succ, List.set_cons_zero]
        refine WG.elem (x := X) rfl _ rfl rfl HB HX ?_
        simp only [Act.put, List.setIfInBounds_toArray, List.set_cons_succ, List.set_cons_zero]
        refine WG.whole rfl _ rfl rfl I2 ?_
        simp only [Act.put, List.setIfInBounds_toArray, List.set_cons_succ, List.set_cons_zero]
        refine WG.eqF rfl _ _ rfl rfl rfl true hd ?_
        simp only [Act.put, List.setIfInBounds_toArray, List.set_cons_succ, List.set_cons_zero]
        refine WG.nil ?_
        intro w5 B5
        clear HX
        go_wp2
        go_ret
        exact ⟨by rw [HD.out]; rfl, Below.then (Below.then B1 BR) B5⟩
      · have hd : decide (X = f) = false := by simp [hxf]
        go_wp2
        refine grow_allW (by kernel_rfl) (by kernel_rfl) ?_
        refine WG.put rfl (v := .slice (some ⟨b, o, none⟩) n cap) (fun w => by first | rfl | (go_simp; done) | (simp [go_sem]; done)) ?_
        simp only [Act.put, List.setIfInBounds_toArray, List.set_cons_succ, List.set_cons_zero]
        refine WG.put rfl (v := .int .i64 (p : Int)) (fun w => by first | rfl | (go_simp; done) | (simp [go_sem]; done)) ?_
        simp only [Act.put, List.setIfInBounds_toArray, List.set_cons_succ, List.set_cons_zero]
        refine WG.put rfl (v := .pointer (some ⟨b, o + p * 49, none⟩)) (fun w => by first | rfl | (go_simp; done) | (simp [go_sem, hpn]; done)) ?_
        simp only [Act.put, List.setIfInBounds_toArray, List.set_cons_succ, List.set_cons_zero]
        refine WG.elem (x := X) rfl _ rfl rfl HB HX ?_
        simp only [Act.put, List.setIfInBounds_toArray, List.set_cons_succ, List.set_cons_zero]
        refine WG.whole rfl _ rfl rfl I2 ?_
        simp only [Act.put, List.setIfInBounds_toArray, List.set_cons_succ, List.set_cons_zero]
        refine WG.eqF rfl _ _ rfl rfl rfl false hd ?_
        simp only [Act.put, List.setIfInBounds_toArray, List.set_cons_succ, List.set_cons_zero]
        refine WG.nil ?_
        intro w5 B5
        clear HX
        go_wp2
        go_roundw
        case rel =>
          refine ⟨p + 1, by omega, by go_num, fun j hj => ?_, Below.then BR B5⟩
          rcases Nat.lt_succ_iff_lt_or_eq.1 hj with h | h
          · exact HF.out j h
          · subst h; rw [HXe.out]; exact hxf
        case measure => simp [intOf]; omega
    · have hpn : ¬ ((p : Int) < (n : Int)) := by omega
      have HD : Hid (decide (f ∈ l) = false) := by
        refine decide_eq_false fun hm => ?_
        obtain ⟨j, hj, e⟩ := List.getElem_of_mem hm
        rw [← getD_at l j hj] at e
        exact HF.out j (by rw [HLL.out] at hj; omega) e
      go_wp2
      go_ret
      exact ⟨by rw [HD.out]; rfl, Below.then B1 BR⟩
end Go.Proofs.YtbhgchhoeokjhabDoor
/- Steps of such a region. -/
namespace Go.Proofs.YtbhgchhoeokjhabDoor
open Go
set_option linter.unusedVariables false
set_option linter.unusedSimpArgs false
section
variable {P : Program} {ops : Array Oper} {Q : Exit → Act → World → Prop}
theorem region_invA {id : Nat} {a : Act} {w : World} {l : List Oper} (n : Nat) (I : Act → Array Bool → Act → World → Prop) (hm : P.follows .mixedOrders = true)
    (hB : (Region.sinkB .any l.toArray n && Region.chainB .any l.toArray n && decide (n < l.length) && fwdB l.toArray n && Region.seqB .any l.toArray (l.drop n).length n (fullB l.length n)) = true)
    (h0 : I a (Array.replicate l.length false) a { w with drawn := w.drawn + 1 })
    (hstep : ∀ i listed a' w', i < n → i ∈ Region.ready .any l.toArray listed → I a listed a' w' → wpOp P l.toArray Q i (fun a'' w'' => I a (listed.setIfInBounds i true) a'' w'') a' w')
    (hend : ∀ a' w', I a (fullB l.length n) a' w' → wpList P l.toArray Q (l.drop n) a' w') : (Code.region id l.toArray true).wp P Q a w :=
  region_inv n (I a) hm hB h0 hstep hend
theorem wpOp_value {i : Nat} {o : Oper} {K : Act → World → Prop} {a : Act} {w w' : World} {v : Value} (hi : ops[i]? = some o) (hg : o.guard = none) (hr : (execOp a.eval o).run P w = .ok (.value v) w') (h : K (a.put o.dst v) w') : wpOp P ops Q i K a w := by
  unfold wpOp
  rw [hi]
  simp only [Region.wanted, hg, if_true]
  refine Or.inl ?_
  unfold Oper.wp
  rw [hr]
  exact h
theorem wpOp_call {i : Nat} {o : Oper} {K : Act → World → Prop} {a : Act} {w : World} {f : FuncId} {args : Array Value} (hi : ops[i]? = some o) (hg : o.guard = none) (hr : (execOp a.eval o).run P w = .ok (.enter f args) w) (h : Calls P f args w fun e w' => ∃ v, e = .returned v ∧ K (a.put o.dst v) w') : wpOp P ops Q i K a w := by
  unfold wpOp
  rw [hi]
  simp only [Region.wanted, hg, if_true]
  refine Or.inl ?_
  unfold Oper.wp
  rw [hr]
  refine Calls.mono h fun e w' he => ?_
  obtain ⟨v, rfl, hk⟩ := he
  exact hk
/-- What is listed behind one more was listed, but for that one. -/
theorem keep {listed : Array Bool} {i j : Nat} (hij : i ≠ j) (h : (listed.setIfInBounds i true).getD j false = true) : listed.getD j false = true := by rw [getD_set_ne false hij] at h; exact h
theorem not_rep {n j : Nat} (h : (Array.replicate n false).getD j false = true) : False := by rw [getD_replicate_false] at h; cases h
end
end Go.Proofs.YtbhgchhoeokjhabDoor

/- Rows of final states in memory: read, and one's own; what a block's cells say of a list. -/
import Derived.Test.YtimdmiefjnokmaaCR
namespace Go.Proofs.Ytimdmiefjnokmaa
open Go.RowKit M
set_option linter.unusedSimpArgs false
set_option linter.unusedVariables false

/-- The cells of final states. -/
def flatF (l : List FS) : List Value := l.flatMap encF
theorem flatF_len (l : List FS) : (flatF l).length = l.length * 49 := by
  induction l with
  | nil => rfl
  | cons x l ih => unfold flatF at *; rw [List.flatMap_cons, List.length_append, encF_len, ih, List.length_cons]; omega
theorem flatF_one (l : List FS) : ∀ v ∈ flatF l, v.oneCell' = true := fun v hv => by
  obtain ⟨x, _, hx⟩ := List.mem_flatMap.1 hv
  exact encF_one x v hx
theorem flatF_append (l m : List FS) : flatF (l ++ m) = flatF l ++ flatF m := by unfold flatF; rw [List.flatMap_append]
theorem flatF_cons (x : FS) (l : List FS) : flatF (x :: l) = encF x ++ flatF l := rfl
theorem flatF_sing (x : FS) : flatF [x] = encF x := by unfold flatF; simp
theorem flatF_drop : ∀ (j : Nat) (l : List FS), (flatF l).drop (j * 49) = flatF (l.drop j)
  | 0, l => by simp
  | j + 1, [] => by simp [flatF]
  | j + 1, x :: l => by
    rw [flatF_cons, show (j + 1) * 49 = 49 + j * 49 by omega, ← List.drop_drop, List.drop_left' (encF_len x), flatF_drop j l]; rfl
theorem flatF_take : ∀ (j : Nat) (l : List FS), (flatF l).take (j * 49) = flatF (l.take j)
  | 0, l => by simp [flatF]
  | j + 1, [] => by simp [flatF]
  | j + 1, x :: l => by
    rw [flatF_cons, show (j + 1) * 49 = 49 + j * 49 by omega, List.take_add, List.take_left' (encF_len x), List.drop_left' (encF_len x), flatF_take j l, List.take_succ_cons, flatF_cons]
theorem flatF_at (l : List FS) (j : Nat) (h : j < l.length) : ((flatF l).drop (j * 49)).take 49 = encF l[j] := by
  rw [flatF_drop, List.drop_eq_getElem_cons h, flatF_cons, List.take_left' (encF_len _)]
/-- A list's element, and its cells. -/
theorem seg_at {w : World} {a : Option Addr} {l : List FS} (h : Seg w a (flatF l)) (j : Nat) (hj : j < l.length) : ∃ b o, a = some ⟨b, o, none⟩ ∧ b < w.heap.size ∧ w.rangeAt b (o + j * 49) (encF l[j]) := by
  have hl := flatF_len l
  obtain ⟨v, hv⟩ : ∃ v, (flatF l)[j * 49]? = some v := ⟨_, List.getElem?_eq_getElem (by omega)⟩
  obtain ⟨b, o, e, hb, _⟩ := h _ v hv
  refine ⟨b, o, e, hb, fun i u hu => ?_⟩
  rw [← flatF_at l j hj] at hu
  rw [List.getElem?_take] at hu
  split at hu
  · rw [List.getElem?_drop] at hu
    obtain ⟨b', o', e', _, hc⟩ := h _ u hu
    rw [e] at e'
    cases e'
    rw [Nat.add_assoc]; exact hc
  · cases hu
section
variable {w : World} {b o : Nat} {x : FS} {ops : Array Oper} {rest : List Oper} {op : Oper} {a : Act} {Q : Exit → Act → World → Prop}
theorem exec_loadE (p : Operand) (ho : op.op = .load 25 p) (hp : a.eval p = .pointer (some ⟨b, o, none⟩)) (hc : w.rangeAt b o (encF x)) : (execOp a.eval op).run Try.prog w = .ok (.value (.agg (encF x).toArray)) w := by
  have hr := run_loadAt_mid (P := Try.prog) w b o 25 (encF x) _ hc Try.underlying25 rfl (infoFx x)
  unfold execOp
  simp only [ho, hp, Sem.run_bind, hr, Result.andThen_ok, Sem.run_pure]
theorem wpList_loadE (hgd : op.guard = none) (p : Operand) (ho : op.op = .load 25 p) (hp : a.eval p = .pointer (some ⟨b, o, none⟩)) (hc : w.rangeAt b o (encF x))
    (h : wpList Try.prog ops Q rest (a.put op.dst (.agg (encF x).toArray)) w) : wpList Try.prog ops Q (op :: rest) a w := by
  refine wpList_plain hgd fun K hK => ?_
  unfold Oper.wp
  rw [exec_loadE p ho hp hc]
  exact hK _ _ h
theorem WG.elem {W : World} {Q : Act → Prop} (hw : Region.wanted op (yielded ops a.tmps) = true) (p : Operand) (ho : op.op = .load 25 p) (hp : a.eval p = .pointer (some ⟨b, o, none⟩)) (hb : b < W.heap.size) (hc : W.rangeAt b o (encF x))
    (h : WG ops W Q rest (a.put op.dst (.agg (encF x).toArray))) : WG ops W Q (op :: rest) a :=
  WG.range hw 25 p ho hp (encF x) hb hc _ Try.underlying25 rfl (infoFx x) h
theorem WG.whole {W : World} {Q : Act → Prop} (hw : Region.wanted op (yielded ops a.tmps) = true) (p : Operand) (ho : op.op = .load 25 p) (hp : a.eval p = .pointer (some ⟨b, 0, none⟩)) (hc : IsS W b 25 (encF x))
    (h : WG ops W Q rest (a.put op.dst (.agg (encF x).toArray))) : WG ops W Q (op :: rest) a :=
  WG.row hw 25 p ho hp hc (encF x) rfl _ Try.underlying25 rfl (infoFx x) h
theorem WG.eqF {W : World} {Q : Act → Prop} {y : FS} (hw : Region.wanted op (yielded ops a.tmps) = true) (p q : Operand) (ho : op.op = .binOp .eql 25 p q 25) (hx : a.eval p = .agg (encF x).toArray) (hy : a.eval q = .agg (encF y).toArray)
    (v : Bool) (hv : decide (x = y) = v) (h : WG ops W Q rest (a.put op.dst (.bool v))) : WG ops W Q (op :: rest) a :=
  WG.put hw (v := .bool v) (fun w => by rw [exec_eqF ho hx hy, hv]) h
theorem WG.neqF {W : World} {Q : Act → Prop} {y : FS} (hw : Region.wanted op (yielded ops a.tmps) = true) (p q : Operand) (ho : op.op = .binOp .neq 25 p q 25) (hx : a.eval p = .agg (encF x).toArray) (hy : a.eval q = .agg (encF y).toArray)
    (v : Bool) (hv : (!decide (x = y)) = v) (h : WG ops W Q rest (a.put op.dst (.bool v))) : WG ops W Q (op :: rest) a :=
  WG.put hw (v := .bool v) (fun w => by rw [exec_neqF ho hx hy, hv]) h
end
theorem check_ans (x : FS) : ∀ w, Calls Try.prog 10 #[.agg (encF x).toArray] w fun e w' => e = .returned (.int .i64 (ckF x)) ∧ Below w.heap.size w w' := fun w => check_any x w
theorem compare_ans (x y : FS) : ∀ w, Calls Try.prog 7 #[.agg (encF x).toArray, .agg (encF y).toArray] w fun e w' => e = .returned (.int .i64 (cmpF x y)) ∧ Below w.heap.size w w' := fun w => (compare_any x y w).mono fun _ _ ⟨h, k⟩ => ⟨h, k.below⟩
theorem rcompare_ans (x y : FS) : ∀ w, Calls Try.prog 9 #[.agg (encF x).toArray, .agg (encF y).toArray] w fun e w' => e = .returned (.int .i64 (cmpF x y)) ∧ Below w.heap.size w w' := fun w => (rcompare_any x y w).mono fun _ _ ⟨h, k⟩ => ⟨h, k.below⟩
/-- How far a list is a set. -/
def RisTo (l : List FS) (k : Nat) : Prop := ∀ j, j < k → okF (l.getD j FS.zero) = true ∧ (0 < j → cmpF (l.getD (j - 1) FS.zero) (l.getD j FS.zero) < 0)
def setB (l : List FS) : Bool := (List.range l.length).all fun j => okF (l.getD j FS.zero) && (j == 0 || decide (cmpF (l.getD (j - 1) FS.zero) (l.getD j FS.zero) < 0))
theorem setB_iff (l : List FS) : setB l = true ↔ RisTo l l.length := by
  unfold setB RisTo
  simp only [List.all_eq_true, List.mem_range, Bool.and_eq_true, Bool.or_eq_true, beq_iff_eq, decide_eq_true_eq]
  constructor
  · intro h j hj
    exact ⟨(h j hj).1, fun h0 => by rcases (h j hj).2 with h1 | h1; omega; exact h1⟩
  · intro h j hj
    refine ⟨(h j hj).1, ?_⟩
    by_cases h0 : j = 0
    · exact .inl h0
    · exact .inr ((h j hj).2 (by omega))
theorem setB_no {l : List FS} {j : Nat} (hj : j < l.length) (h : okF (l.getD j FS.zero) = false ∨ (0 < j ∧ ¬ cmpF (l.getD (j - 1) FS.zero) (l.getD j FS.zero) < 0)) : setB l = false := by
  rw [Bool.eq_false_iff]
  intro e
  have := (setB_iff l).1 e j hj
  rcases h with h | ⟨h1, h2⟩
  · rw [h] at this; cases this.1
  · exact h2 (this.2 h1)
theorem RisTo.zero (l : List FS) : RisTo l 0 := fun j hj => absurd hj (Nat.not_lt_zero _)
theorem RisTo.succ {l : List FS} {k : Nat} (h : RisTo l k) (h1 : okF (l.getD k FS.zero) = true) (h2 : 0 < k → cmpF (l.getD (k - 1) FS.zero) (l.getD k FS.zero) < 0) : RisTo l (k + 1) := fun j hj => by
  rcases Nat.lt_succ_iff_lt_or_eq.1 hj with h' | h'
  · exact h j h'
  · subst h'; exact ⟨h1, h2⟩
theorem ris_of : ∀ (l : List FS), (∀ j, j + 1 < l.length → ltF (l.getD j FS.zero) (l.getD (j + 1) FS.zero)) → Ris l
  | [], _ => trivial
  | [_], _ => trivial
  | a :: b :: l, h => ⟨by have := h 0 (by simp); simpa using this, ris_of (b :: l) fun j hj => by have := h (j + 1) (by simpa using hj); simpa using this⟩
theorem of_ris : ∀ {l : List FS}, Ris l → ∀ j, j + 1 < l.length → ltF (l.getD j FS.zero) (l.getD (j + 1) FS.zero)
  | [], _, j, hj => by simp at hj
  | [_], _, j, hj => by simp at hj
  | a :: b :: l, h, j, hj => by
    cases j with
    | zero => simpa using h.1
    | succ j => have := of_ris h.2 j (by simpa using hj); simpa using this
theorem setB_set (l : List FS) : setB l = true ↔ IsSet l := by
  rw [setB_iff]
  constructor
  · intro h
    refine ⟨ris_of l fun j hj => (h (j + 1) hj).2 (by omega), fun x hx => ?_⟩
    obtain ⟨j, hj, rfl⟩ := List.getElem_of_mem hx
    have := (h j hj).1
    rwa [List.getD_eq_getElem?_getD, List.getElem?_eq_getElem hj] at this
  · intro h j hj
    refine ⟨?_, fun h0 => ?_⟩
    · rw [List.getD_eq_getElem?_getD, List.getElem?_eq_getElem hj]; exact h.2 _ (List.getElem_mem hj)
    · have := of_ris h.1 (j - 1) (by omega)
      rwa [show j - 1 + 1 = j by omega] at this
theorem getD_at (l : List FS) (j : Nat) (h : j < l.length) : l.getD j FS.zero = l[j] := by simp [h]
end Go.Proofs.Ytimdmiefjnokmaa

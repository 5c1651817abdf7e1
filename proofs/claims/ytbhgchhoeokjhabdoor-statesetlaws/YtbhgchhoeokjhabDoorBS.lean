/- A slice literal of one final state; appends of one final state to a row of one's own. -/
import Derived.Test.YtbhgchhoeokjhabDoorRR
import Derived.Great.BuildSlice
namespace Go.Proofs.YtbhgchhoeokjhabDoor
open Go Go.RowKit M
set_option linter.unusedSimpArgs false
set_option linter.unusedVariables false

theorem fold_set : ∀ (l : List Value) (k : Nat) (A : Array Value) (i : Nat), k + l.length ≤ A.size → ((l.zipIdx k).foldl (fun cs (p : Value × Nat) => cs.setIfInBounds (0 + p.2) p.1) A)[i]? = if k ≤ i ∧ i < k + l.length then l[i - k]? else A[i]?
  | [], k, A, i, h => by simp [show ¬ (k ≤ i ∧ i < k) by omega]
  | v :: l, k, A, i, h => by
    simp only [List.length_cons] at h
    rw [List.zipIdx_cons, List.foldl_cons, fold_set l (k + 1) _ i (by simp; omega)]
    simp only [List.length_cons]
    by_cases h1 : k + 1 ≤ i ∧ i < k + 1 + l.length
    · rw [if_pos h1, if_pos (by omega), show i - k = (i - (k + 1)) + 1 by omega]; rfl
    · rw [if_neg h1]
      by_cases h2 : i = k
      · subst h2
        rw [if_pos (by omega), Nat.zero_add, Array.getElem?_setIfInBounds_self_of_lt (by omega)]; simp
      · rw [if_neg (by omega), Nat.zero_add, Array.getElem?_setIfInBounds_ne (by omega)]
theorem fill_one (c : List Value) (A : Array Value) (hA : A.size = c.length) : Instr.fill (fun i => some (i * c.length, c.length)) A [(0, Value.agg c.toArray)] = some c.toArray := by
  have e : (Value.agg c.toArray).cells = c.toArray := rfl
  have hf : (c.toArray.zipIdx.foldl (fun cs (p : Value × Nat) => cs.setIfInBounds (0 * c.length + p.2) p.1) A) = c.toArray := by
    rw [← Array.foldl_toList, Array.toList_zipIdx]
    apply Array.ext_getElem?
    intro i
    have := fold_set c 0 A i (by omega)
    simp only [Nat.zero_mul]
    rw [this]
    by_cases h : i < c.length
    · rw [if_pos (by omega)]; simp
    · rw [if_neg (by omega), Array.getElem?_eq_none (by omega), Array.getElem?_eq_none (by simp; omega)]
  unfold Instr.fill
  simp only [e, List.size_toArray, hA, Nat.zero_mul, Nat.zero_add, ne_eq, not_true_eq_false, decide_false, Bool.false_or, gt_iff_lt, Nat.lt_irrefl, Bool.false_eq_true, if_false]
  simp only [Nat.zero_mul, Nat.zero_add] at hf
  unfold Instr.fill
  exact congrArg some hf
theorem exec_buildF {w : World} {op : Oper} {a : Act} (x : Operand) (ho : op.op = .buildSlice 22 1 #[(0, x)]) (f : FS) (hx : a.eval x = .agg (encF f).toArray) :
    (execOp a.eval op).run Tryd.prog w = .ok (.value (.slice (some ⟨w.heap.size, 0, none⟩) 1 1)) (w.alloc (.cells (encF f).toArray 27)) := by
  obtain ⟨i, hi, hz, hk, _⟩ := eFin.info
  have hl := encF_len f
  have hr := run_buildSlice (P := Tryd.prog) w 22 27 1 #[(0, .agg (encF f).toArray)] (encF f).toArray i _ Tryd.underlying22 hi hz (by rw [hk]; decide) (by rw [hk]; decide) (by
    rw [hk, ← hl]
    exact fill_one (encF f) _ (by simp [hl]))
  unfold execOp
  simp only [ho, List.map_toArray, List.map_cons, List.map_nil, hx, Sem.run_bind, hr, Result.andThen_ok, Sem.run_pure]
theorem row_new (W : World) (b : Nat) (f : FS) (I : IsS W b 27 (encF f)) : RowV W (.slice (some ⟨b, 0, none⟩) 1 1) 1 (flatF [f]) :=
  ⟨some ⟨b, 0, none⟩, 1, rfl, fun j v hv => ⟨b, 0, rfl, I.lt, by rw [Nat.zero_add, I.cell]; rw [flatF_sing] at hv; exact hv⟩, fun e => by cases e⟩
/-- A row of final states of one's own. -/
def OwnL (w : World) (B : Nat) (v : Value) (l : List FS) : Prop := w.ownsRow B 27 49 v l.length (flatF l)
section
variable {w : World} {ops : Array Oper} {rest : List Oper} {op : Oper} {a : Act} {Q : Exit → Act → World → Prop}
theorem wpList_buildF (hgd : op.guard = none) (x : Operand) (ho : op.op = .buildSlice 22 1 #[(0, x)]) (f : FS) (hx : a.eval x = .agg (encF f).toArray)
    (h : ∀ W b, Fresh w W b → IsS W b 27 (encF f) → wpList Tryd.prog ops Q rest (a.put op.dst (.slice (some ⟨b, 0, none⟩) 1 1)) W) : wpList Tryd.prog ops Q (op :: rest) a w := by
  refine wpList_plain hgd fun K hK => ?_
  unfold Oper.wp
  rw [exec_buildF x ho f hx]
  exact hK _ _ (h _ _ (Fresh.alloc w _) (IsS.new w _ _))
theorem wpList_appF (hgd : op.guard = none) (s x : Operand) (ho : op.op = .call { callee := .builtin .append, args := #[s, x], argTypes := #[22, 22] })
    (B : Nat) (v : Value) (l : List FS) (hs : a.eval s = v) (hown : OwnL w B v l) (b : Nat) (f : FS) (hx : a.eval x = .slice (some ⟨b, 0, none⟩) 1 1) (I : IsS w b 27 (encF f)) (hn : l.length < 4194304) (hB : B ≤ w.heap.size)
    (h : ∀ v' w', OwnL w' B v' (l ++ [f]) → w.grownBy w' v.ownBlock → wpList Tryd.prog ops Q rest (a.put op.dst v') w') : wpList Tryd.prog ops Q (op :: rest) a w := by
  refine wpList_appM eFin hgd s x ho B v l.length (flatF l) hs hown _ 1 (flatF [f]) hx (row_new w b f I) (by rw [flatF_len]; rfl) (flatF_one _) (by omega) hB fun v' w' h1 h2 => h v' w' ?_ h2
  unfold OwnL
  rw [List.length_append, flatF_append]
  exact h1
end
theorem own_seg {w : World} {B : Nat} {v : Value} {l : List FS} (h : OwnL w B v l) : ∃ a c, v = .slice a l.length c ∧ Seg w a (flatF l) := by
  obtain ⟨a, c, e, s, _⟩ := own_row h
  exact ⟨a, c, e, s⟩
/-- What a row of one's own has, whatever grows: the old blocks below the base stay. -/
theorem grown_below {w0 w w' : World} {B : Nat} {v : Value} {l : List FS} (h : Below B w0 w) (hown : OwnL w B v l) (hB : B ≤ w.heap.size) (hg : w.grownBy w' v.ownBlock) : Below B w0 w' :=
  h.grown hg hB (fun k hk => (hown.lt k hk).1)
end Go.Proofs.YtbhgchhoeokjhabDoor

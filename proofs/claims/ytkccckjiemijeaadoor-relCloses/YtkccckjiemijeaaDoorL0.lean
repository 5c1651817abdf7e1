/- What the walk of the law RelMakes wants: pairs in memory, and a region that draws its order while its calls make memory. -/
import Derived.Test.YtkccckjiemijeaaDoorE2
import Derived.Laws.AppendOwnNone
namespace Go.Proofs.YtkccckjiemijeaaDoor
open Go.RowKit M
set_option linter.unusedSimpArgs false
set_option linter.unusedVariables false

def cellsE (l : List (Int × Int)) : List Value := l.flatMap fun e => [.int .i64 e.1, .int .i64 e.2]
theorem cellsE_len (l : List (Int × Int)) : (cellsE l).length = l.length * 2 := by
  induction l with
  | nil => rfl
  | cons e l ih => simp only [cellsE, List.flatMap_cons, List.length_append, List.length_cons, List.length_nil] at *; omega
theorem cellsE_get (l : List (Int × Int)) (i : Nat) (h : i < l.length) : (cellsE l)[i * 2]? = some (.int .i64 (l.getD i (0, 0)).1) ∧ (cellsE l)[i * 2 + 1]? = some (.int .i64 (l.getD i (0, 0)).2) := by
  induction l generalizing i with
  | nil => simp at h
  | cons e l ih =>
    cases i with
    | zero => simp [cellsE]
    | succ i =>
      have := ih i (by simpa using h)
      have e1 : (i + 1) * 2 = i * 2 + 1 + 1 := by omega
      rw [e1]
      simpa [cellsE] using this
theorem cellsE_one (l : List (Int × Int)) : ∀ u ∈ cellsE l, u.oneCell' = true := by
  intro u hu
  simp only [cellsE, List.mem_flatMap, List.mem_cons, List.not_mem_nil, or_false] at hu
  obtain ⟨e, _, rfl | rfl⟩ := hu <;> rfl

theorem Prs.below {w W : World} {a : Option Addr} {l : List (Int × Int)} (h : Prs w a l) (hb : Below w.heap.size w W) : Prs W a l := fun j hj => by
  obtain ⟨b, off, rfl, h1, h2⟩ := h j hj
  exact ⟨b, off, rfl, (hb.cell (p := ⟨b, off + j * 2, none⟩) (World.block_lt_of_cell? w _ h1)).trans h1, (hb.cell (p := ⟨b, off + j * 2 + 1, none⟩) (World.block_lt_of_cell? w _ h2)).trans h2⟩
theorem Prs.news {w : World} {ad : Addr} {l : List (Int × Int)} (h : Prs w (some ad) l) : ∀ j u, (cellsE l)[j]? = some u → w.cell? (ad.add j) = some u := fun j u hj => by
  have hjl := (List.getElem?_eq_some_iff.1 hj).1
  rw [cellsE_len] at hjl
  obtain ⟨b, off, e, h1, h2⟩ := h (j / 2) (by omega)
  cases e
  have hg := cellsE_get l (j / 2) (by omega)
  rw [Addr.add_mid]
  rcases Nat.mod_two_eq_zero_or_one j with hm | hm
  · have e : j / 2 * 2 = j := by omega
    rw [e] at h1 hg
    rw [hj] at hg
    rw [h1]; exact hg.1.symm ▸ rfl
  · have e : j / 2 * 2 + 1 = j := by omega
    rw [e] at hg
    rw [Nat.add_assoc, e] at h2
    rw [hj] at hg
    rw [h2]; exact hg.2.symm ▸ rfl
theorem prs_copy {W : World} {base g cap : Nat} {l : List (Int × Int)} (h : W.ownsRow base 29 2 (.slice (some ⟨g, 0, none⟩) (l.length + 1) cap) (l.length + 1) (cellsE l ++ [.int .i64 (-7), .int .i64 (-7)])) :
    Prs W (some ⟨g, 0, none⟩) l ∧ W.cell? ⟨g, l.length * 2, none⟩ = some (.int .i64 (-7)) ∧ base ≤ g ∧ g < W.heap.size ∧ l.length < cap := by
  have hl := cellsE_len l
  have hg : base ≤ g ∧ g < W.heap.size ∧ l.length < cap := by
    rcases h.2 with ⟨hv, _⟩ | ⟨g', cap', cur, hv, hb, hh, hc, _⟩
    · cases hv
    · cases hv; exact ⟨hb, (Array.getElem?_eq_some_iff.1 hh).1, by omega⟩
  refine ⟨fun j hj => ⟨g, 0, rfl, ?_, ?_⟩, ?_, hg⟩
  · rw [Nat.zero_add, h.cellAt (j * 2) (by omega), List.getElem?_append_left (by omega)]
    exact (cellsE_get l j hj).1
  · rw [Nat.zero_add, h.cellAt (j * 2 + 1) (by omega), List.getElem?_append_left (by omega)]
    exact (cellsE_get l j hj).2
  · rw [h.cellAt (l.length * 2) (by omega), List.getElem?_append_right (by omega), hl]
    simp

theorem ofV_tuple (n : Int) (l : List (Int × Int)) : ∃ p q e, ofV n l = .tuple #[relv p q, .int .i64 e] := by
  unfold ofV
  split
  · exact ⟨_, _, _, rfl⟩
  · exact ⟨_, _, _, rfl⟩
theorem crV_rel (n : Int) (f t : Nat) : ∃ p q, crV n f t = relv p q := by
  unfold crV
  split
  · exact ⟨_, _, rfl⟩
  · exact ⟨_, _, rfl⟩
theorem onV_rel (n : Int) (s : Nat) : ∃ p q, onV n s = relv p q := by
  unfold onV
  split
  · exact ⟨_, _, rfl⟩
  · exact ⟨_, _, rfl⟩

theorem num_any (e : Int) (w : World) : Calls Tryd.prog 11 #[.int .i64 e] w fun r w' => r = .returned (.int .i64 e) ∧ w' = w := by
  go_enter Tryd.func11, Tryd.ntmps11
  go_wp2
  go_ret
  exact ⟨rfl, rfl⟩

section
variable {ops : Array Oper} {C : World → Prop} {Q : Act → Prop} {rest : List Oper} {op : Oper} {a : Act}
theorem wpQuiet_value (hw : Region.wanted op (yielded ops a.tmps) = true) {v : Value} (hr : ∀ w, C w → (execOp a.eval op).run Tryd.prog w = .ok (.value v) w)
    (h : wpQuiet Tryd.prog ops C Q rest (a.put op.dst v)) : wpQuiet Tryd.prog ops C Q (op :: rest) a := by
  unfold wpQuiet
  rw [if_pos hw]
  refine ⟨v, fun w hC => ?_, h⟩
  unfold Oper.quietAt
  rw [hr w hC]
  exact ⟨rfl, rfl⟩
theorem wpQuiet_loadR (hw : Region.wanted op (yielded ops a.tmps) = true) (x : Operand) (ho : op.op = .load 25 x) {b : Nat} (hx : a.eval x = .pointer (some ⟨b, 0, none⟩)) {n : Int} {f : Nat → Nat} (hC : ∀ w, C w → IsR w b n f)
    (h : wpQuiet Tryd.prog ops C Q rest (a.put op.dst (relv n f))) : wpQuiet Tryd.prog ops C Q (op :: rest) a := by
  refine wpQuiet_value hw (fun w hc => ?_) h
  unfold execOp
  have := run_loadAt_mid (P := Tryd.prog) w b 0 25 (cellsL n f) _ (hC w hc).range Tryd.underlying25 rfl (by rw [cellsL_length]; exact info25)
  simp only [ho, hx, Sem.run_bind, this, Result.andThen_ok, Sem.run_pure]
  rfl
theorem wpQuiet_call (hw : Region.wanted op (yielded ops a.tmps) = true) {f : FuncId} {args : Array Value} {v : Value} (hr : ∀ w, (execOp a.eval op).run Tryd.prog w = .ok (.enter f args) w)
    (hC : ∀ w, C w → Calls Tryd.prog f args w fun e w' => e = .returned v ∧ C w')
    (h : wpQuiet Tryd.prog ops C Q rest (a.put op.dst v)) : wpQuiet Tryd.prog ops C Q (op :: rest) a := by
  unfold wpQuiet
  rw [if_pos hw]
  refine ⟨v, fun w hc => ?_, h⟩
  unfold Oper.quietAt
  rw [hr w]
  exact ⟨rfl, hC w hc⟩
end
end Go.Proofs.YtkccckjiemijeaaDoor

/- Tokens in memory, as a row. -/
import Derived.Test.YtopnbemodlcknaaDoorLxA2
namespace Go.Proofs.YtopnbemodlcknaaDoor.Lx
open Go.RowKit Go.Shelf M
set_option linter.unusedSimpArgs false
set_option linter.unusedVariables false

structure GT where
  kind : Int
  text : ByteArray
  value : Int
  line : Int
  col : Int
  at' : Int
  fin : Int
def gtL (g : GT) : List Value := [.int .i64 g.kind, .string g.text, .int .i64 g.value, .int .i64 g.line, .int .i64 g.col, .int .i64 g.at', .int .i64 g.fin]
theorem gt_one (g : GT) : ∀ v ∈ gtL g, v.oneCell' = true := by simp [gtL, Value.oneCell']
theorem str_eq (a b : ByteArray) : (a.toList == b.toList) = decide (a.data.toList = b.data.toList) := by
  rw [toL, toL, Bool.eq_iff_iff]; simp
/-- Tokens in memory. -/
def Toks (w : World) (a : Option Addr) (gs : List GT) : Prop := ∀ j g, gs[j]? = some g → ∃ b o, a = some ⟨b, o, none⟩ ∧ b < w.heap.size ∧ w.rangeAt b (o + j * 7) (gtL g)
theorem Toks.below {w W : World} {a : Option Addr} {gs : List GT} (h : Toks w a gs) (hB : Below w.heap.size w W) : Toks W a gs := fun j g hg => by
  obtain ⟨b, o, h1, h2, h3⟩ := h j g hg
  refine ⟨b, o, h1, Nat.lt_of_lt_of_le h2 hB.size, fun i v hv => ?_⟩
  rw [hB.cell (p := ⟨b, o + j * 7 + i, none⟩) h2]
  exact h3 i v hv
def cellsG (gs : List GT) : List Value := gs.flatMap gtL
theorem cellsG_snoc (gs : List GT) (g : GT) : cellsG (gs ++ [g]) = cellsG gs ++ gtL g := by simp [cellsG]
def toG (t : Tok) : GT := ⟨t.kind, ⟨t.text.toArray⟩, t.value, t.line, t.col, t.at', t.fin⟩
theorem cellsT_G (ts : List Tok) : cellsT ts = cellsG (ts.map toG) := by
  induction ts with
  | nil => rfl
  | cons t ts ih => simp only [cellsT, cellsG, List.flatMap_cons, List.map_cons] at *; rw [ih]; rfl
theorem cellsG_len (gs : List GT) : (cellsG gs).length = gs.length * 7 := by
  induction gs with
  | nil => rfl
  | cons t ts ih => simp only [cellsG, List.flatMap_cons, List.length_append, List.length_cons] at *; rw [ih]; simp [gtL]; omega
theorem cellsG_at : ∀ (gs : List GT) (j : Nat) (g : GT), gs[j]? = some g → ∀ (i : Nat) (v : Value), (gtL g)[i]? = some v → (cellsG gs)[j * 7 + i]? = some v
  | [], j, g, h, i, v, hv => by simp at h
  | x :: gs, 0, g, h, i, v, hv => by
    simp at h; subst h
    have hi : i < (gtL x).length := (List.getElem?_eq_some_iff.1 hv).1
    show (gtL x ++ cellsG gs)[0 * 7 + i]? = some v
    rw [Nat.zero_mul, Nat.zero_add, List.getElem?_append_left hi]; exact hv
  | x :: gs, j + 1, g, h, i, v, hv => by
    have := cellsG_at gs j g (by simpa using h) i v hv
    show (gtL x ++ cellsG gs)[(j + 1) * 7 + i]? = some v
    have e : (gtL x).length = 7 := rfl
    rw [List.getElem?_append_right (by omega), e, show (j + 1) * 7 + i - 7 = j * 7 + i by omega]
    exact this
theorem own_toks {W : World} {base n : Nat} {v : Value} {gs : List GT} (h : W.ownsRow base 44 7 v n (cellsG gs)) (hn : gs.length = n) : ∃ a cap, v = .slice a gs.length cap ∧ Toks W a gs := by
  rcases h.2 with ⟨rfl, h0⟩ | ⟨g, cap, cur, rfl, hg, hh, rest⟩
  · refine ⟨none, 0, by rw [hn, h0], fun j x hx => ?_⟩
    have := (List.getElem?_eq_some_iff.1 hx).1
    omega
  · refine ⟨_, cap, by rw [hn], fun j x hx => ⟨g, 0, rfl, (Array.getElem?_eq_some_iff.1 hh).1, fun i u hu => ?_⟩⟩
    have hc := cellsG_at gs j x hx i u hu
    rw [cell_of_row W g _ cur 44 (0, 0) hh, Nat.zero_add]
    rw [← rest.2.2.2, List.getElem?_take] at hc
    split at hc
    · simpa using hc
    · cases hc
theorem wpList_buildG {w : World} {ops : Array Oper} {rest : List Oper} {op : Oper} {a : Act} {Q : Exit → Act → World → Prop} (hgd : op.guard = none) (x : Operand) (ho : op.op = .buildSlice 40 1 #[(0, x)]) (g : GT) (hx : a.eval x = .agg (gtL g).toArray)
    (h : ∀ W b, Fresh w W b → IsS W b 44 (gtL g) → wpList Tryd.prog ops Q rest (a.put op.dst (.slice (some ⟨b, 0, none⟩) 1 1)) W) : wpList Tryd.prog ops Q (op :: rest) a w := by
  refine wpList_plain hgd fun K hK => ?_
  have hr : (execOp a.eval op).run Tryd.prog w = .ok (.value (.slice (some ⟨w.heap.size, 0, none⟩) 1 1)) (w.alloc (.cells (gtL g).toArray 44)) := by
    generalize a.eval = ev at hx ⊢
    unfold execOp
    simp [ho, hx, go_sem, Value.cells, gtL]
  unfold Oper.wp
  rw [hr]
  exact hK _ _ (h _ _ (Fresh.alloc w _) (IsS.new w 44 _))
end Go.Proofs.YtopnbemodlcknaaDoor.Lx

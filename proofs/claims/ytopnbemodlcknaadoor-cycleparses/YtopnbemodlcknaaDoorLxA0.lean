/- Rows of tokens in memory: what they are made of, and how one more is put behind. -/
import Derived.Test.YtopnbemodlcknaaDoorLxT2
import Derived.Maps.OwnIn
namespace Go.Proofs.YtopnbemodlcknaaDoor.Lx
open Go.RowKit Go.Shelf M
attribute [local go_sem] Oper.semAt_some
set_option linter.unusedSimpArgs false
set_option linter.unusedVariables false

/-- The cells of some tokens. -/
def cellsT (ts : List Tok) : List Value := ts.flatMap tokL
theorem cellsT_snoc (ts : List Tok) (t : Tok) : cellsT (ts ++ [t]) = cellsT ts ++ tokL t := by simp [cellsT]
theorem cellsT_len (ts : List Tok) : (cellsT ts).length = ts.length * 7 := by
  induction ts with
  | nil => rfl
  | cons t ts ih => simp only [cellsT, List.flatMap_cons, List.length_append, List.length_cons] at *; rw [ih]; simp [tokL]; omega
theorem info38' : (Tryd.prog.info? 44).map (fun i => (i.zero, i.size, i.bytes)) = some (some (.agg (tokL noTok).toArray), 7, 64) := by kernel_rfl
theorem parts38 : ∃ i, Tryd.prog.info? 44 = some i ∧ i.zero = some (.agg (tokL noTok).toArray) ∧ i.size = 7 ∧ i.bytes = 64 := by
  have h := info38'
  cases hq : Tryd.prog.info? 44 with
  | none => rw [hq] at h; simp at h
  | some i =>
    rw [hq] at h
    simp only [Option.map_some, Option.some.injEq, Prod.mk.injEq] at h
    exact ⟨i, rfl, h.1, h.2.1, h.2.2⟩
theorem own_form {W : World} {base e s n : Nat} {v : Value} {xs : List Value} (h : W.ownsRow base e s v n xs) : ∃ a cap, v = .slice a n cap := by
  rcases h.2 with ⟨rfl, rfl⟩ | ⟨g', cap', cur, rfl, _⟩
  · exact ⟨_, _, rfl⟩
  · exact ⟨_, _, rfl⟩
theorem own_keep {W W' : World} {base e s n : Nat} {v : Value} {xs : List Value} {O : Nat → Prop} (h : W.ownsRow base e s v n xs) (hk : Keep O W W') (ho : ∀ g, v.ownBlock = some g → O g) : W'.ownsRow base e s v n xs := by
  refine ⟨h.1, ?_⟩
  rcases h.2 with hn | ⟨g, cap, cur, rfl, hg, hh, rest⟩
  · exact Or.inl hn
  · exact Or.inr ⟨g, cap, cur, rfl, hg, hk.block g _ (ho g rfl) hh, rest⟩
theorem own_base {W : World} {base base' e s n : Nat} {v : Value} {xs : List Value} (h : W.ownsRow base e s v n xs) (hb : base' ≤ base) : W.ownsRow base' e s v n xs := by
  refine ⟨h.1, ?_⟩
  rcases h.2 with hn | ⟨g, cap, cur, rfl, hg, hh, rest⟩
  · exact Or.inl hn
  · exact Or.inr ⟨g, cap, cur, rfl, Nat.le_trans hb hg, hh, rest⟩
theorem own_updN {W W' : World} {base e s n b : Nat} {v : Value} {xs : List Value} (h : W.ownsRow base e s v n xs) (U : Upd W W' b) (hb : v.ownBlock ≠ some b) : W'.ownsRow base e s v n xs := by
  refine ⟨h.1, ?_⟩
  rcases h.2 with hn | ⟨g, cap, cur, rfl, hg, hh, rest⟩
  · exact Or.inl hn
  · exact Or.inr ⟨g, cap, cur, rfl, hg, (U.block g (fun e => hb (by rw [← e]; rfl))).trans hh, rest⟩
theorem own_belowW {W W' : World} {base e s n : Nat} {v : Value} {xs : List Value} (h : W.ownsRow base e s v n xs) (hb : Below W.heap.size W W') : W'.ownsRow base e s v n xs := by
  refine ⟨h.1, ?_⟩
  rcases h.2 with hn | ⟨g, cap, cur, rfl, hg, hh, rest⟩
  · exact Or.inl hn
  · exact Or.inr ⟨g, cap, cur, rfl, hg, (hb.block g (Array.getElem?_eq_some_iff.1 hh).1).trans hh, rest⟩
section
variable {F : Fence} {N : Nat} {w : World} {ops : Array Oper} {rest : List Oper} {op : Oper} {a : Act} {Q : Exit → Act → World → Prop}
theorem inBuildT (hgd : op.guard = none) (x : Operand) (ho : op.op = .buildSlice 40 1 #[(0, x)]) (t : Tok) (hx : a.eval x = .agg (tokL t).toArray)
    (h : ∀ W b, Fresh w W b → IsS W b 44 (tokL t) → wpListIn F N Tryd.prog ops Q rest (a.put op.dst (.slice (some ⟨b, 0, none⟩) 1 1)) W) : wpListIn F N Tryd.prog ops Q (op :: rest) a w := by
  refine plainIn hgd (by rw [ho]; intro c e; cases e) (by rw [ho]; intro c e; cases e) ?_ (h _ _ (Fresh.alloc w _) (IsS.new w 44 (tokL t)))
  generalize a.eval = ev at hx ⊢
  unfold execOp
  simp [ho, hx, go_sem, Value.cells, tokL]
end
end Go.Proofs.YtopnbemodlcknaaDoor.Lx

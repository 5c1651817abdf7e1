/- Rows of tokens in memory, and errors as they are told. -/
import Derived.Test.YtpbcngnginffgaaX18
import Derived.Maps.OwnIn
namespace Go.Proofs.Ytpbcngnginffgaa
open Go.RowKit Go.Shelf M
attribute [local go_sem] Oper.semAt_some
set_option linter.unusedSimpArgs false
set_option linter.unusedVariables false

theorem spot_le : ∀ (l : List UInt8) (p : Nat × Nat), (spotF p l).1 ≤ p.1 + l.length ∧ (spotF p l).2 ≤ p.2 + l.length
  | [], p => ⟨Nat.le_refl _, Nat.le_refl _⟩
  | c :: r, p => by
    have := spot_le r (stepP p c)
    rw [spot_cons, List.length_cons]
    by_cases h : c.toNat = 10
    · rw [show stepP p c = (p.1 + 1, 1) from if_pos h] at this ⊢
      simp at this ⊢; omega
    · rw [show stepP p c = (p.1, p.2 + 1) from if_neg h] at this ⊢
      simp at this ⊢; omega
/-- The cells of some tokens. -/
def cellsT (ts : List Tok) : List Value := ts.flatMap tokL
theorem cellsT_snoc (ts : List Tok) (t : Tok) : cellsT (ts ++ [t]) = cellsT ts ++ tokL t := by simp [cellsT]
theorem cellsT_len (ts : List Tok) : (cellsT ts).length = ts.length * 7 := by
  induction ts with
  | nil => rfl
  | cons t ts ih => simp only [cellsT, List.flatMap_cons, List.length_append, List.length_cons] at *; rw [ih]; simp [tokL]; omega
theorem info38' : (Try.prog.info? 39).map (fun i => (i.zero, i.size, i.bytes)) = some (some (.agg (tokL noTok).toArray), 7, 64) := by kernel_rfl
theorem parts38 : ∃ i, Try.prog.info? 39 = some i ∧ i.zero = some (.agg (tokL noTok).toArray) ∧ i.size = 7 ∧ i.bytes = 64 := by
  have h := info38'
  cases hq : Try.prog.info? 39 with
  | none => rw [hq] at h; simp at h
  | some i =>
    rw [hq] at h
    simp only [Option.map_some, Option.some.injEq, Prod.mk.injEq] at h
    exact ⟨i, rfl, h.1, h.2.1, h.2.2⟩
theorem own_form {W : World} {base e s n : Nat} {v : Value} {xs : List Value} (h : W.ownsRow base e s v n xs) : ∃ a cap, v = .slice a n cap := by
  rcases h.2 with ⟨rfl, rfl⟩ | ⟨g', cap', cur, rfl, _⟩
  · exact ⟨_, _, rfl⟩
  · exact ⟨_, _, rfl⟩
theorem own_keep {W W' : World} {base e s n : Nat} {v : Value} {xs : List Value} {O : Nat → Prop} (h : W.ownsRow base e s v n xs) (hk : Keep O W W') (ho : ∀ g, v.ownBlock = some g → O g) : W'.ownsRow base e s v n xs := by
  refine ⟨h.1, ?_⟩
  rcases h.2 with hn | ⟨g, cap, cur, rfl, hg, hh, rest⟩
  · exact Or.inl hn
  · exact Or.inr ⟨g, cap, cur, rfl, hg, hk.block g _ (ho g rfl) hh, rest⟩
theorem own_base {W : World} {base base' e s n : Nat} {v : Value} {xs : List Value} (h : W.ownsRow base e s v n xs) (hb : base' ≤ base) : W.ownsRow base' e s v n xs := by
  refine ⟨h.1, ?_⟩
  rcases h.2 with hn | ⟨g, cap, cur, rfl, hg, hh, rest⟩
  · exact Or.inl hn
  · exact Or.inr ⟨g, cap, cur, rfl, Nat.le_trans hb hg, hh, rest⟩
theorem own_updN {W W' : World} {base e s n b : Nat} {v : Value} {xs : List Value} (h : W.ownsRow base e s v n xs) (U : Upd W W' b) (hb : v.ownBlock ≠ some b) : W'.ownsRow base e s v n xs := by
  refine ⟨h.1, ?_⟩
  rcases h.2 with hn | ⟨g, cap, cur, rfl, hg, hh, rest⟩
  · exact Or.inl hn
  · exact Or.inr ⟨g, cap, cur, rfl, hg, (U.block g (fun e => hb (by rw [← e]; rfl))).trans hh, rest⟩
theorem own_belowW {W W' : World} {base e s n : Nat} {v : Value} {xs : List Value} (h : W.ownsRow base e s v n xs) (hb : Below W.heap.size W W') : W'.ownsRow base e s v n xs := by
  refine ⟨h.1, ?_⟩
  rcases h.2 with hn | ⟨g, cap, cur, rfl, hg, hh, rest⟩
  · exact Or.inl hn
  · exact Or.inr ⟨g, cap, cur, rfl, hg, (hb.block g (Array.getElem?_eq_some_iff.1 hh).1).trans hh, rest⟩
/-- An error as it is told. -/
def ErrV : Rd → Value → World → Prop
  | .tok _, _, _ => False
  | .pos x y e, v, W => ∃ g, v = .iface 60 (.pointer (some ⟨g, 0, none⟩)) ∧ IsS W g 62 (faultL x y e)
  | .long, v, _ => v = .iface 59 (.int .i64 1)
/-- An error's block is one's own. -/
def ErrO : Value → (Nat → Prop) → Prop
  | .iface _ (.pointer (some p)), O => O p.block
  | _, _ => True
theorem errV_keep {r : Rd} {v : Value} {O : Nat → Prop} {X Y : World} (h : ErrV r v X) (ho : ErrO v O) (hk : Keep O X Y) : ErrV r v Y := by
  cases r with
  | tok t => exact h
  | long => exact h
  | pos x y e =>
    obtain ⟨g, rfl, hg⟩ := h
    exact ⟨g, rfl, hk.block g _ ho hg⟩
theorem errV_some {r : Rd} {v : Value} {X : World} (h : ErrV r v X) : ∃ t u, v = .iface t u ∧ u.oneCell' = true := by
  cases r with
  | tok t => exact h.elim
  | long => exact ⟨_, _, h, rfl⟩
  | pos x y e => obtain ⟨g, rfl, _⟩ := h; exact ⟨_, _, rfl, rfl⟩
theorem results_2 {fn : Func} {p q : Tmp} (h : fn.results = #[.cell p 47, .cell q 25]) {tmps : Array Value} {w : World} {b c : Nat} {v u : Value} (hp : tmps.getD p undef = .pointer (some ⟨b, 0, none⟩)) (hq : tmps.getD q undef = .pointer (some ⟨c, 0, none⟩)) (hb : IsS w b 47 [v]) (hc : IsS w c 25 [u]) : (results fn tmps).run Try.prog w = .ok (.tuple #[v, u]) w := by
  have hp' : tmps[p]?.getD undef = .pointer (some ⟨b, 0, none⟩) := by simpa using hp
  have hq' : tmps[q]?.getD undef = .pointer (some ⟨c, 0, none⟩) := by simpa using hq
  have h1 : w.cell? ⟨b, 0, none⟩ = some v := hb.cell 0
  have h2 : w.cell? ⟨c, 0, none⟩ = some u := hc.cell 0
  simp only [results, h]
  simp [Sem.run_bind, Result.andThen, hp', hq', asAddr, go_sem, h1, h2]
theorem info24 : (Try.prog.info? 47).map (·.size) = some 1 := by kernel_rfl
theorem info26 : (Try.prog.info? 25).map (·.size) = some 1 := by kernel_rfl
theorem own_ne {W : World} {base e s n b t : Nat} {v : Value} {xs cs : List Value} (h : W.ownsRow base e s v n xs) (hc : IsS W b t cs) (hte : t ≠ e) : v.ownBlock ≠ some b := by
  rcases h.2 with ⟨rfl, _⟩ | ⟨g, cap, cur, rfl, hg, hh, rest⟩
  · intro e; cases e
  · intro e'
    cases e'
    rw [show W.heap[g]? = _ from hc] at hh
    cases hh
    exact hte rfl
theorem below_keep {w X Y : World} {O : Nat → Prop} (h : Below w.heap.size w X) (hk : Keep O X Y) (hl : ∀ k, k < w.heap.size → O k) : Below w.heap.size w Y :=
  ⟨hk.os.trans h.os, hk.tape.trans h.tape, hk.output.trans h.output, Nat.le_trans h.size hk.size, fun k hk' => by
    obtain ⟨o, ho⟩ : ∃ o, w.heap[k]? = some o := ⟨_, Array.getElem?_eq_getElem hk'⟩
    rw [hk.block k o (hl k hk') ((h.block k hk').trans ho), ho]⟩
theorem isS_type {W : World} {b t t' : Nat} {cs cs' : List Value} (h : IsS W b t cs) (h' : IsS W b t' cs') : t = t' := by
  unfold IsS at h h'
  rw [h] at h'
  cases h'
  rfl
theorem errO_mono {v : Value} {O O' : Nat → Prop} (h : ErrO v O) (hs : ∀ k, O k → O' k) : ErrO v O' := by
  unfold ErrO at *
  split <;> simp_all
theorem map_tok_inj : ∀ {us vs : List Tok}, us.map Rd.tok = vs.map Rd.tok → us = vs
  | [], [], _ => rfl
  | [], _ :: _, h => by simp at h
  | _ :: _, [], h => by simp at h
  | a :: us, b :: vs, h => by
    simp only [List.map_cons, List.cons.injEq, Rd.tok.injEq] at h
    rw [h.1, map_tok_inj h.2]
theorem err_not {r : Rd} {v : Value} {W : World} (h : ErrV r v W) (t : Tok) : r ≠ .tok t := fun e => by subst e; exact h
/-- A token as a caller hands it in. -/
structure GT where
  kind : Int
  text : ByteArray
  value : Int
  line : Int
  col : Int
  at' : Int
  fin : Int
def gtL (g : GT) : List Value := [.int .i64 g.kind, .string g.text, .int .i64 g.value, .int .i64 g.line, .int .i64 g.col, .int .i64 g.at', .int .i64 g.fin]
theorem gt_one (g : GT) : ∀ v ∈ gtL g, v.oneCell' = true := by simp [gtL, Value.oneCell']
theorem str_eq (a b : ByteArray) : (a.toList == b.toList) = decide (a.data.toList = b.data.toList) := by
  rw [toL, toL, Bool.eq_iff_iff]; simp
/-- Tokens in memory. -/
def Toks (w : World) (a : Option Addr) (gs : List GT) : Prop := ∀ j g, gs[j]? = some g → ∃ b o, a = some ⟨b, o, none⟩ ∧ b < w.heap.size ∧ w.rangeAt b (o + j * 7) (gtL g)
theorem Toks.below {w W : World} {a : Option Addr} {gs : List GT} (h : Toks w a gs) (hB : Below w.heap.size w W) : Toks W a gs := fun j g hg => by
  obtain ⟨b, o, h1, h2, h3⟩ := h j g hg
  refine ⟨b, o, h1, Nat.lt_of_lt_of_le h2 hB.size, fun i v hv => ?_⟩
  rw [hB.cell (p := ⟨b, o + j * 7 + i, none⟩) h2]
  exact h3 i v hv
def cellsG (gs : List GT) : List Value := gs.flatMap gtL
theorem cellsG_snoc (gs : List GT) (g : GT) : cellsG (gs ++ [g]) = cellsG gs ++ gtL g := by simp [cellsG]
def toG (t : Tok) : GT := ⟨t.kind, ⟨t.text.toArray⟩, t.value, t.line, t.col, t.at', t.fin⟩
theorem cellsT_G (ts : List Tok) : cellsT ts = cellsG (ts.map toG) := by
  induction ts with
  | nil => rfl
  | cons t ts ih => simp only [cellsT, cellsG, List.flatMap_cons, List.map_cons] at *; rw [ih]; rfl
theorem cellsG_len (gs : List GT) : (cellsG gs).length = gs.length * 7 := by
  induction gs with
  | nil => rfl
  | cons t ts ih => simp only [cellsG, List.flatMap_cons, List.length_append, List.length_cons] at *; rw [ih]; simp [gtL]; omega
theorem cellsG_at : ∀ (gs : List GT) (j : Nat) (g : GT), gs[j]? = some g → ∀ (i : Nat) (v : Value), (gtL g)[i]? = some v → (cellsG gs)[j * 7 + i]? = some v
  | [], j, g, h, i, v, hv => by simp at h
  | x :: gs, 0, g, h, i, v, hv => by
    simp at h; subst h
    have hi : i < (gtL x).length := (List.getElem?_eq_some_iff.1 hv).1
    show (gtL x ++ cellsG gs)[0 * 7 + i]? = some v
    rw [Nat.zero_mul, Nat.zero_add, List.getElem?_append_left hi]; exact hv
  | x :: gs, j + 1, g, h, i, v, hv => by
    have := cellsG_at gs j g (by simpa using h) i v hv
    show (gtL x ++ cellsG gs)[(j + 1) * 7 + i]? = some v
    have e : (gtL x).length = 7 := rfl
    rw [List.getElem?_append_right (by omega), e, show (j + 1) * 7 + i - 7 = j * 7 + i by omega]
    exact this
theorem own_toks {W : World} {base n : Nat} {v : Value} {gs : List GT} (h : W.ownsRow base 39 7 v n (cellsG gs)) (hn : gs.length = n) : ∃ a cap, v = .slice a gs.length cap ∧ Toks W a gs := by
  rcases h.2 with ⟨rfl, h0⟩ | ⟨g, cap, cur, rfl, hg, hh, rest⟩
  · refine ⟨none, 0, by rw [hn, h0], fun j x hx => ?_⟩
    have := (List.getElem?_eq_some_iff.1 hx).1
    omega
  · refine ⟨_, cap, by rw [hn], fun j x hx => ⟨g, 0, rfl, (Array.getElem?_eq_some_iff.1 hh).1, fun i u hu => ?_⟩⟩
    have hc := cellsG_at gs j x hx i u hu
    rw [cell_of_row W g _ cur 39 (0, 0) hh, Nat.zero_add]
    rw [← rest.2.2.2, List.getElem?_take] at hc
    split at hc
    · simpa using hc
    · cases hc
theorem wpList_buildG {w : World} {ops : Array Oper} {rest : List Oper} {op : Oper} {a : Act} {Q : Exit → Act → World → Prop} (hgd : op.guard = none) (x : Operand) (ho : op.op = .buildSlice 47 1 #[(0, x)]) (g : GT) (hx : a.eval x = .agg (gtL g).toArray)
    (h : ∀ W b, Fresh w W b → IsS W b 39 (gtL g) → wpList Try.prog ops Q rest (a.put op.dst (.slice (some ⟨b, 0, none⟩) 1 1)) W) : wpList Try.prog ops Q (op :: rest) a w := by
  refine wpList_plain hgd fun K hK => ?_
  have hr : (execOp a.eval op).run Try.prog w = .ok (.value (.slice (some ⟨w.heap.size, 0, none⟩) 1 1)) (w.alloc (.cells (gtL g).toArray 39)) := by
    generalize a.eval = ev at hx ⊢
    unfold execOp
    simp [ho, hx, go_sem, Value.cells, gtL]
  unfold Oper.wp
  rw [hr]
  exact hK _ _ (h _ _ (Fresh.alloc w _) (IsS.new w 39 _))
end Go.Proofs.Ytpbcngnginffgaa

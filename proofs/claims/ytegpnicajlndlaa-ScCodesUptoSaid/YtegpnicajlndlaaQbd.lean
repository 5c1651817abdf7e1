/- Several texts in one: RK, CP. -/
import Derived.Test.YtegpnicajlndlaaQaj
import Derived.Test.YtegpnicajlndlaaQaz
import Derived.Test.YtegpnicajlndlaaQas
/- The same, the steps being told that those listed wait for none that is not. -/
namespace Go.Proofs.Ytegpnicajlndlaa
open Go
set_option linter.unusedVariables false
set_option linter.unusedSimpArgs false

section
variable {P : Program} {ops : Array Oper} {Q : Exit → Act → World → Prop}
end
end Go.Proofs.Ytegpnicajlndlaa
/- The law's Copy of a program. -/
namespace Go.Proofs.Ytegpnicajlndlaa
open Go.RowKit M
set_option linter.unusedSimpArgs false
set_option linter.unusedVariables false

def z5 : List Value := [.slice none 0 0, .slice none 0 0, .slice none 0 0, .slice none 0 0, .slice none 0 0]
theorem zeroPg (w : World) : (zeroValue 28).run Try.prog w = .ok (.agg z5.toArray) w := Try.zeroValue28 w
/-- What stands beside the row that is made. -/
structure KT (w wr : World) (b1 b2 b3 : Nat) (P5 C5 : List Value) (v9 v13 v16 vo : Value) (xs : List (List Op5)) (p : PG) : Prop where
  c1 : IsS wr b1 28 P5
  c2 : IsS wr b2 28 z5
  c3 : IsS wr b3 28 C5
  hl : wr.ownsRow w.heap.size 9 1 v9 p.locs.length (p.locs.flatMap strE)
  hj : wr.ownsRow w.heap.size 2 1 v13 p.locInit.length (p.locInit.flatMap intE)
  hi : OwnRows wr w.heap.size 26 2 1 v16 intE p.regInit
  ot : OwnRows wr w.heap.size 61 63 5 vo op5L xs
theorem isS_grow {W W' : World} {B b t t' n s : Nat} {v : Value} {cs xs : List Value} (h : IsS W b t cs) (ho : W.ownsRow B t' s v n xs) (hg : W.grownBy W' v.ownBlock) (ht : t ≠ t') : IsS W' b t cs := by
  refine (hg.block b h.lt (fun e => ?_)).trans h
  rcases ho.2 with ⟨rfl, _⟩ | ⟨g', cap', cur', rfl, _, hh', _⟩
  · cases e
  · simp [Value.ownBlock] at e
    subst e
    have h' : W.heap[b]? = some (.cells cs.toArray t) := h
    rw [h'] at hh'
    simp at hh'
    exact ht hh'.2
theorem rows_grow {α : Type} {W W' : World} {B t tin k t' n s : Nat} {v v' : Value} {enc : α → List Value} {xss : List (List α)} {xs : List Value} (h : OwnRows W B t tin k v enc xss) (ho : W.ownsRow B t' s v' n xs) (hg : W.grownBy W' v'.ownBlock) (h1 : t ≠ t') (h2 : tin ≠ t') : OwnRows W' B t tin k v enc xss := by
  obtain ⟨vs, a1, a2, a3⟩ := h
  exact ⟨vs, a1, own_grow a2 ho hg h1, fun j u ys hu hy => own_grow (a3 j u ys hu hy) ho hg h2⟩
section
variable {w wr W' : World} {b1 b2 b3 : Nat} {P5 C5 : List Value} {v9 v13 v16 vo : Value} {xs : List (List Op5)} {p : PG}
theorem KT.below (h : KT w wr b1 b2 b3 P5 C5 v9 v13 v16 vo xs p) (hB : Below wr.heap.size wr W') : KT w W' b1 b2 b3 P5 C5 v9 v13 v16 vo xs p :=
  ⟨h.c1.grown hB, h.c2.grown hB, h.c3.grown hB, own_below h.hl hB, own_below h.hj hB, h.hi.below hB, h.ot.below hB⟩
theorem KT.grow1 {n : Nat} {v : Value} {ys : List Value} (h : KT w wr b1 b2 b3 P5 C5 v9 v13 v16 (.slice none 0 0) [] p) (ho : wr.ownsRow w.heap.size 61 1 v n ys) (hg : wr.grownBy W' v.ownBlock) : KT w W' b1 b2 b3 P5 C5 v9 v13 v16 (.slice none 0 0) [] p :=
  ⟨isS_grow h.c1 ho hg (by decide), isS_grow h.c2 ho hg (by decide), isS_grow h.c3 ho hg (by decide), own_grow h.hl ho hg (by decide), own_grow h.hj ho hg (by decide), rows_grow h.hi ho hg (by decide) (by decide), OwnRows.nil _ _ _ _ _ _⟩
theorem KT.grow2 {n : Nat} {v : Value} {ys : List Value} (h : KT w wr b1 b2 b3 P5 C5 v9 v13 v16 vo xs p) (ho : wr.ownsRow w.heap.size 24 1 v n ys) (hg : wr.grownBy W' v.ownBlock) : KT w W' b1 b2 b3 P5 C5 v9 v13 v16 vo xs p :=
  ⟨isS_grow h.c1 ho hg (by decide), isS_grow h.c2 ho hg (by decide), isS_grow h.c3 ho hg (by decide), own_grow h.hl ho hg (by decide), own_grow h.hj ho hg (by decide), rows_grow h.hi ho hg (by decide) (by decide), rows_grow h.ot ho hg (by decide) (by decide)⟩
theorem own_upd {W W1 : World} {B t s n b : Nat} {v : Value} {cs ys : List Value} {t' : Nat} (h : W.ownsRow B t s v n ys) (hc : IsS W b t' cs) (U : Upd W W1 b) (ht : t ≠ t') : W1.ownsRow B t s v n ys := by
  refine ⟨h.1, ?_⟩
  rcases h.2 with hn | ⟨g, cap, cur, rfl, hg1, hh, rest⟩
  · exact Or.inl hn
  · refine Or.inr ⟨g, cap, cur, rfl, hg1, (U.block g (fun e => ?_)).trans hh, rest⟩
    subst e
    have h' : W.heap[g]? = some (.cells cs.toArray t') := hc
    rw [h'] at hh
    simp at hh
    exact ht hh.2.symm
theorem rows_upd {α : Type} {W W1 : World} {B t tin k b t' : Nat} {v : Value} {enc : α → List Value} {xss : List (List α)} {cs : List Value} (h : OwnRows W B t tin k v enc xss) (hc : IsS W b t' cs) (U : Upd W W1 b) (h1 : t ≠ t') (h2 : tin ≠ t') : OwnRows W1 B t tin k v enc xss := by
  obtain ⟨vs, a1, a2, a3⟩ := h
  exact ⟨vs, a1, own_upd a2 hc U h1, fun j u ys hu hy => own_upd (a3 j u ys hu hy) hc U h2⟩
theorem KT.store {D5 : List Value} (h : KT w wr b1 b2 b3 P5 C5 v9 v13 v16 vo xs p) (U : Upd wr W' b3) (hD : IsS W' b3 28 D5) (h13 : b1 ≠ b3) (h23 : b2 ≠ b3) : KT w W' b1 b2 b3 P5 D5 v9 v13 v16 vo xs p :=
  ⟨h.c1.upd U h13, h.c2.upd U h23, hD, own_upd h.hl h.c3 U (by decide), own_upd h.hj h.c3 U (by decide), rows_upd h.hi h.c3 U (by decide) (by decide), rows_upd h.ot h.c3 U (by decide) (by decide)⟩
end
theorem info41 : (Try.prog.info? 22).map (·.size) = some 1 := by kernel_rfl
theorem info42 : (Try.prog.info? 23).map (·.size) = some 1 := by kernel_rfl
theorem rd1 {w : World} {b t o : Nat} {cs : List Value} {op : Oper} {a : Act} {ty : TypeId} {x : Operand} {v : Value} (hc : IsS w b t cs) (hv : cs[o]? = some v) (ho : op.op = .load ty x) (hx : a.eval x = .pointer (some ⟨b, o, none⟩)) (hl : ∀ w, w.cell? ⟨b, o, none⟩ = some v → (Instr.loadAt ty (.pointer (some ⟨b, o, none⟩))).run Try.prog w = .ok v w) : (execOp a.eval op).run Try.prog w = .ok (.value v) w := by
  unfold execOp
  simp only [ho, hx, Sem.run_bind, hl w ((hc.cell o).trans hv), Result.andThen_ok, Sem.run_pure]
theorem rdc {w : World} {b o : Nat} {op : Oper} {a : Act} {ty : TypeId} {x : Operand} {v : Value} (hc : w.cell? ⟨b, o, none⟩ = some v) (ho : op.op = .load ty x) (hx : a.eval x = .pointer (some ⟨b, o, none⟩)) (hl : ∀ w, w.cell? ⟨b, o, none⟩ = some v → (Instr.loadAt ty (.pointer (some ⟨b, o, none⟩))).run Try.prog w = .ok v w) : (execOp a.eval op).run Try.prog w = .ok (.value v) w := by
  unfold execOp
  simp only [ho, hx, Sem.run_bind, hl w hc, Result.andThen_ok, Sem.run_pure]
theorem run_b47 {w : World} {op : Oper} {a : Act} {x y z : Operand} {a1 a2 a3 : Option Addr} {n1 n2 n3 c1 c2 c3 : Nat} (ho : op.op = .build 28 #[(2, x), (4, y), (3, z)]) (hx : a.eval x = .slice a1 n1 c1) (hy : a.eval y = .slice a2 n2 c2) (hz : a.eval z = .slice a3 n3 c3) :
    (execOp a.eval op).run Try.prog w = .ok (.value (.agg #[.slice none 0 0, .slice none 0 0, .slice a1 n1 c1, .slice a3 n3 c3, .slice a2 n2 c2])) w := by
  generalize a.eval = ev at hx hy hz ⊢
  unfold execOp
  simp [ho, hx, hy, hz, go_sem]
theorem one5 {v0 v1 v2 v3 v4 : Value} (h0 : v0.oneCell' = true) (h1 : v1.oneCell' = true) (h2 : v2.oneCell' = true) (h3 : v3.oneCell' = true) (h4 : v4.oneCell' = true) : ∀ v ∈ [v0, v1, v2, v3, v4], v.oneCell' = true := by
  intro v hv
  simp only [List.mem_cons, List.not_mem_nil, or_false] at hv
  rcases hv with rfl | rfl | rfl | rfl | rfl <;> assumption
theorem OwnRows.raise {α : Type} {W : World} {B B' t tin k : Nat} {v : Value} {enc : α → List Value} {xss : List (List α)} (h : OwnRows W B' t tin k v enc xss) (hb : B ≤ B') : OwnRows W B t tin k v enc xss := by
  obtain ⟨vs, h1, h2, h3⟩ := h; exact ⟨vs, h1, own_raise h2 hb, fun j u xs hu hx => own_raise (h3 j u xs hu hx) hb⟩
theorem OwnRows.cell {α : Type} {W : World} {B t tin k : Nat} {v : Value} {enc : α → List Value} {xss : List (List α)} (h : OwnRows W B t tin k v enc xss) : v.oneCell' = true := by
  obtain ⟨vs, h1, h2, h3⟩ := h; exact own_cell h2
end Go.Proofs.Ytegpnicajlndlaa

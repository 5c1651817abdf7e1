/- Several texts in one: Z7, Z8. -/
import Derived.Test.YtegpnicajlndlaaQad
import Derived.Below
import Derived.Test.YtegpnicajlndlaaQaa
/- A region that draws its order, whose head grows memory at most, one block of its own that is made at any time, and a tail in order: one walk in the text's order serves every order. -/
namespace Go.Proofs.Ytegpnicajlndlaa
open Go Go.RowKit
set_option linter.unusedVariables false
set_option linter.unusedSimpArgs false

section
variable {P : Program} {ops : Array Oper} {md : Region.Mode}

/-- In every world that has grown out of W the operation yields v, and at most grows it. -/
def GrowsAt (P : Program) (W : World) (o : Oper) (a : Act) (v : Value) : Prop := ∀ w, Below W.heap.size W w → o.quietAt P a (fun w' => Below w.heap.size w w') w v
def growOp (P : Program) (ops : Array Oper) (W : World) (o : Oper) (K : Act → Prop) (a : Act) : Prop :=
  if Region.wanted o (yielded ops a.tmps) then ∃ v, GrowsAt P W o a v ∧ K (a.put o.dst v) else K (a.put o.dst undef)
/-- The walk in the text's order. -/
def wpG (P : Program) (ops : Array Oper) (W : World) (Q : Act → Prop) : List Oper → Act → Prop
  | [] => Q
  | o :: rest => growOp P ops W o (wpG P ops W Q rest)

/-- A class of worlds that growing does not leave. -/
structure Grown (W : World) (C : World → Prop) : Prop where
  from' : ∀ w, C w → Below W.heap.size W w
  more : ∀ w w', C w → Below w.heap.size w w' → C w'
theorem grown_all (W : World) : Grown W (fun w => Below W.heap.size W w) := ⟨fun _ h => h, fun w w' h k => h.trans (k.mono h.size)⟩

theorem quietAt_of_grows {W : World} {C : World → Prop} (hC : Grown W C) {o : Oper} {a : Act} {v : Value} (h : GrowsAt P W o a v) (w : World) (hw : C w) : o.quietAt P a C w v := by
  have h1 := h w (hC.from' w hw)
  unfold Oper.quietAt at h1 ⊢
  generalize (execOp a.eval o).run P w = r at h1 ⊢
  match r, h1 with
  | .ok (.value u) w', h1 => exact h1
  | .ok .skip w', h1 => exact h1
  | .ok (.enter f args) w', ⟨e, hc⟩ => exact ⟨e, hc.mono fun e' w'' h' => ⟨h'.1, hC.more _ _ hw h'.2⟩⟩
theorem quiet_of_grow {W : World} {C : World → Prop} (hC : Grown W C) {Q : Act → Prop} : ∀ (l : List Oper) (a : Act), wpG P ops W Q l a → wpQuiet P ops C Q l a
  | [], _, h => h
  | o :: l, a, h => by
    unfold wpG growOp at h
    unfold wpQuiet
    split
    · rename_i hw
      rw [if_pos hw] at h
      obtain ⟨v, h1, h2⟩ := h
      exact ⟨v, fun w hw' => quietAt_of_grows hC h1 w hw', quiet_of_grow hC l _ h2⟩
    · rename_i hw
      rw [if_neg hw] at h
      exact quiet_of_grow hC l _ h

/-- All at most grow. -/
theorem grow_all {id : Nat} {Q : Exit → Act → World → Prop} {a : Act} {W : World} {l : List Oper} (hm : P.follows .mixedOrders = true) (hB : Region.lexB .any l.toArray = true)
    (h : wpG P l.toArray W (fun a' => ∀ w', Below W.heap.size W w' → Q .normal a' w') l a) : (Code.region id l.toArray true).wp P Q a W :=
  wp_quiet_all (fun w => Below W.heap.size W w) hm hB ⟨rfl, rfl, rfl, Nat.le_refl _, fun _ _ => rfl⟩ (quiet_of_grow (grown_all W) l a h)
/-- A tail in order. -/
theorem grow_tail {id : Nat} {Q : Exit → Act → World → Prop} {a : Act} {W : World} {l : List Oper} (n : Nat) (hm : P.follows .mixedOrders = true) (hB : Region.lexTailB .any l.toArray n = true)
    (h : wpG P l.toArray W (fun a' => ∀ w', Below W.heap.size W w' → wpList P l.toArray Q (l.drop n) a' w') (l.take n) a) : (Code.region id l.toArray true).wp P Q a W :=
  wp_quiet_tail (fun w => Below W.heap.size W w) n hm hB ⟨rfl, rfl, rfl, Nat.le_refl _, fun _ _ => rfl⟩ (quiet_of_grow (grown_all W) _ a h)

/-- What an operation leaves in its slot, whatever has grown. -/
def YieldsG (P : Program) (ops : Array Oper) (W : World) (o : Oper) (v : Value) (a : Act) : Prop :=
  (Region.wanted o (yielded ops a.tmps) = true ∧ GrowsAt P W o a v) ∨ (Region.wanted o (yielded ops a.tmps) = false ∧ v = undef)
theorem YieldsG.grow {W : World} {o : Oper} {v : Value} {a : Act} {K : Act → Prop} (hy : YieldsG P ops W o v a) (h : K (a.put o.dst v)) : growOp P ops W o K a := by
  unfold growOp
  rcases hy with ⟨hw, hv⟩ | ⟨hw, rfl⟩
  · rw [if_pos hw]; exact ⟨v, hv, h⟩
  · rw [if_neg (by rw [hw]; simp)]; exact h
end
end Go.Proofs.Ytegpnicajlndlaa
/- Operations of a region that draws its order, where memory at most grows. -/
namespace Go.Proofs.Ytegpnicajlndlaa
open Go.RowKit
set_option linter.unusedSimpArgs false
set_option linter.unusedVariables false

section
variable {ops : Array Oper} {W : World} {Q : Act → Prop} {rest : List Oper} {op : Oper} {a : Act}
theorem wpG_nil (h : Q a) : wpG Try.prog ops W Q [] a := h
theorem wpG_value (hw : Region.wanted op (yielded ops a.tmps) = true) {v : Value} (hr : ∀ w, Below W.heap.size W w → (execOp a.eval op).run Try.prog w = .ok (.value v) w)
    (h : wpG Try.prog ops W Q rest (a.put op.dst v)) : wpG Try.prog ops W Q (op :: rest) a := by
  unfold wpG growOp
  rw [if_pos hw]
  refine ⟨v, fun w hC => ?_, h⟩
  unfold Oper.quietAt
  rw [hr w hC]
  exact ⟨rfl, rfl⟩
theorem wpG_put (hw : Region.wanted op (yielded ops a.tmps) = true) {v : Value} (hr : ∀ w, (execOp a.eval op).run Try.prog w = .ok (.value v) w)
    (h : wpG Try.prog ops W Q rest (a.put op.dst v)) : wpG Try.prog ops W Q (op :: rest) a := wpG_value hw (fun w _ => hr w) h
theorem wpG_skip (hw : Region.wanted op (yielded ops a.tmps) = false)
    (h : wpG Try.prog ops W Q rest (a.put op.dst undef)) : wpG Try.prog ops W Q (op :: rest) a := by
  unfold wpG growOp
  rw [if_neg (by rw [hw]; simp)]
  exact h
theorem wpG_call (hw : Region.wanted op (yielded ops a.tmps) = true) {f : FuncId} {args : Array Value} {v : Value} (hC : ∀ w, Below W.heap.size W w → Calls Try.prog f args w fun e w' => e = .returned v ∧ Below w.heap.size w w') (hr : ∀ w, (execOp a.eval op).run Try.prog w = .ok (.enter f args) w)
    (h : wpG Try.prog ops W Q rest (a.put op.dst v)) : wpG Try.prog ops W Q (op :: rest) a := by
  unfold wpG growOp
  rw [if_pos hw]
  refine ⟨v, fun w hc => ?_, h⟩
  unfold Oper.quietAt
  rw [hr w]
  exact ⟨rfl, hC w hc⟩
end
end Go.Proofs.Ytegpnicajlndlaa

/- Slices of whatever elements (layer 15): read, put behind rows of one's own; rows of rows. -/
import Derived.Test.YtcmkoffamolgmaaG0
import Derived.Test.YtcmkoffamolgmaaRJ
namespace Go.Proofs.Ytcmkoffamolgmaa
open Go.RowKit M
set_option linter.unusedSimpArgs false
set_option linter.unusedVariables false

/-- Cells from an address on. -/
def Seg (w : World) (a : Option Addr) (cs : List Value) : Prop := ∀ j v, cs[j]? = some v → ∃ b o, a = some ⟨b, o, none⟩ ∧ b < w.heap.size ∧ w.cell? ⟨b, o + j, none⟩ = some v
theorem Seg.below {w W : World} {a : Option Addr} {cs : List Value} (h : Seg w a cs) (hB : Below w.heap.size w W) : Seg W a cs := fun j v hv => by
  obtain ⟨b, o, h1, h2, h3⟩ := h j v hv
  exact ⟨b, o, h1, Nat.lt_of_lt_of_le h2 hB.size, by rw [hB.cell (p := ⟨b, o + j, none⟩) h2]; exact h3⟩
theorem Seg.nil (w : World) (a : Option Addr) : Seg w a [] := fun j v hv => by simp at hv
/-- A slice of n elements with these cells. -/
def RowV (w : World) (v : Value) (n : Nat) (cs : List Value) : Prop := ∃ a c, v = .slice a n c ∧ Seg w a cs ∧ (a = none → c = 0)
theorem RowV.below {w W : World} {v : Value} {n : Nat} {cs : List Value} (h : RowV w v n cs) (hB : Below w.heap.size w W) : RowV W v n cs := by
  obtain ⟨a, c, h1, h2, h3⟩ := h; exact ⟨a, c, h1, h2.below hB, h3⟩
/-- A slice of slices. -/
def RowsV {α : Type} (w : World) (v : Value) (enc : α → List Value) (xss : List (List α)) : Prop :=
  ∃ vs : List Value, vs.length = xss.length ∧ RowV w v xss.length vs ∧ ∀ (j : Nat) u xs, vs[j]? = some u → xss[j]? = some xs → RowV w u xs.length (xs.flatMap enc)
theorem RowsV.below {α : Type} {w W : World} {v : Value} {enc : α → List Value} {xss : List (List α)} (h : RowsV w v enc xss) (hB : Below w.heap.size w W) : RowsV W v enc xss := by
  obtain ⟨vs, h1, h2, h3⟩ := h; exact ⟨vs, h1, h2.below hB, fun j u xs hu hx => (h3 j u xs hu hx).below hB⟩
/-- The row with a number. -/
theorem RowsV.at {α : Type} {w : World} {a : Option Addr} {n c : Nat} {enc : α → List Value} {xss : List (List α)} (h : RowsV w (.slice a n c) enc xss) (j : Nat) (xs : List α) (hx : xss[j]? = some xs) :
    ∃ b o a' c', a = some ⟨b, o, none⟩ ∧ b < w.heap.size ∧ w.cell? ⟨b, o + j, none⟩ = some (.slice a' xs.length c') ∧ Seg w a' (xs.flatMap enc) ∧ (a' = none → c' = 0) := by
  obtain ⟨vs, h1, ⟨a0, c0, e0, h2, _⟩, h3⟩ := h
  cases e0
  have hj := (List.getElem?_eq_some_iff.1 hx).1
  obtain ⟨u, hu⟩ : ∃ u, vs[j]? = some u := ⟨_, List.getElem?_eq_getElem (by omega)⟩
  obtain ⟨b, o, e, hb, hc⟩ := h2 j u hu
  obtain ⟨a', c', rfl, h4, h5⟩ := h3 j u xs hu hx
  exact ⟨b, o, a', c', e, hb, hc, h4, h5⟩
theorem RowsV.form {α : Type} {w : World} {v : Value} {enc : α → List Value} {xss : List (List α)} (h : RowsV w v enc xss) : ∃ a c, v = .slice a xss.length c := by
  obtain ⟨vs, _, ⟨a, c, e, _⟩, _⟩ := h; exact ⟨a, c, e⟩
theorem RowsV.null {α : Type} {w : World} {n c : Nat} {enc : α → List Value} {xss : List (List α)} (h : RowsV w (.slice none n c) enc xss) : c = 0 := by
  obtain ⟨vs, _, ⟨a, c', e, _, h2⟩, _⟩ := h; cases e; exact h2 rfl
/-- What an element's type is. -/
structure Elt (t T k : Nat) (z : Value) (by' : Nat) : Prop where
  und : Try.prog.underlying T = some (.slice t)
  info : ∃ i, Try.prog.info? t = some i ∧ i.zero = some z ∧ i.size = k ∧ i.bytes = by'
  cells : z.cells.size = k
  pos : 0 < k
  few : by' ≤ 1024
theorem info_parts {t : Nat} {z : Value} {k by' : Nat} (h : (Try.prog.info? t).map (fun i => (i.zero, i.size, i.bytes)) = some (some z, k, by')) : ∃ i, Try.prog.info? t = some i ∧ i.zero = some z ∧ i.size = k ∧ i.bytes = by' := by
  cases hq : Try.prog.info? t with
  | none => rw [hq] at h; simp at h
  | some i =>
    rw [hq] at h
    simp only [Option.map_some, Option.some.injEq, Prod.mk.injEq] at h
    exact ⟨i, rfl, h.1, h.2.1, h.2.2⟩
theorem eInt : Elt 3 64 1 (.int .i64 0) 8 := ⟨Try.underlying64, info_parts (by kernel_rfl), rfl, by decide, by decide⟩
theorem eBool : Elt 4 54 1 (.bool false) 1 := ⟨Try.underlying54, info_parts (by kernel_rfl), rfl, by decide, by decide⟩
section
variable {w : World} {ops : Array Oper} {rest : List Oper} {op : Oper} {a : Act} {Q : Exit → Act → World → Prop} {t T k by' : Nat} {z : Value}
theorem own_row {B n : Nat} {v : Value} {xs : List Value} (h : w.ownsRow B t k v n xs) : RowV w v n xs := by
  rcases h.2 with ⟨rfl, rfl⟩ | ⟨g, cap, cur, rfl, hg, hh, rest⟩
  · refine ⟨none, 0, rfl, fun j v hv => ?_, fun _ => rfl⟩
    have := (List.getElem?_eq_some_iff.1 hv).1
    have := h.1
    omega
  · refine ⟨some ⟨g, 0, none⟩, cap, rfl, fun j v hv => ⟨g, 0, rfl, (Array.getElem?_eq_some_iff.1 hh).1, ?_⟩, fun e => by cases e⟩
    rw [cell_of_row w g _ cur t (0, 0) hh, Nat.zero_add]
    rw [← rest.2.2.2, List.getElem?_take] at hv
    split at hv
    · simpa using hv
    · cases hv
/-- A slice's cells put behind a row of one's own. -/
theorem run_appM (E : Elt t T k z by') (B : Nat) (v : Value) (n : Nat) (xs : List Value) (hown : w.ownsRow B t k v n xs) (u : Value) (m : Nat) (cs : List Value) (hu : RowV w u m cs) (hl : cs.length = m * k) (h1 : ∀ x ∈ cs, x.oneCell' = true) (hn : n + m ≤ 4194304) (hB : B ≤ w.heap.size) (ty : TypeId) :
    ∃ v' w', (Builtin.append_ #[T, T] ty #[v, u]).run Try.prog w = .ok v' w' ∧ w'.ownsRow B t k v' (n + m) (xs ++ cs) ∧ w.grownBy w' v.ownBlock := by
  obtain ⟨i0, hi, hz, hs, hby⟩ := E.info
  obtain ⟨ad, c, rfl, hT, hnil⟩ := hu
  cases ad with
  | none =>
    have hm : m = 0 := by
      cases m with
      | zero => rfl
      | succ m =>
        have hpos := E.pos
        have : 0 < cs.length := by rw [hl]; exact Nat.mul_pos (Nat.succ_pos _) hpos
        obtain ⟨_, _, e, _⟩ := hT 0 cs[0] (List.getElem?_eq_getElem this)
        cases e
    subst hm
    have hcs : cs = [] := List.length_eq_zero_iff.1 (by rw [hl, Nat.zero_mul])
    subst hcs
    rw [hnil rfl]
    refine ⟨v, w, run_append_owned_none (P := Try.prog) (w := w) B T ty t i0 k E.und hi v n xs hown, ?_, ⟨rfl, rfl, rfl, Nat.le_refl _, fun _ _ _ => rfl⟩⟩
    simpa using hown
  | some x =>
    have hnews : ∀ j y, cs[j]? = some y → w.cell? (x.add j) = some y := fun j y hj => by
      obtain ⟨b, o, e, _, hc⟩ := hT j y hj
      cases e
      rw [Addr.add_mid]
      exact hc
    have hfew := E.few
    have hb : (n + m) * by' ≤ 140737488355328 := Nat.le_trans (Nat.mul_le_mul hn hfew) (by decide)
    obtain ⟨v', w', hr, ho, hg, _⟩ := run_append_own (P := Try.prog) w B T ty t i0 z k by' E.und hi hz hs hby E.cells E.pos v n xs hown x m c cs hl hnews h1 (by unfold maxLen; omega) hb hB
    exact ⟨v', w', hr, ho, hg⟩
theorem exec_app (s x : Operand) (ho : op.op = .call { callee := .builtin .append, args := #[s, x], argTypes := #[T, T] }) {v u v' : Value} {w' : World} (hs : a.eval s = v) (hx : a.eval x = u)
    (hr : (Builtin.append_ #[T, T] op.type #[v, u]).run Try.prog w = .ok v' w') : (execOp a.eval op).run Try.prog w = .ok (.value v') w' := by
  unfold execOp
  simp only [ho, resolve, invoke, builtin, Sem.run_bind, Sem.run_pure, Result.andThen_ok, List.map_toArray, List.map_cons, List.map_nil, hs, hx, hr]
theorem wpList_appM (E : Elt t T k z by') (hgd : op.guard = none) (s x : Operand) (ho : op.op = .call { callee := .builtin .append, args := #[s, x], argTypes := #[T, T] })
    (B : Nat) (v : Value) (n : Nat) (xs : List Value) (hs : a.eval s = v) (hown : w.ownsRow B t k v n xs) (u : Value) (m : Nat) (cs : List Value) (hx : a.eval x = u) (hu : RowV w u m cs) (hl : cs.length = m * k) (h1 : ∀ x ∈ cs, x.oneCell' = true) (hn : n + m ≤ 4194304) (hB : B ≤ w.heap.size)
    (h : ∀ v' w', w'.ownsRow B t k v' (n + m) (xs ++ cs) → w.grownBy w' v.ownBlock → wpList Try.prog ops Q rest (a.put op.dst v') w') : wpList Try.prog ops Q (op :: rest) a w := by
  refine wpList_plain hgd fun K hK => ?_
  obtain ⟨v', w', hr, h2, h3⟩ := run_appM E B v n xs hown u m cs hu hl h1 hn hB op.type
  unfold Oper.wp
  rw [exec_app s x ho hs hx hr]
  exact hK _ _ (h v' w' h2 h3)
theorem exec_build0 (E : Elt t T k z by') (ho : op.op = .buildSlice T 0 #[]) : (execOp a.eval op).run Try.prog w = .ok (.value (.slice (some ⟨w.heap.size, 0, none⟩) 0 0)) (w.alloc (.cells #[] t)) := by
  obtain ⟨i, hi, hz, hk, _⟩ := E.info
  unfold execOp
  simp [ho, go_sem, Value.cells, run_underlying E.und, sizeOf, typeInfo, hi, hz, hk]
theorem own_build0 (E : Elt t T k z by') (w : World) : (w.alloc (.cells #[] t)).ownsRow w.heap.size t k (.slice (some ⟨w.heap.size, 0, none⟩) 0 0) 0 [] :=
  ⟨by simp, .inr ⟨w.heap.size, 0, #[], rfl, Nat.le_refl _, heap_alloc_last w _, Nat.le_refl _, by unfold maxLen; omega, by simp, by simp⟩⟩
theorem one_cells {u : Value} (h : u.oneCell' = true) : u.cells = #[u] := by cases u <;> simp_all [Value.cells, Value.oneCell']
theorem exec_build1 (E : Elt t T 1 z by') (x : Operand) (ho : op.op = .buildSlice T 1 #[(0, x)]) (u : Value) (hx : a.eval x = u) (hc : u.oneCell' = true) : (execOp a.eval op).run Try.prog w = .ok (.value (.slice (some ⟨w.heap.size, 0, none⟩) 1 1)) (w.alloc (.cells #[u] t)) := by
  obtain ⟨i, hi, hz, hk, _⟩ := E.info
  have hcu := one_cells hc
  generalize a.eval = ev at hx ⊢
  unfold execOp
  simp only [ho, hx]
  simp [Instr.buildSlice, Instr.fill, run_underlying E.und, sizeOf, typeInfo, zeroValue, hi, hk, hz, hx, hcu, newRow, show Array.range 1 = #[0] from rfl]
theorem exec_build2 (E : Elt t T 2 z by') (x : Operand) (ho : op.op = .buildSlice T 1 #[(0, x)]) (u1 u2 : Value) (hx : a.eval x = .agg #[u1, u2]) : (execOp a.eval op).run Try.prog w = .ok (.value (.slice (some ⟨w.heap.size, 0, none⟩) 1 1)) (w.alloc (.cells #[u1, u2] t)) := by
  obtain ⟨i, hi, hz, hk, _⟩ := E.info
  generalize a.eval = ev at hx ⊢
  unfold execOp
  simp only [ho, hx]
  simp [Instr.buildSlice, Instr.fill, run_underlying E.und, sizeOf, typeInfo, zeroValue, hi, hk, hz, hx, Value.cells, newRow, show Array.range 2 = #[0, 1] from rfl]
end
end Go.Proofs.Ytcmkoffamolgmaa

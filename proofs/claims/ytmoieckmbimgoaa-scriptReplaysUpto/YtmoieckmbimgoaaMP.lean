/-
  MAPS IN MEMORY, OF WHATEVER ELEMENTS: 'MapV P k w b n f c': block b of w is a map of c entries (at most n) that has at each key what f says. No program is named.
  Each law as an equation of its run, and at the operation, for the walk.
-/
import Derived.Maps.OwnSet
import Derived.Maps.RangeWalk
namespace Go.Proofs.Ytmoieckmbimgoaa
open Go Go.Maps Go.ChangeMaps Go.MapKept

/-- Any value reads as itself. -/
def anyE (v : Value) : Option (DataW Value × List MemPlace) := some (.held v, [])
theorem anyE_mk (v : Value) : anyE v = some (.held v, []) := rfl
theorem anyE_inv {v : Value} {d : DataW Value} {ps : List MemPlace} (h : anyE v = some (d, ps)) : d = .held v := by
  unfold anyE at h; simp only [Option.some.injEq, Prod.mk.injEq] at h; exact h.1.symm
theorem anyE_held {v u : Value} {ps : List MemPlace} (h : anyE v = some (.held u, ps)) : v = u := by
  have := anyE_inv h; simpa using this.symm

/-- Block b of w is a map of c entries (at most n) that has at each key what f says. -/
structure MapV (P : Program) (k : TypeId) (w : World) (b n : Nat) (f : Lit → Option Value) (c : Nat) : Prop where
  ex : ∃ D : DataW Value, w.ownsMap P k anyE b n D ∧ Maps.size D = c ∧ ∀ kl, Maps.has D kl = (f kl).isSome ∧ ∀ v, f kl = some v → ∀ z, D.atKey kl z = .held v

open Classical in
/-- At one key another element. -/
noncomputable def putF (f : Lit → Option Value) (kl : Lit) (v : Value) : Lit → Option Value := fun x => if x = kl then some v else f x
open Classical in
/-- One key less. -/
noncomputable def delF (f : Lit → Option Value) (kl : Lit) : Lit → Option Value := fun x => if x = kl then none else f x

section
variable {P : Program} {k t e : TypeId} {w : World} {b n c : Nat} {f : Lit → Option Value}

theorem mapV_made (w : World) (P : Program) (k : TypeId) : MapV P k (w.alloc (.map #[] 0)) w.heap.size 0 (fun _ => none) 0 :=
  ⟨_, World.ownsMap_made w P k anyE, rfl, fun _ => ⟨rfl, fun _ h => by cases h⟩⟩

theorem MapV.lt (h : MapV P k w b n f c) : b < w.heap.size := let ⟨_, h1, _⟩ := h.ex; h1.lt
theorem MapV.le (h : MapV P k w b n f c) : c ≤ n := by obtain ⟨_, h1, rfl, _⟩ := h.ex; exact h1.size_le

/-- It hangs on its own block alone. -/
theorem MapV.same {w' : World} (h : MapV P k w b n f c) (e : w'.heap[b]? = w.heap[b]?) : MapV P k w' b n f c := by
  obtain ⟨D, ⟨es, cl, hb, r⟩, h2⟩ := h.ex
  exact ⟨D, ⟨es, cl, by rw [e]; exact hb, r⟩, h2⟩
theorem MapV.mono {n' : Nat} (h : MapV P k w b n f c) (hn : n ≤ n') : MapV P k w b n' f c := by
  obtain ⟨D, h1, h2⟩ := h.ex
  exact ⟨D, h1.mono hn, h2⟩
theorem MapV.kept {w' : World} {row : Option Nat} (h : MapV P k w b n f c) (hg : w.grownBy w' row) (hne : some b ≠ row) : MapV P k w' b n f c := by
  obtain ⟨D, h1, h2⟩ := h.ex
  exact ⟨D, h1.kept hg hne, h2⟩
/-- It is no row of cells. -/
theorem MapV.block (h : MapV P k w b n f c) : ∃ es cl, w.heap[b]? = some (.map es cl) := by
  obtain ⟨D, ⟨es, cl, hb, _⟩, _⟩ := h.ex
  exact ⟨es, cl, hb⟩
theorem MapV.ne {b' : Nat} {cs : Array Value} {ty : TypeId} (h : MapV P k w b n f c) (hb' : w.heap[b']? = some (.cells cs ty)) : b ≠ b' := by
  rintro rfl
  obtain ⟨es, cl, hb⟩ := h.block
  rw [hb] at hb'; cases hb'

/-- 'm[k]'. -/
theorem MapV.look (h : MapV P k w b n f c) (K : Keyed P k) (ht : P.underlying t = some (.map k e)) {z : Value} (hz : (zeroValue e).run P w = .ok z w) {key : Value} {kl : Lit} (hkey : keyOf P k key = some kl) :
    (Instr.lookup t (.map (some b)) key false).run P w = .ok ((f kl).getD z) w := by
  obtain ⟨D, h1, _, h2⟩ := h.ex
  obtain ⟨v, ps, hrun, hv⟩ := h1.lookup K ht hz (anyE_mk z) hkey
  rw [hrun]
  obtain ⟨h3, h4⟩ := h2 kl
  cases hf : f kl with
  | none =>
    rw [hf] at h3
    rw [Maps.atKey_of_not_has (by simpa using h3)] at hv
    rw [anyE_held hv]; rfl
  | some u =>
    rw [h4 u hf] at hv
    rw [anyE_held hv]; rfl

/-- 'v, ok := m[k]'. -/
theorem MapV.look_ok (h : MapV P k w b n f c) (K : Keyed P k) (ht : P.underlying t = some (.map k e)) {z : Value} (hz : (zeroValue e).run P w = .ok z w) {key : Value} {kl : Lit} (hkey : keyOf P k key = some kl) :
    (Instr.lookup t (.map (some b)) key true).run P w = .ok (.tuple #[(f kl).getD z, .bool (f kl).isSome]) w := by
  obtain ⟨D, h1, _, h2⟩ := h.ex
  obtain ⟨v, ps, hrun, hv⟩ := h1.look_ok K ht hz (anyE_mk z) hkey
  rw [hrun]
  obtain ⟨h3, h4⟩ := h2 kl
  rw [h3]
  cases hf : f kl with
  | none =>
    rw [hf] at h3
    rw [Maps.atKey_of_not_has (by simpa using h3)] at hv
    rw [anyE_held hv]; rfl
  | some u =>
    rw [h4 u hf] at hv
    rw [anyE_held hv]; rfl

/-- 'len(m)'. -/
theorem MapV.len (h : MapV P k w b n f c) (ht : P.underlying t = some (.map k e)) (ty : TypeId) : (Builtin.len_ #[t] ty #[.map (some b)]).run P w = .ok (.int .i64 c) w := by
  obtain ⟨D, h1, rfl, _⟩ := h.ex
  exact h1.len ht ty

/-- 'm[k] = v'. -/
theorem MapV.upd (h : MapV P k w b n f c) (K : Keyed P k) (ht : P.underlying t = some (.map k e)) (hn : n < maxLen) {key : Value} (val : Value) {kl : Lit} (hkey : keyOf P k key = some kl) :
    ∃ w', (Instr.mapUpdate t (.map (some b)) key val).run P w = .ok () w' ∧ MapV P k w' b (n + 1) (putF f kl val) (if (f kl).isSome then c else c + 1) ∧ w.mapTurned w' b := by
  obtain ⟨D, h1, rfl, h2⟩ := h.ex
  obtain ⟨w', hrun, h3, h4⟩ := h1.store K ht hn hkey (anyE_mk val)
  refine ⟨w', hrun, ⟨_, h3, ?_, ?_⟩, h4⟩
  · rw [Maps.size_put (h1.tidy K), (h2 kl).1]
  · intro x
    unfold putF
    by_cases hx : x = kl
    · subst hx
      rw [if_pos rfl]
      exact ⟨Maps.has_put_same h1.isMap (K.key hkey) _, fun v hv z => by rw [Maps.atKey_put_same h1.isMap (K.key hkey)]; simpa using hv⟩
    · rw [if_neg hx]
      exact ⟨by rw [Maps.has_put_other hx]; exact (h2 x).1, fun v hv z => by rw [Maps.atKey_put_other hx]; exact (h2 x).2 v hv z⟩

/-- 'delete(m, k)'. -/
theorem MapV.del (h : MapV P k w b n f c) (K : Keyed P k) (ht : P.underlying t = some (.map k e)) {key : Value} {kl : Lit} (hkey : keyOf P k key = some kl) (ty : TypeId) :
    ∃ w', (Builtin.delete_ #[t, k] ty #[.map (some b), key]).run P w = .ok (.tuple #[]) w' ∧ MapV P k w' b n (delF f kl) (if (f kl).isSome then c - 1 else c) ∧ w.mapTurned w' b := by
  obtain ⟨D, h1, rfl, h2⟩ := h.ex
  obtain ⟨w', hrun, h3, h4⟩ := h1.drop K ht hkey ty
  refine ⟨w', hrun, ⟨_, h3, ?_, ?_⟩, h4⟩
  · have := Maps.size_del (k := kl) (h1.tidy K)
    rw [(h2 kl).1] at this
    by_cases hs : (f kl).isSome = true
    · rw [if_pos hs] at this ⊢; omega
    · rw [if_neg hs] at this ⊢; omega
  · intro x
    unfold delF
    by_cases hx : x = kl
    · subst hx
      rw [if_pos rfl]
      exact ⟨by rw [Maps.has_del_same]; rfl, fun v hv => by cases hv⟩
    · rw [if_neg hx]
      exact ⟨by rw [Maps.has_del_other hx]; exact (h2 x).1, fun v hv z => by rw [Maps.atKey_del_other hx]; exact (h2 x).2 v hv z⟩

/-- All blocks but the map's lie as they lay. -/
theorem mapTurned_other {w' : World} (h : w.mapTurned w' b) {j : Nat} (hj : j ≠ b) : w'.heap[j]? = w.heap[j]? := by
  have := h.grown
  by_cases hlt : j < w.heap.size
  · exact this.block j hlt (fun e => hj (by simpa using e))
  · obtain ⟨es, cl, es', cl', hb, rfl⟩ := h
    simp [setBlock]
    rw [Array.getElem?_eq_none (by simp; omega), Array.getElem?_eq_none (by omega)]
theorem mapTurned_size {w' : World} (h : w.mapTurned w' b) : w'.heap.size = w.heap.size := by
  obtain ⟨es, cl, es', cl', hb, rfl⟩ := h
  simp [setBlock]
end
/-! ### at the operation -/
section
variable {P : Program} {k t e : TypeId} {w : World} {b n c : Nat} {f : Lit → Option Value} {ops : Array Oper} {rest : List Oper} {o : Oper} {a : Act} {Q : Exit → Act → World → Prop}

theorem MapV.exec_look (h : MapV P k w b n f c) (K : Keyed P k) (ht : P.underlying t = some (.map k e)) {z : Value} (hz : (zeroValue e).run P w = .ok z w) {m x : Operand} (hop : o.op = Op.lookup t m x false)
    (hm : a.eval m = .map (some b)) {key : Value} (hx : a.eval x = key) {kl : Lit} (hkey : keyOf P k key = some kl) : (execOp a.eval o).run P w = .ok (.value ((f kl).getD z)) w := by
  simp [execOp, hop, hm, hx, h.look K ht hz hkey, Result.andThen]
theorem MapV.exec_look_ok (h : MapV P k w b n f c) (K : Keyed P k) (ht : P.underlying t = some (.map k e)) {z : Value} (hz : (zeroValue e).run P w = .ok z w) {m x : Operand} (hop : o.op = Op.lookup t m x true)
    (hm : a.eval m = .map (some b)) {key : Value} (hx : a.eval x = key) {kl : Lit} (hkey : keyOf P k key = some kl) : (execOp a.eval o).run P w = .ok (.value (.tuple #[(f kl).getD z, .bool (f kl).isSome])) w := by
  simp [execOp, hop, hm, hx, h.look_ok K ht hz hkey, Result.andThen]
theorem MapV.exec_len (h : MapV P k w b n f c) (ht : P.underlying t = some (.map k e)) {m : Operand} (hop : o.op = Op.call { callee := Callee.builtin Builtin.len, args := #[m], argTypes := #[t] })
    (hm : a.eval m = .map (some b)) : (execOp a.eval o).run P w = .ok (.value (.int .i64 c)) w := by
  simp [execOp, hop, resolve, invoke, builtin, hm, h.len ht o.type, Result.andThen]
theorem MapV.exec_upd (h : MapV P k w b n f c) (K : Keyed P k) (ht : P.underlying t = some (.map k e)) (hn : n < maxLen) {m x v : Operand} (hop : o.op = Op.mapUpdate t m x v)
    (hm : a.eval m = .map (some b)) {key val : Value} (hx : a.eval x = key) (hv : a.eval v = val) {kl : Lit} (hkey : keyOf P k key = some kl) :
    ∃ w', (execOp a.eval o).run P w = .ok .skip w' ∧ MapV P k w' b (n + 1) (putF f kl val) (if (f kl).isSome then c else c + 1) ∧ w.mapTurned w' b := by
  obtain ⟨w', hrun, r⟩ := h.upd K ht hn val hkey
  exact ⟨w', by simp [execOp, hop, hm, hx, hv, hrun, Result.andThen], r⟩
theorem MapV.exec_del (h : MapV P k w b n f c) (K : Keyed P k) (ht : P.underlying t = some (.map k e)) {m x : Operand} (hop : o.op = Op.call { callee := Callee.builtin Builtin.delete, args := #[m, x], argTypes := #[t, k] })
    (hm : a.eval m = .map (some b)) {key : Value} (hx : a.eval x = key) {kl : Lit} (hkey : keyOf P k key = some kl) :
    ∃ w', (execOp a.eval o).run P w = .ok (.value (.tuple #[])) w' ∧ MapV P k w' b n (delF f kl) (if (f kl).isSome then c - 1 else c) ∧ w.mapTurned w' b := by
  obtain ⟨w', hrun, r⟩ := h.del K ht hkey o.type
  exact ⟨w', by simp [execOp, hop, resolve, invoke, builtin, hm, hx, hrun, Result.andThen], r⟩

/-- 'm[k]', for the walk. -/
theorem wpList_lookV (hg : o.guard = none) (m x : Operand) (hop : o.op = Op.lookup t m x false) (h : MapV P k w b n f c) (K : Keyed P k) (ht : P.underlying t = some (.map k e)) {z : Value} (hz : (zeroValue e).run P w = .ok z w)
    (hm : a.eval m = .map (some b)) (key : Value) (kl : Lit) (hx : a.eval x = key) (hkey : keyOf P k key = some kl) (hK : wpList P ops Q rest (a.put o.dst ((f kl).getD z)) w) : wpList P ops Q (o :: rest) a w := by
  refine wpList_plain hg fun K' hK' => ?_
  unfold Oper.wp
  rw [h.exec_look K ht hz hop hm hx hkey]
  exact hK' _ _ hK
theorem wpList_lookokV (hg : o.guard = none) (m x : Operand) (hop : o.op = Op.lookup t m x true) (h : MapV P k w b n f c) (K : Keyed P k) (ht : P.underlying t = some (.map k e)) {z : Value} (hz : (zeroValue e).run P w = .ok z w)
    (hm : a.eval m = .map (some b)) (key : Value) (kl : Lit) (hx : a.eval x = key) (hkey : keyOf P k key = some kl) (hK : wpList P ops Q rest (a.put o.dst (.tuple #[(f kl).getD z, .bool (f kl).isSome])) w) : wpList P ops Q (o :: rest) a w := by
  refine wpList_plain hg fun K' hK' => ?_
  unfold Oper.wp
  rw [h.exec_look_ok K ht hz hop hm hx hkey]
  exact hK' _ _ hK
theorem wpList_lenV (hg : o.guard = none) (m : Operand) (hop : o.op = Op.call { callee := Callee.builtin Builtin.len, args := #[m], argTypes := #[t] }) (h : MapV P k w b n f c) (ht : P.underlying t = some (.map k e))
    (hm : a.eval m = .map (some b)) (hK : wpList P ops Q rest (a.put o.dst (.int .i64 c)) w) : wpList P ops Q (o :: rest) a w := by
  refine wpList_plain hg fun K' hK' => ?_
  unfold Oper.wp
  rw [h.exec_len ht hop hm]
  exact hK' _ _ hK
theorem wpList_updV (hg : o.guard = none) (m x v : Operand) (hop : o.op = Op.mapUpdate t m x v) (h : MapV P k w b n f c) (K : Keyed P k) (ht : P.underlying t = some (.map k e)) (hn : n < maxLen)
    (hm : a.eval m = .map (some b)) (key val : Value) (kl : Lit) (hx : a.eval x = key) (hv : a.eval v = val) (hkey : keyOf P k key = some kl)
    (hK : ∀ w', MapV P k w' b (n + 1) (putF f kl val) (if (f kl).isSome then c else c + 1) → w.mapTurned w' b → wpList P ops Q rest (a.put o.dst undef) w') : wpList P ops Q (o :: rest) a w := by
  refine wpList_plain hg fun K' hK' => ?_
  obtain ⟨w', hr, h1, h2⟩ := h.exec_upd K ht hn hop hm hx hv hkey
  unfold Oper.wp
  rw [hr]
  exact hK' _ _ (hK w' h1 h2)
theorem wpList_delV (hg : o.guard = none) (m x : Operand) (hop : o.op = Op.call { callee := Callee.builtin Builtin.delete, args := #[m, x], argTypes := #[t, k] }) (h : MapV P k w b n f c) (K : Keyed P k) (ht : P.underlying t = some (.map k e))
    (hm : a.eval m = .map (some b)) (key : Value) (kl : Lit) (hx : a.eval x = key) (hkey : keyOf P k key = some kl)
    (hK : ∀ w', MapV P k w' b n (delF f kl) (if (f kl).isSome then c - 1 else c) → w.mapTurned w' b → wpList P ops Q rest (a.put o.dst (.tuple #[])) w') : wpList P ops Q (o :: rest) a w := by
  refine wpList_plain hg fun K' hK' => ?_
  obtain ⟨w', hr, h1, h2⟩ := h.exec_del K ht hop hm hx hkey
  unfold Oper.wp
  rw [hr]
  exact hK' _ _ (hK w' h1 h2)
end
end Go.Proofs.Ytmoieckmbimgoaa

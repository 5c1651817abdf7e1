/- Structs in memory, of whatever type: a block of cells, loaded, stored, boxed, made and handed back, whole or in part; the same in a region that draws its order. -/
import Derived.Test.YtopnbemodlcknaaDoorS0
import Derived.Test.YtopnbemodlcknaaDoorZ8
namespace Go.Proofs.YtopnbemodlcknaaDoor
open Go.RowKit
set_option linter.unusedSimpArgs false
set_option linter.unusedVariables false

/-- A block of one type's cells. -/
def IsS (w : World) (b t : Nat) (cs : List Value) : Prop := w.heap[b]? = some (.cells cs.toArray t)
/-- Cells from a place on are replaced. -/
def putL : List Value → Nat → List Value → List Value
  | cs, _, [] => cs
  | cs, o, v :: vs => putL (cs.set o v) (o + 1) vs
section
variable {w W w' : World} {b b' B t : Nat} {cs : List Value}
theorem IsS.lt (h : IsS w b t cs) : b < w.heap.size := (Array.getElem?_eq_some_iff.1 h).1
theorem IsS.cell (h : IsS w b t cs) (j : Nat) : w.cell? ⟨b, j, none⟩ = cs[j]? := by
  rw [cell_of_row w b j cs.toArray t (0, 0) h]; simp
theorem IsS.frozen (h : IsS w b t cs) (j : Nat) : w.frozen? ⟨b, j, none⟩ = false := by
  have h' : w.heap[b]? = some (.cells cs.toArray t (0, 0)) := h
  simp [World.frozen?, h']
theorem IsS.below (h : IsS w b t cs) (hB : Below B w w') (hb : b < B) : IsS w' b t cs := (hB.block b hb).trans h
theorem IsS.grown (h : IsS w b t cs) (hB : Below w.heap.size w w') : IsS w' b t cs := h.below hB h.lt
theorem IsS.new (w : World) (t : Nat) (cs : List Value) : IsS (w.alloc (.cells cs.toArray t)) w.heap.size t cs := heap_alloc_last w _
theorem IsS.fresh (h : IsS w b t cs) (F : Fresh w W b') : IsS W b t cs := h.below F.below (by rw [F.at']; exact h.lt)
theorem IsS.upd (h : IsS w b t cs) (U : Upd w W b') (hb : b ≠ b') : IsS W b t cs := (U.block b hb).trans h
theorem IsS.range (h : IsS w b t cs) (o k : Nat) : w.rangeAt b o ((cs.drop o).take k) := fun j v hv => by
  rw [h.cell]
  rw [List.getElem?_take] at hv
  split at hv
  · rw [List.getElem?_drop] at hv; exact hv
  · cases hv
theorem IsS.there (h : IsS w b t cs) (o k : Nat) (hk : o + k ≤ cs.length) : w.there b o k := fun j hj => by
  rw [h.cell, List.getElem?_eq_getElem (by omega)]
  exact ⟨rfl, h.frozen _⟩
theorem IsS.set1 (h : IsS w b t cs) (o : Nat) (v : Value) : IsS (w.setCell ⟨b, o, none⟩ v) b t (cs.set o v) := by
  have h' : w.heap[b]? = some (.cells cs.toArray t (0, 0)) := h
  unfold IsS
  show (w.heap.modify b _)[b]? = _
  rw [Array.getElem?_modify, if_pos rfl, h']
  simp
theorem IsS.setL : ∀ (vs : List Value) (o : Nat) (cs : List Value) (w : World), IsS w b t cs → IsS (w.setCells b o vs) b t (putL cs o vs)
  | [], o, cs, w, h => h
  | v :: vs, o, cs, w, h => IsS.setL vs (o + 1) _ _ (h.set1 o v)
theorem Upd.comp {b : Nat} {w W W' : World} (h : Upd w W b) (h' : Upd W W' b) : Upd w W' b :=
  ⟨h'.os.trans h.os, h'.tape.trans h.tape, h'.output.trans h.output, h'.size.trans h.size, fun k hk => (h'.block k hk).trans (h.block k hk)⟩
theorem Upd.refl (w : World) (b : Nat) : Upd w w b := ⟨rfl, rfl, rfl, rfl, fun _ _ => rfl⟩
theorem Upd.setCells (b : Nat) : ∀ (vs : List Value) (o : Nat) (w : World), Upd w (w.setCells b o vs) b
  | [], o, w => Upd.refl w b
  | v :: vs, o, w => (Upd.setCell w b o v).comp (Upd.setCells b vs (o + 1) _)
theorem below_drew {B : Nat} {w W : World} (h : Below B w W) : Below B w W.drew := ⟨h.os, h.tape, h.output, h.size, h.block⟩
theorem below_drewN {B : Nat} {w W : World} (h : Below B w W) (m : Nat) : Below B w (W.drewN m) := ⟨h.os, h.tape, h.output, h.size, h.block⟩
theorem Below.then {w W W' : World} (h : Below w.heap.size w W) (h' : Below W.heap.size W W') : Below w.heap.size w W' := h.trans (h'.mono h.size)

theorem run_store1 {P : Program} (w : World) (b o : Nat) (ty : TypeId) (v : Value) (ht : w.there b o 1) (hi : (P.info? ty).map (·.size) = some 1) (h1 : v.oneCell' = true) :
    (storeVar ty ⟨b, o, none⟩ v).run P w = .ok () (w.setCell ⟨b, o, none⟩ v) := by
  have := run_storeCells_cells (P := P) b o [v] 0 w (fun j hj => by simpa using (ht j (by simpa using hj)).1) (fun j hj => by simpa using (ht j (by simpa using hj)).2)
    (fun u hu => by simp at hu; rw [hu]; exact h1)
  have hc : v.cells = #[v] := by cases v <;> simp_all [Value.cells, Value.oneCell']
  cases hq : P.info? ty with
  | none => simp [hq] at hi
  | some i =>
    have hs : i.size = 1 := by simpa [hq] using hi
    simp only [Nat.add_zero] at this
    simp [storeVar, sizeOf, typeInfo, hq, hc, hs, this]
    rfl
end
section
variable {w : World} {b t o : Nat} {cs : List Value} {ops : Array Oper} {rest : List Oper} {op : Oper} {a : Act} {Q : Exit → Act → World → Prop}
theorem wpList_loadS (hgd : op.guard = none) (ty : TypeId) (x : Operand) (ho : op.op = .load ty x) (hx : a.eval x = .pointer (some ⟨b, o, none⟩)) (hc : IsS w b t cs) (k : Nat) (d : TypeDesc)
    (hu : Tryd.prog.underlying ty = some d) (hd : d.isRow = true) (hi : (Tryd.prog.info? ty).map (·.size) = some ((cs.drop o).take k).length)
    (h : wpList Tryd.prog ops Q rest (a.put op.dst (.agg ((cs.drop o).take k).toArray)) w) : wpList Tryd.prog ops Q (op :: rest) a w :=
  wpList_load_mid hgd ty x ho b o hx _ d (hc.range o k) hu hd hi h
theorem wpList_storeS (hgd : op.guard = none) (ty : TypeId) (x y : Operand) (ho : op.op = .store ty x y) (hx : a.eval x = .pointer (some ⟨b, o, none⟩)) (vs : List Value) (hy : a.eval y = .agg vs.toArray) (hc : IsS w b t cs)
    (hk : o + vs.length ≤ cs.length) (hi : (Tryd.prog.info? ty).map (·.size) = some vs.length) (h1 : ∀ v ∈ vs, v.oneCell' = true)
    (h : ∀ W, Upd w W b → IsS W b t (putL cs o vs) → wpList Tryd.prog ops Q rest (a.put op.dst undef) W) : wpList Tryd.prog ops Q (op :: rest) a w :=
  wpList_store_mid hgd ty x y ho b o vs.toArray hx hy (hc.there o _ (by simpa using hk)) (by simpa using hi) (all_oneCell_toArray h1) (by
    have := h _ (Upd.setCells b vs o w) (IsS.setL vs o cs w hc)
    simpa using this)
theorem wpList_store1 (hgd : op.guard = none) (ty : TypeId) (x y : Operand) (ho : op.op = .store ty x y) (hx : a.eval x = .pointer (some ⟨b, o, none⟩)) (v : Value) (hy : a.eval y = v) (hc : IsS w b t cs)
    (hk : o < cs.length) (hi : (Tryd.prog.info? ty).map (·.size) = some 1) (h1 : v.oneCell' = true)
    (h : ∀ W, Upd w W b → IsS W b t (cs.set o v) → wpList Tryd.prog ops Q rest (a.put op.dst undef) W) : wpList Tryd.prog ops Q (op :: rest) a w := by
  refine wpList_plain hgd fun K hK => ?_
  unfold Oper.wp execOp
  simp only [ho, hx, hy, Instr.storeAt, Instr.sureAddr, Sem.run_bind, Sem.run_pure, Result.andThen_ok, run_store1 w b o ty v (hc.there o 1 (by omega)) hi h1]
  exact hK _ _ (h _ (Upd.setCell w b o v) (hc.set1 o v))
theorem wpList_boxS (hgd : op.guard = none) (ty : TypeId) (x : Operand) (ho : op.op = .box ty x) (vs : List Value) (hx : a.eval x = .agg vs.toArray)
    (h : ∀ W b, Fresh w W b → IsS W b ty vs → wpList Tryd.prog ops Q rest (a.put op.dst (.pointer (some ⟨b, 0, none⟩))) W) : wpList Tryd.prog ops Q (op :: rest) a w := by
  refine wpList_plain hgd fun K hK => ?_
  unfold Oper.wp execOp
  simp only [ho, hx]
  have hb : (Instr.box ty (.agg vs.toArray)).run Tryd.prog w = .ok (.pointer (some ⟨w.heap.size, 0, none⟩)) (w.alloc (.cells vs.toArray ty)) := by
    simp [go_sem, Value.cells]
  simp only [Sem.run_bind, hb, Result.andThen_ok, Sem.run_pure]
  exact hK _ _ (h _ _ (Fresh.alloc w _) (IsS.new w ty vs))
theorem run_allocS (ty : TypeId) (vs : List Value) (hz : ∀ w, (zeroValue ty).run Tryd.prog w = .ok (.agg vs.toArray) w) (ho : op.op = .alloc ty) (a : Act) (w : World) :
    (execOp a.eval op).run Tryd.prog w = .ok (.value (.pointer (some ⟨w.heap.size, 0, none⟩))) (w.alloc (.cells vs.toArray ty)) := by
  unfold execOp
  simp [ho, go_sem, Value.cells, hz]
theorem wpList_allocS (hgd : op.guard = none) (ty : TypeId) (ho : op.op = .alloc ty) (vs : List Value) (hz : ∀ w, (zeroValue ty).run Tryd.prog w = .ok (.agg vs.toArray) w)
    (h : ∀ W b, Fresh w W b → IsS W b ty vs → wpList Tryd.prog ops Q rest (a.put op.dst (.pointer (some ⟨b, 0, none⟩))) W) : wpList Tryd.prog ops Q (op :: rest) a w := by
  refine wpList_plain hgd fun K hK => ?_
  unfold Oper.wp
  rw [run_allocS ty vs hz ho a w]
  exact hK _ _ (h _ _ (Fresh.alloc w _) (IsS.new w ty vs))
end
theorem ret_S {w : World} {b t : Nat} {cs : List Value} {fn : Func} {p : Tmp} {R : Ending → World → Prop} {a : Act} (h : fn.results = #[.cell p t]) (hp : a.tmps.getD p undef = .pointer (some ⟨b, 0, none⟩))
    (hd : a.defers = []) (hc : IsS w b t cs) (d : TypeDesc) (hu : Tryd.prog.underlying t = some d) (hr : (match d with | .struct _ => true | .array _ _ => true | _ => false) = true) (hi : (Tryd.prog.info? t).map (·.size) = some cs.length) (hR : R (.returned (.agg cs.toArray)) w) : bodyPost Tryd.prog fn R .ret a w := by
  have hc' : w.heap[b]? = some (.cells cs.toArray t (0, 0)) := hc
  exact ⟨hd, _, results_cell_row h a.tmps w b t cs.toArray (0, 0) d hp hc' hu (by cases d <;> simp_all) (by simpa using hi), hR⟩

/-- A block of a type's zero is made at any time. -/
def MadeS (t : Nat) (cs : List Value) (W : World) (v : Value) (w : World) : Prop := Below W.heap.size W w ∧ ∃ b, v = .pointer (some ⟨b, 0, none⟩) ∧ W.heap.size ≤ b ∧ IsS w b t cs
theorem madeS_grown (t : Nat) (cs : List Value) (W : World) (v : Value) : Grown W (MadeS t cs W v) :=
  ⟨fun _ h => h.1, fun w w' ⟨h1, b, h2, h3, h4⟩ k => ⟨h1.trans (k.mono h1.size), b, h2, h3, h4.grown k⟩⟩
theorem madeS_make {mo : Oper} (t : Nat) (cs : List Value) (hz : ∀ w, (zeroValue t).run Tryd.prog w = .ok (.agg cs.toArray) w) (ho : mo.op = .alloc t) (W : World) (a : Act) (w : World) (h : Below W.heap.size W w) :
    ∃ v w', (execOp a.eval mo).run Tryd.prog w = .ok (.value v) w' ∧ MadeS t cs W v w' :=
  ⟨_, _, run_allocS t cs hz ho a w, h.alloc h.size _, w.heap.size, rfl, h.size, IsS.new w t cs⟩
section
variable {ops : Array Oper} {W : World} {Q : Act → Prop} {rest : List Oper} {op : Oper} {a : Act} {b t o : Nat} {cs : List Value}
theorem wpG_load1 (hw : Region.wanted op (yielded ops a.tmps) = true) (ty : TypeId) (x : Operand) (ho : op.op = .load ty x) (hx : a.eval x = .pointer (some ⟨b, o, none⟩)) (hc : IsS W b t cs) {v : Value} (hv : cs[o]? = some v)
    (hl : ∀ w, w.cell? ⟨b, o, none⟩ = some v → (Instr.loadAt ty (.pointer (some ⟨b, o, none⟩))).run Tryd.prog w = .ok v w)
    (h : wpG Tryd.prog ops W Q rest (a.put op.dst v)) : wpG Tryd.prog ops W Q (op :: rest) a :=
  wpG_value hw (fun w hB => by
    unfold execOp
    simp only [ho, hx, Sem.run_bind, hl w (((hc.grown hB).cell o).trans hv), Result.andThen_ok, Sem.run_pure]) h
theorem wpG_loadS (hw : Region.wanted op (yielded ops a.tmps) = true) (ty : TypeId) (x : Operand) (ho : op.op = .load ty x) (hx : a.eval x = .pointer (some ⟨b, o, none⟩)) (hc : IsS W b t cs) (k : Nat) (d : TypeDesc)
    (hu : Tryd.prog.underlying ty = some d) (hd : d.isRow = true) (hi : (Tryd.prog.info? ty).map (·.size) = some ((cs.drop o).take k).length)
    (h : wpG Tryd.prog ops W Q rest (a.put op.dst (.agg ((cs.drop o).take k).toArray))) : wpG Tryd.prog ops W Q (op :: rest) a :=
  wpG_value hw (fun w hB => by
    unfold execOp
    simp only [ho, hx, Sem.run_bind, run_loadAt_mid w b o ty _ d ((hc.grown hB).range o k) hu hd hi, Result.andThen_ok, Sem.run_pure]) h
end
theorem ld3 {b o : Nat} {v : Value} (w : World) (h : w.cell? ⟨b, o, none⟩ = some v) : (Instr.loadAt 3 (.pointer (some ⟨b, o, none⟩))).run Tryd.prog w = .ok v w := by simp [go_sem, h]
theorem ld9 {b o : Nat} {v : Value} (w : World) (h : w.cell? ⟨b, o, none⟩ = some v) : (Instr.loadAt 9 (.pointer (some ⟨b, o, none⟩))).run Tryd.prog w = .ok v w := by simp [go_sem, h]
theorem ld2 {b o : Nat} {v : Value} (w : World) (h : w.cell? ⟨b, o, none⟩ = some v) : (Instr.loadAt 2 (.pointer (some ⟨b, o, none⟩))).run Tryd.prog w = .ok v w := by simp [go_sem, h]
theorem ldE {b o : Nat} {v : Value} (w : World) (h : w.cell? ⟨b, o, none⟩ = some v) : (Instr.loadAt 48 (.pointer (some ⟨b, o, none⟩))).run Tryd.prog w = .ok v w := by simp [go_sem, h]
theorem info3 : (Tryd.prog.info? 3).map (·.size) = some 1 := by kernel_rfl
theorem info9 : (Tryd.prog.info? 9).map (·.size) = some 1 := by kernel_rfl
theorem info2 : (Tryd.prog.info? 2).map (·.size) = some 1 := by kernel_rfl
theorem infoE : (Tryd.prog.info? 48).map (·.size) = some 1 := by kernel_rfl
end Go.Proofs.YtopnbemodlcknaaDoor

/- A number's parts, as the program lays them: four cells, loaded, stored, boxed and handed back as one. -/
import Derived.Test.YtopnbemodlcknaaDoorB0
import Derived.Deep.MidRow
import Derived.Deep.WholeRow
import Derived.ChangeKeysEq
namespace Go.Proofs.YtopnbemodlcknaaDoor
open Go.RowKit
set_option linter.unusedSimpArgs false
set_option linter.unusedVariables false

def cellsNL (m : Bool) (base : Nat) (D : ByteArray) (n : Nat) : List Value := [.bool m, .int .u64 base, .string D, .int .i64 n]
def cellsN (m : Bool) (base : Nat) (D : ByteArray) (n : Nat) : Array Value := (cellsNL m base D n).toArray
/-- A number as the program lays it. -/
def numV (m : Bool) (base : Nat) (D : ByteArray) (n : Nat) : Value := .agg (cellsN m base D n)
theorem cellsN_size (m : Bool) (base : Nat) (D : ByteArray) (n : Nat) : (cellsN m base D n).size = 4 := rfl
theorem cellsN_one (m : Bool) (base : Nat) (D : ByteArray) (n : Nat) : (cellsN m base D n).all (·.oneCell') = true := by
  rw [Array.all_eq_true_iff_forall_mem]
  intro v hv
  simp only [cellsN, cellsNL, List.mem_toArray, List.mem_cons, List.not_mem_nil, or_false] at hv
  rcases hv with rfl | rfl | rfl | rfl <;> rfl
theorem infoN : (Tryd.prog.info? 103).map (·.size) = some 4 := by kernel_rfl

/-- A number lies in a block of its own. -/
def IsN (w : World) (b : Nat) (m : Bool) (base : Nat) (D : ByteArray) (n : Nat) : Prop := w.heap[b]? = some (.cells (cellsN m base D n) 103)
variable {w W w' : World} {b b' B : Nat} {m m' : Bool} {base base' : Nat} {D D' : ByteArray} {n n' : Nat}
theorem IsN.lt (h : IsN w b m base D n) : b < w.heap.size := (Array.getElem?_eq_some_iff.1 h).1
theorem IsN.range (h : IsN w b m base D n) : w.rangeAt b 0 (cellsNL m base D n) := by
  intro j v hv
  rw [cell_of_row w b (0 + j) (cellsN m base D n) 103 (0, 0) h]
  simpa [cellsN] using hv
theorem IsN.cell (h : IsN w b m base D n) (j : Nat) : w.cell? ⟨b, j, none⟩ = (cellsNL m base D n)[j]? := by
  rw [cell_of_row w b j (cellsN m base D n) 103 (0, 0) h]; simp [cellsN]
theorem IsN.cM (h : IsN w b m base D n) : w.cell? ⟨b, 0, none⟩ = some (.bool m) := h.cell 0
theorem IsN.cB (h : IsN w b m base D n) : w.cell? ⟨b, 1, none⟩ = some (.int .u64 base) := h.cell 1
theorem IsN.cD (h : IsN w b m base D n) : w.cell? ⟨b, 2, none⟩ = some (.string D) := h.cell 2
theorem IsN.cL (h : IsN w b m base D n) : w.cell? ⟨b, 3, none⟩ = some (.int .i64 n) := h.cell 3
theorem IsN.frozen (h : IsN w b m base D n) (j : Nat) : w.frozen? ⟨b, j, none⟩ = false := by
  have h' : w.heap[b]? = some (.cells (cellsN m base D n) 103 (0, 0)) := h
  simp [World.frozen?, h']
theorem IsN.below (h : IsN w b m base D n) (hB : Below B w w') (hb : b < B) : IsN w' b m base D n := (hB.block b hb).trans h
theorem IsN.grown (h : IsN w b m base D n) (hB : Below w.heap.size w w') : IsN w' b m base D n := h.below hB h.lt
theorem IsN.new (w : World) (m : Bool) (base : Nat) (D : ByteArray) (n : Nat) : IsN (w.alloc (.cells (cellsN m base D n) 103)) w.heap.size m base D n := heap_alloc_last w _

theorem heap_setRow (w : World) (b k : Nat) (c : Array Value) : (w.setRow b c).heap[k]? = if b = k then (w.heap[k]?).map (fun o => match o with | .cells _ t fr => .cells c t fr | o => o) else w.heap[k]? := by
  simp only [World.setRow]
  rw [Array.getElem?_modify]
  by_cases h : b = k
  · rw [if_pos h, if_pos h]
    cases w.heap[k]? with
    | none => rfl
    | some o => cases o <;> rfl
  · rw [if_neg h, if_neg h]
theorem IsN.store (h : IsN w b m base D n) : IsN (w.setRow b (cellsN m' base' D' n')) b m' base' D' n' := by
  have h' : w.heap[b]? = some (.cells (cellsN m base D n) 103 (0, 0)) := h
  unfold IsN
  rw [heap_setRow, if_pos rfl, h']; rfl

/-- A new block, laid last. -/
structure Fresh (w W : World) (b : Nat) : Prop where
  at' : b = w.heap.size
  size : W.heap.size = b + 1
  below : Below b w W
/-- One block of cells is turned. -/
structure Upd (w W : World) (b : Nat) : Prop where
  os : W.os = w.os
  tape : W.tape = w.tape
  output : W.output = w.output
  size : W.heap.size = w.heap.size
  block : ∀ k, k ≠ b → W.heap[k]? = w.heap[k]?
theorem Fresh.alloc (w : World) (o : Obj) : Fresh w (w.alloc o) w.heap.size := ⟨rfl, by simp, (Below.refl _ w).alloc (Nat.le_refl _) o⟩
theorem Fresh.trans {w0 w W : World} {B b : Nat} (h : Below B w0 w) (hB : B ≤ w.heap.size) (F : Fresh w W b) : Below B w0 W :=
  h.trans (F.below.mono (by have := F.at'; omega))
theorem Upd.setCell (w : World) (b o : Nat) (v : Value) : Upd w (w.setCell ⟨b, o, none⟩ v) b :=
  ⟨rfl, rfl, rfl, by simp [World.setCell], fun k hk => by
    show (w.heap.modify b _)[k]? = _
    rw [Array.getElem?_modify, if_neg (fun e => hk e.symm)]⟩
theorem Upd.setRow (w : World) (b : Nat) (c : Array Value) : Upd w (w.setRow b c) b :=
  ⟨rfl, rfl, rfl, by simp [World.setRow], fun k hk => by rw [heap_setRow, if_neg (fun e => hk e.symm)]⟩
theorem Upd.trans {w0 w W : World} {B b : Nat} (h : Below B w0 w) (hB : B ≤ b) (U : Upd w W b) : Below B w0 W :=
  ⟨U.os.trans h.os, U.tape.trans h.tape, U.output.trans h.output, by rw [U.size]; exact h.size, fun k hk => (U.block k (by omega)).trans (h.block k hk)⟩
theorem IsN.fresh (h : IsN w b m base D n) (F : Fresh w W b') : IsN W b m base D n := h.below F.below (by rw [F.at']; exact h.lt)
theorem IsN.upd (h : IsN w b m base D n) (U : Upd w W b') (hb : b ≠ b') : IsN W b m base D n := (U.block b hb).trans h
theorem IsN.setM (h : IsN w b m base D n) : IsN (w.setCell ⟨b, 0, none⟩ (.bool m')) b m' base D n := by
  have h' : w.heap[b]? = some (.cells (cellsN m base D n) 103 (0, 0)) := h
  unfold IsN
  show (w.heap.modify b _)[b]? = _
  rw [Array.getElem?_modify, if_pos rfl, h']
  rfl

section
variable {ops : Array Oper} {rest : List Oper} {op : Oper} {a : Act} {Q : Exit → Act → World → Prop}
theorem wpList_loadN (hgd : op.guard = none) (x : Operand) (ho : op.op = .load 103 x) (hx : a.eval x = .pointer (some ⟨b, 0, none⟩)) (hc : IsN w b m base D n)
    (h : wpList Tryd.prog ops Q rest (a.put op.dst (numV m base D n)) w) : wpList Tryd.prog ops Q (op :: rest) a w :=
  wpList_load_mid hgd 103 x ho b 0 hx (cellsNL m base D n) _ hc.range Tryd.underlying103 rfl infoN h
theorem wpList_storeN (hgd : op.guard = none) (x y : Operand) (ho : op.op = .store 103 x y) (hx : a.eval x = .pointer (some ⟨b, 0, none⟩)) (hy : a.eval y = numV m' base' D' n') (hc : IsN w b m base D n)
    (h : ∀ W, Upd w W b → IsN W b m' base' D' n' → wpList Tryd.prog ops Q rest (a.put op.dst undef) W) : wpList Tryd.prog ops Q (op :: rest) a w := by
  refine wpList_plain hgd fun K hK => ?_
  unfold Oper.wp execOp
  have hc' : w.heap[b]? = some (.cells (cellsN m base D n) 103 (0, 0)) := hc
  unfold numV at hy
  simp only [ho, hx, hy, Instr.storeAt, Instr.sureAddr, Sem.run_bind, Sem.run_pure, Result.andThen_ok,
    run_storeVar_row w b 103 103 (cellsN m base D n) (cellsN m' base' D' n') hc' infoN rfl (cellsN_one m' base' D' n')]
  exact hK _ _ (h _ (Upd.setRow w b _) hc.store)
theorem wpList_boxN (hgd : op.guard = none) (x : Operand) (ho : op.op = .box 103 x) (hx : a.eval x = numV m base D n)
    (h : ∀ W b, Fresh w W b → IsN W b m base D n → wpList Tryd.prog ops Q rest (a.put op.dst (.pointer (some ⟨b, 0, none⟩))) W) : wpList Tryd.prog ops Q (op :: rest) a w := by
  refine wpList_plain hgd fun K hK => ?_
  unfold Oper.wp execOp
  unfold numV at hx
  simp only [ho, hx]
  have hb : (Instr.box 103 (.agg (cellsN m base D n))).run Tryd.prog w = .ok (.pointer (some ⟨w.heap.size, 0, none⟩)) (w.alloc (.cells (cellsN m base D n) 103)) := by
    simp [go_sem, Value.cells]
  simp only [Sem.run_bind, hb, Result.andThen_ok, Sem.run_pure]
  exact hK _ _ (h _ _ (Fresh.alloc w _) (IsN.new w m base D n))
theorem wpList_allocN (hgd : op.guard = none) (ho : op.op = .alloc 103)
    (h : ∀ W b, Fresh w W b → IsN W b false 0 ⟨#[]⟩ 0 → wpList Tryd.prog ops Q rest (a.put op.dst (.pointer (some ⟨b, 0, none⟩))) W) : wpList Tryd.prog ops Q (op :: rest) a w := by
  refine wpList_plain hgd fun K hK => ?_
  unfold Oper.wp execOp
  simp [ho, go_sem, Value.cells]
  exact hK _ _ (h _ _ (Fresh.alloc w _) (IsN.new w false 0 ⟨#[]⟩ 0))
theorem wpList_setM (hgd : op.guard = none) (x y : Operand) (ho : op.op = .store 4 x y) (hx : a.eval x = .pointer (some ⟨b, 0, none⟩)) (hy : a.eval y = .bool m') (hc : IsN w b m base D n)
    (h : ∀ W, Upd w W b → IsN W b m' base D n → wpList Tryd.prog ops Q rest (a.put op.dst undef) W) : wpList Tryd.prog ops Q (op :: rest) a w := by
  refine wpList_plain hgd fun K hK => ?_
  unfold Oper.wp execOp
  have h1 : w.cell? ⟨b, 0, none⟩ = some (.bool m) := hc.cell 0
  have h2 := hc.frozen 0
  simp only [ho, hx, hy]
  simp [go_sem, Value.cells, h1, h2]
  exact hK _ _ (h _ (Upd.setCell w b 0 _) hc.setM)
end
theorem ret_N {fn : Func} {p : Tmp} {R : Ending → World → Prop} {a : Act} (h : fn.results = #[.cell p 103]) (hp : a.tmps.getD p undef = .pointer (some ⟨b, 0, none⟩))
    (hd : a.defers = []) (hc : IsN w b m base D n) (hR : R (.returned (numV m base D n)) w) : bodyPost Tryd.prog fn R .ret a w := by
  have hc' : w.heap[b]? = some (.cells (cellsN m base D n) 103 (0, 0)) := hc
  exact ⟨hd, _, results_cell_row h a.tmps w b 103 (cellsN m base D n) (0, 0) _ hp hc' Tryd.underlying103 rfl infoN, hR⟩
end Go.Proofs.YtopnbemodlcknaaDoor

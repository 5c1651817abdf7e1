/- The value of a relation: sixty-five cells, loaded, stored, boxed and compared as one. -/
import Derived.WalkKit
import Derived.WalkSpells
import Derived.WalkLawsBesides
import Derived.Deep.MidRow
import Derived.Deep.WholeRow
import Derived.BigRegion
import Derived.BigQuiet
import Derived.Deep.QuietTactic
import Derived.Below
import Derived.ChangeKeysEq
import Derived.Test.YtdjlfpkemdiadaaDoorQI
namespace Go.Proofs.YtdjlfpkemdiadaaDoor
open Go.RowKit
set_option linter.unusedSimpArgs false
set_option linter.unusedVariables false

def rowsL (f : Nat → Nat) : List Value := (List.range 64).map (fun i => Value.int .u64 (f i : Nat))
def cellsL (n : Int) (f : Nat → Nat) : List Value := Value.int .i64 n :: rowsL f
def cellsR (n : Int) (f : Nat → Nat) : Array Value := (cellsL n f).toArray
def relv (n : Int) (f : Nat → Nat) : Value := .agg (cellsR n f)
def void : Nat → Nat := fun _ => 0

theorem rowsL_length (f : Nat → Nat) : (rowsL f).length = 64 := by simp [rowsL]
theorem cellsL_length (n : Int) (f : Nat → Nat) : (cellsL n f).length = 65 := by simp [cellsL, rowsL]
theorem cellsR_size (n : Int) (f : Nat → Nat) : (cellsR n f).size = 65 := by simp [cellsR, cellsL_length]
theorem cellsR_one (n : Int) (f : Nat → Nat) : (cellsR n f).all (·.oneCell') = true := by
  rw [Array.all_eq_true_iff_forall_mem]
  intro v hv
  simp only [cellsR, cellsL, rowsL, List.mem_toArray, List.mem_cons, List.mem_map] at hv
  rcases hv with rfl | ⟨i, _, rfl⟩ <;> rfl
theorem cellsR_n (n : Int) (f : Nat → Nat) : (cellsR n f)[0]? = some (.int .i64 n) := by simp [cellsR, cellsL]
theorem cellsR_row (n : Int) (f : Nat → Nat) (i : Nat) (h : i < 64) : (cellsR n f)[1 + i]? = some (.int .u64 (f i : Nat)) := by
  simp only [cellsR, cellsL, List.getElem?_toArray]
  rw [Nat.add_comm, List.getElem?_cons_succ]
  simp [rowsL, h]
theorem relv_congr {n m : Int} {f g : Nat → Nat} (hn : n = m) (h : ∀ i, i < 64 → f i = g i) : relv n f = relv m g := by
  subst hn
  unfold relv cellsR cellsL rowsL
  have : (List.range 64).map (fun i => Value.int .u64 (f i : Nat)) = (List.range 64).map (fun i => Value.int .u64 (g i : Nat)) :=
    List.map_congr_left (fun i hi => by rw [h i (by simpa using hi)])
  rw [this]

theorem info25 : (Tryd.prog.info? 43).map (·.size) = some 65 := by kernel_rfl
theorem info23 : (Tryd.prog.info? 41).map (·.size) = some 64 := by kernel_rfl
theorem zero25 : Tryd.zeroCells43 = cellsR 0 void := by kernel_rfl

/-- A relation lies in a block of its own. -/
def IsR (w : World) (b : Nat) (n : Int) (f : Nat → Nat) : Prop := w.heap[b]? = some (.cells (cellsR n f) 43)
theorem IsR.lt {w : World} {b : Nat} {n : Int} {f : Nat → Nat} (h : IsR w b n f) : b < w.heap.size := (Array.getElem?_eq_some_iff.1 h).1
theorem IsR.range {w : World} {b : Nat} {n : Int} {f : Nat → Nat} (h : IsR w b n f) : w.rangeAt b 0 (cellsL n f) := by
  intro j v hv
  rw [cell_of_row w b (0 + j) (cellsR n f) 43 (0, 0) h]
  simpa [cellsR] using hv
theorem IsR.rows {w : World} {b : Nat} {n : Int} {f : Nat → Nat} (h : IsR w b n f) : w.rangeAt b 1 (rowsL f) := by
  intro j v hv
  rw [cell_of_row w b (1 + j) (cellsR n f) 43 (0, 0) h, Nat.add_comm]
  simpa [cellsR, cellsL] using hv
theorem IsR.n {w : World} {b : Nat} {n : Int} {f : Nat → Nat} (h : IsR w b n f) : w.cell? ⟨b, 0, none⟩ = some (.int .i64 n) := by
  rw [cell_of_row w b 0 (cellsR n f) 43 (0, 0) h]; exact cellsR_n n f
theorem IsR.row {w : World} {b : Nat} {n : Int} {f : Nat → Nat} (h : IsR w b n f) (i : Nat) (hi : i < 64) : w.cell? ⟨b, 1 + i, none⟩ = some (.int .u64 (f i : Nat)) := by
  rw [cell_of_row w b (1 + i) (cellsR n f) 43 (0, 0) h]; exact cellsR_row n f i hi
theorem IsR.frozen {w : World} {b : Nat} {n : Int} {f : Nat → Nat} (h : IsR w b n f) (j : Nat) : w.frozen? ⟨b, j, none⟩ = false := by
  have h' : w.heap[b]? = some (.cells (cellsR n f) 43 (0, 0)) := h
  simp [World.frozen?, h']
theorem IsR.below {w w' : World} {B b : Nat} {n : Int} {f : Nat → Nat} (h : IsR w b n f) (hB : Below B w w') (hb : b < B) : IsR w' b n f := (hB.block b hb).trans h
theorem IsR.grown {w w' : World} {b : Nat} {n : Int} {f : Nat → Nat} (h : IsR w b n f) (hB : Below w.heap.size w w') : IsR w' b n f := h.below hB h.lt
theorem IsR.alloc {w : World} {b : Nat} {n : Int} {f : Nat → Nat} (h : IsR w b n f) (o : Obj) : IsR (w.alloc o) b n f := by
  exact (Below.heap_alloc w o b h.lt).trans h
theorem IsR.new (w : World) (n : Int) (f : Nat → Nat) : IsR (w.alloc (.cells (cellsR n f) 43)) w.heap.size n f := heap_alloc_last w _
theorem IsR.congr {w : World} {b : Nat} {n : Int} {f g : Nat → Nat} (h : IsR w b n f) (hf : ∀ i, i < 64 → f i = g i) : IsR w b n g := by
  have e := relv_congr (n := n) rfl hf
  unfold relv at e
  have e' : cellsR n f = cellsR n g := by injection e
  unfold IsR at *; rw [← e']; exact h

/-- One row is turned. -/
def upd (f : Nat → Nat) (i x : Nat) : Nat → Nat := fun j => if j = i then x else f j
theorem cellsR_set (n : Int) (f : Nat → Nat) (i x : Nat) (hi : i < 64) : (cellsR n f).setIfInBounds (1 + i) (.int .u64 (x : Nat)) = cellsR n (upd f i x) := by
  apply Array.ext_getElem?
  intro j
  rw [Array.getElem?_setIfInBounds]
  by_cases hj : 1 + i = j
  · subst hj
    simp only [cellsR_size, ↓reduceIte]
    rw [cellsR_row _ _ _ hi, if_pos (by omega)]; simp [upd]
  · simp only [hj, ↓reduceIte]
    cases j with
    | zero => rw [cellsR_n, cellsR_n]
    | succ k =>
      by_cases hk : k < 64
      · rw [Nat.add_comm k 1, cellsR_row _ _ _ hk, cellsR_row _ _ _ hk]
        have : ¬ k = i := by omega
        simp [upd, this]
      · have h1 : (cellsR n f)[k + 1]? = none := by rw [Array.getElem?_eq_none_iff, cellsR_size]; omega
        have h2 : (cellsR n (upd f i x))[k + 1]? = none := by rw [Array.getElem?_eq_none_iff, cellsR_size]; omega
        rw [h1, h2]
theorem IsR.set {w : World} {b : Nat} {n : Int} {f : Nat → Nat} (h : IsR w b n f) (i x : Nat) (hi : i < 64) : IsR (w.setCell ⟨b, 1 + i, none⟩ (.int .u64 (x : Nat))) b n (upd f i x) := by
  have h' : w.heap[b]? = some (.cells (cellsR n f) 43 (0, 0)) := h
  have hl := h.lt
  unfold IsR
  rw [← cellsR_set n f i x hi]
  show (w.heap.modify b _)[b]? = _
  rw [Array.getElem?_modify, if_pos rfl, h']
  rfl
theorem IsR.set_other {w : World} {b b' : Nat} {n : Int} {f : Nat → Nat} (h : IsR w b n f) (o : Nat) (v : Value) (hb : b' ≠ b) : IsR (w.setCell ⟨b', o, none⟩ v) b n f := by
  unfold IsR at *
  show (w.heap.modify b' _)[b]? = _
  rw [Array.getElem?_modify, if_neg hb]
  exact h

theorem IsR.store {w : World} {b : Nat} {n n' : Int} {f f' : Nat → Nat} (h : IsR w b n f) : IsR (w.setRow b (cellsR n' f')) b n' f' := by
  have h' : w.heap[b]? = some (.cells (cellsR n f) 43 (0, 0)) := h
  unfold IsR
  rw [heap_setRow, if_pos rfl, h']; rfl
theorem IsR.store_other {w : World} {b b' : Nat} {n : Int} {f : Nat → Nat} (h : IsR w b n f) (c : Array Value) (hb : b' ≠ b) : IsR (w.setRow b' c) b n f := by
  unfold IsR at *
  rw [heap_setRow, if_neg hb]; exact h
theorem below_setRow {B b : Nat} {w w' : World} (h : Below B w w') (hb : B ≤ b) (c : Array Value) : Below B w (w'.setRow b c) :=
  ⟨h.os, h.tape, h.output, by simpa [World.setRow] using h.size, fun k hk => by rw [heap_setRow, if_neg (by omega)]; exact h.block k hk⟩

theorem IsR.fresh {w W : World} {b b' : Nat} {n : Int} {f : Nat → Nat} (h : IsR w b n f) (F : Fresh w W b') : IsR W b n f := h.below F.below (by rw [F.at']; exact h.lt)
theorem IsR.upd {w W : World} {b b' : Nat} {n : Int} {f : Nat → Nat} (h : IsR w b n f) (U : Upd w W b') (hb : b ≠ b') : IsR W b n f := (U.block b hb).trans h
theorem cell_block {w W : World} {b o : Nat} (h : W.heap[b]? = w.heap[b]?) : W.cell? ⟨b, o, none⟩ = w.cell? ⟨b, o, none⟩ := by
  simp [World.cell?, h]
theorem frozen_block {w W : World} {b o : Nat} (h : W.heap[b]? = w.heap[b]?) : W.frozen? ⟨b, o, none⟩ = w.frozen? ⟨b, o, none⟩ := by
  simp [World.frozen?, h]

section
variable {ops : Array Oper} {rest : List Oper} {op : Oper} {a : Act} {w : World} {Q : Exit → Act → World → Prop}
theorem wpList_loadR (hgd : op.guard = none) (x : Operand) (ho : op.op = .load 43 x) {b : Nat} (hx : a.eval x = .pointer (some ⟨b, 0, none⟩)) {n : Int} {f : Nat → Nat} (hc : IsR w b n f)
    (h : wpList Tryd.prog ops Q rest (a.put op.dst (relv n f)) w) : wpList Tryd.prog ops Q (op :: rest) a w :=
  wpList_load_mid hgd 43 x ho b 0 hx (cellsL n f) _ hc.range Tryd.underlying43 rfl (by rw [cellsL_length]; exact info25) h
theorem wpList_loadRows (hgd : op.guard = none) (x : Operand) (ho : op.op = .load 41 x) {b : Nat} (hx : a.eval x = .pointer (some ⟨b, 1, none⟩)) {n : Int} {f : Nat → Nat} (hc : IsR w b n f)
    (h : wpList Tryd.prog ops Q rest (a.put op.dst (.agg (rowsL f).toArray)) w) : wpList Tryd.prog ops Q (op :: rest) a w :=
  wpList_load_mid hgd 41 x ho b 1 hx (rowsL f) _ hc.rows Tryd.underlying41 rfl (by rw [rowsL_length]; exact info23) h
theorem wpList_storeR (hgd : op.guard = none) (x y : Operand) (ho : op.op = .store 43 x y) {b : Nat} (hx : a.eval x = .pointer (some ⟨b, 0, none⟩)) {n' : Int} {f' : Nat → Nat} (hy : a.eval y = relv n' f') {n : Int} {f : Nat → Nat} (hc : IsR w b n f)
    (h : ∀ W, Upd w W b → IsR W b n' f' → wpList Tryd.prog ops Q rest (a.put op.dst undef) W) : wpList Tryd.prog ops Q (op :: rest) a w := by
  refine wpList_plain hgd fun K hK => ?_
  unfold Oper.wp execOp
  have hc' : w.heap[b]? = some (.cells (cellsR n f) 43 (0, 0)) := hc
  unfold relv at hy
  simp only [ho, hx, hy, Instr.storeAt, Instr.sureAddr, Sem.run_bind, Sem.run_pure, Result.andThen_ok,
    run_storeVar_row w b 43 43 (cellsR n f) (cellsR n' f') hc' (by rw [cellsR_size]; exact info25) (by rw [cellsR_size, cellsR_size]) (cellsR_one n' f')]
  exact hK _ _ (h _ (Upd.setRow w b _) hc.store)
theorem wpList_boxR (hgd : op.guard = none) (x : Operand) (ho : op.op = .box 43 x) {n : Int} {f : Nat → Nat} (hx : a.eval x = relv n f)
    (h : ∀ W b, Fresh w W b → IsR W b n f → wpList Tryd.prog ops Q rest (a.put op.dst (.pointer (some ⟨b, 0, none⟩))) W) : wpList Tryd.prog ops Q (op :: rest) a w := by
  refine wpList_plain hgd fun K hK => ?_
  unfold Oper.wp execOp
  unfold relv at hx
  simp only [ho, hx]
  have hb : (Instr.box 43 (.agg (cellsR n f))).run Tryd.prog w = .ok (.pointer (some ⟨w.heap.size, 0, none⟩)) (w.alloc (.cells (cellsR n f) 43)) := by
    simp [go_sem, Value.cells]
  simp only [Sem.run_bind, hb, Result.andThen_ok, Sem.run_pure]
  exact hK _ _ (h _ _ (Fresh.alloc w _) (IsR.new w n f))
theorem wpList_allocR (hgd : op.guard = none) (ho : op.op = .alloc 43)
    (h : ∀ W b, Fresh w W b → IsR W b 0 void → wpList Tryd.prog ops Q rest (a.put op.dst (.pointer (some ⟨b, 0, none⟩))) W) : wpList Tryd.prog ops Q (op :: rest) a w := by
  refine wpList_plain hgd fun K hK => ?_
  unfold Oper.wp execOp
  simp [ho, go_sem, Value.cells, zero25]
  exact hK _ _ (h _ _ (Fresh.alloc w _) (IsR.new w 0 void))
theorem wpList_buildR0 (hgd : op.guard = none) (ho : op.op = .build 43 #[])
    (h : wpList Tryd.prog ops Q rest (a.put op.dst (relv 0 void)) w) : wpList Tryd.prog ops Q (op :: rest) a w := by
  refine wpList_plain hgd fun K hK => ?_
  unfold Oper.wp execOp
  have hb : Tryd.prog.built 43 [] = some (cellsR 0 void) := by kernel_rfl
  simp only [ho, List.map_toArray, List.map_nil, Sem.run_bind, run_build w 43 #[] (cellsR 0 void) hb, Result.andThen_ok, Sem.run_pure]
  exact hK _ _ h
theorem wpList_buildRN (hgd : op.guard = none) (x : Operand) (ho : op.op = .build 43 #[(0, x)]) {n : Int} (hx : a.eval x = .int .i64 n)
    (h : wpList Tryd.prog ops Q rest (a.put op.dst (relv n void)) w) : wpList Tryd.prog ops Q (op :: rest) a w := by
  refine wpList_plain hgd fun K hK => ?_
  unfold Oper.wp execOp
  have hb : Tryd.prog.built 43 [(0, .int .i64 n)] = some (cellsR n void) := by kernel_rfl
  simp only [ho, List.map_toArray, List.map_cons, List.map_nil, hx, Sem.run_bind, run_build w 43 #[(0, .int .i64 n)] (cellsR n void) hb, Result.andThen_ok, Sem.run_pure]
  exact hK _ _ h
end

theorem info22 : ∃ i, Tryd.prog.info? 29 = some i := by
  have h : (Tryd.prog.info? 29).isSome = true := by kernel_rfl
  exact Option.isSome_iff_exists.1 h
theorem cells22 : Tryd.prog.cellsOf 29 = 1 := by kernel_rfl
theorem part22 (f : Nat → Nat) (w : World) (i : Nat) (hi : i < 64) : (part 29 (rowsL f).toArray (i * 1)).run Tryd.prog w = .ok (.int .u64 (f i : Nat)) w := by
  unfold part
  have h : (rowsL f)[i]? = some (Value.int .u64 (f i : Nat)) := by simp [rowsL, hi]
  simp [Sem.run_bind, Tryd.isAgg29, h]
theorem eqItemsR (f : Nat → Nat) (w : World) (d : Nat) : ∀ is : List Nat, (∀ i ∈ is, i < 64) → (Op.eqItems (d + 1) 29 1 (rowsL f).toArray (rowsL f).toArray is).run Tryd.prog w = .ok true w
  | [], _ => by simp [Op.eqItems]
  | i :: is, h => by
    have h1 := part22 f w i (h i (by simp))
    have h2 := eqItemsR f w d is (fun j hj => h j (by simp [hj]))
    simp only [Op.eqItems, Sem.run_bind, h1, Result.andThen_ok]
    rw [run_equalIn_int w d 29 .u64 .u64 _ _ Tryd.underlying29]
    simpa using h2
theorem fields25 : (Tryd.prog.fieldsOf 43).toList = [{ name := "N", type := 3, offset := 0, embedded := false, tag := "", pkgPath := "", byteOffset := 0 },
        { name := "Rows", type := 41, offset := 1, embedded := false, tag := "", pkgPath := "", byteOffset := 8 }] := by kernel_rfl
theorem stood25 : Tryd.prog.stoodInHeld 43 = false := by kernel_rfl
theorem und25 : Tryd.prog.underlying 43 = some (.struct (Tryd.prog.fieldsOf 43)) := by kernel_rfl
theorem partN (n : Int) (f : Nat → Nat) (w : World) : (part 3 (cellsR n f) 0).run Tryd.prog w = .ok (.int .i64 n) w := by
  unfold part; simp [Sem.run_bind, Tryd.isAgg3, cellsR_n]
theorem ext_rows (n : Int) (f : Nat → Nat) : (cellsR n f).extract 1 65 = (rowsL f).toArray := by
  unfold cellsR cellsL
  rw [List.extract_toArray]
  congr 1
theorem partRows (n : Int) (f : Nat → Nat) (w : World) : (part 41 (cellsR n f) 1).run Tryd.prog w = .ok (.agg (rowsL f).toArray) w := by
  have e := ext_rows n f
  unfold part
  generalize cellsR n f = c at *
  generalize (rowsL f).toArray = r at *
  simp only [Sem.run_bind, Tryd.isAgg41, Tryd.sizeOf41, Result.andThen_ok, if_true, Sem.run_pure, Nat.reduceAdd, e]
theorem eqFieldsR (xs ys : Array Value) (d : Nat) : Op.eqFields (d + 2) xs ys [{ name := "N", type := 3, offset := 0, embedded := false, tag := "", pkgPath := "", byteOffset := 0 },
        { name := "Rows", type := 41, offset := 1, embedded := false, tag := "", pkgPath := "", byteOffset := 8 }] = (do
      let a ← part 3 xs 0
      let b ← part 3 ys 0
      let r ← Op.equalIn (d + 2) 3 a b
      if (!r) = true then pure false else do
        let a ← part 41 xs 1
        let b ← part 41 ys 1
        let r ← Op.equalIn (d + 2) 41 a b
        if (!r) = true then pure false else pure true) := by
  simp [Op.eqFields]
theorem equal3 (n : Int) (w : World) (d : Nat) : (Op.equalIn (d + 2) 3 (.int .i64 n) (.int .i64 n)).run Tryd.prog w = .ok true w := by
  have := run_equalIn_int (P := Tryd.prog) w (d + 1) 3 .i64 .i64 n n Tryd.underlying3
  simpa using this
theorem equal23 (f : Nat → Nat) (w : World) (d : Nat) : (Op.equalIn (d + 2) 41 (.agg (rowsL f).toArray) (.agg (rowsL f).toArray)).run Tryd.prog w = .ok true w := by
  obtain ⟨i, hi⟩ := info22
  have := run_equalIn_array (P := Tryd.prog) w (d + 1) (rowsL f).toArray (rowsL f).toArray Tryd.underlying41 hi
  rw [cells22] at this
  rw [this]
  exact eqItemsR f w d _ (by simp)
theorem equal25 (c : Array Value) (w : World) (d : Nat) : (Op.equalIn (d + 3) 43 (.agg c) (.agg c)).run Tryd.prog w = (Op.eqFields (d + 2) c c (Tryd.prog.fieldsOf 43).toList).run Tryd.prog w :=
  run_equalIn_struct w (d + 2) 43 c c und25 stood25
theorem eqDo (c r : Array Value) (n : Int) (w : World) (E : TypeId → Value → Value → Sem Bool) (h0 : (E 3 (.int .i64 n) (.int .i64 n)).run Tryd.prog w = .ok true w) (h1 : (part 3 c 0).run Tryd.prog w = .ok (.int .i64 n) w) (h2 : (part 41 c 1).run Tryd.prog w = .ok (.agg r) w)
    (h3 : (E 41 (.agg r) (.agg r)).run Tryd.prog w = .ok true w) : (do
      let a ← part 3 c 0
      let b ← part 3 c 0
      let r ← E 3 a b
      if (!r) = true then pure false else do
        let a ← part 41 c 1
        let b ← part 41 c 1
        let r ← E 41 a b
        if (!r) = true then pure false else pure true : Sem Bool).run Tryd.prog w = .ok true w := by
  simp only [Sem.run_bind, h0, h1, h2, h3, Result.andThen_ok, Bool.not_true, Bool.false_eq_true, if_false, Sem.run_pure]
theorem equalC (c r : Array Value) (n : Int) (w : World) (d : Nat) (h1 : (part 3 c 0).run Tryd.prog w = .ok (.int .i64 n) w) (h2 : (part 41 c 1).run Tryd.prog w = .ok (.agg r) w)
    (h3 : (Op.equalIn (d + 2) 41 (.agg r) (.agg r)).run Tryd.prog w = .ok true w) : (Op.equalIn (d + 3) 43 (.agg c) (.agg c)).run Tryd.prog w = .ok true w :=
  (equal25 c w d).trans ((congrArg (fun s : Sem Bool => s.run Tryd.prog w) ((congrArg (Op.eqFields (d + 2) c c) fields25).trans (eqFieldsR c c d))).trans
    (eqDo c r n w (Op.equalIn (d + 2)) (equal3 n w d) h1 h2 h3))
theorem equalR' (n : Int) (f : Nat → Nat) (w : World) (d : Nat) : (Op.equalIn (d + 3) 43 (.agg (cellsR n f)) (.agg (cellsR n f))).run Tryd.prog w = .ok true w :=
  equalC (cellsR n f) (rowsL f).toArray n w d (partN n f w) (partRows n f w) (equal23 f w d)
theorem equalR (n : Int) (f : Nat → Nat) (w : World) : (Op.equalIn 10000 43 (.agg (cellsR n f)) (.agg (cellsR n f))).run Tryd.prog w = .ok true w := equalR' n f w 9997
theorem eqlR (n : Int) (f : Nat → Nat) (w : World) : (binOp .eql 43 (relv n f) (relv n f)).run Tryd.prog w = .ok (.bool true) w := by
  have := equalR n f w
  unfold relv
  rw [run_eql_struct, this]; rfl
theorem neqR (n : Int) (f : Nat → Nat) (w : World) : (binOp .neq 43 (relv n f) (relv n f)).run Tryd.prog w = .ok (.bool false) w := by
  have := equalR n f w
  unfold relv
  rw [run_neq_struct, this]; rfl
theorem eqGuardR (op : BinOp) (x y : Operand) (n m : Int) (f g : Nat → Nat) (w : World) : (eqGuard op 43 x y (relv n f) (relv m g)).run Tryd.prog w = .ok () w := by
  unfold relv
  exact run_eqGuard_agg w op 43 x y _ _ (by kernel_rfl)

theorem ret_R {fn : Func} {p : Tmp} {R : Ending → World → Prop} {a : Act} {w : World} {b : Nat} {n : Int} {f : Nat → Nat} (h : fn.results = #[.cell p 43]) (hp : a.tmps.getD p undef = .pointer (some ⟨b, 0, none⟩))
    (hd : a.defers = []) (hc : IsR w b n f) (hR : R (.returned (relv n f)) w) : bodyPost Tryd.prog fn R .ret a w := by
  have hc' : w.heap[b]? = some (.cells (cellsR n f) 43 (0, 0)) := hc
  exact ⟨hd, _, results_cell_row h a.tmps w b 43 (cellsR n f) (0, 0) _ hp hc' Tryd.underlying43 rfl (by rw [cellsR_size]; exact info25), hR⟩
end Go.Proofs.YtdjlfpkemdiadaaDoor

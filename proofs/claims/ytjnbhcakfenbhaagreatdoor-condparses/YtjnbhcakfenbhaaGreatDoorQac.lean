/- Several texts in one: D1, S0. -/
import Derived.Test.YtjnbhcakfenbhaaGreatDoorQab
import Derived.Test.YtjnbhcakfenbhaaGreatDoorQaa
import Derived.Deep.MidRow
import Derived.Deep.WholeRow
import Derived.ChangeKeysEq
/- digit, HasPrefix, marked. -/
namespace Go.Proofs.YtjnbhcakfenbhaaGreatDoor
open Go.RowKit M
set_option linter.unusedSimpArgs false
set_option linter.unusedVariables false

theorem dig_a {c : Nat} (h : 48 ≤ c) (h' : c ≤ 57) : dig c = c - 48 := by unfold dig; rw [if_pos ⟨h, h'⟩]
theorem dig_b {c : Nat} (h : 97 ≤ c) (h' : c ≤ 102) : dig c = c - 87 := by unfold dig; rw [if_neg (by omega), if_pos ⟨h, h'⟩]
theorem dig_c {c : Nat} (h : 65 ≤ c) (h' : c ≤ 70) : dig c = c - 55 := by unfold dig; rw [if_neg (by omega), if_neg (by omega), if_pos ⟨h, h'⟩]
theorem dig_d {c : Nat} (h : ¬ (48 ≤ c ∧ c ≤ 57)) (h' : ¬ (97 ≤ c ∧ c ≤ 102)) (h'' : ¬ (65 ≤ c ∧ c ≤ 70)) : dig c = 18446744073709551615 := by
  unfold dig; rw [if_neg h, if_neg h', if_neg h'']

set_option maxRecDepth 100000 in
theorem digit_any (c : Nat) (hc : c < 256) (w : World) : Calls Tryz.prog 160 #[.int .u8 c] w fun e w' => e = .returned (.int .u64 (dig c)) ∧ w' = w := by
  go_enter Tryz.func160, Tryz.ntmps160
  go_wp2
  all_goals go_ret
  all_goals refine ⟨ret_int ?_, rfl⟩
  all_goals first
    | (rw [dig_a (by omega) (by omega)]; omega)
    | (rw [dig_b (by omega) (by omega)]; omega)
    | (rw [dig_c (by omega) (by omega)]; omega)
    | (rw [dig_d (by omega) (by omega) (by omega)]; rfl)

theorem toL (s : ByteArray) : s.toList = s.data.toList := ByteArray.toList_eq s
theorem exL (s : ByteArray) (a b : Nat) : (s.extract a b).data.toList = (s.data.toList.take b).drop a := by
  rw [ByteArray.data_extract, Array.toList_extract]
  rw [List.extract_eq_take_drop, List.drop_take]
theorem exE (s : ByteArray) (a : Nat) : (s.extract a s.size).data.toList = s.data.toList.drop a := by
  rw [exL]; congr 1; exact List.take_of_length_le (by simp)
theorem sizeL (s : ByteArray) : s.size = s.data.toList.length := by simp

/-- Whether a list begins with another. -/
def preB (l p : List UInt8) : Bool := decide (l.take p.length = p)
theorem prefix_eq (s p : ByteArray) (h : p.size ≤ s.size) : ((s.extract 0 p.size).toList == p.toList) = preB s.data.toList p.data.toList := by
  rw [Bool.eq_iff_iff, beq_iff_eq, preB, decide_eq_true_iff, toL, toL, exL, List.drop_zero, sizeL p]
theorem prefix_short (s p : ByteArray) (h : ¬ p.size ≤ s.size) : preB s.data.toList p.data.toList = false := by
  rw [preB, decide_eq_false_iff_not]
  intro e
  have := congrArg List.length e
  rw [List.length_take] at this
  have h1 := sizeL s
  have h2 := sizeL p
  omega

set_option maxRecDepth 100000 in
theorem prefix_any (s p : ByteArray) (hs : s.size ≤ maxLen) (hp : p.size ≤ maxLen) (w : World) :
    Calls Tryz.prog 147 #[.string s, .string p] w fun e w' => e = .returned (.bool (preB s.data.toList p.data.toList)) ∧ w' = w := by
  unfold maxLen at hs hp
  by_cases h : p.size ≤ s.size
  · have h' : (p.size : Int) ≤ s.size := by omega
    have HE : Hid (((s.extract 0 p.size).toList == p.toList) = preB s.data.toList p.data.toList) := prefix_eq s p h
    go_enter Tryz.func147, Tryz.ntmps147
    go_wp2
    go_ret
    exact ⟨by rw [← HE.out]; rfl, rfl⟩
  · have h' : ¬ (p.size : Int) ≤ s.size := by omega
    have HE : Hid (preB s.data.toList p.data.toList = false) := prefix_short s p h
    go_enter Tryz.func147, Tryz.ntmps147
    go_wp2
    go_ret
    exact ⟨by rw [HE.out]; rfl, rfl⟩

set_option maxRecDepth 100000 in
theorem hasPrefix_any (s p : ByteArray) (hs : s.size ≤ maxLen) (hp : p.size ≤ maxLen) (w : World) :
    Calls Tryz.prog 129 #[.string s, .string p] w fun e w' => e = .returned (.bool (preB s.data.toList p.data.toList)) ∧ w' = w := by
  go_enter Tryz.func129, Tryz.ntmps129
  go_wp2_with (go_at_call 147; refine (prefix_any s p hs hp _).mono ?_; rintro e w' ⟨rfl, hw'⟩; replace hw' := hw'.symm; subst hw')
  go_ret
  exact ⟨rfl, rfl⟩

theorem mark_eq : ∀ l : List UInt8, markB l = (preB l [48, 120] || preB l [48, 88])
  | [] => rfl
  | [a] => by simp [markB, preB]
  | a :: b :: r => by
      rw [Bool.eq_iff_iff]
      simp [markB, preB, ← UInt8.toNat_inj]
      constructor
      · rintro ⟨h1, h2 | h2⟩ <;> simp [h1, h2]
      · rintro (⟨h1, h2⟩ | ⟨h1, h2⟩) <;> simp [h1, h2]
theorem minus_eq : ∀ l : List UInt8, minusB l = preB l [45]
  | [] => rfl
  | a :: r => by rw [Bool.eq_iff_iff]; simp [minusB, preB, ← UInt8.toNat_inj]

set_option maxRecDepth 100000 in
theorem marked_any (s : ByteArray) (hs : s.size ≤ maxLen) (w : World) :
    Calls Tryz.prog 157 #[.string s] w fun e w' => e = .returned (.bool (markB s.data.toList)) ∧ w' = w := by
  have h1 := fun w => hasPrefix_any s ⟨#[48, 120]⟩ hs (by decide) w
  have h2 := fun w => hasPrefix_any s ⟨#[48, 88]⟩ hs (by decide) w
  have HE : Hid (markB s.data.toList = (preB s.data.toList [48, 120] || preB s.data.toList [48, 88])) := mark_eq _
  have e1 : (ByteArray.mk #[48, 120]).data.toList = [48, 120] := rfl
  have e2 : (ByteArray.mk #[48, 88]).data.toList = [48, 88] := rfl
  rw [e1] at h1
  rw [e2] at h2
  clear e1 e2
  cases hb : preB s.data.toList [48, 120] with
  | true =>
      rw [hb] at h1 HE
      clear hb
      go_enter Tryz.func157, Tryz.ntmps157
      go_wp2_with (first
        | (go_at_call 129; refine (h1 _).mono ?_; rintro e w' ⟨rfl, hw'⟩; replace hw' := hw'.symm; subst hw'; clear h1))
      go_ret
      exact ⟨by rw [HE.out]; rfl, rfl⟩
  | false =>
      rw [hb] at h1 HE
      clear hb
      go_enter Tryz.func157, Tryz.ntmps157
      go_wp2_with (first
        | (go_at_call 129; refine (h1 _).mono ?_; rintro e w' ⟨rfl, hw'⟩; replace hw' := hw'.symm; subst hw'; clear h1)
        | (go_at_call 129; refine (h2 _).mono ?_; rintro e w' ⟨rfl, hw'⟩; replace hw' := hw'.symm; subst hw'; clear h2))
      go_ret
      exact ⟨by rw [HE.out]; rfl, rfl⟩
end Go.Proofs.YtjnbhcakfenbhaaGreatDoor
/- A number's parts, as the program lays them: four cells, loaded, stored, boxed and handed back as one. -/
namespace Go.Proofs.YtjnbhcakfenbhaaGreatDoor
open Go.RowKit
set_option linter.unusedSimpArgs false
set_option linter.unusedVariables false

def cellsNL (m : Bool) (base : Nat) (D : ByteArray) (n : Nat) : List Value := [.bool m, .int .u64 base, .string D, .int .i64 n]
def cellsN (m : Bool) (base : Nat) (D : ByteArray) (n : Nat) : Array Value := (cellsNL m base D n).toArray
/-- A number as the program lays it. -/
def numV (m : Bool) (base : Nat) (D : ByteArray) (n : Nat) : Value := .agg (cellsN m base D n)
theorem cellsN_size (m : Bool) (base : Nat) (D : ByteArray) (n : Nat) : (cellsN m base D n).size = 4 := rfl
theorem cellsN_one (m : Bool) (base : Nat) (D : ByteArray) (n : Nat) : (cellsN m base D n).all (·.oneCell') = true := by
  rw [Array.all_eq_true_iff_forall_mem]
  intro v hv
  simp only [cellsN, cellsNL, List.mem_toArray, List.mem_cons, List.not_mem_nil, or_false] at hv
  rcases hv with rfl | rfl | rfl | rfl <;> rfl
theorem infoN : (Tryz.prog.info? 202).map (·.size) = some 4 := by kernel_rfl

/-- A number lies in a block of its own. -/
def IsN (w : World) (b : Nat) (m : Bool) (base : Nat) (D : ByteArray) (n : Nat) : Prop := w.heap[b]? = some (.cells (cellsN m base D n) 202)
variable {w W w' : World} {b b' B : Nat} {m m' : Bool} {base base' : Nat} {D D' : ByteArray} {n n' : Nat}
theorem IsN.lt (h : IsN w b m base D n) : b < w.heap.size := (Array.getElem?_eq_some_iff.1 h).1
theorem IsN.range (h : IsN w b m base D n) : w.rangeAt b 0 (cellsNL m base D n) := by
  intro j v hv
  rw [cell_of_row w b (0 + j) (cellsN m base D n) 202 (0, 0) h]
  simpa [cellsN] using hv
theorem IsN.cell (h : IsN w b m base D n) (j : Nat) : w.cell? ⟨b, j, none⟩ = (cellsNL m base D n)[j]? := by
  rw [cell_of_row w b j (cellsN m base D n) 202 (0, 0) h]; simp [cellsN]
theorem IsN.cM (h : IsN w b m base D n) : w.cell? ⟨b, 0, none⟩ = some (.bool m) := h.cell 0
theorem IsN.cB (h : IsN w b m base D n) : w.cell? ⟨b, 1, none⟩ = some (.int .u64 base) := h.cell 1
theorem IsN.cD (h : IsN w b m base D n) : w.cell? ⟨b, 2, none⟩ = some (.string D) := h.cell 2
theorem IsN.cL (h : IsN w b m base D n) : w.cell? ⟨b, 3, none⟩ = some (.int .i64 n) := h.cell 3
theorem IsN.frozen (h : IsN w b m base D n) (j : Nat) : w.frozen? ⟨b, j, none⟩ = false := by
  have h' : w.heap[b]? = some (.cells (cellsN m base D n) 202 (0, 0)) := h
  simp [World.frozen?, h']
theorem IsN.below (h : IsN w b m base D n) (hB : Below B w w') (hb : b < B) : IsN w' b m base D n := (hB.block b hb).trans h
theorem IsN.grown (h : IsN w b m base D n) (hB : Below w.heap.size w w') : IsN w' b m base D n := h.below hB h.lt
theorem IsN.new (w : World) (m : Bool) (base : Nat) (D : ByteArray) (n : Nat) : IsN (w.alloc (.cells (cellsN m base D n) 202)) w.heap.size m base D n := heap_alloc_last w _

theorem heap_setRow (w : World) (b k : Nat) (c : Array Value) : (w.setRow b c).heap[k]? = if b = k then (w.heap[k]?).map (fun o => match o with | .cells _ t fr => .cells c t fr | o => o) else w.heap[k]? := by
  simp only [World.setRow]
  rw [Array.getElem?_modify]
  by_cases h : b = k
  · rw [if_pos h, if_pos h]
    cases w.heap[k]? with
    | none => rfl
    | some o => cases o <;> rfl
  · rw [if_neg h, if_neg h]
theorem IsN.store (h : IsN w b m base D n) : IsN (w.setRow b (cellsN m' base' D' n')) b m' base' D' n' := by
  have h' : w.heap[b]? = some (.cells (cellsN m base D n) 202 (0, 0)) := h
  unfold IsN
  rw [heap_setRow, if_pos rfl, h']; rfl

/-- A new block, laid last. -/
structure Fresh (w W : World) (b : Nat) : Prop where
  at' : b = w.heap.size
  size : W.heap.size = b + 1
  below : Below b w W
/-- One block of cells is turned. -/
structure Upd (w W : World) (b : Nat) : Prop where
  os : W.os = w.os
  tape : W.tape = w.tape
  output : W.output = w.output
  size : W.heap.size = w.heap.size
  block : ∀ k, k ≠ b → W.heap[k]? = w.heap[k]?
theorem Fresh.alloc (w : World) (o : Obj) : Fresh w (w.alloc o) w.heap.size := ⟨rfl, by simp, (Below.refl _ w).alloc (Nat.le_refl _) o⟩
theorem Fresh.trans {w0 w W : World} {B b : Nat} (h : Below B w0 w) (hB : B ≤ w.heap.size) (F : Fresh w W b) : Below B w0 W :=
  h.trans (F.below.mono (by have := F.at'; omega))
theorem Upd.setCell (w : World) (b o : Nat) (v : Value) : Upd w (w.setCell ⟨b, o, none⟩ v) b :=
  ⟨rfl, rfl, rfl, by simp [World.setCell], fun k hk => by
    show (w.heap.modify b _)[k]? = _
    rw [Array.getElem?_modify, if_neg (fun e => hk e.symm)]⟩
theorem Upd.setRow (w : World) (b : Nat) (c : Array Value) : Upd w (w.setRow b c) b :=
  ⟨rfl, rfl, rfl, by simp [World.setRow], fun k hk => by rw [heap_setRow, if_neg (fun e => hk e.symm)]⟩
theorem Upd.trans {w0 w W : World} {B b : Nat} (h : Below B w0 w) (hB : B ≤ b) (U : Upd w W b) : Below B w0 W :=
  ⟨U.os.trans h.os, U.tape.trans h.tape, U.output.trans h.output, by rw [U.size]; exact h.size, fun k hk => (U.block k (by omega)).trans (h.block k hk)⟩
theorem IsN.fresh (h : IsN w b m base D n) (F : Fresh w W b') : IsN W b m base D n := h.below F.below (by rw [F.at']; exact h.lt)
theorem IsN.upd (h : IsN w b m base D n) (U : Upd w W b') (hb : b ≠ b') : IsN W b m base D n := (U.block b hb).trans h
theorem IsN.setM (h : IsN w b m base D n) : IsN (w.setCell ⟨b, 0, none⟩ (.bool m')) b m' base D n := by
  have h' : w.heap[b]? = some (.cells (cellsN m base D n) 202 (0, 0)) := h
  unfold IsN
  show (w.heap.modify b _)[b]? = _
  rw [Array.getElem?_modify, if_pos rfl, h']
  rfl

section
variable {ops : Array Oper} {rest : List Oper} {op : Oper} {a : Act} {Q : Exit → Act → World → Prop}
theorem wpList_loadN (hgd : op.guard = none) (x : Operand) (ho : op.op = .load 202 x) (hx : a.eval x = .pointer (some ⟨b, 0, none⟩)) (hc : IsN w b m base D n)
    (h : wpList Tryz.prog ops Q rest (a.put op.dst (numV m base D n)) w) : wpList Tryz.prog ops Q (op :: rest) a w :=
  wpList_load_mid hgd 202 x ho b 0 hx (cellsNL m base D n) _ hc.range Tryz.underlying202 rfl infoN h
theorem wpList_storeN (hgd : op.guard = none) (x y : Operand) (ho : op.op = .store 202 x y) (hx : a.eval x = .pointer (some ⟨b, 0, none⟩)) (hy : a.eval y = numV m' base' D' n') (hc : IsN w b m base D n)
    (h : ∀ W, Upd w W b → IsN W b m' base' D' n' → wpList Tryz.prog ops Q rest (a.put op.dst undef) W) : wpList Tryz.prog ops Q (op :: rest) a w := by
  refine wpList_plain hgd fun K hK => ?_
  unfold Oper.wp execOp
  have hc' : w.heap[b]? = some (.cells (cellsN m base D n) 202 (0, 0)) := hc
  unfold numV at hy
  simp only [ho, hx, hy, Instr.storeAt, Instr.sureAddr, Sem.run_bind, Sem.run_pure, Result.andThen_ok,
    run_storeVar_row w b 202 202 (cellsN m base D n) (cellsN m' base' D' n') hc' infoN rfl (cellsN_one m' base' D' n')]
  exact hK _ _ (h _ (Upd.setRow w b _) hc.store)
theorem wpList_boxN (hgd : op.guard = none) (x : Operand) (ho : op.op = .box 202 x) (hx : a.eval x = numV m base D n)
    (h : ∀ W b, Fresh w W b → IsN W b m base D n → wpList Tryz.prog ops Q rest (a.put op.dst (.pointer (some ⟨b, 0, none⟩))) W) : wpList Tryz.prog ops Q (op :: rest) a w := by
  refine wpList_plain hgd fun K hK => ?_
  unfold Oper.wp execOp
  unfold numV at hx
  simp only [ho, hx]
  have hb : (Instr.box 202 (.agg (cellsN m base D n))).run Tryz.prog w = .ok (.pointer (some ⟨w.heap.size, 0, none⟩)) (w.alloc (.cells (cellsN m base D n) 202)) := by
    simp [go_sem, Value.cells]
  simp only [Sem.run_bind, hb, Result.andThen_ok, Sem.run_pure]
  exact hK _ _ (h _ _ (Fresh.alloc w _) (IsN.new w m base D n))
theorem wpList_allocN (hgd : op.guard = none) (ho : op.op = .alloc 202)
    (h : ∀ W b, Fresh w W b → IsN W b false 0 ⟨#[]⟩ 0 → wpList Tryz.prog ops Q rest (a.put op.dst (.pointer (some ⟨b, 0, none⟩))) W) : wpList Tryz.prog ops Q (op :: rest) a w := by
  refine wpList_plain hgd fun K hK => ?_
  unfold Oper.wp execOp
  simp [ho, go_sem, Value.cells]
  exact hK _ _ (h _ _ (Fresh.alloc w _) (IsN.new w false 0 ⟨#[]⟩ 0))
theorem wpList_setM (hgd : op.guard = none) (x y : Operand) (ho : op.op = .store 4 x y) (hx : a.eval x = .pointer (some ⟨b, 0, none⟩)) (hy : a.eval y = .bool m') (hc : IsN w b m base D n)
    (h : ∀ W, Upd w W b → IsN W b m' base D n → wpList Tryz.prog ops Q rest (a.put op.dst undef) W) : wpList Tryz.prog ops Q (op :: rest) a w := by
  refine wpList_plain hgd fun K hK => ?_
  unfold Oper.wp execOp
  have h1 : w.cell? ⟨b, 0, none⟩ = some (.bool m) := hc.cell 0
  have h2 := hc.frozen 0
  simp only [ho, hx, hy]
  simp [go_sem, Value.cells, h1, h2]
  exact hK _ _ (h _ (Upd.setCell w b 0 _) hc.setM)
end
theorem ret_N {fn : Func} {p : Tmp} {R : Ending → World → Prop} {a : Act} (h : fn.results = #[.cell p 202]) (hp : a.tmps.getD p undef = .pointer (some ⟨b, 0, none⟩))
    (hd : a.defers = []) (hc : IsN w b m base D n) (hR : R (.returned (numV m base D n)) w) : bodyPost Tryz.prog fn R .ret a w := by
  have hc' : w.heap[b]? = some (.cells (cellsN m base D n) 202 (0, 0)) := hc
  exact ⟨hd, _, results_cell_row h a.tmps w b 202 (cellsN m base D n) (0, 0) _ hp hc' Tryz.underlying202 rfl infoN, hR⟩
end Go.Proofs.YtjnbhcakfenbhaaGreatDoor

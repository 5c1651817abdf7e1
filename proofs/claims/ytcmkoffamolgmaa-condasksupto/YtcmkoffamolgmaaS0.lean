/- Worlds in which one block is new or turned; pieces of texts. -/
import Derived.Test.YtcmkoffamolgmaaB0
import Derived.Test.YtcmkoffamolgmaaM1
import Derived.Deep.MidRow
import Derived.Deep.WholeRow
import Derived.ChangeKeysEq
namespace Go.Proofs.Ytcmkoffamolgmaa
open Go.RowKit M
set_option linter.unusedSimpArgs false
set_option linter.unusedVariables false

theorem heap_setRow (w : World) (b k : Nat) (c : Array Value) : (w.setRow b c).heap[k]? = if b = k then (w.heap[k]?).map (fun o => match o with | .cells _ t fr => .cells c t fr | o => o) else w.heap[k]? := by
  simp only [World.setRow]
  rw [Array.getElem?_modify]
  by_cases h : b = k
  · rw [if_pos h, if_pos h]
    cases w.heap[k]? with
    | none => rfl
    | some o => cases o <;> rfl
  · rw [if_neg h, if_neg h]
/-- A new block, laid last. -/
structure Fresh (w W : World) (b : Nat) : Prop where
  at' : b = w.heap.size
  size : W.heap.size = b + 1
  below : Below b w W
/-- One block of cells is turned. -/
structure Upd (w W : World) (b : Nat) : Prop where
  os : W.os = w.os
  tape : W.tape = w.tape
  output : W.output = w.output
  size : W.heap.size = w.heap.size
  block : ∀ k, k ≠ b → W.heap[k]? = w.heap[k]?
theorem Fresh.alloc (w : World) (o : Obj) : Fresh w (w.alloc o) w.heap.size := ⟨rfl, by simp, (Below.refl _ w).alloc (Nat.le_refl _) o⟩
theorem Fresh.trans {w0 w W : World} {B b : Nat} (h : Below B w0 w) (hB : B ≤ w.heap.size) (F : Fresh w W b) : Below B w0 W :=
  h.trans (F.below.mono (by have := F.at'; omega))
theorem Upd.setCell (w : World) (b o : Nat) (v : Value) : Upd w (w.setCell ⟨b, o, none⟩ v) b :=
  ⟨rfl, rfl, rfl, by simp [World.setCell], fun k hk => by
    show (w.heap.modify b _)[k]? = _
    rw [Array.getElem?_modify, if_neg (fun e => hk e.symm)]⟩
theorem Upd.setRow (w : World) (b : Nat) (c : Array Value) : Upd w (w.setRow b c) b :=
  ⟨rfl, rfl, rfl, by simp [World.setRow], fun k hk => by rw [heap_setRow, if_neg (fun e => hk e.symm)]⟩
theorem Upd.trans {w0 w W : World} {B b : Nat} (h : Below B w0 w) (hB : B ≤ b) (U : Upd w W b) : Below B w0 W :=
  ⟨U.os.trans h.os, U.tape.trans h.tape, U.output.trans h.output, by rw [U.size]; exact h.size, fun k hk => (U.block k (by omega)).trans (h.block k hk)⟩
theorem toL (s : ByteArray) : s.toList = s.data.toList := ByteArray.toList_eq s
theorem exL (s : ByteArray) (a b : Nat) : (s.extract a b).data.toList = (s.data.toList.take b).drop a := by
  rw [ByteArray.data_extract, Array.toList_extract]
  rw [List.extract_eq_take_drop, List.drop_take]
theorem exE (s : ByteArray) (a : Nat) : (s.extract a s.size).data.toList = s.data.toList.drop a := by
  rw [exL]; congr 1; exact List.take_of_length_le (by simp)
theorem sizeL (s : ByteArray) : s.size = s.data.toList.length := by simp
theorem emp_t {D : ByteArray} (h : D.data.toList = []) : D.toList.isEmpty = true := by rw [toL, h]; rfl
theorem emp_f {D : ByteArray} (h : D.data.toList ≠ []) : D.toList.isEmpty = false := by
  rw [toL]; cases e : D.data.toList with
  | nil => exact absurd e h
  | cons a r => rfl

theorem drop_get (s : ByteArray) (b j : Nat) (h : b + j < s.size) : (s.data.toList.drop b)[j]? = some s[b + j] := by
  rw [List.getElem?_drop, List.getElem?_eq_getElem (by simpa using h)]; rfl

theorem exSz (s : ByteArray) (b k : Nat) (h : b + k ≤ s.size) : (s.extract b (b + k)).size = k := by rw [ByteArray.size_extract]; omega
end Go.Proofs.Ytcmkoffamolgmaa

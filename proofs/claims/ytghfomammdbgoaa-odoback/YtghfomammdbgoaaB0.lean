/- What all texts of this seat share: numbers in memory, blocks that are new, blocks that are turned. -/
import Derived.Test.YtghfomammdbgoaaRows
import Derived.WalkKit
import Derived.WalkSpells
import Derived.WalkLawsBesides
import Derived.Deep.MidRow
import Derived.Deep.WholeRow
import Derived.BigRegion
import Derived.BigQuiet
import Derived.Deep.QuietTactic
import Derived.Below
import Derived.ChangeKeysEq
import Derived.Lib.SmallJoins
import Derived.Laws.AppendOwnNone
import Derived.Lib.Mul64
import Derived.Laws.Bits64b
import Derived.Test.YtghfomammdbgoaaM0
namespace Go.Proofs.Ytghfomammdbgoaa
open Go.RowKit K Go.Joins
set_option linter.unusedSimpArgs false
set_option linter.unusedVariables false

/-- A slice's numbers, where they lie. -/
def Nums (w : World) (a : Option Addr) (zs : List Int) : Prop := ∀ j, j < zs.length → ∃ b off, a = some ⟨b, off, none⟩ ∧ w.cell? ⟨b, off + j, none⟩ = some (.int .i64 (zs.getD j 0))
theorem take_snoc (zs : List Int) (k : Nat) (h : k < zs.length) : zs.take (k + 1) = zs.take k ++ [zs.getD k 0] := by
  rw [List.take_succ_eq_append_getElem h, List.getD_eq_getElem?_getD, List.getElem?_eq_getElem h]; rfl
theorem Nums.below {w w' : World} {a : Option Addr} {zs : List Int} (h : Nums w a zs) (hb : Below w.heap.size w w') : Nums w' a zs := fun j hj => by
  obtain ⟨b, off, rfl, hc⟩ := h j hj
  exact ⟨b, off, rfl, (hb.cell (p := ⟨b, off + j, none⟩) (World.block_lt_of_cell? w _ hc)).trans hc⟩
theorem below_drewN {B : Nat} {w W : World} (h : Below B w W) (m : Nat) : Below B w (W.drewN m) := ⟨h.os, h.tape, h.output, h.size, h.block⟩
theorem Below.then {w W W' : World} (h : Below w.heap.size w W) (h' : Below W.heap.size W W') : Below w.heap.size w W' := h.trans (h'.mono h.size)
/-- A new block, laid last. -/
structure Fresh (w W : World) (b : Nat) : Prop where
  at' : b = w.heap.size
  size : W.heap.size = b + 1
  below : Below b w W
/-- One block of cells is turned. -/
structure Upd (w W : World) (b : Nat) : Prop where
  os : W.os = w.os
  tape : W.tape = w.tape
  output : W.output = w.output
  size : W.heap.size = w.heap.size
  block : ∀ k, k ≠ b → W.heap[k]? = w.heap[k]?
theorem Fresh.alloc (w : World) (o : Obj) : Fresh w (w.alloc o) w.heap.size := ⟨rfl, by simp, (Below.refl _ w).alloc (Nat.le_refl _) o⟩
theorem Fresh.trans {w0 w W : World} {B b : Nat} (h : Below B w0 w) (hB : B ≤ w.heap.size) (F : Fresh w W b) : Below B w0 W :=
  h.trans (F.below.mono (by have := F.at'; omega))
theorem Upd.setCell (w : World) (b o : Nat) (v : Value) : Upd w (w.setCell ⟨b, o, none⟩ v) b :=
  ⟨rfl, rfl, rfl, by simp [World.setCell], fun k hk => by
    show (w.heap.modify b _)[k]? = _
    rw [Array.getElem?_modify, if_neg (fun e => hk e.symm)]⟩
theorem Upd.trans {w0 w W : World} {B b : Nat} (h : Below B w0 w) (hB : B ≤ b) (U : Upd w W b) : Below B w0 W :=
  ⟨U.os.trans h.os, U.tape.trans h.tape, U.output.trans h.output, by rw [U.size]; exact h.size, fun k hk => (U.block k (by omega)).trans (h.block k hk)⟩
theorem cell_block {w W : World} {b o : Nat} (h : W.heap[b]? = w.heap[b]?) : W.cell? ⟨b, o, none⟩ = w.cell? ⟨b, o, none⟩ := by
  simp [World.cell?, h]
theorem info3 : (Try.prog.info? 3).map (fun i => (i.zero, i.size, i.bytes)) = some (some (.int .i64 0), 1, 8) := by kernel_rfl
/-- The cells of a list of numbers. -/
def intsZ (zs : List Int) : List Value := zs.map fun z => Value.int .i64 z
theorem intsZ_len (zs : List Int) : (intsZ zs).length = zs.length := by simp [intsZ]
/-- Naturals as ints. -/
def zsOf (l : List Nat) : List Int := l.map fun n : Nat => (n : Int)
theorem zsOf_len (l : List Nat) : (zsOf l).length = l.length := by simp [zsOf]
theorem zsOf_getD (l : List Nat) (k : Nat) : (zsOf l).getD k 0 = ((l.getD k 0 : Nat) : Int) := by
  simp only [zsOf, List.getD_eq_getElem?_getD, List.getElem?_map]
  cases l[k]? <;> rfl
theorem takeN_snoc (l : List Nat) (k : Nat) (h : k < l.length) : l.take (k + 1) = l.take k ++ [l.getD k 0] := by
  rw [List.take_succ_eq_append_getElem h, List.getD_eq_getElem?_getD, List.getElem?_eq_getElem h]; rfl
theorem getD_mem {l : List Nat} {k : Nat} (h : k < l.length) : l.getD k 0 ∈ l := by
  rw [List.getD_eq_getElem?_getD, List.getElem?_eq_getElem h]; exact List.getElem_mem h
theorem view_of_own {W : World} {base : Nat} {v : Value} {zs : List Int} (h : W.ownsRow base 3 1 v zs.length (intsZ zs)) : ∃ a cap, v = .slice a zs.length cap ∧ Nums W a zs := by
  rcases h.2 with ⟨rfl, h0⟩ | ⟨g, cap, cur, rfl, hg, hh, rest⟩
  · exact ⟨none, 0, by rw [h0], fun j hj => by omega⟩
  · refine ⟨_, cap, rfl, fun j hj => ⟨g, 0, rfl, ?_⟩⟩
    rw [Nat.zero_add, h.cellAt j (by omega)]
    simp [intsZ, hj]
theorem news_of {w : World} {ad : Addr} {zs : List Int} (h : Nums w (some ad) zs) : ∀ j u, (intsZ zs)[j]? = some u → w.cell? (ad.add j) = some u := fun j u hj => by
  have hjl := (List.getElem?_eq_some_iff.1 hj).1
  rw [intsZ_len] at hjl
  obtain ⟨b, off, e, hc⟩ := h j hjl
  cases e
  have : (⟨b, off, none⟩ : Addr).add j = ⟨b, off + j, none⟩ := by simp [Addr.add]
  rw [this, hc]
  simp [intsZ, hjl] at hj
  rw [← hj]
  simp [hjl]
theorem intsZ_one (zs : List Int) : ∀ u ∈ intsZ zs, u.oneCell' = true := by
  intro u hu
  simp only [intsZ, List.mem_map] at hu
  obtain ⟨z, _, rfl⟩ := hu
  rfl
end Go.Proofs.Ytghfomammdbgoaa

/- A row of numbers in a block of its own; the iterator slices.Backward: for every loop body that keeps the list, it hands out the places and what stands there, the last one first. -/
import Derived.RangeFuncNested
import Derived.RangeFuncBound
import Derived.RangeFuncCalls
import Derived.RangeFuncLeaves
import Derived.RangeFuncBox
import Derived.Shelf.Abstract
import Derived.OwnWalkIn
import Derived.TacticsInMore
import Derived.LoopNIn
import Derived.LoopIn
import Derived.Maps.AppendAt
import Derived.Laws.MakeOwn
import Derived.Test.YtghfomammdbgoaaP2
namespace Go.Proofs.Ytghfomammdbgoaa
open Go.RowKit Go.Shelf K
attribute [local go_sem] Oper.semAt_some
set_option linter.unusedSimpArgs false
set_option linter.unusedVariables false

/-- A block holds these numbers. -/
def RowZ (w : World) (b : Nat) (zs : List Int) : Prop := w.heap[b]? = some (.cells (intsZ zs).toArray 3 (0, 0))
theorem RowZ.lt {w : World} {b : Nat} {zs : List Int} (h : RowZ w b zs) : b < w.heap.size := (Array.getElem?_eq_some_iff.1 h).1
theorem RowZ.cell {w : World} {b : Nat} {zs : List Int} (h : RowZ w b zs) (j : Nat) (hj : j < zs.length) : w.cell? ⟨b, j, none⟩ = some (.int .i64 (zs.getD j 0)) := by
  rw [cell_of_row w b j _ 3 (0, 0) h]
  simp [intsZ, hj]
theorem RowZ.frozen {w : World} {b : Nat} {zs : List Int} (h : RowZ w b zs) (j : Nat) : w.frozen? ⟨b, j, none⟩ = false := by
  simp [World.frozen?, show w.heap[b]? = _ from h]
theorem RowZ.nums {w : World} {b : Nat} {zs : List Int} (h : RowZ w b zs) : Nums w (some ⟨b, 0, none⟩) zs := fun j hj => ⟨b, 0, rfl, by rw [Nat.zero_add]; exact h.cell j hj⟩
theorem RowZ.new (w : World) (zs : List Int) : RowZ (w.alloc (.cells (intsZ zs).toArray 3)) w.heap.size zs := World.alloc_heap_new w _
theorem RowZ.upd {w W : World} {b b' : Nat} {zs : List Int} (h : RowZ w b zs) (U : Upd w W b') (hb : b ≠ b') : RowZ W b zs := (U.block b hb).trans h
theorem RowZ.below {w W : World} {b : Nat} {zs : List Int} (h : RowZ w b zs) (hb : Below w.heap.size w W) : RowZ W b zs := (hb.block b h.lt).trans h
theorem RowZ.alloc {w : World} {b : Nat} {zs : List Int} (h : RowZ w b zs) (o : Obj) : RowZ (w.alloc o) b zs := h.below ((Below.refl _ w).alloc (Nat.le_refl _) o)
theorem RowZ.set {w : World} {b : Nat} {zs : List Int} (h : RowZ w b zs) (j : Nat) (z : Int) : RowZ (w.setCell ⟨b, j, none⟩ (.int .i64 z)) b (zs.set j z) := by
  obtain ⟨hlt, hk⟩ := Array.getElem?_eq_some_iff.1 h
  show (w.heap.modify b _)[b]? = _
  rw [Array.getElem?_eq_getElem (by rw [Array.size_modify]; exact hlt), Array.getElem_modify_self, hk]
  simp [intsZ, List.map_set]
theorem rowZ_own {β : Type} (b : Nat) (f : β → List Int) : Own (fun s W => RowZ W b (f s)) := fun s X Y row hs hg hr => by
  refine (hg.block b hs.lt (fun e => ?_)).trans hs
  obtain ⟨o, ho, hc⟩ := hr b e.symm
  rw [show X.heap[b]? = _ from hs] at ho
  cases ho
  cases hc
theorem boxed_upd {w W : World} {B b : Nat} {t : TypeId} {v : Value} (h : Boxed w B t v) (U : Upd w W b) (hb : B ≠ b) : Boxed W B t v := (U.block B hb).trans h
theorem boxed_drew {w : World} {B : Nat} {t : TypeId} {v : Value} (h : Boxed w B t v) : Boxed w.drew B t v := h
theorem boxed_below {w W : World} {B : Nat} {t : TypeId} {v : Value} (h : Boxed w B t v) (hb : Below w.heap.size w W) : Boxed W B t v := (hb.block B h.lt).trans h
theorem made_zeros (n : Nat) : madeCells (Value.int .i64 0).cells (n * 1) = (intsZ (List.replicate n 0)).toArray := by
  apply Array.ext
  · simp [madeCells, intsZ]
  · intro i h1 h2
    simp [madeCells, intsZ, Value.cells, Nat.mod_one]
theorem make22 (n : Nat) (hn : n ≤ 64) (W : World) : (Instr.makeSlice 22 (.int .i64 n) (.int .i64 n)).run Try.prog W = .ok (.slice (some ⟨W.heap.size, 0, none⟩) n n) (W.alloc (.cells (intsZ (List.replicate n 0)).toArray 3)) := by
  obtain ⟨i0, hi, hz0, hz1, hz2⟩ := info_parts info3
  have := run_make (P := Try.prog) W 22 3 i0 (.int .i64 0) Try.underlying22 hi hz0 .i64 .i64 n n (by omega) (by omega) (by rw [hz2]; omega) (by omega)
  rw [this, hz1]
  simp only [Int.toNat_natCast, made_zeros]

/-- The blocks that a round keeps. -/
def Same (bs : List Nat) (W W' : World) : Prop := ∀ b ∈ bs, W'.heap[b]? = W.heap[b]?
theorem Same.refl (bs : List Nat) (W : World) : Same bs W W := fun _ _ => rfl
theorem Same.trans {bs : List Nat} {A B C : World} (h : Same bs A B) (k : Same bs B C) : Same bs A C := fun b hb => (k b hb).trans (h b hb)
theorem Same.putObj {bs : List Nat} {w : World} (hb : ∀ b ∈ bs, b < w.heap.size) (W : World) (l : Nat) (o o' : Obj) (hl : w.heap.size ≤ l) (_ : W.heap[l]? = some o) (_ : o.isCells = false) (_ : o.isWalk = false) : Same bs W (W.putObj l o') :=
  fun b hm => World.putObj_heap_other (by have := hb b hm; omega)
/-- The block of a slice. -/
def blkOf : Option Addr → List Nat
  | some ad => [ad.block]
  | none => []
theorem Nums.same {A B : World} {a : Option Addr} {zs : List Int} {bs : List Nat} (h : Nums A a zs) (hs : Same bs A B) (hb : zs.length = 0 ∨ ∀ b ∈ blkOf a, b ∈ bs) : Nums B a zs := fun j hj => by
  obtain ⟨b, off, rfl, hc⟩ := h j hj
  rcases hb with hb | hb
  · omega
  · exact ⟨b, off, rfl, (cell_block (hs b (hb b (by simp [blkOf])))).trans hc⟩

/-- The blocks of a list and of its box. -/
def bsOf (Bn : Nat) (a : Option Addr) (l : List Nat) : List Nat := Bn :: (if l.length = 0 then [] else blkOf a)
theorem bsOf_all (Bn : Nat) (a : Option Addr) (l : List Nat) : l.length = 0 ∨ ∀ b ∈ blkOf a, b ∈ bsOf Bn a l := by
  by_cases h : l.length = 0
  · exact .inl h
  · refine .inr fun b hb => ?_
    simp [bsOf, h, hb]
theorem bsOf_lt {w : World} {Bn N : Nat} {a : Option Addr} {l : List Nat} (hN : Nums w a (zsOf l)) (hw : w.heap.size ≤ N) (hB : Bn < N) : ∀ b ∈ bsOf Bn a l, b < N := by
  intro b hb
  by_cases h : l.length = 0
  · simp [bsOf, h] at hb; omega
  · simp only [bsOf, if_neg h, List.mem_cons] at hb
    rcases hb with rfl | hb
    · exact hB
    · obtain ⟨b', off, rfl, hc⟩ := hN 0 (by rw [zsOf_len]; omega)
      simp [blkOf] at hb
      subst hb
      exact Nat.lt_of_lt_of_le (World.block_lt_of_cell? w _ hc) hw
theorem bsOf_not {w : World} {Bn N : Nat} {a : Option Addr} {l : List Nat} (hN : Nums w a (zsOf l)) (hw : w.heap.size ≤ N) (hB : N < Bn) : N ∉ bsOf Bn a l := by
  intro hb
  by_cases h : l.length = 0
  · simp [bsOf, h] at hb; omega
  · simp only [bsOf, if_neg h, List.mem_cons] at hb
    rcases hb with hb | hb
    · omega
    · obtain ⟨b', off, rfl, hc⟩ := hN 0 (by rw [zsOf_len]; omega)
      simp [blkOf] at hb
      subst hb
      have h2 : N < w.heap.size := World.block_lt_of_cell? w _ hc
      omega
/-- What Backward hands out at a place. -/
def encB (l : List Nat) (x : Fin l.length) : Array Value := #[.int .i64 (x.val : Nat), .int .i64 (l.getD x.val 0 : Nat)]
/-- The places from k on, the last one first. -/
def backF (n k : Nat) : List (Fin n) := ((List.finRange n).drop k).reverse
theorem backF_end (n : Nat) : backF n n = [] := by simp [backF]
theorem backF_step (n k : Nat) (h : k < n) : backF n k = backF n (k + 1) ++ [⟨k, h⟩] := by
  unfold backF
  rw [List.drop_eq_getElem_cons (by simpa using h), List.reverse_cons]
  simp

set_option maxRecDepth 100000 in
set_option maxHeartbeats 1000000 in
theorem back_in (n : Nat) (hn : 1 ≤ n) (y Bn : Nat) (a : Option Addr) (cap : Nat) (l : List Nat) (hl : l.length ≤ 64) (bs : List Nat) (hb0 : Bn ∈ bs) (hba : l.length = 0 ∨ ∀ b ∈ blkOf a, b ∈ bs) (J Jx : List (Fin l.length) → World → Prop)
    (hY : ∀ pre x W, J pre W → pre.length < l.length → YieldAt Fence.wide (n - 1) Try.prog y (encB l x) W fun e W' =>
      (e = .returned (.bool true) ∧ J (pre ++ [x]) W' ∧ Same bs W W') ∨ (e = .returned (.bool false) ∧ Jx (pre ++ [x]) W'))
    (W : World) (hBn : Boxed W Bn 83 (.slice a l.length cap)) (hN : Nums W a (zsOf l)) (h0 : J [] W) :
    CallsIn Fence.wide n Try.prog 69 #[.func (.yield y) #[] #[], .pointer (some ⟨Bn, 0, none⟩)] W fun e W' => (∃ v, e = .returned v) ∧
      ((∃ ys, ys = backF l.length 0 ∧ J ys W') ∨ (∃ pre, True ∧ Jx pre W')) := by
  have hc0 := hBn.cell
  refine callsIn_of_wp Try.func69 rfl trivial ?_ rfl
  simp only [Try.ntmps69, List.size_toArray, List.length_cons, List.length_nil, Nat.reduceAdd, Nat.reduceSub, Array.replicate_succ, Array.replicate_zero, List.push_toArray, List.append_toArray, List.nil_append, List.cons_append]
  gi_wp2
  gi_loopw [3] (fun p wr => ∃ k : Nat, k ≤ l.length ∧ p = .int .i64 ((k : Int) - 1) ∧ Boxed wr Bn 83 (.slice a l.length cap) ∧ Nums wr a (zsOf l) ∧ J (backF l.length k) wr) (fun p wr => ((intOf p) + 1).toNat)
  case atStart => exact ⟨l.length, Nat.le_refl _, rfl, hBn, hN, by rw [backF_end]; exact h0⟩
  case round =>
    clear hc0 hBn hN
    obtain ⟨k, hk, rfl, hBn, hN, hJs⟩ := hrel
    have hc0 := hBn.cell
    cases k with
    | zero =>
      gi_wp2
      go_end0
      exact ⟨⟨_, rfl⟩, .inl ⟨_, rfl, hJs⟩⟩
    | succ k =>
      obtain ⟨b, off, rfl, hc⟩ := hN k (by rw [zsOf_len]; omega)
      rw [zsOf_getD] at hc
      have hpl : (backF l.length (k + 1)).length < l.length := by simp [backF]; omega
      have hY1 := hY _ ⟨k, by omega⟩ wr hJs hpl
      rw [← backF_step] at hY1
      have e1 : ((k + 1 : Nat) : Int) - 1 = (k : Int) := by omega
      rw [e1]
      have hkl : k < l.length := by omega
      have hkI : (k : Int) < (l.length : Int) := by omega
      obtain ⟨fn, tmps, assign, body, hy, hR⟩ := hY1
      dsimp only [encB] at hy
      have HB : Hid (Boxed wr Bn 83 (.slice (some ⟨b, off, none⟩) l.length cap) ∧ Nums wr (some ⟨b, off, none⟩) (zsOf l)) := ⟨hBn, hN⟩
      clear hBn hN hY hkl
      generalize l.getD k 0 = x at *
      gi_wp2
      refine hR.mono ?_
      rintro e W3 (⟨rfl, hJ3, hk3⟩ | ⟨rfl, hJx3⟩)
      · gi_wp2
        go_roundw
        case rel => exact ⟨k, by omega, rfl, (hk3 Bn hb0).trans HB.out.1, HB.out.2.same hk3 (by rw [zsOf_len]; exact hba), hJ3⟩
        case measure => simp [intOf]
      · gi_wp2
        refine bodyPost_ret (results_none rfl _ _ _) rfl ?_
        exact ⟨⟨_, rfl⟩, .inr ⟨_, trivial, hJx3⟩⟩

theorem backward_any (a : Option Addr) (len cap : Nat) (w : World) :
    Calls Try.prog 66 #[.slice a len cap] w fun e w' => e = .returned (.func (.func 69) #[] #[.pointer (some ⟨w.heap.size, 0, none⟩)]) ∧ w' = w.alloc (.cells #[.slice a len cap] 83) := by
  go_enter Try.func66, Try.ntmps66
  go_wp2
  go_ret
  exact ⟨rfl, rfl⟩

theorem back_stops (n : Nat) (hn : 1 ≤ n) (Bn : Nat) (a : Option Addr) (cap : Nat) (l : List Nat) (hl : l.length ≤ 64) (bs : List Nat) (hb0 : Bn ∈ bs) (hba : l.length = 0 ∨ ∀ b ∈ blkOf a, b ∈ bs) (w : World) (hBn : Boxed w Bn 83 (.slice a l.length cap)) (hN : Nums w a (zsOf l)) :
    SeqStopsK Fence.wide n Try.prog 69 #[.pointer (some ⟨Bn, 0, none⟩)] (encB l) (Same bs) (fun ys => ys = backF l.length 0) (fun _ => True) l.length w := fun y J Jx W hW _ _ hY h0 =>
  back_in n hn y Bn a cap l hl bs hb0 hba J Jx hY W (boxed_below hBn hW) (hN.below hW) h0
end Go.Proofs.Ytghfomammdbgoaa

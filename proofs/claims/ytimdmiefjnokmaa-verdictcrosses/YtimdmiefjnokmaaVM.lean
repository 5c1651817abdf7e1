/- Cross in plain mathematics. -/
import Derived.Test.YtimdmiefjnokmaaRR
namespace Go.Proofs.Ytimdmiefjnokmaa
open Go Go.RowKit M
set_option linter.unusedSimpArgs false
set_option linter.unusedVariables false

/-- The least final state that one of two sets has and the other has not, and which one. -/
def crossF : List FS → List FS → FS × Int
  | [], [] => (FS.zero, 0)
  | [], y :: _ => (y, 2)
  | x :: _, [] => (x, 1)
  | x :: xs, y :: ys => if cmpF x y < 0 then (x, 1) else if 0 < cmpF x y then (y, 2) else crossF xs ys
/-- The first so many are the same. -/
def CrAt (l m : List FS) (k : Nat) : Prop := crossF l m = crossF (l.drop k) (m.drop k)
theorem CrAt.zero (l m : List FS) : CrAt l m 0 := by unfold CrAt; rw [List.drop_zero, List.drop_zero]
theorem drop_at (l : List FS) (k : Nat) (h : k < l.length) : l.drop k = l.getD k FS.zero :: l.drop (k + 1) := by
  rw [getD_at l k h, List.drop_eq_getElem_cons h]
theorem CrAt.both {l m : List FS} {k : Nat} (h : CrAt l m k) (h1 : k < l.length) (h2 : k < m.length) : crossF l m = if cmpF (l.getD k FS.zero) (m.getD k FS.zero) < 0 then (l.getD k FS.zero, 1) else if 0 < cmpF (l.getD k FS.zero) (m.getD k FS.zero) then (m.getD k FS.zero, 2) else crossF (l.drop (k + 1)) (m.drop (k + 1)) := by
  unfold CrAt at h
  rw [h, drop_at l k h1, drop_at m k h2]; rfl
theorem CrAt.next {l m : List FS} {k : Nat} (h : CrAt l m k) (h1 : k < l.length) (h2 : k < m.length) (hc : cmpF (l.getD k FS.zero) (m.getD k FS.zero) = 0) : CrAt l m (k + 1) := by
  unfold CrAt
  rw [h.both h1 h2, if_neg (by omega), if_neg (by omega)]
theorem CrAt.left {l m : List FS} {k : Nat} (h : CrAt l m k) (h1 : k < l.length) (h2 : m.length ≤ k) : crossF l m = (l.getD k FS.zero, 1) := by
  unfold CrAt at h
  rw [h, drop_at l k h1, List.drop_eq_nil_of_le h2]; rfl
theorem CrAt.right {l m : List FS} {k : Nat} (h : CrAt l m k) (h1 : l.length ≤ k) (h2 : k < m.length) : crossF l m = (m.getD k FS.zero, 2) := by
  unfold CrAt at h
  rw [h, drop_at m k h2, List.drop_eq_nil_of_le h1]; rfl
theorem CrAt.none {l m : List FS} {k : Nat} (h : CrAt l m k) (h1 : l.length ≤ k) (h2 : m.length ≤ k) : crossF l m = (FS.zero, 0) := by
  unfold CrAt at h
  rw [h, List.drop_eq_nil_of_le h2, List.drop_eq_nil_of_le h1]; rfl
/-- What Cross answers. -/
def tupF (x : FS) (n e : Int) : Value := .tuple #[.agg (encF x).toArray, .int .i64 n, .int .i64 e]
def crossV (l m : List FS) : Value := if setB l = true ∧ setB m = true then tupF (crossF l m).1 (crossF l m).2 0 else tupF FS.zero 0 100
theorem crossV_no1 {l m : List FS} (h : setB l = false) : crossV l m = tupF FS.zero 0 100 := by unfold crossV; rw [h]; simp
theorem crossV_no2 {l m : List FS} (h : setB m = false) : crossV l m = tupF FS.zero 0 100 := by unfold crossV; rw [h]; simp
theorem crossV_yes {l m : List FS} (h : setB l = true) (h' : setB m = true) {x : FS} {n : Int} (e : crossF l m = (x, n)) : crossV l m = tupF x n 0 := by unfold crossV; rw [if_pos ⟨h, h'⟩, e]
theorem seg_elem {w : World} {a : Option Addr} {l : List FS} (h : Seg w a (flatF l)) (j : Nat) (hj : j < l.length) : ∃ b o, a = some ⟨b, o, none⟩ ∧ b < w.heap.size ∧ w.rangeAt b (o + j * 49) (encF (l.getD j FS.zero)) := by
  rw [getD_at l j hj]; exact seg_at h j hj
theorem range_grow {w W : World} {b o : Nat} {cs : List Value} (h : w.rangeAt b o cs) (hb : b < w.heap.size) (hB : Below w.heap.size w W) : W.rangeAt b o cs := fun j v hv => (hB.cell (p := ⟨b, o + j, none⟩) hb).trans (h j v hv)
end Go.Proofs.Ytimdmiefjnokmaa

/- Projections in plain mathematics. -/
import Derived.Test.YtbhgchhoeokjhaaA1
import Derived.Test.YtbhgchhoeokjhaaRW
import Derived.Test.YtbhgchhoeokjhaaCE
namespace Go.Proofs.Ytbhgchhoeokjhaa
open Go.RowKit M
set_option linter.unusedSimpArgs false
set_option linter.unusedVariables false

/-- The final state of the values that have these numbers. -/
def prjF (ks : List Int) (x : FS) : FS := mkF (ks.length : Int) (ks.map fun k => x.v.getD k.toNat 0)
/-- All numbers are from 0 to n - 1. -/
def inB (ks : List Int) (n : Int) : Bool := ks.all fun k => decide (0 ≤ k ∧ k < n)
def prjE (l : List FS) (ks : List Int) : Int := if setB l = false then 100 else if 48 < ks.length then 1 else if (l.all fun x => inB ks x.n) = false then 4 else 0
def prjL (l : List FS) (ks : List Int) : List FS := if prjE l ks = 0 then setF (l.map (prjF ks)) else []
theorem cmpF_n {a b : FS} (h : cmpF a b < 0) : a.n ≤ b.n := by
  unfold cmpF at h
  by_cases h1 : a.n < b.n
  · omega
  · by_cases h2 : b.n < a.n
    · rw [if_neg h1, if_pos h2] at h; omega
    · omega
theorem inB_le {ks : List Int} {n m : Int} (h : inB ks n = true) (hm : n ≤ m) : inB ks m = true := by
  unfold inB at *
  rw [List.all_eq_true] at *
  intro k hk
  have := h k hk
  simp at *
  omega
theorem inB_all {l : List FS} {ks : List Int} (h : IsSet l) (h0 : 0 < l.length) : (l.all fun x => inB ks x.n) = inB ks (l.getD 0 FS.zero).n := by
  cases l with
  | nil => simp at h0
  | cons y l =>
    have e : (y :: l).getD 0 FS.zero = y := rfl
    rw [e, List.all_cons]
    cases hq : inB ks y.n with
    | false => rfl
    | true =>
      rw [Bool.true_and, List.all_eq_true]
      intro x hx
      exact inB_le hq (cmpF_n (h.1.head x hx))
theorem prjE_100 {l : List FS} {ks : List Int} (h : setB l = false) : prjE l ks = 100 := by unfold prjE; rw [if_pos h]
theorem prjE_1 {l : List FS} {ks : List Int} (h : setB l = true) (h' : 48 < ks.length) : prjE l ks = 1 := by unfold prjE; rw [if_neg (by rw [h]; simp), if_pos h']
theorem prjE_4 {l : List FS} {ks : List Int} (h : setB l = true) (h' : ¬ 48 < ks.length) (h2 : (l.all fun x => inB ks x.n) = false) : prjE l ks = 4 := by unfold prjE; rw [if_neg (by rw [h]; simp), if_neg h', if_pos h2]
theorem prjE_0 {l : List FS} {ks : List Int} (h : setB l = true) (h' : ¬ 48 < ks.length) (h2 : (l.all fun x => inB ks x.n) = true) : prjE l ks = 0 := by unfold prjE; rw [if_neg (by rw [h]; simp), if_neg h', if_neg (by rw [h2]; simp)]
theorem prjL_bad {l : List FS} {ks : List Int} (h : prjE l ks ≠ 0) : prjL l ks = [] := by unfold prjL; rw [if_neg h]
theorem prjL_ok {l : List FS} {ks : List Int} (h : prjE l ks = 0) : prjL l ks = setF (l.map (prjF ks)) := by unfold prjL; rw [if_pos h]
theorem prjL_len (l : List FS) (ks : List Int) : (prjL l ks).length ≤ l.length := by
  unfold prjL
  split
  · have := setF_len (l.map (prjF ks)); rwa [List.length_map] at this
  · simp
theorem inB_at {ks : List Int} {n : Int} (h : inB ks n = true) (j : Nat) (hj : j < ks.length) : 0 ≤ ks.getD j 0 ∧ ks.getD j 0 < n := by
  unfold inB at h
  rw [List.all_eq_true] at h
  have := h (ks.getD j 0) (by simp [hj])
  simpa using this
theorem inB_no {ks : List Int} {n : Int} {j : Nat} (hj : j < ks.length) (h : ¬ (0 ≤ ks.getD j 0 ∧ ks.getD j 0 < n)) : inB ks n = false := by
  rw [Bool.eq_false_iff]
  intro e
  exact h (inB_at e j hj)
theorem inB_yes {ks : List Int} {n : Int} (h : ∀ j, j < ks.length → 0 ≤ ks.getD j 0 ∧ ks.getD j 0 < n) : inB ks n = true := by
  unfold inB
  rw [List.all_eq_true]
  intro k hk
  obtain ⟨j, hj, rfl⟩ := List.getElem_of_mem hk
  have := h j hj
  rw [List.getD_eq_getElem?_getD, List.getElem?_eq_getElem hj] at this
  simpa using this
theorem all_noF {l : List FS} {ks : List Int} {j : Nat} (hj : j < l.length) (h : inB ks (l.getD j FS.zero).n = false) : (l.all fun x => inB ks x.n) = false := by
  rw [Bool.eq_false_iff]
  intro e
  rw [List.all_eq_true] at e
  have := e (l.getD j FS.zero) (by simp [hj])
  rw [h] at this; cases this
theorem all_yesF {l : List FS} {ks : List Int} (h : ∀ j, j < l.length → inB ks (l.getD j FS.zero).n = true) : (l.all fun x => inB ks x.n) = true := by
  rw [List.all_eq_true]
  intro x hx
  obtain ⟨j, hj, rfl⟩ := List.getElem_of_mem hx
  have := h j hj
  rwa [getD_at l j hj] at this
/-- The projection's values one by one. -/
theorem prj_take (ks : List Int) (x : FS) (j : Nat) (hj : j < ks.length) : (ks.take (j + 1)).map (fun k => x.v.getD k.toNat 0) = (ks.take j).map (fun k => x.v.getD k.toNat 0) ++ [x.v.getD (ks.getD j 0).toNat 0] := by
  rw [List.take_succ_eq_append_getElem hj, List.map_append]
  simp [hj]
/-- Numbers in memory. -/
def NumS (w : World) (a : Option Addr) (ks : List Int) : Prop := Seg w a (ks.map (Value.int .i64))
theorem NumS.at {w : World} {a : Option Addr} {ks : List Int} (h : NumS w a ks) (j : Nat) (hj : j < ks.length) : ∃ b o, a = some ⟨b, o, none⟩ ∧ b < w.heap.size ∧ w.cell? ⟨b, o + j, none⟩ = some (.int .i64 (ks.getD j 0)) := by
  refine h j _ ?_
  rw [List.getElem?_map, List.getElem?_eq_getElem hj]
  simp [hj]
theorem NumS.below {w W : World} {a : Option Addr} {ks : List Int} (h : NumS w a ks) (hB : Below w.heap.size w W) : NumS W a ks := Seg.below h hB
end Go.Proofs.Ytbhgchhoeokjhaa

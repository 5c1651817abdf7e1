/- The reference's Makes: its mathematics. -/
import Derived.Test.YtcmkoffamolgmaaR1
namespace Go.Proofs.Ytcmkoffamolgmaa
open Go.RowKit M
set_option linter.unusedSimpArgs false
set_option linter.unusedVariables false

/-- The last nodes of the trees so far, the first tree's first. -/
def heapL (st : List Tr) (i : Nat) : List Int := (rootsL st i).reverse
theorem heapL_len (st : List Tr) (i : Nat) : (heapL st i).length = st.length := by unfold heapL; rw [List.length_reverse, rootsL_len]
theorem heap_leaf (t : Tr) (ht : t.sz = 1) (st : List Tr) (i : Nat) : heapL (t :: st) (i + 1) = heapL st i ++ [(i : Int)] := by
  unfold heapL
  simp [rootsL, ht]
theorem heap_one (t u : Tr) (r : List Tr) (i : Nat) (ht : t.sz = u.sz + 1) : heapL (t :: r) (i + 1) = (heapL (u :: r) i).take r.length ++ [(i : Int)] := by
  unfold heapL
  simp only [rootsL, List.reverse_cons, ht]
  rw [show i + 1 - (u.sz + 1) = i - u.sz by omega, List.take_append_of_le_length (by simp [rootsL_len]), List.take_of_length_le (by simp [rootsL_len])]
  simp
theorem heap_two (t x y : Tr) (r : List Tr) (i : Nat) (ht : t.sz = x.sz + y.sz + 1) : heapL (t :: r) (i + 1) = (heapL (y :: x :: r) i).take r.length ++ [(i : Int)] := by
  unfold heapL
  simp only [rootsL, List.reverse_cons, ht]
  rw [show i + 1 - (x.sz + y.sz + 1) = i - y.sz - x.sz by omega, List.append_assoc, List.take_append_of_le_length (by simp [rootsL_len]), List.take_of_length_le (by simp [rootsL_len])]
  simp
theorem heap_top (t : Tr) (r : List Tr) (i : Nat) : (heapL (t :: r) i)[r.length]? = some ((i : Int) - 1) := by
  unfold heapL
  simp only [rootsL, List.reverse_cons]
  rw [List.getElem?_append_right (by simp [rootsL_len])]
  simp [rootsL_len]
theorem heap_sec (y x : Tr) (r : List Tr) (i : Nat) (h : y.sz ≤ i) : (heapL (y :: x :: r) i)[r.length]? = some ((i : Int) - y.sz - 1) := by
  unfold heapL
  simp only [rootsL, List.reverse_cons]
  rw [List.getElem?_append_left (by simp [rootsL_len]), List.getElem?_append_right (by simp [rootsL_len])]
  simp [rootsL_len]
  omega
end Go.Proofs.Ytcmkoffamolgmaa

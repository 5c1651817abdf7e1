/- fits: whether a state is one of a shape. -/
import Derived.Test.YtegpnicajlndlaaCS1
namespace Go.Proofs.Ytegpnicajlndlaa
open Go.RowKit M
set_option linter.unusedSimpArgs false
set_option linter.unusedVariables false

theorem wi (n lo hi : Int) (W : World) (b : Bool) (h : decide (lo ≤ n ∧ n ≤ hi) = b) : Calls Try.prog 89 #[.int .i64 n, .int .i64 lo, .int .i64 hi] W fun e w' => e = .returned (.bool b) ∧ Below W.heap.size W w' := by
  subst h
  exact (withinI_any n lo hi W).mono fun e w' ⟨h1, h2⟩ => ⟨h1, by rw [h2]; exact Below.refl _ _⟩
theorem getD_some {α : Type} {l : List α} {i : Nat} {x d : α} (h : l[i]? = some x) : l.getD i d = x := getDS_of h
theorem six_one {a1 a2 a3 a4 a5 : Option Addr} {n1 n2 n3 n4 n5 c1 c2 c3 c4 c5 : Nat} {z : Int} : ∀ v ∈ [Value.slice a1 n1 c1, .slice a2 n2 c2, .slice a3 n3 c3, .slice a4 n4 c4, .slice a5 n5 c5, .int .i64 z], v.oneCell' = true := by
  intro v hv
  simp only [List.mem_cons, List.not_mem_nil, or_false] at hv
  rcases hv with rfl | rfl | rfl | rfl | rfl | rfl <;> rfl

set_option maxRecDepth 100000 in
set_option maxHeartbeats 8000000 in
/-- Where the lengths are unlike. -/
theorem fits_lens (n nl np nh ng nm nb : Nat) (ai ar ap ah ag am ab : Option Addr) (ci cr cp ch cg cm cb : Nat) (lk : Int) (w : World)
    (hb : np ≤ 1048576 ∧ nh ≤ 1048576 ∧ ng ≤ 1048576 ∧ nm ≤ 1048576 ∧ nb ≤ 1048576 ∧ n ≤ 1048576 ∧ nl ≤ 1048576) (h : ¬ (np = n ∧ nh = n ∧ ng = n ∧ nb = n ∧ nm = nl)) :
    Calls Try.prog 42 #[.agg #[.slice ai n ci, .slice ar n cr, .int .i64 (nl : Int)], .agg #[.slice ap np cp, .slice ah nh ch, .slice ag ng cg, .slice am nm cm, .slice ab nb cb, .int .i64 lk]] w fun e w' => e = .returned (.bool false) ∧ Below w.heap.size w w' := by
  obtain ⟨i1, i2, i3, i4, i5, i6, i7⟩ : (np : Int) ≤ 1048576 ∧ (nh : Int) ≤ 1048576 ∧ (ng : Int) ≤ 1048576 ∧ (nm : Int) ≤ 1048576 ∧ (nb : Int) ≤ 1048576 ∧ (n : Int) ≤ 1048576 ∧ (nl : Int) ≤ 1048576 := by omega
  have HNE : Hid (¬ (np = n ∧ nh = n ∧ ng = n ∧ nb = n ∧ nm = nl)) := h
  clear h hb
  have t1 : True := trivial
  have t2 : True := trivial
  go_enter Try.func42, Try.ntmps42
  go_wp2_with (first
    | (clear t1; refine wpList_boxS rfl 105 _ rfl [.slice ai n ci, .slice ar n cr, .int .i64 (nl : Int)] rfl ?_; intro W0 b2 F0 C0; have B0 := F_b F0; clear F0)
    | (clear t2; refine wpList_boxS rfl 32 _ rfl [.slice ap np cp, .slice ah nh ch, .slice ag ng cg, .slice am nm cm, .slice ab nb cb, .int .i64 lk] rfl ?_; intro W1 b3 F1 C3; have B1 := F1.trans B0 B0.size; have C2 := C0.fresh F1; obtain ⟨y0, y1, y2⟩ := three_cells C2; obtain ⟨x0, x1, x2, x3, x4, x5⟩ := st6 C3; clear F1 C0 C2 C3 B0))
  all_goals first
    | (go_ret; exact ⟨rfl, B1⟩)
    | (exfalso; have h := HNE.out; have q6 : (nm : Int) = nl := (by have q := ‹((nm : Int) != (nl : Int)) = false›; simpa using q); omega)
theorem flat_mem {α : Type} {l : List (List α)} {x : List α} (h : x ∈ l) : x.length ≤ l.flatten.length := by
  induction l with
  | nil => cases h
  | cons y l ih =>
    rw [List.flatten_cons, List.length_append]
    rcases List.mem_cons.1 h with rfl | h
    · omega
    · have := ih h; omega
theorem flat_row {α : Type} {l : List (List α)} {j : Nat} {x : List α} (h : l.flatten.length ≤ 1048576) (hx : l[j]? = some x) : x.length ≤ 1048576 := Nat.le_trans (flat_mem (List.mem_of_getElem? hx)) h
end Go.Proofs.Ytegpnicajlndlaa

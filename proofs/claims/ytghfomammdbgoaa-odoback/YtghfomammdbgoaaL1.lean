/- The law's helpers: the document's first example, and how many weaves of two lengths there are. -/
import Derived.Test.YtghfomammdbgoaaA4
namespace Go.Proofs.Ytghfomammdbgoaa
open Go.RowKit Go.Shelf K
set_option linter.unusedSimpArgs false
set_option linter.unusedVariables false

theorem at_example : atP [2, 3] 4 = [1, 1] := by decide
theorem rk_example : rkP [2, 3] [1, 2] 2 = 5 := by decide
theorem has_example : HasP [2, 3] [1, 2] := ⟨rfl, fun j hj => by
  match j, hj with
  | 0, _ => decide
  | 1, _ => decide
  | n + 2, h => exact absurd h (by simp)⟩
theorem lit_row (w : World) (zs : List Int) : Nums (w.alloc (.cells (intsZ zs).toArray 3)) (some ⟨w.heap.size, 0, none⟩) zs := (RowZ.new w zs).nums
theorem lit2 (w : World) (x y : Int) : Nums (w.alloc (.cells #[.int .i64 x, .int .i64 y] 3)) (some ⟨w.heap.size, 0, none⟩) [x, y] := lit_row w [x, y]
theorem below_lit (w : World) (o : Obj) : Below w.heap.size w (w.alloc o) := (Below.refl _ w).alloc (Nat.le_refl _) o

set_option maxRecDepth 100000 in
set_option maxHeartbeats 1000000 in
theorem awake_any (w : World) : Calls Try.prog 20 #[] w fun e w' => e = .returned (.bool true) ∧ Below w.heap.size w w' := by
  have c1 := product_ok (some ⟨w.heap.size, 0, none⟩) 2 [2, 3] (w.alloc (.cells #[.int .i64 2, .int .i64 3] 3)) (lit2 w 2 3) (fun e => by cases e) (by decide) (by decide)
  simp only [List.length_cons, List.length_nil, Nat.reduceAdd] at c1
  go_enter Try.func20, Try.ntmps20
  go_wp2_with (first
    | (go_at_call 22; refine c1.mono ?_; rintro e w2 ⟨⟨b, rfl, hP⟩, hB2⟩; have c2 := pAt hP 4 (by decide) (by decide); rw [at_example] at c2)
    | (go_at_call 11; refine c2.mono ?_; rintro e w3 ⟨⟨v', rfl, b', c', rfl, hr⟩, hB3⟩; have c3 := pRank ((hP.below hB3).below (below_lit w3 (.cells #[.int .i64 1, .int .i64 2] 3))) (by decide) (some ⟨w3.heap.size, 0, none⟩) 2 [1, 2] (lit2 w3 1 2) has_example; simp only [List.length_cons, List.length_nil, Nat.reduceAdd, rk_example] at c3)
    | (go_at_call 14; refine c3.mono ?_; rintro e w4 ⟨rfl, hB4⟩; have hr4 := (hr.alloc (.cells #[.int .i64 1, .int .i64 2] 3)).below hB4; have c4 := same_any (some ⟨b', 0, none⟩) (some ⟨w4.heap.size, 0, none⟩) c' 2 [1, 1] (w4.alloc (.cells #[.int .i64 1, .int .i64 1] 3)) (hr4.alloc _).nums (lit2 w4 1 1) (by decide); simp only [List.length_cons, List.length_nil, Nat.reduceAdd] at c4)
    | (go_at_call 13; refine c4.mono ?_; rintro e w5 ⟨rfl, hB5⟩))
  go_ret
  refine ⟨rfl, ?_⟩
  have h1 := Below.then (below_lit w (.cells #[.int .i64 2, .int .i64 3] 3)) hB2
  have h2 := Below.then h1 hB3
  have h3 := Below.then (Below.then h2 (below_lit w3 (.cells #[.int .i64 1, .int .i64 2] 3))) hB4
  exact Below.then (Below.then h3 (below_lit w4 (.cells #[.int .i64 1, .int .i64 1] 3))) hB5

theorem chs_half (n k : Nat) : chs (n + 1) k ≤ 2 ^ n := by
  induction n generalizing k with
  | zero =>
    match k with
    | 0 => simp [chs_zero]
    | 1 => decide
    | k + 2 => rw [chs_big 1 (k + 2) (by omega)]; exact Nat.zero_le _
  | succ n ih =>
    cases k with
    | zero => rw [chs_zero]; exact Nat.one_le_two_pow
    | succ k => rw [chs_pascal, Nat.pow_succ]; have := ih k; have := ih (k + 1); omega
theorem scale_step (M N k : Nat) : M * chs (N + k) k * (N + k + 1) / (k + 1) = M * chs (N + (k + 1)) (k + 1) := by
  have h := chs_step (N + k) k
  have e : M * chs (N + k) k * (N + k + 1) = M * chs (N + (k + 1)) (k + 1) * (k + 1) := by
    rw [Nat.mul_assoc, ← h, ← Nat.mul_assoc]; rfl
  rw [e]
  exact Nat.mul_div_cancel _ (by omega)
theorem chs_room (n k : Nat) (h : n ≤ 59) : chs n k * (n + 1) < 18446744073709551616 := by
  cases n with
  | zero => have := chs_two 0 k; simp at this; omega
  | succ n =>
    have h1 := chs_half n k
    have h2 : 2 ^ n ≤ 2 ^ 58 := Nat.pow_le_pow_right (by omega) (by omega)
    have h3 : chs (n + 1) k * (n + 1 + 1) ≤ 2 ^ 58 * 60 := Nat.mul_le_mul (by omega) (by omega)
    have h4 : (2 : Nat) ^ 58 * 60 < 18446744073709551616 := by decide
    omega
theorem scale_two (x y : Nat) (hx : x ≤ 30) (hy : y ≤ 30) : ScaleAt [x, y] := by
  intro i k hi hk hc W
  have key : wvN 0 ([x, y].take i) * chs (sumN ([x, y].take i) + k) k * (sumN ([x, y].take i) + k + 1) < 18446744073709551616 ∧ sumN ([x, y].take i) + k + 1 ≤ 60 ∧ k < 30 := by
    match i, hi with
    | 0, _ =>
      simp only [List.take_zero, wvN, sumN, Nat.zero_add, chs_self, Nat.one_mul]
      simp at hk
      omega
    | 1, _ =>
      simp at hk
      have e1 : wvN 0 ([x, y].take 1) = 1 := by simp [wvN, chs_self]
      have e2 : sumN ([x, y].take 1) = x := by simp [sumN]
      rw [e1, e2, Nat.one_mul]
      exact ⟨chs_room (x + k) k (by omega), by omega, by omega⟩
    | n + 2, h => exact absurd h (by simp)
  have := scale_low (wvN 0 ([x, y].take i) * chs (sumN ([x, y].take i) + k) k) (sumN ([x, y].take i) + k + 1) (k + 1) hc (by omega) (by omega) (by omega) key.1 W
  rw [scale_step] at this
  exact this

set_option maxRecDepth 100000 in
set_option maxHeartbeats 1000000 in
theorem two_any (x y : Nat) (w : World) (hx : x ≤ 30) (hy : y ≤ 30) :
    Calls Try.prog 24 #[.int .i64 x, .int .i64 y] w fun e w' => e = .returned (.int .u64 (chs (x + y) y : Nat)) ∧ Below w.heap.size w w' := by
  have c1 := weaves_ok (some ⟨w.heap.size, 0, none⟩) 2 [x, y] (w.alloc (.cells #[.int .i64 x, .int .i64 y] 3)) (lit2 w x y) (fun e => by cases e) (by simp) (by simp [sumN]; omega)
  have hs := scale_two x y hx hy
  have hlt : chs (x + y) y < 18446744073709551616 := by
    have h1 := chs_two (x + y) y
    have h2 : 2 ^ (x + y) ≤ 2 ^ 60 := Nat.pow_le_pow_right (by omega) (by omega)
    have h3 : (2 : Nat) ^ 60 < 18446744073709551616 := by decide
    omega
  have E : Hid (lenV (wvN 0 [x, y]) = .tuple #[.int .u64 (chs (x + y) y : Nat), .int .i64 0]) := (show lenV (wvN 0 [x, y]) = _ by rw [wvN_two]; exact if_pos hlt)
  simp only [List.length_cons, List.length_nil, Nat.reduceAdd] at c1
  have HS : Hid (ScaleAt [x, y]) := hs
  clear hs hlt
  go_enter Try.func24, Try.ntmps24
  go_wp2_with (first
    | (go_at_call 26; refine c1.mono ?_; rintro e w2 ⟨⟨b, rfl, hP⟩, hB2⟩; have c2 := wlen hP HS.out; rw [E.out] at c2)
    | (go_at_call 9; refine c2.mono ?_; rintro e w3 ⟨rfl, hB3⟩))
  go_ret
  exact ⟨rfl, Below.then (Below.then (below_lit w (.cells #[.int .i64 x, .int .i64 y] 3)) hB2) hB3⟩
end Go.Proofs.Ytghfomammdbgoaa

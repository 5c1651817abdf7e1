/- Weaves: what at and rank need: lists in memory that are stored into, shares. -/
import Derived.Test.YtghfomammdbgoaaV3
namespace Go.Proofs.Ytghfomammdbgoaa
open Go.RowKit Go.Shelf Go.Sort K
set_option linter.unusedSimpArgs false
set_option linter.unusedVariables false

/-- A block's first cells hold these numbers, and may be stored into. -/
def HZ (w : World) (g : Nat) (zs : List Int) : Prop := ∀ j, j < zs.length → w.cell? ⟨g, j, none⟩ = some (.int .i64 (zs.getD j 0)) ∧ w.frozen? ⟨g, j, none⟩ = false
theorem HZ.nums {w : World} {g : Nat} {zs : List Int} (h : HZ w g zs) : Nums w (some ⟨g, 0, none⟩) zs := fun j hj => ⟨g, 0, rfl, by rw [Nat.zero_add]; exact (h j hj).1⟩
theorem HZ.block {w W : World} {g : Nat} {zs : List Int} (h : HZ w g zs) (e : W.heap[g]? = w.heap[g]?) : HZ W g zs := fun j hj => by
  have h1 := h j hj
  simp only [World.cell?, World.frozen?, e] at h1 ⊢
  exact h1
theorem HZ.upd {w W : World} {g b : Nat} {zs : List Int} (h : HZ w g zs) (U : Upd w W b) (hne : g ≠ b) : HZ W g zs := h.block (U.block g hne)
theorem HZ.below {w W : World} {g : Nat} {zs : List Int} (h : HZ w g zs) (hB : Below w.heap.size w W) (hg : g < w.heap.size) : HZ W g zs := h.block (hB.block g hg)
theorem HZ.set {w : World} {g : Nat} {zs : List Int} (h : HZ w g zs) (j : Nat) (z : Int) (hj : j < zs.length) : HZ (w.setCell ⟨g, j, none⟩ (.int .i64 z)) g (zs.set j z) := fun k hk => by
  rw [List.length_set] at hk
  have h1 := h k hk
  refine ⟨?_, by rw [World.frozen?_setCell]; exact h1.2⟩
  rw [List.getD_eq_getElem?_getD, List.getElem?_set]
  by_cases e : j = k
  · subst e
    rw [if_pos rfl, if_pos hj, Option.getD_some]
    exact World.cell?_setCell_same _ _ _ h1.1
  · rw [if_neg e, World.cell?_setCell_other _ _ _ _ (fun e2 => e (by cases e2; rfl)), ← List.getD_eq_getElem?_getD]
    exact h1.1
theorem hz_own {W : World} {base : Nat} {v : Value} {zs : List Int} (h : OwnZ W base v zs) (h0 : zs ≠ []) : ∃ g cap, v = .slice (some ⟨g, 0, none⟩) zs.length cap ∧ base ≤ g ∧ g < W.heap.size ∧ HZ W g zs := by
  have hl : zs.length ≠ 0 := fun e => h0 (List.eq_nil_of_length_eq_zero e)
  have h' : W.ownsRow base 3 1 v zs.length (intsZ zs) := h
  rcases h'.2 with ⟨_, h1⟩ | ⟨g, cap, cur, rfl, hg, hh, rest⟩
  · exact absurd h1 hl
  · refine ⟨g, cap, rfl, hg, (Array.getElem?_eq_some_iff.1 hh).1, fun j hj => ⟨?_, h'.frozenAt j⟩⟩
    rw [h'.cellAt j (by omega)]
    simp [intsZ, hj]

theorem getD_le_sum : ∀ (c : List Nat) (i : Nat), c.getD i 0 ≤ sumN c
  | [], i => by simp
  | a :: l, 0 => by show a ≤ a + sumN l; omega
  | a :: l, i + 1 => by have := getD_le_sum l i; show l.getD i 0 ≤ a + sumN l; omega
theorem shW_le (c : List Nat) (i : Nat) (h0 : 0 < sumN c) : shW c i ≤ wvN 0 c := by
  unfold shW
  exact Nat.div_le_of_le_mul (by rw [Nat.mul_comm]; exact Nat.mul_le_mul_right _ (getD_le_sum c i))
theorem share_at (c : List Nat) (i : Nat) (w : World) (h0 : 0 < sumN c) (hs : sumN c ≤ 64) (h64 : wvN 0 c < 18446744073709551616) :
    Calls Try.prog 115 #[.int .u64 (wvN 0 c : Nat), .int .i64 (c.getD i 0 : Nat), .int .i64 (sumN c : Nat)] w fun e w' => e = .returned (.int .u64 (shW c i : Nat)) ∧ Below w.heap.size w w' :=
  share_any (wvN 0 c) (c.getD i 0) (sumN c) w h64 (Nat.le_trans (getD_le_sum c i) hs) h0 hs (Nat.lt_of_le_of_lt (shW_le c i h0) h64)
theorem zsOf_dec (c : List Nat) (i : Nat) (h : 0 < c.getD i 0) : (zsOf c).set i (((c.getD i 0 : Nat) : Int) - 1) = zsOf (dec c i) := by
  unfold dec zsOf
  rw [List.map_set]
  congr 1
  omega
theorem scan_step {c : List Nat} {k i n : Nat} (h : ¬ n < shW c i) : scanW c (k + 1) i n = scanW c k (i + 1) (n - shW c i) := by rw [scanW, if_neg h]
theorem scan_stop {c : List Nat} {k i n : Nat} (h : n < shW c i) : scanW c (k + 1) i n = (i, n) := by rw [scanW, if_pos h]
end Go.Proofs.Ytghfomammdbgoaa

/- Orders: the numbers that rise; where a number stands in a list; whether two lists are the same. -/
import Derived.Test.YtghfomammdbgoaaQ5
namespace Go.Proofs.Ytghfomammdbgoaa
open Go.RowKit Go.Shelf K
set_option linter.unusedSimpArgs false
set_option linter.unusedVariables false

/-- The numbers below n. -/
def risZ (n : Nat) : List Int := (List.range n).map fun i : Nat => (i : Int)
/-- The first k are laid. -/
def risL (n k : Nat) : List Int := (List.range n).map fun i : Nat => if i < k then (i : Int) else 0
theorem risZ_len (n : Nat) : (risZ n).length = n := by simp [risZ]
theorem risL_len (n k : Nat) : (risL n k).length = n := by simp [risL]
theorem risL_zero (n : Nat) : risL n 0 = List.replicate n 0 := by
  apply List.ext_getElem (by simp [risL])
  intro i h1 h2
  simp [risL]
theorem risL_all (n : Nat) : risL n n = risZ n := by
  apply List.ext_getElem (by simp [risL, risZ])
  intro i h1 h2
  have : i < n := by simpa [risL] using h1
  simp [risL, risZ, this]
theorem risL_set (n k : Nat) : (risL n k).set k (k : Int) = risL n (k + 1) := by
  apply List.ext_getElem (by simp [risL])
  intro i h1 h2
  rw [List.getElem_set]
  by_cases e : k = i
  · subst e; simp [risL]
  · simp only [risL, List.getElem_map, List.getElem_range, if_neg e]
    by_cases h : i < k
    · rw [if_pos h, if_pos (by omega)]
    · rw [if_neg h, if_neg (by omega)]

set_option maxRecDepth 100000 in
set_option maxHeartbeats 1000000 in
theorem rising_any (n : Nat) (w : World) (hn : n ≤ 64) :
    Calls Try.prog 81 #[.int .i64 n] w fun e w' => (e = .returned (.slice (some ⟨w.heap.size, 0, none⟩) n n) ∧ RowZ w' w.heap.size (risZ n)) ∧ Below w.heap.size w w' := by
  have hmk := make22 n hn
  have r0 : Hid (RowZ (w.alloc (.cells (intsZ (List.replicate n 0)).toArray 3)) w.heap.size (risL n 0)) := by
    show RowZ _ _ _
    rw [risL_zero]; exact RowZ.new w (List.replicate n 0)
  have B0 : Below w.heap.size w (w.alloc (.cells (intsZ (List.replicate n 0)).toArray 3)) := (Below.refl _ w).alloc (Nat.le_refl _) _
  go_enter Try.func81, Try.ntmps81
  go_wp2
  clear hmk
  go_loopw [4, 9] (fun x i wr => ∃ k : Nat, k ≤ n ∧ i = .int .i64 k ∧ RowZ wr w.heap.size (risL n k) ∧ Below w.heap.size w wr) (fun _ i _ => n - (intOf i).toNat)
  case atStart => exact ⟨0, by omega, rfl, r0.out, B0⟩
  case round =>
    obtain ⟨k, hk, rfl, hr, hB⟩ := hrel
    clear r0 B0
    by_cases hlt : k < n
    · have hki : (k : Int) < (n : Int) := by omega
      have hc := hr.cell k (by rw [risL_len]; exact hlt)
      have hf := hr.frozen k
      have HR : Hid (RowZ (wr.setCell ⟨w.heap.size, k, none⟩ (.int .i64 k)) w.heap.size (risL n (k + 1))) := by
        show RowZ _ _ _
        rw [← risL_set]; exact hr.set k k
      have U := Upd.setCell wr w.heap.size k (.int .i64 k)
      have HB : Hid (Below w.heap.size w (wr.setCell ⟨w.heap.size, k, none⟩ (.int .i64 k))) := U.trans hB (Nat.le_refl _)
      clear U hr hB
      generalize (risL n k).getD k 0 = z at *
      go_wp2
      go_roundw
      case rel => exact ⟨k + 1, by omega, by go_num, HR.out, HB.out⟩
      case measure => simp [intOf]; omega
    · obtain rfl : k = n := by omega
      rw [risL_all] at hr
      go_wp2
      go_ret
      exact ⟨⟨rfl, hr⟩, hB⟩

/-- The place of the first x, or the length. -/
theorem idxOf_snoc_ne {zs : List Int} {x : Int} {k : Nat} (hk : k < zs.length) (h : ∀ j, j < k → zs.getD j 0 ≠ x) (he : zs.getD k 0 = x) : zs.idxOf x = k := by
  have h1 : zs[k] = x := by
    rw [List.getD_eq_getElem?_getD, List.getElem?_eq_getElem hk] at he; exact he
  have hm : x ∈ zs := h1 ▸ List.getElem_mem hk
  have hi := List.idxOf_lt_length_iff.2 hm
  have h2 : ¬ zs.idxOf x < k := fun hlt => by
    have := h _ hlt
    rw [List.getD_eq_getElem?_getD, List.getElem?_eq_getElem hi] at this
    simp at this
  have h3 : ¬ k < zs.idxOf x := fun hlt => by
    have := List.not_of_lt_findIdx (p := (· == x)) (xs := zs) (i := k) hlt
    simp at this
    exact this h1
  omega

set_option maxRecDepth 100000 in
set_option maxHeartbeats 1000000 in
theorem index_any (a : Option Addr) (cap : Nat) (zs : List Int) (x : Int) (w : World) (hN : Hid (Nums w a zs)) (hl : zs.length ≤ 64) (hx : Hid (x ∈ zs)) :
    Calls Try.prog 85 #[.slice a zs.length cap, .int .i64 x] w fun e w' => e = .returned (.int .i64 (zs.idxOf x : Nat)) ∧ w' = w := by
  go_enter Try.func85, Try.ntmps85
  go_wp2
  go_loop [5, 8] (fun _ i => ∃ k : Nat, k ≤ zs.length ∧ Hid (∀ j, j < k → zs.getD j 0 ≠ x) ∧ i = .int .i64 k) (fun _ i => zs.length - (intOf i).toNat)
  case atStart => exact ⟨0, by omega, fun j hj => absurd hj (by omega), rfl⟩
  case round =>
    obtain ⟨k, hk, HF, rfl⟩ := hrel
    by_cases hlt : k < zs.length
    · obtain ⟨b, off, rfl, hc⟩ := hN.out k hlt
      have hki : (k : Int) < (zs.length : Int) := by omega
      clear hN
      by_cases he : zs.getD k 0 = x
      · have HE : Hid (zs.idxOf x = k) := idxOf_snoc_ne hlt HF.out he
        rw [he] at hc
        clear he HF hx
        go_wp2
        go_ret
        exact ⟨by rw [HE.out]; rfl, rfl⟩
      · have HS : Hid (∀ j, j < k + 1 → zs.getD j 0 ≠ x) := fun j hj => by
          by_cases e : j = k
          · subst e; exact he
          · exact HF.out j (by omega)
        have hne : (x == zs.getD k 0) = false := beq_eq_false_iff_ne.2 fun e => he e.symm
        have hne2 : ¬ (x = zs.getD k 0) := fun e => he e.symm
        clear HF hx he
        generalize zs.getD k 0 = z at *
        go_wp2
        go_round
        case rel => exact ⟨k + 1, by omega, HS, by go_num⟩
        case measure => simp [intOf]; omega
    · obtain rfl : k = zs.length := by omega
      exfalso
      obtain ⟨j, hj, e⟩ := List.getElem_of_mem hx.out
      refine HF.out j hj ?_
      rw [List.getD_eq_getElem?_getD, List.getElem?_eq_getElem hj]
      exact e

set_option maxRecDepth 100000 in
set_option maxHeartbeats 1000000 in
theorem equal_any (a b : Option Addr) (c d : Nat) (xs ys : List Int) (w : World) (hA : Hid (Nums w a xs)) (hB : Hid (Nums w b ys)) (hl : xs.length ≤ 1152921504606846976) (hs : Hid (ys.length = xs.length)) :
    Calls Try.prog 87 #[.slice a xs.length c, .slice b xs.length d] w fun e w' => Says (xs = ys) e ∧ Below w.heap.size w w' := by
  have mono_drew2 : ∀ {f : Nat} {args : Array Value} {w : World}, Calls Try.prog f args w (fun e w' => Says (xs = ys) e ∧ ∃ n, w' = w.drewN n) → Calls Try.prog f args w (fun e w' => Says (xs = ys) e ∧ Below w.heap.size w w') := fun h => h.mono (by
    rintro e w' ⟨h, n, rfl⟩
    exact ⟨h, below_drewN (Below.refl _ _) n⟩)
  refine mono_drew2 ?_
  go_enter Try.func87, Try.ntmps87
  go_wp2
  go_loopw [5, 13] (fun _ i wr => ∃ k : Nat, k ≤ xs.length ∧ i = .int .i64 k ∧ Hid (∀ j, j < k → xs.getD j 0 = ys.getD j 0) ∧ ∃ n, wr = w.drewN n) (fun _ i _ => xs.length - (intOf i).toNat)
  case atStart => exact ⟨0, by omega, rfl, fun j hj => absurd hj (by omega), 0, rfl⟩
  case round =>
    obtain ⟨k, hk, rfl, HF, n, rfl⟩ := hrel
    by_cases hlt : k < xs.length
    · obtain ⟨b1, o1, rfl, hc1⟩ := hA.out k hlt
      obtain ⟨b2, o2, rfl, hc2⟩ := hB.out k (by rw [hs.out]; exact hlt)
      have hki : (k : Int) < (xs.length : Int) := by omega
      clear hA hB
      by_cases he : xs.getD k 0 = ys.getD k 0
      · have HS : Hid (∀ j, j < k + 1 → xs.getD j 0 = ys.getD j 0) := fun j hj => by
          by_cases e : j = k
          · subst e; exact he
          · exact HF.out j (by omega)
        rw [← he] at hc2
        clear he HF hs
        generalize xs.getD k 0 = z at *
        go_wp2
        go_quiet (fail)
        go_wp2
        go_roundw
        case rel => exact ⟨k + 1, by omega, by go_num, HS, _, rfl⟩
        case measure => simp [intOf]; omega
      · have HN : Hid (¬ xs = ys) := fun e => he (by rw [e])
        have hne2 : (xs.getD k 0 == ys.getD k 0) = false := beq_eq_false_iff_ne.2 he
        clear HF hs
        generalize xs.getD k 0 = z at *
        generalize ys.getD k 0 = u at *
        go_wp2
        go_quiet (fail)
        go_wp2
        go_ret
        exact ⟨⟨_, rfl, fun h => (Bool.noConfusion h), fun h => absurd h HN.out⟩, n + nq, by simp [World.drewN, Nat.add_assoc]⟩
    · obtain rfl : k = xs.length := by omega
      have HE : Hid (xs = ys) := by
        apply List.ext_getElem hs.out.symm
        intro j h1 h2
        have := HF.out j h1
        rw [List.getD_eq_getElem?_getD, List.getD_eq_getElem?_getD, List.getElem?_eq_getElem h1, List.getElem?_eq_getElem h2] at this
        exact this
      clear HF hA hB hs
      go_wp2
      go_ret
      exact ⟨⟨_, rfl, fun _ => HE.out, fun _ => rfl⟩, n, rfl⟩
end Go.Proofs.Ytghfomammdbgoaa

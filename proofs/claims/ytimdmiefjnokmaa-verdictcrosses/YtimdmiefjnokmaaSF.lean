/- Final states in memory; Check of the program and of the reference. -/
import Derived.Test.YtimdmiefjnokmaaS1
import Derived.Test.YtimdmiefjnokmaaG0
import Derived.Test.YtimdmiefjnokmaaA0
namespace Go.Proofs.Ytimdmiefjnokmaa
open Go.RowKit M
set_option linter.unusedSimpArgs false
set_option linter.unusedVariables false

/-- A final state's cells. -/
def encF (x : FS) : List Value := .int .i64 x.n :: x.v.map (.int .i64)
theorem encF_len (x : FS) : (encF x).length = 49 := by unfold encF; rw [List.length_cons, List.length_map, x.h]
theorem encF_one (x : FS) : ∀ v ∈ encF x, v.oneCell' = true := fun v hv => by
  unfold encF at hv
  rcases List.mem_cons.1 hv with rfl | hv
  · rfl
  · obtain ⟨i, _, rfl⟩ := List.mem_map.1 hv; rfl
theorem encF_get (x : FS) (j : Nat) (hj : j < 48) : (encF x)[j + 1]? = some (.int .i64 (x.v.getD j 0)) := by
  unfold encF
  rw [List.getElem?_cons_succ, List.getElem?_map, List.getElem?_eq_getElem (by rw [x.h]; exact hj)]
  simp [x.h, hj]
theorem encF_inj {x y : FS} (h : encF x = encF y) : x = y := by
  unfold encF at h
  simp only [List.cons.injEq, Value.int.injEq, true_and] at h
  refine FS.eq h.1 ?_
  have := h.2
  exact (List.map_inj_right (fun a b e => by injection e)).1 this
theorem infoF : (Try.prog.info? 25).map (·.size) = some 49 := by kernel_rfl
theorem infoFx (x : FS) : (Try.prog.info? 25).map (·.size) = some (encF x).length := by rw [encF_len]; exact infoF
theorem zeroF (w : World) : (zeroValue 25).run Try.prog w = .ok (.agg (encF FS.zero).toArray) w := by
  have h : Try.t25.zero = some (.agg (encF FS.zero).toArray) := by kernel_rfl
  simp [go_sem, zeroValue, h]
/-- The values from a number on, and up to a number. -/
def slF (b N : Nat) : Addr := if 48 = N then ⟨b, 1, none⟩ else ⟨b, 1 + N, none⟩
theorem run_from (w : World) (b N : Nat) (h : N ≤ 48) : (Instr.sliceAt 23 (.pointer (some ⟨b, 1, none⟩)) (some (.int .i64 (N : Int))) none none).run Try.prog w = .ok (.slice (some (slF b N)) (48 - N) (48 - N)) w := by
  have h1 : (0 : Int) ≤ (N : Int) ∧ (N : Int) ≤ 48 := by omega
  have hs : ¬ ((N : Int) < 0) := by omega
  simp [go_sem, Instr.sliceAt, h1, h, slF]
theorem run_upto (w : World) (b N : Nat) (h : N ≤ 48) : (Instr.sliceAt 23 (.pointer (some ⟨b, 1, none⟩)) none (some (.int .i64 (N : Int))) none).run Try.prog w = .ok (.slice (some ⟨b, 1, none⟩) N 48) w := by
  have h1 : (0 : Int) ≤ (N : Int) ∧ (N : Int) ≤ 48 := by omega
  have hs : ¬ ((N : Int) < 0) := by omega
  simp [go_sem, Instr.sliceAt, h1, h]
/-- What Check answers. -/
def ckF (x : FS) : Int := if okF x then 0 else 4
theorem ckF_out {x : FS} (h : x.n < 0 ∨ 48 < x.n) : ckF x = 4 := by
  unfold ckF okF; rw [if_neg]
  have : decide (0 ≤ x.n ∧ x.n ≤ 48) = false := by simp; omega
  simp [this]
theorem ckF_in {x : FS} {N : Nat} (h : x.n = (N : Int)) (h' : N ≤ 48) : ckF x = if (x.v.drop N).all (· == 0) then 0 else 4 := by
  unfold ckF okF
  have h1 : decide (0 ≤ x.n ∧ x.n ≤ 48) = true := by simp; omega
  have h2 : x.n.toNat = N := by omega
  rw [h1, h2, Bool.true_and]
theorem all_yes {l : List Int} (h : ∀ j, j < l.length → l.getD j 0 = 0) : l.all (· == 0) = true := by
  rw [List.all_eq_true]
  intro v hv
  obtain ⟨j, hj, rfl⟩ := List.getElem_of_mem hv
  have := h j hj
  rw [List.getD_eq_getElem?_getD, List.getElem?_eq_getElem hj] at this
  simpa using this
theorem all_no {l : List Int} {j : Nat} (h : l.getD j 0 ≠ 0) : l.all (· == 0) = false := by
  rw [Bool.eq_false_iff]
  intro e
  rw [List.all_eq_true] at e
  rw [List.getD_eq_getElem?_getD] at h
  cases hq : l[j]? with
  | none => rw [hq] at h; simp at h
  | some v => rw [hq] at h; have := e v (List.mem_of_getElem? hq); simp at this h; exact h this
theorem getD_drop (l : List Int) (N j : Nat) : (l.drop N).getD j 0 = l.getD (N + j) 0 := by
  rw [List.getD_eq_getElem?_getD, List.getD_eq_getElem?_getD, List.getElem?_drop]

set_option maxRecDepth 100000 in
set_option maxHeartbeats 2000000 in
theorem check_any (x : FS) (w : World) :
    Calls Try.prog 10 #[.agg (encF x).toArray] w fun e w' => e = .returned (.int .i64 (ckF x)) ∧ Below w.heap.size w w' := by
  by_cases ho : x.n < 0 ∨ 48 < x.n
  · have HC : Hid (ckF x = 4) := ckF_out ho
    have h0 : ∀ w b, IsS w b 25 (encF x) → w.cell? ⟨b, 0, none⟩ = some (.int .i64 x.n) := fun w b N => N.cell 0
    generalize x.n = n at *
    generalize encF x = cs at *
    by_cases h1 : n < 0
    · have tk : True := trivial
      go_enter Try.func10, Try.ntmps10
      go_wp2_with (clear tk; refine wpList_boxS rfl _ _ rfl cs rfl ?_; intro W b F N; have c0 := h0 W b N)
      go_ret
      exact ⟨ret_int HC.out.symm, F.below.mono (by rw [F.at']; exact Nat.le_refl _)⟩
    · have h1' : 0 ≤ n := by omega
      have h2 : 48 < n := by omega
      have tk : True := trivial
      go_enter Try.func10, Try.ntmps10
      go_wp2_with (clear tk; refine wpList_boxS rfl _ _ rfl cs rfl ?_; intro W b F N; have c0 := h0 W b N)
      go_ret
      exact ⟨ret_int HC.out.symm, F.below.mono (by rw [F.at']; exact Nat.le_refl _)⟩
  · obtain ⟨N, hN⟩ : ∃ N : Nat, x.n = (N : Int) := ⟨x.n.toNat, by omega⟩
    have hN' : N ≤ 48 := by omega
    have HC : Hid (ckF x = if (x.v.drop N).all (· == 0) then 0 else 4) := ckF_in hN hN'
    have h0 : ∀ w b, IsS w b 25 (encF x) → w.cell? ⟨b, 0, none⟩ = some (.int .i64 (N : Int)) := fun w b I => by rw [← hN]; exact I.cell 0
    have hv : ∀ w b, IsS w b 25 (encF x) → ∀ j, j < 48 - N → w.cell? ⟨b, 1 + N + j, none⟩ = some (.int .i64 ((x.v.drop N).getD j 0)) := fun w b I j hj => by
      rw [I.cell, show 1 + N + j = (N + j) + 1 by omega, encF_get x _ (by omega), getD_drop]
    have hl : (x.v.drop N).length = 48 - N := by rw [List.length_drop, x.h]
    have hrun : ∀ w b, (Instr.sliceAt 23 (.pointer (some ⟨b, 1, none⟩)) (some (.int .i64 (N : Int))) none none).run Try.prog w = .ok (.slice (some (slF b N)) (48 - N) (48 - N)) w := fun w b => run_from w b N hN'
    have hsl : ∀ b, N < 48 → slF b N = ⟨b, 1 + N, none⟩ := fun b h => by unfold slF; rw [if_neg (by omega)]
    obtain ⟨M, hM⟩ : ∃ M, 48 - N = M := ⟨_, rfl⟩
    have hM0 : 0 < M → N < 48 := by omega
    have hM1 : M ≤ 48 := by omega
    rw [hM] at hl
    simp only [hM] at hrun hv
    generalize encF x = cs at *
    generalize x.v.drop N = l at *
    clear ho hN hM
    have h1 : ¬ ((N : Int) < 0) := by omega
    have h2 : ¬ ((48 : Int) < N) := by omega
    have tk : True := trivial
    go_enter Try.func10, Try.ntmps10
    go_wp2_with (clear tk; refine wpList_boxS rfl _ _ rfl cs rfl ?_; intro W b F I; have c0 := h0 W b I)
    have hB : Below w.heap.size w W := F.below.mono (by rw [F.at']; exact Nat.le_refl _)
    have cv := hv W b I
    have hsa : 0 < M → slF b N = ⟨b, 1 + N, none⟩ := fun h => hsl b (hM0 h)
    generalize slF b N = sa at *
    clear hsl hM0 h0 hv F I c0
    go_loop [18] (fun i => ∃ k : Nat, k ≤ M ∧ i = .int .i64 (k : Int) ∧ Hid (∀ j, j < k → l.getD j 0 = 0)) (fun i => M - (intOf i).toNat)
    case atStart => exact ⟨0, Nat.zero_le _, rfl, fun j hj => absurd hj (Nat.not_lt_zero _)⟩
    case round =>
      obtain ⟨k, hk, rfl, HZ⟩ := hrel
      by_cases hlt : k < M
      · have e := hsa (by omega)
        subst e
        have ck := cv k hlt
        obtain ⟨y, hy⟩ : ∃ y, l.getD k 0 = y := ⟨_, rfl⟩
        rw [hy] at ck
        by_cases h0 : y = 0
        · have HZ' : Hid (∀ j, j < k + 1 → l.getD j 0 = 0) := fun j hj => by
            rcases Nat.lt_succ_iff_lt_or_eq.1 hj with h | h
            · exact HZ.out j h
            · rw [h, hy, h0]
          subst h0
          clear HZ hy cv hsa hrun
          go_wp2
          go_round
          case rel => exact ⟨k + 1, by omega, by go_num, HZ'⟩
          case measure => simp [intOf]; omega
        · have hne : (y != 0) = true := by simpa using h0
          have HZ' : Hid (l.all (· == 0) = false) := all_no (j := k) (by rw [hy]; exact h0)
          clear HZ hy cv hsa hrun h0
          go_wp2
          go_ret
          exact ⟨ret_int (by rw [HC.out, HZ'.out]; rfl), hB⟩
      · have HZ' : Hid (l.all (· == 0) = true) := all_yes fun j hj => HZ.out j (by omega)
        clear HZ cv hsa hrun
        go_wp2
        go_ret
        exact ⟨ret_int (by rw [HC.out, HZ'.out]; rfl), hB⟩

set_option maxRecDepth 100000 in
set_option maxHeartbeats 2000000 in
theorem rcheck_any (x : FS) (w : World) :
    Calls Try.prog 13 #[.agg (encF x).toArray] w fun e w' => e = .returned (.int .i64 (ckF x)) ∧ Below w.heap.size w w' := by
  by_cases ho : x.n < 0 ∨ 48 < x.n
  · have HC : Hid (ckF x = 4) := ckF_out ho
    have h0 : ∀ w b, IsS w b 25 (encF x) → w.cell? ⟨b, 0, none⟩ = some (.int .i64 x.n) := fun w b N => N.cell 0
    generalize x.n = n at *
    generalize encF x = cs at *
    by_cases h1 : n < 0
    · have tk : True := trivial
      go_enter Try.func13, Try.ntmps13
      go_wp2_with (clear tk; refine wpList_boxS rfl _ _ rfl cs rfl ?_; intro W b F N; have c0 := h0 W b N)
      go_ret
      exact ⟨ret_int HC.out.symm, F.below.mono (by rw [F.at']; exact Nat.le_refl _)⟩
    · have h1' : 0 ≤ n := by omega
      have h2 : 48 < n := by omega
      have tk : True := trivial
      go_enter Try.func13, Try.ntmps13
      go_wp2_with (clear tk; refine wpList_boxS rfl _ _ rfl cs rfl ?_; intro W b F N; have c0 := h0 W b N)
      go_ret
      exact ⟨ret_int HC.out.symm, F.below.mono (by rw [F.at']; exact Nat.le_refl _)⟩
  · obtain ⟨N, hN⟩ : ∃ N : Nat, x.n = (N : Int) := ⟨x.n.toNat, by omega⟩
    have hN' : N ≤ 48 := by omega
    have HC : Hid (ckF x = if (x.v.drop N).all (· == 0) then 0 else 4) := ckF_in hN hN'
    have h0 : ∀ w b, IsS w b 25 (encF x) → w.cell? ⟨b, 0, none⟩ = some (.int .i64 (N : Int)) := fun w b I => by rw [← hN]; exact I.cell 0
    have hv : ∀ w b, IsS w b 25 (encF x) → ∀ j, j < 48 - N → w.cell? ⟨b, 1 + (N + j), none⟩ = some (.int .i64 ((x.v.drop N).getD j 0)) := fun w b I j hj => by
      rw [I.cell, show 1 + (N + j) = (N + j) + 1 by omega, encF_get x _ (by omega), getD_drop]
    have hl : (x.v.drop N).length = 48 - N := by rw [List.length_drop, x.h]
    generalize encF x = cs at *
    generalize x.v.drop N = l at *
    clear ho hN
    have h1 : ¬ ((N : Int) < 0) := by omega
    have h2 : ¬ ((48 : Int) < N) := by omega
    have tk : True := trivial
    go_enter Try.func13, Try.ntmps13
    go_wp2_with (clear tk; refine wpList_boxS rfl _ _ rfl cs rfl ?_; intro W b F I; have c0 := h0 W b I)
    have hB : Below w.heap.size w W := F.below.mono (by rw [F.at']; exact Nat.le_refl _)
    have cv := hv W b I
    clear h0 hv F I c0
    go_loop [3] (fun i => ∃ k : Nat, N + k ≤ 48 ∧ i = .int .i64 ((N + k : Nat) : Int) ∧ Hid (∀ j, j < k → l.getD j 0 = 0)) (fun i => 48 - (intOf i).toNat)
    case atStart => exact ⟨0, by omega, rfl, fun j hj => absurd hj (Nat.not_lt_zero _)⟩
    case round =>
      obtain ⟨k, hk, rfl, HZ⟩ := hrel
      by_cases hlt : N + k < 48
      · have ck := cv k (by omega)
        obtain ⟨y, hy⟩ : ∃ y, l.getD k 0 = y := ⟨_, rfl⟩
        obtain ⟨i, hi⟩ : ∃ i, N + k = i := ⟨_, rfl⟩
        rw [hy, hi] at ck
        rw [hi] at hlt
        have hi' : N + (k + 1) = i + 1 := by omega
        by_cases h0 : y = 0
        · have HZ' : Hid (∀ j, j < k + 1 → l.getD j 0 = 0) := fun j hj => by
            rcases Nat.lt_succ_iff_lt_or_eq.1 hj with h | h
            · exact HZ.out j h
            · rw [h, hy, h0]
          subst h0
          have HI : Hid (N + (k + 1) = i + 1) := hi'
          clear HZ hy cv hi'
          rw [hi]
          clear hi hk
          go_wp2
          go_round
          case rel => exact ⟨k + 1, by rw [HI.out]; omega, by rw [HI.out]; go_num, HZ'⟩
          case measure => simp [intOf]; omega
        · have hne : (y != 0) = true := by simpa using h0
          have HZ' : Hid (l.all (· == 0) = false) := all_no (j := k) (by rw [hy]; exact h0)
          clear HZ hy cv h0 hi'
          rw [hi]
          clear hi hk
          go_wp2
          go_ret
          exact ⟨ret_int (by rw [HC.out, HZ'.out]; rfl), hB⟩
      · have HZ' : Hid (l.all (· == 0) = true) := all_yes fun j hj => HZ.out j (by omega)
        have he : N + k = 48 := by omega
        rw [he]
        clear HZ cv he hk hlt
        go_wp2
        go_ret
        exact ⟨ret_int (by rw [HC.out, HZ'.out]; rfl), hB⟩
end Go.Proofs.Ytimdmiefjnokmaa

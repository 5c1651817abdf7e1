/- slices.BinarySearchFunc at final states, with Compare. -/
import Derived.Test.YtbhgchhoeokjhaaHP
namespace Go.Proofs.Ytbhgchhoeokjhaa
open Go Go.RowKit M
set_option linter.unusedSimpArgs false
set_option linter.unusedVariables false

theorem ris_lt {l : List FS} (h : Ris l) {i j : Nat} (hij : i < j) (hj : j < l.length) : ltF (l.getD i FS.zero) (l.getD j FS.zero) := by
  rw [getD_at l i (by omega), getD_at l j hj]
  exact List.pairwise_iff_getElem.1 (Ris.pairwise.1 h) i j (by omega) hj hij
set_option maxRecDepth 100000 in
set_option maxHeartbeats 2000000 in
theorem bsearch_any (a : Option Addr) (cap : Nat) (l : List FS) (f : FS) (hn : l.length ≤ 8000) (hR : Ris l) (w : World) (hS : Seg w a (flatF l)) :
    Calls Try.prog 38 #[.slice a l.length cap, .agg (encF f).toArray, .func (.func 14) #[] #[]] w fun e w' => ∃ (p : Nat) (fd : Bool), p ≤ l.length ∧ (∀ j, j < p → ltF (l.getD j FS.zero) f) ∧ (∀ j, p ≤ j → j < l.length → ¬ ltF (l.getD j FS.zero) f) ∧ e = .returned (.tuple #[.int .i64 (p : Int), .bool fd]) ∧ Below w.heap.size w w' := by
  obtain ⟨n, hll⟩ : ∃ n, l.length = n := ⟨_, rfl⟩
  rw [hll] at hn ⊢
  have HLL : Hid (l.length = n) := hll
  have HS : Hid (Seg w a (flatF l)) := hS
  have hnI : (n : Int) ≤ 8000 := by omega
  clear hll hS
  go_enter Try.func38, Try.ntmps38
  have ta : True := trivial
  go_wp2_with (first
    | (clear ta; refine wpList_boxS rfl _ _ rfl (encF f) rfl ?_; intro w1 b1 F1 I1; have B1 := fresh_b F1))
  have HS1 : Hid (Seg w1 a (flatF l)) := HS.out.below B1
  go_loopw [9, 10, 11] (fun i j h wr => ∃ p q : Nat, p ≤ q ∧ q ≤ n ∧ i = .int .i64 (p : Int) ∧ j = .int .i64 (q : Int) ∧ Hid (∀ t, t < p → ltF (l.getD t FS.zero) f) ∧ Hid (∀ t, q ≤ t → t < n → ¬ ltF (l.getD t FS.zero) f) ∧ Below w1.heap.size w1 wr) (fun i j _ _ => (intOf j).toNat - (intOf i).toNat)
  case atStart => exact ⟨0, n, Nat.zero_le _, Nat.le_refl _, rfl, rfl, fun t ht => absurd ht (Nat.not_lt_zero _), fun t h1 h2 => absurd h2 (by omega), Below.refl _ _⟩
  case round =>
    obtain ⟨p, q, hpq, hqn, rfl, rfl, HP, HQ, BR⟩ := hrel
    by_cases hlt : p < q
    · have hltI : (p : Int) < (q : Int) := by omega
      obtain ⟨m, hm⟩ : ∃ m : Nat, (p + q) / 2 = m := ⟨_, rfl⟩
      have hw1 : IntKind.i64.wrap ((p : Int) + (q : Int)) = (p : Int) + (q : Int) := by rw [IntKind.wrap_i64]; omega
      -- REST
      have hmI : ((p : Int) + (q : Int)) / 2 = (m : Int) := by omega
      have hmn : m < n := by omega
      have hmX : (m : Int) < (n : Int) := by omega
      obtain ⟨b, o, rfl, HB, HX⟩ := seg_elem (HS1.out.below BR) m (by rw [HLL.out]; exact hmn)
      have IR := I1.grown BR
      have HL : Hid (ltF (l.getD m FS.zero) f → ∀ t, t < m + 1 → ltF (l.getD t FS.zero) f) := fun h t ht => by
        by_cases e : t = m
        · rw [e]; exact h
        · exact ltF_trans (ris_lt hR (by omega) (by rw [HLL.out]; exact hmn)) h
      have HG : Hid (¬ ltF (l.getD m FS.zero) f → ∀ t, m ≤ t → t < n → ¬ ltF (l.getD t FS.zero) f) := fun h t ht ht' h' => by
        by_cases e : t = m
        · rw [e] at h'; exact h h'
        · exact h (ltF_trans (ris_lt hR (by omega) (by rw [HLL.out]; exact ht')) h')
      have HK : Hid (∀ W, Calls Try.prog 14 #[.agg (encF (l.getD m FS.zero)).toArray, .agg (encF f).toArray] W fun e w' => e = .returned (.int .i64 (cmpF (l.getD m FS.zero) f)) ∧ Below W.heap.size W w') := fun W => (compare_any _ f W).mono fun e w' h => ⟨h.1, h.2.below⟩
      have hK := HK.out
      have HC : Hid (ltF (l.getD m FS.zero) f ↔ cmpF (l.getD m FS.zero) f < 0) := Iff.rfl
      generalize cmpF (l.getD m FS.zero) f = c at *
      generalize l.getD m FS.zero = X at *
      clear HK
      by_cases hc0 : c < 0
      · have HL' : Hid (∀ t, t < m + 1 → ltF (l.getD t FS.zero) f) := HL.out (HC.out.2 hc0)
        clear HL HG HC
        go_wp2
        try simp only [hmI]
        refine grow_allW (by kernel_rfl) (by kernel_rfl) ?_
        refine WG.put rfl (v := .func (.func 14) #[] #[]) (fun w => by first | rfl | (go_simp; done) | (simp [go_sem]; done)) ?_
        simp only [Act.put, List.setIfInBounds_toArray, List.set_cons_succ, List.set_cons_zero]
        refine WG.put rfl (v := .slice (some ⟨b, o, none⟩) n cap) (fun w => by first | rfl | (go_simp; done) | (simp [go_sem]; done)) ?_
        simp only [Act.put, List.setIfInBounds_toArray, List.set_cons_succ, List.set_cons_zero]
        refine WG.put rfl (v := .int .i64 (m : Int)) (fun w => by first | rfl | (go_simp; done) | (simp [go_sem]; done)) ?_
        simp only [Act.put, List.setIfInBounds_toArray, List.set_cons_succ, List.set_cons_zero]
        refine WG.put rfl (v := .pointer (some ⟨b, o + m * 49, none⟩)) (fun w => by first | rfl | (go_simp; done) | (simp [go_sem, hmX]; done)) ?_
        simp only [Act.put, List.setIfInBounds_toArray, List.set_cons_succ, List.set_cons_zero]
        refine WG.elem (x := X) rfl _ rfl rfl HB HX ?_
        simp only [Act.put, List.setIfInBounds_toArray, List.set_cons_succ, List.set_cons_zero]
        refine WG.whole rfl _ rfl rfl IR ?_
        simp only [Act.put, List.setIfInBounds_toArray, List.set_cons_succ, List.set_cons_zero]
        refine WG.call rfl (v := .int .i64 c) (fun w _ => hK w) (fun w => by first | rfl | (go_simp; done) | (simp [go_sem]; done)) ?_
        simp only [Act.put, List.setIfInBounds_toArray, List.set_cons_succ, List.set_cons_zero]
        refine WG.put rfl (v := .bool true) (fun w => by first | rfl | (go_simp; done) | (simp [go_sem, hc0]; done)) ?_
        simp only [Act.put, List.setIfInBounds_toArray, List.set_cons_succ, List.set_cons_zero]
        refine WG.nil ?_
        intro w5 B5
        clear HX
        go_wp2
        go_roundw
        case rel => exact ⟨m + 1, q, by omega, hqn, by go_num, rfl, HL'.out, HQ.out, Below.then BR B5⟩
        case measure => simp [intOf]; omega
      · have HG' : Hid (∀ t, m ≤ t → t < n → ¬ ltF (l.getD t FS.zero) f) := HG.out (fun h => hc0 (HC.out.1 h))
        clear HL HG HC
        go_wp2
        try simp only [hmI]
        refine grow_allW (by kernel_rfl) (by kernel_rfl) ?_
        refine WG.put rfl (v := .func (.func 14) #[] #[]) (fun w => by first | rfl | (go_simp; done) | (simp [go_sem]; done)) ?_
        simp only [Act.put, List.setIfInBounds_toArray, List.set_cons_succ, List.set_cons_zero]
        refine WG.put rfl (v := .slice (some ⟨b, o, none⟩) n cap) (fun w => by first | rfl | (go_simp; done) | (simp [go_sem]; done)) ?_
        simp only [Act.put, List.setIfInBounds_toArray, List.set_cons_succ, List.set_cons_zero]
        refine WG.put rfl (v := .int .i64 (m : Int)) (fun w => by first | rfl | (go_simp; done) | (simp [go_sem]; done)) ?_
        simp only [Act.put, List.setIfInBounds_toArray, List.set_cons_succ, List.set_cons_zero]
        refine WG.put rfl (v := .pointer (some ⟨b, o + m * 49, none⟩)) (fun w => by first | rfl | (go_simp; done) | (simp [go_sem, hmX]; done)) ?_
        simp only [Act.put, List.setIfInBounds_toArray, List.set_cons_succ, List.set_cons_zero]
        refine WG.elem (x := X) rfl _ rfl rfl HB HX ?_
        simp only [Act.put, List.setIfInBounds_toArray, List.set_cons_succ, List.set_cons_zero]
        refine WG.whole rfl _ rfl rfl IR ?_
        simp only [Act.put, List.setIfInBounds_toArray, List.set_cons_succ, List.set_cons_zero]
        refine WG.call rfl (v := .int .i64 c) (fun w _ => hK w) (fun w => by first | rfl | (go_simp; done) | (simp [go_sem]; done)) ?_
        simp only [Act.put, List.setIfInBounds_toArray, List.set_cons_succ, List.set_cons_zero]
        refine WG.put rfl (v := .bool false) (fun w => by first | rfl | (go_simp; done) | (simp [go_sem, hc0]; done)) ?_
        simp only [Act.put, List.setIfInBounds_toArray, List.set_cons_succ, List.set_cons_zero]
        refine WG.nil ?_
        intro w5 B5
        clear HX
        go_wp2
        go_roundw
        case rel => exact ⟨p, m, by omega, by omega, rfl, rfl, HP.out, HG'.out, Below.then BR B5⟩
        case measure => simp [intOf]; omega
    · have e : p = q := by omega
      subst e
      have IR := I1.grown BR
      by_cases hpN : p < n
      · have hpn : (p : Int) < (n : Int) := by omega
        have hmX := hpn
        obtain ⟨b, o, rfl, HB, HX⟩ := seg_elem (HS1.out.below BR) p (by rw [HLL.out]; exact hpN)
        have HK : Hid (∀ W, Calls Try.prog 14 #[.agg (encF (l.getD p FS.zero)).toArray, .agg (encF f).toArray] W fun e w' => e = .returned (.int .i64 (cmpF (l.getD p FS.zero) f)) ∧ Below W.heap.size W w') := fun W => (compare_any _ f W).mono fun e w' h => ⟨h.1, h.2.below⟩
        have hK := HK.out
        generalize cmpF (l.getD p FS.zero) f = c at *
        generalize l.getD p FS.zero = X at *
        clear HK
        go_wp2
        refine grow_allW (by kernel_rfl) (by kernel_rfl) ?_
        refine WG.put rfl (v := .int .i64 (p : Int)) (fun w => by first | rfl | (go_simp; done) | (simp [go_sem]; done)) ?_
        simp only [Act.put, List.setIfInBounds_toArray, List.set_cons_succ, List.set_cons_zero]
        refine WG.put rfl (v := .int .i64 (p : Int)) (fun w => by first | rfl | (go_simp; done) | (simp [go_sem]; done)) ?_
        simp only [Act.put, List.setIfInBounds_toArray, List.set_cons_succ, List.set_cons_zero]
        refine WG.put rfl (v := .int .i64 (n : Int)) (fun w => by first | rfl | (go_simp; done) | (simp [go_sem]; done)) ?_
        simp only [Act.put, List.setIfInBounds_toArray, List.set_cons_succ, List.set_cons_zero]
        refine WG.put rfl (v := .bool true) (fun w => by first | rfl | (go_simp; done) | (simp [go_sem, hpn]; done)) ?_
        simp only [Act.put, List.setIfInBounds_toArray, List.set_cons_succ, List.set_cons_zero]
        refine WG.put rfl (v := .bool true) (fun w => by first | rfl | (go_simp; done) | (simp [go_sem]; done)) ?_
        simp only [Act.put, List.setIfInBounds_toArray, List.set_cons_succ, List.set_cons_zero]
        refine WG.put rfl (v := .func (.func 14) #[] #[]) (fun w => by first | rfl | (go_simp; done) | (simp [go_sem]; done)) ?_
        simp only [Act.put, List.setIfInBounds_toArray, List.set_cons_succ, List.set_cons_zero]
        refine WG.put rfl (v := .slice (some ⟨b, o, none⟩) n cap) (fun w => by first | rfl | (go_simp; done) | (simp [go_sem]; done)) ?_
        simp only [Act.put, List.setIfInBounds_toArray, List.set_cons_succ, List.set_cons_zero]
        refine WG.put rfl (v := .int .i64 (p : Int)) (fun w => by first | rfl | (go_simp; done) | (simp [go_sem]; done)) ?_
        simp only [Act.put, List.setIfInBounds_toArray, List.set_cons_succ, List.set_cons_zero]
        refine WG.put rfl (v := .pointer (some ⟨b, o + p * 49, none⟩)) (fun w => by first | rfl | (go_simp; done) | (simp [go_sem, hmX]; done)) ?_
        simp only [Act.put, List.setIfInBounds_toArray, List.set_cons_succ, List.set_cons_zero]
        refine WG.elem (x := X) rfl _ rfl rfl HB HX ?_
        simp only [Act.put, List.setIfInBounds_toArray, List.set_cons_succ, List.set_cons_zero]
        refine WG.whole rfl _ rfl rfl IR ?_
        simp only [Act.put, List.setIfInBounds_toArray, List.set_cons_succ, List.set_cons_zero]
        refine WG.call rfl (v := .int .i64 c) (fun w _ => hK w) (fun w => by first | rfl | (go_simp; done) | (simp [go_sem]; done)) ?_
        simp only [Act.put, List.setIfInBounds_toArray, List.set_cons_succ, List.set_cons_zero]
        refine WG.put rfl (v := .bool (c == 0)) (fun w => by first | rfl | (go_simp; done) | (simp [go_sem]; done)) ?_
        simp only [Act.put, List.setIfInBounds_toArray, List.set_cons_succ, List.set_cons_zero]
        refine WG.put rfl (v := .bool (c == 0)) (fun w => by first | rfl | (go_simp; done) | (simp [go_sem]; done)) ?_
        simp only [Act.put, List.setIfInBounds_toArray, List.set_cons_succ, List.set_cons_zero]
        refine WG.put rfl (v := .int .i64 (p : Int)) (fun w => by first | rfl | (go_simp; done) | (simp [go_sem]; done)) ?_
        simp only [Act.put, List.setIfInBounds_toArray, List.set_cons_succ, List.set_cons_zero]
        refine WG.put rfl (v := .bool (c == 0)) (fun w => by first | rfl | (go_simp; done) | (simp [go_sem]; done)) ?_
        simp only [Act.put, List.setIfInBounds_toArray, List.set_cons_succ, List.set_cons_zero]
        refine WG.nil ?_
        intro w5 B5
        clear HX
        go_wp2
        go_ret2
        exact ⟨p, (c == 0), hqn, HP.out, HQ.out, rfl, Below.then (Below.then B1 BR) B5⟩
      · have hpn : ¬ ((p : Int) < (n : Int)) := by omega
        go_wp2
        refine grow_allW (by kernel_rfl) (by kernel_rfl) ?_
        refine WG.put rfl (v := .int .i64 (p : Int)) (fun w => by first | rfl | (go_simp; done) | (simp [go_sem]; done)) ?_
        simp only [Act.put, List.setIfInBounds_toArray, List.set_cons_succ, List.set_cons_zero]
        refine WG.put rfl (v := .int .i64 (p : Int)) (fun w => by first | rfl | (go_simp; done) | (simp [go_sem]; done)) ?_
        simp only [Act.put, List.setIfInBounds_toArray, List.set_cons_succ, List.set_cons_zero]
        refine WG.put rfl (v := .int .i64 (n : Int)) (fun w => by first | rfl | (go_simp; done) | (simp [go_sem]; done)) ?_
        simp only [Act.put, List.setIfInBounds_toArray, List.set_cons_succ, List.set_cons_zero]
        refine WG.put rfl (v := .bool false) (fun w => by first | rfl | (go_simp; done) | (simp [go_sem, hpn]; done)) ?_
        simp only [Act.put, List.setIfInBounds_toArray, List.set_cons_succ, List.set_cons_zero]
        refine WG.put rfl (v := .bool false) (fun w => by first | rfl | (go_simp; done) | (simp [go_sem]; done)) ?_
        simp only [Act.put, List.setIfInBounds_toArray, List.set_cons_succ, List.set_cons_zero]
        refine WG.skip rfl ?_
        simp only [Act.put, List.setIfInBounds_toArray, List.set_cons_succ, List.set_cons_zero]
        refine WG.skip rfl ?_
        simp only [Act.put, List.setIfInBounds_toArray, List.set_cons_succ, List.set_cons_zero]
        refine WG.skip rfl ?_
        simp only [Act.put, List.setIfInBounds_toArray, List.set_cons_succ, List.set_cons_zero]
        refine WG.skip rfl ?_
        simp only [Act.put, List.setIfInBounds_toArray, List.set_cons_succ, List.set_cons_zero]
        refine WG.skip rfl ?_
        simp only [Act.put, List.setIfInBounds_toArray, List.set_cons_succ, List.set_cons_zero]
        refine WG.skip rfl ?_
        simp only [Act.put, List.setIfInBounds_toArray, List.set_cons_succ, List.set_cons_zero]
        refine WG.skip rfl ?_
        simp only [Act.put, List.setIfInBounds_toArray, List.set_cons_succ, List.set_cons_zero]
        refine WG.skip rfl ?_
        simp only [Act.put, List.setIfInBounds_toArray, List.set_cons_succ, List.set_cons_zero]
        refine WG.put rfl (v := .bool false) (fun w => by first | rfl | (go_simp; done) | (simp [go_sem]; done)) ?_
        simp only [Act.put, List.setIfInBounds_toArray, List.set_cons_succ, List.set_cons_zero]
        refine WG.put rfl (v := .int .i64 (p : Int)) (fun w => by first | rfl | (go_simp; done) | (simp [go_sem]; done)) ?_
        simp only [Act.put, List.setIfInBounds_toArray, List.set_cons_succ, List.set_cons_zero]
        refine WG.put rfl (v := .bool false) (fun w => by first | rfl | (go_simp; done) | (simp [go_sem]; done)) ?_
        simp only [Act.put, List.setIfInBounds_toArray, List.set_cons_succ, List.set_cons_zero]
        refine WG.nil ?_
        intro w5 B5
        go_wp2
        go_ret2
        exact ⟨p, false, hqn, HP.out, HQ.out, rfl, Below.then (Below.then B1 BR) B5⟩
end Go.Proofs.Ytbhgchhoeokjhaa

/- Several texts in one: BF, FI. -/
import Derived.Test.YtbhgchhoeokjhabDoorHP
import Derived.Test.YtbhgchhoeokjhabDoorCK
/- slices.BinarySearchFunc at final states, with Compare. -/
namespace Go.Proofs.YtbhgchhoeokjhabDoor
open Go Go.RowKit M
set_option linter.unusedSimpArgs false
set_option linter.unusedVariables false

theorem ris_lt {l : List FS} (h : Ris l) {i j : Nat} (hij : i < j) (hj : j < l.length) : ltF (l.getD i FS.zero) (l.getD j FS.zero) := by
  rw [getD_at l i (by omega), getD_at l j hj]
  exact List.pairwise_iff_getElem.1 (Ris.pairwise.1 h) i j (by omega) hj hij
set_option maxRecDepth 100000 in
set_option maxHeartbeats 2000000 in
theorem bsearch_any (a : Option Addr) (cap : Nat) (l : List FS) (f : FS) (hn : l.length ≤ 8000) (hR : Ris l) (w : World) (hS : Seg w a (flatF l)) :
    Calls Tryd.prog 29 #[.slice a l.length cap, .agg (encF f).toArray, .func (.func 23) #[] #[]] w fun e w' => ∃ (p : Nat) (fd : Bool), p ≤ l.length ∧ (∀ j, j < p → ltF (l.getD j FS.zero) f) ∧ (∀ j, p ≤ j → j < l.length → ¬ ltF (l.getD j FS.zero) f) ∧ e = .returned (.tuple #[.int .i64 (p : Int), .bool fd]) ∧ Below w.heap.size w w' := by
  obtain ⟨n, hll⟩ : ∃ n, l.length = n := ⟨_, rfl⟩
  rw [hll] at hn ⊢
  have HLL : Hid (l.length = n) := hll
  have HS : Hid (Seg w a (flatF l)) := hS
  have hnI : (n : Int) ≤ 8000 := by omega
  clear hll hS
  go_enter Tryd.func29, Tryd.ntmps29
  have ta : True := trivial
  go_wp2_with (first
    | (clear ta; refine wpList_boxS rfl _ _ rfl (encF f) rfl ?_; intro w1 b1 F1 I1; have B1 := fresh_b F1))
  have HS1 : Hid (Seg w1 a (flatF l)) := HS.out.below B1
  go_loopw [9, 10, 11] (fun i j h wr => ∃ p q : Nat, p ≤ q ∧ q ≤ n ∧ i = .int .i64 (p : Int) ∧ j = .int .i64 (q : Int) ∧ Hid (∀ t, t < p → ltF (l.getD t FS.zero) f) ∧ Hid (∀ t, q ≤ t → t < n → ¬ ltF (l.getD t FS.zero) f) ∧ Below w1.heap.size w1 wr) (fun i j _ _ => (intOf j).toNat - (intOf i).toNat)
  case atStart => exact ⟨0, n, Nat.zero_le _, Nat.le_refl _, rfl, rfl, fun t ht => absurd ht (Nat.not_lt_zero _), fun t h1 h2 => absurd h2 (by omega), Below.refl _ _⟩
  case round =>
    obtain ⟨p, q, hpq, hqn, rfl, rfl, HP, HQ, BR⟩ := hrel
    by_cases hlt : p < q
    · have hltI : (p : Int) < (q : Int) := by omega
      obtain ⟨m, hm⟩ : ∃ m : Nat, (p + q) / 2 = m := ⟨_, rfl⟩
      have hw1 : IntKind.i64.wrap ((p : Int) + (q : Int)) = (p : Int) + (q : Int) := by rw [IntKind.wrap_i64]; omega
      -- REST
      have hmI : ((p : Int) + (q : Int)) / 2 = (m : Int) := by omega
      have hmn : m < n := by omega
      have hmX : (m : Int) < (n : Int) := by omega
      obtain ⟨b, o, rfl, HB, HX⟩ := seg_elem (HS1.out.below BR) m (by rw [HLL.out]; exact hmn)
      have IR := I1.grown BR
      have HL : Hid (ltF (l.getD m FS.zero) f → ∀ t, t < m + 1 → ltF (l.getD t FS.zero) f) := fun h t ht => by
        by_cases e : t = m
        · rw [e]; exact h
        · exact ltF_trans (ris_lt hR (by omega) (by rw [HLL.out]; exact hmn)) h
      have HG : Hid (¬ ltF (l.getD m FS.zero) f → ∀ t, m ≤ t → t < n → ¬ ltF (l.getD t FS.zero) f) := fun h t ht ht' h' => by
        by_cases e : t = m
        · rw [e] at h'; exact h h'
        · exact h (ltF_trans (ris_lt hR (by omega) (by rw [HLL.out]; exact ht')) h')
      have HK : Hid (∀ W, Calls Tryd.prog 23 #[.agg (encF (l.getD m FS.zero)).toArray, .agg (encF f).toArray] W fun e w' => e = .returned (.int .i64 (cmpF (l.getD m FS.zero) f)) ∧ Below W.heap.size W w') := fun W => (compare_any _ f W).mono fun e w' h => ⟨h.1, h.2.below⟩
      have hK := HK.out
      have HC : Hid (ltF (l.getD m FS.zero) f ↔ cmpF (l.getD m FS.zero) f < 0) := Iff.rfl
      generalize cmpF (l.getD m FS.zero) f = c at *
      generalize l.getD m FS.zero = X at *
      clear HK
      by_cases hc0 : c < 0
      · have HL' : Hid (∀ t, t < m + 1 → ltF (l.getD t FS.zero) f) := HL.out (HC.out.2 hc0)
        clear HL HG HC
        go_wp2
        try simp only [hmI]
        refine grow_allW (by kernel_rfl) (by kernel_rfl) ?_
        refine WG.put rfl (v := .func (.func 23) #[] #[]) (fun w => by first | rfl | (go_simp; done) | (simp [go_sem]; done)) ?_
        simp only [Act.put, List.setIfInBounds_toArray, List.set_cons_succ, List.set_cons_zero]
        refine WG.put rfl (v := .slice (some ⟨b, o, none⟩) n cap) (fun w => by first | rfl | (go_simp; done) | (simp [go_sem]; done)) ?_
        simp only [Act.put, List.setIfInBounds_toArray, List.set_cons_succ, List.set_cons_zero]
        refine WG.put rfl (v := .int .i64 (m : Int)) (fun w => by first | rfl | (go_simp; done) | (simp [go_sem]; done)) ?_
        simp only [Act.put, List.setIfInBounds_toArray, List.set_cons_succ, List.set_cons_zero]
        refine WG.put rfl (v := .pointer (some ⟨b, o + m * 49, none⟩)) (fun w => by first | rfl | (go_simp; done) | (simp [go_sem, hmX]; done)) ?_
        simp only [Act.put, List.setIfInBounds_toArray, List.set_cons_succ, List.set_cons_zero]
        refine WG.elem (x := X) rfl _ rfl rfl HB HX ?_
        simp only [Act.put, List.setIfInBounds_toArray, List.set_cons_succ, List.set_cons_zero]
        refine WG.whole rfl _ rfl rfl IR ?_
        simp only [Act.put, List.setIfInBounds_toArray, List.set_cons_succ, List.set_cons_zero]
        refine WG.call rfl (v := .int .i64 c) (fun w _ => hK w) (fun w => by first | rfl | (go_simp; done) | (simp [go_sem]; done)) ?_
        simp only [Act.put, List.setIfInBounds_toArray, List.set_cons_succ, List.set_cons_zero]
        refine WG.put rfl (v := .bool true) (fun w => by first | rfl | (go_simp; done) | (simp [go_sem, hc0]; done)) ?_
        simp only [Act.put, List.setIfInBounds_toArray, List.set_cons_succ, List.set_cons_zero]
        refine WG.nil ?_
        intro w5 B5
        clear HX
        go_wp2
        go_roundw
        case rel => exact ⟨m + 1, q, by omega, hqn, by go_num, rfl, HL'.out, HQ.out, Below.then BR B5⟩
        case measure => simp [intOf]; omega
      · have HG' : Hid (∀ t, m ≤ t → t < n → ¬ ltF (l.getD t FS.zero) f) := HG.out (fun h => hc0 (HC.out.1 h))
        clear HL HG HC
        go_wp2
        try simp only [hmI]
        refine grow_allW (by kernel_rfl) (by kernel_rfl) ?_
        refine WG.put rfl (v := .func (.func 23) #[] #[]) (fun w => by first | rfl | (go_simp; done) | (simp [go_sem]; done)) ?_
        simp only [Act.put, List.setIfInBounds_toArray, List.set_cons_succ, List.set_cons_zero]
        refine WG.put rfl (v := .slice (some ⟨b, o, none⟩) n cap) (fun w => by first | rfl | (go_simp; done) | (simp [go_sem]; done)) ?_
        simp only [Act.put, List.setIfInBounds_toArray, List.set_cons_succ, List.set_cons_zero]
        refine WG.put rfl (v := .int .i64 (m : Int)) (fun w => by first | rfl | (go_simp; done) | (simp [go_sem]; done)) ?_
        simp only [Act.put, List.setIfInBounds_toArray, List.set_cons_succ, List.set_cons_zero]
        refine WG.put rfl (v := .pointer (some ⟨b, o + m * 49, none⟩)) (fun w => by first | rfl | (go_simp; done) | (simp [go_sem, hmX]; done)) ?_
        simp only [Act.put, List.setIfInBounds_toArray, List.set_cons_succ, List.set_cons_zero]
        refine WG.elem (x := X) rfl _ rfl rfl HB HX ?_
        simp only [Act.put, List.setIfInBounds_toArray, List.set_cons_succ, List.set_cons_zero]
        refine WG.whole rfl _ rfl rfl IR ?_
        simp only [Act.put, List.setIfInBounds_toArray, List.set_cons_succ, List.set_cons_zero]
        refine WG.call rfl (v := .int .i64 c) (fun w _ => hK w) (fun w => by first | rfl | (go_simp; done) | (simp [go_sem]; done)) ?_
        simp only [Act.put, List.setIfInBounds_toArray, List.set_cons_succ, List.set_cons_zero]
        refine WG.put rfl (v := .bool false) (fun w => by first | rfl | (go_simp; done) | (simp [go_sem, hc0]; done)) ?_
        simp only [Act.put, List.setIfInBounds_toArray, List.set_cons_succ, List.set_cons_zero]
        refine WG.nil ?_
        intro w5 B5
        clear HX
        go_wp2
        go_roundw
        case rel => exact ⟨p, m, by omega, by omega, rfl, rfl, HP.out, HG'.out, Below.then BR B5⟩
        case measure => simp [intOf]; omega
    · have e : p = q := by omega
      subst e
      have IR := I1.grown BR
      by_cases hpN : p < n
      · have hpn : (p : Int) < (n : Int) := by omega
        have hmX := hpn
        obtain ⟨b, o, rfl, HB, HX⟩ := seg_elem (HS1.out.below BR) p (by rw [HLL.out]; exact hpN)
        have HK : Hid (∀ W, Calls Tryd.prog 23 #[.agg (encF (l.getD p FS.zero)).toArray, .agg (encF f).toArray] W fun e w' => e = .returned (.int .i64 (cmpF (l.getD p FS.zero) f)) ∧ Below W.heap.size W w') := fun W => (compare_any _ f W).mono fun e w' h => ⟨h.1, h.2.below⟩
        have hK := HK.out
        generalize cmpF (l.getD p FS.zero) f = c at *
        generalize l.getD p FS.zero = X at *
        clear HK
        go_wp2
        refine grow_allW (by kernel_rfl) (by kernel_rfl) ?_
        refine WG.put rfl (v := .int .i64 (p : Int)) (fun w => by first | rfl | (go_simp; done) | (simp [go_sem]; done)) ?_
        simp only [Act.put, List.setIfInBounds_toArray, List.set_cons_succ, List.set_cons_zero]
        refine WG.put rfl (v := .int .i64 (p : Int)) (fun w => by first | rfl | (go_simp; done) | (simp [go_sem]; done)) ?_
        simp only [Act.put, List.setIfInBounds_toArray, List.set_cons_succ, List.set_cons_zero]
        refine WG.put rfl (v := .int .i64 (n : Int)) (fun w => by first | rfl | (go_simp; done) | (simp [go_sem]; done)) ?_
        simp only [Act.put, List.setIfInBounds_toArray, List.set_cons_succ, List.set_cons_zero]
        refine WG.put rfl (v := .bool true) (fun w => by first | rfl | (go_simp; done) | (simp [go_sem, hpn]; done)) ?_
        simp only [Act.put, List.setIfInBounds_toArray, List.set_cons_succ, List.set_cons_zero]
        refine WG.put rfl (v := .bool true) (fun w => by first | rfl | (go_simp; done) | (simp [go_sem]; done)) ?_
        simp only [Act.put, List.setIfInBounds_toArray, List.set_cons_succ, List.set_cons_zero]
        refine WG.put rfl (v := .func (.func 23) #[] #[]) (fun w => by first | rfl | (go_simp; done) | (simp [go_sem]; done)) ?_
        simp only [Act.put, List.setIfInBounds_toArray, List.set_cons_succ, List.set_cons_zero]
        refine WG.put rfl (v := .slice (some ⟨b, o, none⟩) n cap) (fun w => by first | rfl | (go_simp; done) | (simp [go_sem]; done)) ?_
        simp only [Act.put, List.setIfInBounds_toArray, List.set_cons_succ, List.set_cons_zero]
        refine WG.put rfl (v := .int .i64 (p : Int)) (fun w => by first | rfl | (go_simp; done) | (simp [go_sem]; done)) ?_
        simp only [Act.put, List.setIfInBounds_toArray, List.set_cons_succ, List.set_cons_zero]
        refine WG.put rfl (v := .pointer (some ⟨b, o + p * 49, none⟩)) (fun w => by first | rfl | (go_simp; done) | (simp [go_sem, hmX]; done)) ?_
        simp only [Act.put, List.setIfInBounds_toArray, List.set_cons_succ, List.set_cons_zero]
        refine WG.elem (x := X) rfl _ rfl rfl HB HX ?_
        simp only [Act.put, List.setIfInBounds_toArray, List.set_cons_succ, List.set_cons_zero]
        refine WG.whole rfl _ rfl rfl IR ?_
        simp only [Act.put, List.setIfInBounds_toArray, List.set_cons_succ, List.set_cons_zero]
        refine WG.call rfl (v := .int .i64 c) (fun w _ => hK w) (fun w => by first | rfl | (go_simp; done) | (simp [go_sem]; done)) ?_
        simp only [Act.put, List.setIfInBounds_toArray, List.set_cons_succ, List.set_cons_zero]
        refine WG.put rfl (v := .bool (c == 0)) (fun w => by first | rfl | (go_simp; done) | (simp [go_sem]; done)) ?_
        simp only [Act.put, List.setIfInBounds_toArray, List.set_cons_succ, List.set_cons_zero]
        refine WG.put rfl (v := .bool (c == 0)) (fun w => by first | rfl | (go_simp; done) | (simp [go_sem]; done)) ?_
        simp only [Act.put, List.setIfInBounds_toArray, List.set_cons_succ, List.set_cons_zero]
        refine WG.put rfl (v := .int .i64 (p : Int)) (fun w => by first | rfl | (go_simp; done) | (simp [go_sem]; done)) ?_
        simp only [Act.put, List.setIfInBounds_toArray, List.set_cons_succ, List.set_cons_zero]
        refine WG.put rfl (v := .bool (c == 0)) (fun w => by first | rfl | (go_simp; done) | (simp [go_sem]; done)) ?_
        simp only [Act.put, List.setIfInBounds_toArray, List.set_cons_succ, List.set_cons_zero]
        refine WG.nil ?_
        intro w5 B5
        clear HX
        go_wp2
        go_ret2
        exact ⟨p, (c == 0), hqn, HP.out, HQ.out, rfl, Below.then (Below.then B1 BR) B5⟩
      · have hpn : ¬ ((p : Int) < (n : Int)) := by omega
        go_wp2
        refine grow_allW (by kernel_rfl) (by kernel_rfl) ?_
        refine WG.put rfl (v := .int .i64 (p : Int)) (fun w => by first | rfl | (go_simp; done) | (simp [go_sem]; done)) ?_
        simp only [Act.put, List.setIfInBounds_toArray, List.set_cons_succ, List.set_cons_zero]
        refine WG.put rfl (v := .int .i64 (p : Int)) (fun w => by first | rfl | (go_simp; done) | (simp [go_sem]; done)) ?_
        simp only [Act.put, List.setIfInBounds_toArray, List.set_cons_succ, List.set_cons_zero]
        refine WG.put rfl (v := .int .i64 (n : Int)) (fun w => by first | rfl | (go_simp; done) | (simp [go_sem]; done)) ?_
        simp only [Act.put, List.setIfInBounds_toArray, List.set_cons_succ, List.set_cons_zero]
        refine WG.put rfl (v := .bool false) (fun w => by first | rfl | (go_simp; done) | (simp [go_sem, hpn]; done)) ?_
        simp only [Act.put, List.setIfInBounds_toArray, List.set_cons_succ, List.set_cons_zero]
        refine WG.put rfl (v := .bool false) (fun w => by first | rfl | (go_simp; done) | (simp [go_sem]; done)) ?_
        simp only [Act.put, List.setIfInBounds_toArray, List.set_cons_succ, List.set_cons_zero]
        refine WG.skip rfl ?_
        simp only [Act.put, List.setIfInBounds_toArray, List.set_cons_succ, List.set_cons_zero]
        refine WG.skip rfl ?_
        simp only [Act.put, List.setIfInBounds_toArray, List.set_cons_succ, List.set_cons_zero]
        refine WG.skip rfl ?_
        simp only [Act.put, List.setIfInBounds_toArray, List.set_cons_succ, List.set_cons_zero]
        refine WG.skip rfl ?_
        simp only [Act.put, List.setIfInBounds_toArray, List.set_cons_succ, List.set_cons_zero]
        refine WG.skip rfl ?_
        simp only [Act.put, List.setIfInBounds_toArray, List.set_cons_succ, List.set_cons_zero]
        refine WG.skip rfl ?_
        simp only [Act.put, List.setIfInBounds_toArray, List.set_cons_succ, List.set_cons_zero]
        refine WG.skip rfl ?_
        simp only [Act.put, List.setIfInBounds_toArray, List.set_cons_succ, List.set_cons_zero]
        refine WG.skip rfl ?_
        simp only [Act.put, List.setIfInBounds_toArray, List.set_cons_succ, List.set_cons_zero]
        refine WG.put rfl (v := .bool false) (fun w => by first | rfl | (go_simp; done) | (simp [go_sem]; done)) ?_
        simp only [Act.put, List.setIfInBounds_toArray, List.set_cons_succ, List.set_cons_zero]
        refine WG.put rfl (v := .int .i64 (p : Int)) (fun w => by first | rfl | (go_simp; done) | (simp [go_sem]; done)) ?_
        simp only [Act.put, List.setIfInBounds_toArray, List.set_cons_succ, List.set_cons_zero]
        refine WG.put rfl (v := .bool false) (fun w => by first | rfl | (go_simp; done) | (simp [go_sem]; done)) ?_
        simp only [Act.put, List.setIfInBounds_toArray, List.set_cons_succ, List.set_cons_zero]
        refine WG.nil ?_
        intro w5 B5
        go_wp2
        go_ret2
        exact ⟨p, false, hqn, HP.out, HQ.out, rfl, Below.then (Below.then B1 BR) B5⟩
end Go.Proofs.YtbhgchhoeokjhabDoor
/- Find of the program. -/
namespace Go.Proofs.YtbhgchhoeokjhabDoor
open Go Go.RowKit M
set_option linter.unusedSimpArgs false
set_option linter.unusedVariables false

/-- Where a final state stands in a set, or would stand. -/
def FindAt (l : List FS) (f : FS) (p : Nat) : Prop := p ≤ l.length ∧ (∀ j, j < p → ltF (l.getD j FS.zero) f) ∧ (∀ j, p ≤ j → j < l.length → ¬ ltF (l.getD j FS.zero) f)
theorem FindAt.mem {l : List FS} {f : FS} {p : Nat} (h : FindAt l f p) (hR : Ris l) (hp : p < l.length) : decide (l.getD p FS.zero = f) = decide (f ∈ l) := by
  rw [decide_eq_decide]
  constructor
  · intro e; rw [← e, getD_at l p hp]; exact List.getElem_mem hp
  · intro hf
    obtain ⟨j, hj, e⟩ := List.getElem_of_mem hf
    rw [← getD_at l j hj] at e
    have h1 : p ≤ j := by
      by_cases hjp : j < p
      · have := h.2.1 j hjp; rw [e] at this; exact absurd this (ltF_irrefl f)
      · omega
    by_cases hjp : p = j
    · rw [hjp]; exact e
    · have := ris_lt hR (by omega : p < j) hj
      rw [e] at this
      exact absurd this (h.2.2 p (Nat.le_refl _) hp)
theorem FindAt.none {l : List FS} {f : FS} {p : Nat} (h : FindAt l f p) (hp : ¬ p < l.length) : decide (f ∈ l) = false := by
  rw [decide_eq_false_iff_not]
  intro hf
  obtain ⟨j, hj, e⟩ := List.getElem_of_mem hf
  rw [← getD_at l j hj] at e
  have := h.2.1 j (by omega)
  rw [e] at this
  exact ltF_irrefl f this
set_option maxRecDepth 100000 in
set_option maxHeartbeats 2000000 in
theorem find_any (a : Option Addr) (cap : Nat) (l : List FS) (f : FS) (hn : l.length ≤ 8000) (hR : Ris l) (w : World) (hS : Seg w a (flatF l)) :
    Calls Tryd.prog 16 #[.slice a l.length cap, .agg (encF f).toArray] w fun e w' => ∃ p : Nat, FindAt l f p ∧ e = .returned (.tuple #[.int .i64 (p : Int), .bool (decide (f ∈ l))]) ∧ Below w.heap.size w w' := by
  have hB := fun W (h : Seg W a (flatF l)) => bsearch_any a cap l f hn hR W h
  obtain ⟨n, hll⟩ : ∃ n, l.length = n := ⟨_, rfl⟩
  simp only [hll] at hn hB ⊢
  have HLL : Hid (l.length = n) := hll
  have HS : Hid (Seg w a (flatF l)) := hS
  have hnI : (n : Int) ≤ 8000 := by omega
  clear hll hS
  go_enter Tryd.func16, Tryd.ntmps16
  have ta : True := trivial
  go_wp2_with (first
    | (clear ta; refine wpList_boxS rfl _ _ rfl (encF f) rfl ?_; intro w1 b1 F1 I1; have B1 := fresh_b F1)
    | (refine wpList_loadF rfl _ rfl rfl I1 ?_)
    | (go_at_call 29; refine (hB _ (HS.out.below B1)).mono ?_; rintro e w2 ⟨p, fd, q1, q2, q3, rfl, B2⟩; have HF : Hid (FindAt l f p) := ⟨(by rw [HLL.out]; exact q1), q2, (by rw [HLL.out]; exact q3)⟩; have I2 := I1.grown B2; clear q2 q3 hB))
  have S2 := HS.out.below (Below.then B1 B2)
  by_cases hp : p < n
  · have hpn : (p : Int) < (n : Int) := by omega
    obtain ⟨b, o, rfl, HB, HX⟩ := seg_elem S2 p (by rw [HLL.out]; exact hp)
    obtain ⟨d, hd'⟩ : ∃ d, decide (f ∈ l) = d := ⟨_, rfl⟩
    have hd : decide (l.getD p FS.zero = f) = d := by rw [← hd']; exact HF.out.mem hR (by rw [HLL.out]; exact hp)
    have HD : Hid (decide (f ∈ l) = d) := hd'
    generalize l.getD p FS.zero = X at *
    clear S2 hd'
    refine grow_allW (by kernel_rfl) (by kernel_rfl) ?_
    refine WG.put rfl (v := .int .i64 (p : Int)) (fun w => by first | rfl | (go_simp; done) | (simp [go_sem]; done)) ?_
    simp only [Act.put, List.setIfInBounds_toArray, List.set_cons_succ, List.set_cons_zero]
    refine WG.put rfl (v := .int .i64 (p : Int)) (fun w => by first | rfl | (go_simp; done) | (simp [go_sem]; done)) ?_
    simp only [Act.put, List.setIfInBounds_toArray, List.set_cons_succ, List.set_cons_zero]
    refine WG.put rfl (v := .slice (some ⟨b, o, none⟩) n cap) (fun w => by first | rfl | (go_simp; done) | (simp [go_sem]; done)) ?_
    simp only [Act.put, List.setIfInBounds_toArray, List.set_cons_succ, List.set_cons_zero]
    refine WG.put rfl (v := .int .i64 (n : Int)) (fun w => by first | rfl | (go_simp; done) | (simp [go_sem]; done)) ?_
    simp only [Act.put, List.setIfInBounds_toArray, List.set_cons_succ, List.set_cons_zero]
    refine WG.put rfl (v := .bool true) (fun w => by first | rfl | (go_simp; done) | (simp [go_sem, hpn]; done)) ?_
    simp only [Act.put, List.setIfInBounds_toArray, List.set_cons_succ, List.set_cons_zero]
    refine WG.put rfl (v := .bool true) (fun w => by first | rfl | (go_simp; done) | (simp [go_sem]; done)) ?_
    simp only [Act.put, List.setIfInBounds_toArray, List.set_cons_succ, List.set_cons_zero]
    refine WG.put rfl (v := .slice (some ⟨b, o, none⟩) n cap) (fun w => by first | rfl | (go_simp; done) | (simp [go_sem]; done)) ?_
    simp only [Act.put, List.setIfInBounds_toArray, List.set_cons_succ, List.set_cons_zero]
    refine WG.put rfl (v := .int .i64 (p : Int)) (fun w => by first | rfl | (go_simp; done) | (simp [go_sem]; done)) ?_
    simp only [Act.put, List.setIfInBounds_toArray, List.set_cons_succ, List.set_cons_zero]
    refine WG.put rfl (v := .pointer (some ⟨b, o + p * 49, none⟩)) (fun w => by first | rfl | (go_simp; done) | (simp [go_sem, hpn]; done)) ?_
    simp only [Act.put, List.setIfInBounds_toArray, List.set_cons_succ, List.set_cons_zero]
    refine WG.elem (x := X) rfl _ rfl rfl HB HX ?_
    simp only [Act.put, List.setIfInBounds_toArray, List.set_cons_succ, List.set_cons_zero]
    refine WG.whole rfl _ rfl rfl I2 ?_
    simp only [Act.put, List.setIfInBounds_toArray, List.set_cons_succ, List.set_cons_zero]
    refine WG.eqF rfl _ _ rfl rfl rfl d hd ?_
    simp only [Act.put, List.setIfInBounds_toArray, List.set_cons_succ, List.set_cons_zero]
    refine WG.put rfl (v := .bool d) (fun w => by first | rfl | (go_simp; done) | (simp [go_sem]; done)) ?_
    simp only [Act.put, List.setIfInBounds_toArray, List.set_cons_succ, List.set_cons_zero]
    refine WG.put rfl (v := .int .i64 (p : Int)) (fun w => by first | rfl | (go_simp; done) | (simp [go_sem]; done)) ?_
    simp only [Act.put, List.setIfInBounds_toArray, List.set_cons_succ, List.set_cons_zero]
    refine WG.put rfl (v := .bool d) (fun w => by first | rfl | (go_simp; done) | (simp [go_sem]; done)) ?_
    simp only [Act.put, List.setIfInBounds_toArray, List.set_cons_succ, List.set_cons_zero]
    refine WG.nil ?_
    intro w5 B5
    clear HX
    go_wp2
    go_ret2
    exact ⟨p, HF.out, by rw [HD.out]; rfl, Below.then (Below.then B1 B2) B5⟩
  · have hpn : ¬ ((p : Int) < (n : Int)) := by omega
    have HD : Hid (decide (f ∈ l) = false) := HF.out.none (by rw [HLL.out]; exact hp)
    clear S2
    refine grow_allW (by kernel_rfl) (by kernel_rfl) ?_
    refine WG.put rfl (v := .int .i64 (p : Int)) (fun w => by first | rfl | (go_simp; done) | (simp [go_sem]; done)) ?_
    simp only [Act.put, List.setIfInBounds_toArray, List.set_cons_succ, List.set_cons_zero]
    refine WG.put rfl (v := .int .i64 (p : Int)) (fun w => by first | rfl | (go_simp; done) | (simp [go_sem]; done)) ?_
    simp only [Act.put, List.setIfInBounds_toArray, List.set_cons_succ, List.set_cons_zero]
    refine WG.put rfl (v := .slice a n cap) (fun w => by first | rfl | (go_simp; done) | (simp [go_sem]; done)) ?_
    simp only [Act.put, List.setIfInBounds_toArray, List.set_cons_succ, List.set_cons_zero]
    refine WG.put rfl (v := .int .i64 (n : Int)) (fun w => by first | rfl | (go_simp; done) | (simp [go_sem]; done)) ?_
    simp only [Act.put, List.setIfInBounds_toArray, List.set_cons_succ, List.set_cons_zero]
    refine WG.put rfl (v := .bool false) (fun w => by first | rfl | (go_simp; done) | (simp [go_sem, hpn]; done)) ?_
    simp only [Act.put, List.setIfInBounds_toArray, List.set_cons_succ, List.set_cons_zero]
    refine WG.put rfl (v := .bool false) (fun w => by first | rfl | (go_simp; done) | (simp [go_sem]; done)) ?_
    simp only [Act.put, List.setIfInBounds_toArray, List.set_cons_succ, List.set_cons_zero]
    refine WG.skip rfl ?_
    simp only [Act.put, List.setIfInBounds_toArray, List.set_cons_succ, List.set_cons_zero]
    refine WG.skip rfl ?_
    simp only [Act.put, List.setIfInBounds_toArray, List.set_cons_succ, List.set_cons_zero]
    refine WG.skip rfl ?_
    simp only [Act.put, List.setIfInBounds_toArray, List.set_cons_succ, List.set_cons_zero]
    refine WG.skip rfl ?_
    simp only [Act.put, List.setIfInBounds_toArray, List.set_cons_succ, List.set_cons_zero]
    refine WG.skip rfl ?_
    simp only [Act.put, List.setIfInBounds_toArray, List.set_cons_succ, List.set_cons_zero]
    refine WG.skip rfl ?_
    simp only [Act.put, List.setIfInBounds_toArray, List.set_cons_succ, List.set_cons_zero]
    refine WG.put rfl (v := .bool false) (fun w => by first | rfl | (go_simp; done) | (simp [go_sem]; done)) ?_
    simp only [Act.put, List.setIfInBounds_toArray, List.set_cons_succ, List.set_cons_zero]
    refine WG.put rfl (v := .int .i64 (p : Int)) (fun w => by first | rfl | (go_simp; done) | (simp [go_sem]; done)) ?_
    simp only [Act.put, List.setIfInBounds_toArray, List.set_cons_succ, List.set_cons_zero]
    refine WG.put rfl (v := .bool false) (fun w => by first | rfl | (go_simp; done) | (simp [go_sem]; done)) ?_
    simp only [Act.put, List.setIfInBounds_toArray, List.set_cons_succ, List.set_cons_zero]
    refine WG.nil ?_
    intro w5 B5
    go_wp2
    go_ret2
    exact ⟨p, HF.out, by rw [HD.out]; rfl, Below.then (Below.then B1 B2) B5⟩
end Go.Proofs.YtbhgchhoeokjhabDoor

/- Domain, Range, Irreflexive, Transitive and Acyclic of rel. -/
import Derived.Test.YtkccckjiemijeabDoorW1
namespace Go.Proofs.YtkccckjiemijeabDoor
open Go.RowKit Go.Shelf M P
set_option linter.unusedSimpArgs false
set_option linter.unusedVariables false

def dom (F : Nat → Nat) (k : Nat) : Nat := rowB (fun a => decide (F a ≠ 0)) k
def rng (F : Nat → Nat) : Nat → Nat
  | 0 => 0
  | k + 1 => rng F k ||| F k
theorem rng_lt {F : Nat → Nat} (h : Wf F) : ∀ k, rng F k < 18446744073709551616
  | 0 => by simp [rng]
  | k + 1 => Nat.or_lt_two_pow (n := 64) (rng_lt h k) (h k)
def irr (N : Nat) (F : Nat → Nat) : Bool := (List.range N).all fun a => !(F a).testBit a
def tra (N : Nat) (F : Nat → Nat) : Bool := rowsEq (nxt N F) F

set_option maxRecDepth 100000 in
set_option maxHeartbeats 1000000 in
theorem domain_any (n : Int) (f : Nat → Nat) (hf : Wf f) : AnsV 20 #[relv n f] (.int .u64 (dom (nF n f) (nN n f).toNat : Nat)) := fun w hT => by
  have c1 : Hid (∀ W, Calls Tryd.prog 43 #[relv n f] W fun e w' => e = .returned (relv (nN n f) (nF n f)) ∧ Below W.heap.size W w') := fun W => right_any n f W hf
  obtain ⟨N, h1, hN64, h3⟩ := n_right' n f hf
  rw [h1] at c1 ⊢
  rw [Int.toNat_natCast]
  generalize nF n f = F at *
  clear h1 h3 hT
  go_enter Tryd.func20, Tryd.ntmps20
  go_wp2_with (first
    | (refine wpList_boxR rfl _ rfl rfl ?_; intro W1 b1 F1 r1; have B1 := Fresh.trans (Below.refl _ w) (Nat.le_refl _) F1; have hb1 : w.heap.size ≤ b1 := (by rw [F1.at']; exact Nat.le_refl _); clear F1)
    | (refine wpList_loadR rfl _ rfl rfl r1 ?_)
    | (go_at_call 43; refine (c1.out _).mono ?_; rintro e w' ⟨rfl, hw'⟩; replace r1 := r1.grown hw'; replace B1 := B1.trans (hw'.mono B1.size); clear hw')
    | (refine wpList_storeR rfl _ _ rfl rfl rfl r1 ?_; intro W5 U5 q1; replace B1 := U5.trans B1 (by omega); clear U5 r1; have r1 := q1; clear q1; have cn1 := r1.n))
  go_loop [3, 9] (fun s i => ∃ k : Nat, k ≤ N ∧ i = .int .i64 k ∧ s = .int .u64 (dom F k : Nat)) (fun _ i => N - (intOf i).toNat)
  case atStart => exact ⟨0, by omega, rfl, rfl⟩
  case round =>
    obtain ⟨k, hk, rfl, rfl⟩ := hrel
    by_cases hlt : k < N
    · have hki : (k : Int) < (N : Int) := by omega
      have hk64 : (k : Int) < 64 := by omega
      have hrow := r1.row k (by omega)
      have hdl : dom F k < 18446744073709551616 := rowB_lt _ _ (by omega)
      have hor := or_pow (dom F k) k hdl (by omega)
      have hw := wrap_pow k (by omega)
      have HD : Hid (dom F (k + 1) = if decide (F k ≠ 0) = true then dom F k ||| 2 ^ k else dom F k) := rfl
      by_cases hz : F k = 0
      · have hz' : ((F k : Int) == 0) = true := by simp [hz]
        have HE : Hid (dom F (k + 1) = dom F k) := (show dom F (k + 1) = dom F k by rw [HD.out]; simp [hz])
        rw [hz] at hrow
        clear hz hz' HD hor
        generalize dom F k = z at *
        go_wp2
        go_round
        case rel => exact ⟨k + 1, by omega, by go_num, by rw [HE.out]⟩
        case measure => simp [intOf]; omega
      · have hz' : ¬ ((F k : Int) = 0) := by omega
        have HE : Hid (dom F (k + 1) = dom F k ||| 2 ^ k) := (show dom F (k + 1) = dom F k ||| 2 ^ k by rw [HD.out]; simp [hz])
        clear hz HD
        generalize F k = y at *
        generalize dom F k ||| 2 ^ k = z1 at *
        generalize dom F k = z at *
        go_wp2
        go_round
        case rel => exact ⟨k + 1, by omega, by go_num, by rw [HE.out]⟩
        case measure => simp [intOf]; omega
    · obtain rfl : k = N := by omega
      have hki : ¬ (k : Int) < (k : Int) := by omega
      go_wp2
      go_ret
      exact ⟨rfl, B1⟩

set_option maxRecDepth 100000 in
set_option maxHeartbeats 1000000 in
theorem range_any (n : Int) (f : Nat → Nat) (hf : Wf f) : AnsV 21 #[relv n f] (.int .u64 (rng (nF n f) 64 : Nat)) := fun w hT => by
  have c1 : Hid (∀ W, Calls Tryd.prog 43 #[relv n f] W fun e w' => e = .returned (relv (nN n f) (nF n f)) ∧ Below W.heap.size W w') := fun W => right_any n f W hf
  have hwf : Hid (Wf (nF n f)) := nF_wf n f hf
  have hfl := field25 (nN n f) (nF n f)
  generalize nN n f = m at *
  generalize nF n f = F at *
  clear hT
  go_enter Tryd.func21, Tryd.ntmps21
  go_wp2_with (first
    | (refine wpList_boxR rfl _ rfl rfl ?_; intro W1 b1 F1 r1; have B1 := Fresh.trans (Below.refl _ w) (Nat.le_refl _) F1)
    | (refine wpList_loadR rfl _ rfl rfl r1 ?_)
    | (go_at_call 43; refine (c1.out _).mono ?_; rintro e w' ⟨rfl, hw'⟩; replace B1 := B1.trans (hw'.mono B1.size)))
  go_loop [3, 9] (fun v i => ∃ k : Nat, k ≤ 64 ∧ i = .int .i64 k ∧ v = .int .u64 (rng F k : Nat)) (fun _ i => 64 - (intOf i).toNat)
  case atStart => exact ⟨0, by omega, rfl, rfl⟩
  case round =>
    obtain ⟨k, hk, rfl, rfl⟩ := hrel
    by_cases hlt : k < 64
    · have hrow := index23 F k hlt w'
      have hop := u64_or_nat (rng F k) (F k) (rng_lt hwf.out k) (hwf.out k)
      have HE : Hid (rng F (k + 1) = rng F k ||| F k) := rfl
      generalize rng F k ||| F k = z1 at *
      generalize rng F k = z at *
      generalize F k = y at *
      go_wp2
      go_round
      case rel => exact ⟨k + 1, by omega, by go_num, by rw [HE.out]⟩
      case measure => simp [intOf]; omega
    · obtain rfl : k = 64 := by omega
      go_wp2
      go_ret
      exact ⟨rfl, B1⟩

theorem irr_eq {N : Nat} {F : Nat → Nat} (hN : N ≤ 64) (hF : Right N F) : rowsEq (opF andN F (idF N)) void = irr N F := by
  rw [Bool.eq_iff_iff, rowsEq_iff]
  unfold irr
  rw [List.all_eq_true]
  constructor
  · intro h a ha
    have hlt : a < N := by simpa using ha
    have h1 := h a (by omega)
    unfold opF andN void at h1
    have h2 : (F a &&& idF N a).testBit a = false := by rw [h1]; exact Nat.zero_testBit a
    rw [Nat.testBit_and, (idF_bit N a a hN).2 ⟨rfl, hlt⟩, Bool.and_true] at h2
    simp [h2]
  · intro h a ha
    unfold opF andN void
    apply Nat.eq_of_testBit_eq
    intro b
    rw [Nat.zero_testBit, Nat.testBit_and]
    cases h1 : (F a).testBit b
    · rfl
    · cases h2 : (idF N a).testBit b
      · rfl
      · obtain ⟨rfl, hlt⟩ := (idF_bit N a b hN).1 h2
        have := h a (by simpa using hlt)
        rw [h1] at this
        simp at this


set_option maxRecDepth 100000 in
set_option maxHeartbeats 1000000 in
theorem irreflexive_any (n : Int) (f : Nat → Nat) (hf : Wf f) : AnsV 31 #[relv n f] (.bool (irr (nN n f).toNat (nF n f))) := fun w hT => by
  have c1 : Hid (∀ W, Calls Tryd.prog 43 #[relv n f] W fun e w' => e = .returned (relv (nN n f) (nF n f)) ∧ Below W.heap.size W w') := fun W => right_any n f W hf
  obtain ⟨N, h1, hN64, h3⟩ := n_right' n f hf
  rw [h1] at c1 ⊢
  rw [Int.toNat_natCast]
  have cs : Hid (AnsV 45 #[.int .i64 (N : Int)] (relv N (idF N))) := sameN_any N hN64
  have cu : Hid (AnsV 14 #[relv N (nF n f), relv N (idF N)] (relv N (opF andN (nF n f) (idF N)))) := meet_R hN64 h3 (right_id N hN64)
  have HE : Hid (rowsEq (opF andN (nF n f) (idF N)) void = irr N (nF n f)) := irr_eq hN64 h3
  generalize nF n f = F at *
  generalize opF andN F (idF N) = X at *
  generalize idF N = Y at *
  clear h1 h3
  go_enter Tryd.func31, Tryd.ntmps31
  go_wp2_with (first
    | (refine wpList_boxR rfl _ rfl rfl ?_; intro W1 b1 F1 r1; have B1 := Fresh.trans (Below.refl _ w) (Nat.le_refl _) F1; have hb1 : w.heap.size ≤ b1 := (by rw [F1.at']; exact Nat.le_refl _); clear F1)
    | (refine wpList_loadR rfl _ rfl rfl r1 ?_)
    | (go_at_call 43; refine (c1.out _).mono ?_; rintro e w' ⟨rfl, hw'⟩; replace r1 := r1.grown hw'; replace B1 := B1.trans (hw'.mono B1.size); clear hw')
    | (refine wpList_storeR rfl _ _ rfl rfl rfl r1 ?_; intro W5 U5 q1; replace B1 := U5.trans B1 (by omega); clear U5 r1; have r1 := q1; clear q1))
  have tW := hT.below B1
  refine grow_all (by kernel_rfl) (by kernel_rfl) ?_
  refine wpG_loadR rfl _ rfl rfl r1 ?_
  refine wpG_put rfl (v := .pointer (some ⟨b1, 0, none⟩)) (fun w => by go_simp; done) ?_
  refine wpG_loadN rfl _ rfl rfl r1 ?_
  refine wpG_call tW rfl cs.out (fun w => by first | rfl | (go_simp; done)) ?_
  refine wpG_call tW rfl cu.out (fun w => by first | rfl | (go_simp; done)) ?_
  refine wpG_put rfl (v := .pointer (some ⟨b1, 0, none⟩)) (fun w => by go_simp; done) ?_
  refine wpG_loadN rfl _ rfl rfl r1 ?_
  simp only [Act.put, List.setIfInBounds_toArray, List.set_cons_succ, List.set_cons_zero]
  refine wpG_buildRN rfl _ rfl rfl ?_
  refine wpG_eqR rfl _ _ rfl rfl rfl ?_
  refine wpG_put rfl (fun w => rfl) ?_
  refine wpG_nil ?_
  intro W6 hW6
  simp only [Act.put, List.setIfInBounds_toArray, List.set_cons_succ, List.set_cons_zero]
  have B6 := B1.trans (hW6.mono B1.size)
  clear r1 B1 hW6 tW
  go_wp2
  go_ret
  exact ⟨ret_bool (by rw [HE.out]), B6⟩

set_option maxRecDepth 100000 in
set_option maxHeartbeats 1000000 in
theorem transitive_any (n : Int) (f : Nat → Nat) (hf : Wf f) : AnsV 23 #[relv n f] (.bool (tra (nN n f).toNat (nF n f))) := fun w hT => by
  have c1 : Hid (∀ W, Calls Tryd.prog 43 #[relv n f] W fun e w' => e = .returned (relv (nN n f) (nF n f)) ∧ Below W.heap.size W w') := fun W => right_any n f W hf
  obtain ⟨N, h1, hN64, h3⟩ := n_right' n f hf
  rw [h1] at c1 ⊢
  rw [Int.toNat_natCast]
  have cs : Hid (AnsV 18 #[relv N (nF n f), relv N (nF n f)] (relv N (coF (nF n f) (edgesL N (nF n f))))) := comp_R hN64 h3 h3
  have cu : Hid (AnsV 13 #[relv N (nF n f), relv N (coF (nF n f) (edgesL N (nF n f)))] (relv N (nxt N (nF n f)))) := union_R hN64 h3 (right_co h3 h3)
  have HE : Hid (rowsEq (nxt N (nF n f)) (nF n f) = tra N (nF n f)) := rfl
  generalize nF n f = F at *
  generalize nxt N F = X at *
  generalize coF F (edgesL N F) = Y at *
  clear h1 h3
  go_enter Tryd.func23, Tryd.ntmps23
  go_wp2_with (first
    | (refine wpList_boxR rfl _ rfl rfl ?_; intro W1 b1 F1 r1; have B1 := Fresh.trans (Below.refl _ w) (Nat.le_refl _) F1; have hb1 : w.heap.size ≤ b1 := (by rw [F1.at']; exact Nat.le_refl _); clear F1)
    | (refine wpList_loadR rfl _ rfl rfl r1 ?_)
    | (go_at_call 43; refine (c1.out _).mono ?_; rintro e w' ⟨rfl, hw'⟩; replace r1 := r1.grown hw'; replace B1 := B1.trans (hw'.mono B1.size); clear hw')
    | (refine wpList_storeR rfl _ _ rfl rfl rfl r1 ?_; intro W5 U5 q1; replace B1 := U5.trans B1 (by omega); clear U5 r1; have r1 := q1; clear q1))
  have tW := hT.below B1
  refine grow_all (by kernel_rfl) (by kernel_rfl) ?_
  refine wpG_loadR rfl _ rfl rfl r1 ?_
  refine wpG_loadR rfl _ rfl rfl r1 ?_
  refine wpG_loadR rfl _ rfl rfl r1 ?_
  refine wpG_call tW rfl cs.out (fun w => by first | rfl | (go_simp; done)) ?_
  refine wpG_call tW rfl cu.out (fun w => by first | rfl | (go_simp; done)) ?_
  refine wpG_loadR rfl _ rfl rfl r1 ?_
  refine wpG_eqR rfl _ _ rfl rfl rfl ?_
  refine wpG_put rfl (fun w => rfl) ?_
  refine wpG_nil ?_
  intro W6 hW6
  simp only [Act.put, List.setIfInBounds_toArray, List.set_cons_succ, List.set_cons_zero]
  have B6 := B1.trans (hW6.mono B1.size)
  clear r1 B1 hW6 tW
  go_wp2
  go_ret
  exact ⟨ret_bool (by rw [HE.out]), B6⟩

set_option maxRecDepth 100000 in
theorem acyclic_any (n : Int) (f : Nat → Nat) (hf : Wf f) : AnsV 28 #[relv n f] (.bool (irr (nN n f).toNat (wsh (nF n f) (nN n f).toNat))) := fun w hT => by
  have cp : Hid (AnsV 22 #[relv n f] (relv (nN n f) (wsh (nF n f) (nN n f).toNat))) := plus_any n f hf
  obtain ⟨N, h1, hN64, h3⟩ := n_right' n f hf
  rw [h1] at cp ⊢
  rw [Int.toNat_natCast] at cp ⊢
  have hW := right_wsh hN64 h3 N (Nat.le_refl _)
  have co : Hid (AnsV 31 #[relv N (wsh (nF n f) N)] (.bool (irr N (wsh (nF n f) N)))) := by
    have := irreflexive_any N (wsh (nF n f) N) hW.wf
    rwa [right_nN hW hN64, right_nF hW hN64, Int.toNat_natCast] at this
  generalize irr N (wsh (nF n f) N) = X at *
  generalize wsh (nF n f) N = Y at *
  clear h1 h3 hW
  go_enter Tryd.func28, Tryd.ntmps28
  go_wp2_with (first
    | (refine wpList_boxR rfl _ rfl rfl ?_; intro W1 b1 F1 r1; have B1 := Fresh.trans (Below.refl _ w) (Nat.le_refl _) F1)
    | (refine wpList_loadR rfl _ rfl rfl r1 ?_)
    | (go_at_call 22; refine (cp.out _ (hT.below B1)).mono ?_; rintro e w' ⟨rfl, hw'⟩; replace r1 := r1.grown hw'; replace B1 := B1.trans (hw'.mono B1.size); clear hw')
    | (go_at_call 31; refine (co.out _ (hT.below B1)).mono ?_; rintro e w' ⟨rfl, hw'⟩; replace r1 := r1.grown hw'; replace B1 := B1.trans (hw'.mono B1.size); clear hw'))
  go_ret
  exact ⟨rfl, B1⟩
end Go.Proofs.YtkccckjiemijeabDoor

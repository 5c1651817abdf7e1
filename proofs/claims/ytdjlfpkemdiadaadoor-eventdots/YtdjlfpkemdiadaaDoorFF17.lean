/- The relations of events: Int, Po, Ext, Loc, Rmw of event. -/
import Derived.Test.YtdjlfpkemdiadaaDoorFC17
import Derived.Test.YtdjlfpkemdiadaaDoorFD17
import Derived.Test.YtdjlfpkemdiadaaDoorFE17
import Derived.Test.YtdjlfpkemdiadaaDoorRlY6
import Derived.Test.YtdjlfpkemdiadaaDoorRlY8
import Derived.Test.YtdjlfpkemdiadaaDoorRlZ2
namespace Go.Proofs.YtdjlfpkemdiadaaDoor
open Go.RowKit M
set_option linter.unusedSimpArgs false
set_option linter.unusedVariables false

/-- Does a pair stand in a relation? -/
def stQ (r : Int) (L : List EV) (a b : Nat) : Bool :=
  if r = 1 then oneB (evA L a) (evA L b) && decide (a < b)
  else if r = 2 then (mmB (evA L a) && mmB (evA L b)) && decide ((evA L a).loc = (evA L b).loc)
  else if r = 3 then oneB (evA L a) (evA L b)
  else if r = 4 then !oneB (evA L a) (evA L b)
  else ((((((oneB (evA L a) (evA L b) && decide ((evA L a).idx = (evA L b).idx)) && rdB (evA L a)) && wrB (evA L b)) && (evA L a).lck) && (evA L b).lck) && decide (a < b))
theorem right_pr (n : Nat) (hn : n ≤ 64) (q : Nat → Nat → Bool) : Right n (prF n q) :=
  right_bits (fun i => prF_lt n hn q i) (fun a b ha h => by
    rw [prF_bit] at h
    simp only [Bool.and_eq_true, decide_eq_true_eq] at h
    exact h.1)
/-- The complement. -/
theorem not_R {N : Nat} {q : Nat → Nat → Bool} (hN : N ≤ 64) (w : World) : Calls Tryd.prog 34 #[relv N (prF N q)] w fun e w' => e = .returned (relv N (prF N (fun a b => !q a b))) ∧ Below w.heap.size w w' := by
  have hR := right_pr N hN q
  have := not_any N (prF N q) w hR.wf
  rw [right_nN hR hN, right_nF hR hN, Int.toNat_natCast] at this
  rw [show relv (N : Int) (prF N (fun a b => !q a b)) = relv N (upTo (xoN N) (prF N q) void N) from relv_congr rfl (fun a ha => ?_)]
  · exact this
  · refine (rows_ext (n := N) (fun a b ha => ?_) a ha).symm
    unfold upTo
    by_cases h : a < N
    · rw [if_pos h]
      unfold xoN
      rw [Nat.testBit_xor, prF_bit]
      by_cases hb : b < 64
      · rw [testBit_bel N b hb]
        by_cases h2 : b < N
        · simp [h, h2]
        · simp [h, h2]
      · have : ¬ b < N := by omega
        rw [Nat.testBit_lt_two_pow (Nat.lt_of_lt_of_le (bel_lt N) (Nat.pow_le_pow_right (n := 2) (by omega) (show 64 ≤ b by omega)))]
        simp [this]
    · rw [if_neg h, prF_bit]; simp [h]
/-- The pairs from one set to another. -/
theorem restrict_R {N : Nat} {q : Nat → Nat → Bool} {p1 p2 : Nat → Bool} (hN : N ≤ 64) (w : World) (hT : TabAt w) :
    Calls Tryd.prog 60 #[relv N (prF N q), .int .u64 (maskN N p1 : Nat), .int .u64 (maskN N p2 : Nat)] w fun e w' => e = .returned (relv N (prF N (fun a b => q a b && (p1 a && p2 b)))) ∧ Below w.heap.size w w' := by
  have hR := right_pr N hN q
  have hcr : crV (N : Int) (maskN N p1) (maskN N p2) = relv N (crF (maskN N p1) (maskN N p2) N N 0) := by
    unfold crV; rw [if_pos (by omega), Int.toNat_natCast]
  have hcb : ∀ a b, (crF (maskN N p1) (maskN N p2) N N 0 a).testBit b = (decide (a < N) && (decide (b < N) && (p1 a && p2 b))) := fun a b => by
    unfold crF
    by_cases h : a < N
    · rw [if_pos h]
      unfold crRow
      rw [maskN_bit]
      cases h1 : p1 a
      · simp [h1]
      · simp only [h, decide_true, Bool.true_and, h1, if_true]
        rw [Nat.testBit_and, maskN_bit]
        by_cases hb : b < 64
        · rw [testBit_bel N b hb]
          by_cases h2 : b < N
          · simp [h2]
          · simp [h2]
        · have : ¬ b < N := by omega
          simp [this]
    · rw [if_neg h]
      by_cases h2 : a = N
      · rw [if_pos h2]
        unfold crRow
        simp [h, bel]
      · rw [if_neg h2]; simp [h]
  have hwf : Wf (crF (maskN N p1) (maskN N p2) N N 0) := fun i => by
    unfold crF
    split
    · exact crRow_lt _ _ _ _
    · split
      · exact crRow_lt _ _ _ _
      · decide
  have hRc : Right N (crF (maskN N p1) (maskN N p2) N N 0) := right_bits hwf (fun a b ha h => by
    rw [hcb] at h
    simp only [Bool.and_eq_true, decide_eq_true_eq] at h
    exact ⟨h.1, h.2.1⟩)
  have := restrict_any N (prF N q) (maskN N p1) (maskN N p2) w hR.wf (maskN_lt64 _ hN) (maskN_lt64 _ hN) hT _ _ hcr hwf
  rw [al_N hN hR hRc, al_F hN hR hRc, al_G hN hR hRc] at this
  rw [show relv (N : Int) (prF N (fun a b => q a b && (p1 a && p2 b))) = relv N (opF andN (prF N q) (crF (maskN N p1) (maskN N p2) N N 0)) from relv_congr rfl (fun a ha => ?_)]
  · exact this
  · refine (rows_ext (n := N) (fun a b ha => ?_) a ha).symm
    unfold opF andN
    rw [Nat.testBit_and, prF_bit, hcb]
    cases decide (a < N) <;> cases decide (b < N) <;> simp
section
variable {w : World} {l : List EV} {a : Option Addr} {c : Nat}
set_option maxHeartbeats 1000000 in
theorem int_x (hl : l.length ≤ 9223372036854775807) (hS : Seg w a (l.flatMap evL)) : Calls Tryd.prog 12 #[.slice a l.length c] w fun e w' => e = .returned (relv (shL l).length (prF (shL l).length (stQ 3 (shL l)))) ∧ Below w.heap.size w w' := by
  have HC : Hid (∀ W, Below w.heap.size w W → Calls Tryd.prog 32 #[.slice a l.length c, .func (.func 33) #[] #[]] W fun e w' => e = .returned (relv (shL l).length (prF (shL l).length (stQ 3 (shL l)))) ∧ Below W.heap.size W w') := fun W hB => pairsO_any l a c W hl (hS.below hB)
  clear hS
  generalize prF (shL l).length (stQ 3 (shL l)) = Z at *
  generalize (shL l).length = N at *
  generalize l.length = n at *
  go_enter Tryd.func12, Tryd.ntmps12
  go_wp2_with (first
    | (refine wpList_allocR rfl rfl ?_; intro W2 b2 F2 r2; have B1 := F_b F2; have hb2 : w.heap.size ≤ b2 := Nat.le_of_eq F2.at'.symm; clear F2)
    | (go_at_call 32; refine (HC.out _ B1).mono ?_; rintro e W3 ⟨rfl, B3⟩; replace B1 := Below.then B1 B3; replace r2 := r2.grown B3; clear B3)
    | (refine wpList_storeR rfl _ _ rfl rfl rfl r2 ?_; intro W5 U5 q3))
  refine ret_R rfl rfl rfl q3 ⟨rfl, U5.trans B1 hb2⟩
set_option maxHeartbeats 1000000 in
theorem po_x (hl : l.length ≤ 9223372036854775807) (hS : Seg w a (l.flatMap evL)) : Calls Tryd.prog 11 #[.slice a l.length c] w fun e w' => e = .returned (relv (shL l).length (prF (shL l).length (stQ 1 (shL l)))) ∧ Below w.heap.size w w' := by
  have HC : Hid (∀ W, Below w.heap.size w W → Calls Tryd.prog 12 #[.slice a l.length c] W fun e w' => e = .returned (relv (shL l).length (prF (shL l).length (stQ 3 (shL l)))) ∧ Below W.heap.size W w') := fun W hB => int_x hl (hS.below hB)
  have HD : Hid (∀ W, Calls Tryd.prog 31 #[relv (shL l).length (prF (shL l).length (stQ 3 (shL l)))] W fun e w' => e = .returned (relv (shL l).length (prF (shL l).length (stQ 1 (shL l)))) ∧ Below W.heap.size W w') := fun W => by
    have := forward_any (shL l).length (shL_le l) _ (fun i => prF_lt _ (shL_le l) (stQ 3 (shL l)) i) W
    rwa [show relv ((shL l).length : Int) (fwF (shL l).length (prF (shL l).length (stQ 3 (shL l)))) = relv (shL l).length (prF (shL l).length (stQ 1 (shL l))) from relv_congr rfl (fun a ha => fw_pr _ (shL_le l) _ a ha)] at this
  clear hS
  generalize prF (shL l).length (stQ 3 (shL l)) = Y at *
  generalize prF (shL l).length (stQ 1 (shL l)) = Z at *
  generalize (shL l).length = N at *
  generalize l.length = n at *
  go_enter Tryd.func11, Tryd.ntmps11
  go_wp2_with (first
    | (refine wpList_allocR rfl rfl ?_; intro W2 b2 F2 r2; have B1 := F_b F2; have hb2 : w.heap.size ≤ b2 := Nat.le_of_eq F2.at'.symm; clear F2)
    | (go_at_call 12; refine (HC.out _ B1).mono ?_; rintro e W3 ⟨rfl, B3⟩; replace B1 := Below.then B1 B3; replace r2 := r2.grown B3; clear B3)
    | (go_at_call 31; refine (HD.out _).mono ?_; rintro e W4 ⟨rfl, B3⟩; replace B1 := Below.then B1 B3; replace r2 := r2.grown B3; clear B3)
    | (refine wpList_storeR rfl _ _ rfl rfl rfl r2 ?_; intro W5 U5 q3))
  refine ret_R rfl rfl rfl q3 ⟨rfl, U5.trans B1 hb2⟩
set_option maxHeartbeats 1000000 in
theorem ext_x (hl : l.length ≤ 9223372036854775807) (hS : Seg w a (l.flatMap evL)) : Calls Tryd.prog 13 #[.slice a l.length c] w fun e w' => e = .returned (relv (shL l).length (prF (shL l).length (stQ 4 (shL l)))) ∧ Below w.heap.size w w' := by
  have HC : Hid (∀ W, Below w.heap.size w W → Calls Tryd.prog 12 #[.slice a l.length c] W fun e w' => e = .returned (relv (shL l).length (prF (shL l).length (stQ 3 (shL l)))) ∧ Below W.heap.size W w') := fun W hB => int_x hl (hS.below hB)
  have HD : Hid (∀ W, Calls Tryd.prog 34 #[relv (shL l).length (prF (shL l).length (stQ 3 (shL l)))] W fun e w' => e = .returned (relv (shL l).length (prF (shL l).length (stQ 4 (shL l)))) ∧ Below W.heap.size W w') := fun W => not_R (shL_le l) W
  clear hS
  generalize prF (shL l).length (stQ 3 (shL l)) = Y at *
  generalize prF (shL l).length (stQ 4 (shL l)) = Z at *
  generalize (shL l).length = N at *
  generalize l.length = n at *
  go_enter Tryd.func13, Tryd.ntmps13
  go_wp2_with (first
    | (refine wpList_allocR rfl rfl ?_; intro W2 b2 F2 r2; have B1 := F_b F2; have hb2 : w.heap.size ≤ b2 := Nat.le_of_eq F2.at'.symm; clear F2)
    | (go_at_call 12; refine (HC.out _ B1).mono ?_; rintro e W3 ⟨rfl, B3⟩; replace B1 := Below.then B1 B3; replace r2 := r2.grown B3; clear B3)
    | (go_at_call 34; refine (HD.out _).mono ?_; rintro e W4 ⟨rfl, B3⟩; replace B1 := Below.then B1 B3; replace r2 := r2.grown B3; clear B3)
    | (refine wpList_storeR rfl _ _ rfl rfl rfl r2 ?_; intro W5 U5 q3))
  refine ret_R rfl rfl rfl q3 ⟨rfl, U5.trans B1 hb2⟩
end
end Go.Proofs.YtdjlfpkemdiadaaDoor

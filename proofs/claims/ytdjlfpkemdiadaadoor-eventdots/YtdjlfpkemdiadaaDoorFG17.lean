/- Loc and Rmw of event. -/
import Derived.Test.YtdjlfpkemdiadaaDoorFF17
import Derived.Test.YtdjlfpkemdiadaaDoorEK17
namespace Go.Proofs.YtdjlfpkemdiadaaDoor
open Go.RowKit M
set_option linter.unusedSimpArgs false
set_option linter.unusedVariables false

theorem prF_fun {n : Nat} {p q : Nat → Nat → Bool} (h : ∀ a b, p a b = q a b) : prF n p = prF n q := by rw [show p = q from funext fun a => funext fun b => h a b]
theorem loc_q (L : List EV) : prF L.length (fun a b => locB (evA L a) (evA L b) && (mmB (evA L a) && mmB (evA L b))) = prF L.length (stQ 2 L) := prF_fun fun a b => by
  show _ = ((mmB (evA L a) && mmB (evA L b)) && decide ((evA L a).loc = (evA L b).loc))
  exact Bool.and_comm _ _
theorem rmw_q (L : List EV) : prF L.length (fun a b => (rmwB (evA L a) (evA L b) && decide (a < b)) && ((fun e => kdB 3 e && e.lck) (evA L a) && (fun e => wrB e && e.lck) (evA L b))) = prF L.length (stQ 5 L) := prF_fun fun a b => by
  show _ = ((((((oneB (evA L a) (evA L b) && decide ((evA L a).idx = (evA L b).idx)) && rdB (evA L a)) && wrB (evA L b)) && (evA L a).lck) && (evA L b).lck) && decide (a < b))
  show (((oneB (evA L a) (evA L b) && decide ((evA L a).idx = (evA L b).idx)) && decide (a < b)) && ((rdB (evA L a) && (evA L a).lck) && (wrB (evA L b) && (evA L b).lck))) = _
  generalize oneB (evA L a) (evA L b) = x1
  generalize decide ((evA L a).idx = (evA L b).idx) = x2
  generalize rdB (evA L a) = x3
  generalize wrB (evA L b) = x4
  generalize (evA L a).lck = x5
  generalize (evA L b).lck = x6
  generalize decide (a < b) = x7
  cases x1 <;> cases x2 <;> cases x3 <;> cases x4 <;> cases x5 <;> cases x6 <;> cases x7 <;> rfl
section
variable {w : World} {l : List EV} {a : Option Addr} {c : Nat}
set_option maxRecDepth 100000 in
set_option maxHeartbeats 2000000 in
theorem rmw_x (hT : TabAt w) (hl : l.length ≤ 9223372036854775807) (hS : Seg w a (l.flatMap evL)) : Calls Tryd.prog 22 #[.slice a l.length c] w fun e w' => e = .returned (relv (shL l).length (prF (shL l).length (stQ 5 (shL l)))) ∧ Below w.heap.size w w' := by
  have HC : Hid (∀ W, Below w.heap.size w W → Calls Tryd.prog 32 #[.slice a l.length c, .func (.func 59) #[] #[]] W fun e w' => e = .returned (relv (shL l).length (prF (shL l).length (fun a b => rmwB (evA (shL l) a) (evA (shL l) b)))) ∧ Below W.heap.size W w') := fun W hB => pairsR_any l a c W hl (hS.below hB)
  have HF : Hid (∀ W, Calls Tryd.prog 31 #[relv (shL l).length (prF (shL l).length (fun a b => rmwB (evA (shL l) a) (evA (shL l) b)))] W fun e w' => e = .returned (relv (shL l).length (prF (shL l).length (fun a b => rmwB (evA (shL l) a) (evA (shL l) b) && decide (a < b)))) ∧ Below W.heap.size W w') := fun W => by
    have := forward_any (shL l).length (shL_le l) _ (fun i => prF_lt _ (shL_le l) (fun a b => rmwB (evA (shL l) a) (evA (shL l) b)) i) W
    rwa [show relv ((shL l).length : Int) (fwF (shL l).length (prF (shL l).length (fun a b => rmwB (evA (shL l) a) (evA (shL l) b)))) = relv (shL l).length (prF (shL l).length (fun a b => rmwB (evA (shL l) a) (evA (shL l) b) && decide (a < b))) from relv_congr rfl (fun a ha => fw_pr _ (shL_le l) _ a ha)] at this
  have HO : Hid (∀ W, Below w.heap.size w W → Calls Tryd.prog 61 #[.slice a l.length c, .int .i64 3] W fun e w' => e = .returned (.int .u64 (setM (shL l) (kdB 3) : Nat)) ∧ Below W.heap.size W w') := fun W hB => of_x 3 hl (hS.below hB)
  have HL : Hid (∀ W, Below w.heap.size w W → Calls Tryd.prog 62 #[.slice a l.length c] W fun e w' => e = .returned (.int .u64 (setM (shL l) EV.lck : Nat)) ∧ Below W.heap.size W w') := fun W hB => locked_x hl (hS.below hB)
  have HW : Hid (∀ W, Below w.heap.size w W → Calls Tryd.prog 63 #[.slice a l.length c] W fun e w' => e = .returned (.int .u64 (setM (shL l) wrB : Nat)) ∧ Below W.heap.size W w') := fun W hB => writes_x hl (hS.below hB)
  have HE : Hid (∀ W, Below w.heap.size w W → Calls Tryd.prog 60 #[relv (shL l).length (prF (shL l).length (fun a b => rmwB (evA (shL l) a) (evA (shL l) b) && decide (a < b))), .int .u64 (setM (shL l) (fun e => kdB 3 e && e.lck) : Nat), .int .u64 (setM (shL l) (fun e => wrB e && e.lck) : Nat)] W fun e w' => e = .returned (relv (shL l).length (prF (shL l).length (stQ 5 (shL l)))) ∧ Below W.heap.size W w') := fun W hB => by
    rw [← rmw_q]
    exact restrict_R (shL_le l) W (hT.below hB)
  have hand1 := u64_and_nat (setM (shL l) (kdB 3)) (setM (shL l) EV.lck) (setM_lt (shL_le l) _) (setM_lt (shL_le l) _)
  have hand2 := u64_and_nat (setM (shL l) wrB) (setM (shL l) EV.lck) (setM_lt (shL_le l) _) (setM_lt (shL_le l) _)
  rw [setM_and] at hand1 hand2
  clear hS hT
  generalize prF (shL l).length (fun a b => rmwB (evA (shL l) a) (evA (shL l) b) && decide (a < b)) = X at *
  generalize prF (shL l).length (fun a b => rmwB (evA (shL l) a) (evA (shL l) b)) = Y at *
  generalize prF (shL l).length (stQ 5 (shL l)) = Z at *
  generalize setM (shL l) (fun e => kdB 3 e && e.lck) = M1 at *
  generalize setM (shL l) (fun e => wrB e && e.lck) = M2 at *
  generalize setM (shL l) (kdB 3) = M3 at *
  generalize setM (shL l) wrB = M4 at *
  generalize setM (shL l) EV.lck = M5 at *
  generalize (shL l).length = N at *
  generalize l.length = n at *
  have t1 : True := trivial
  have t2 : True := trivial
  go_enter Tryd.func22, Tryd.ntmps22
  go_wp2_with (first
    | (clear t1; refine wpList_allocR rfl rfl ?_; intro W2 b2 F2 r2; have B1 := F_b F2; have hb2 : w.heap.size ≤ b2 := Nat.le_of_eq F2.at'.symm; clear F2)
    | (go_at_call 32; refine (HC.out _ B1).mono ?_; rintro e W3 ⟨rfl, B3⟩; replace B1 := Below.then B1 B3; have hl2 := r2.lt; have hz := B3.size; replace r2 := r2.grown B3; clear B3)
    | (refine wpList_allocR rfl rfl ?_; intro W4 b3 F4 r3; replace B1 := Below.then B1 (F_b F4); have hb3 : b2 < b3 := (by rw [F4.at']; omega); replace r2 := r2.fresh F4; clear F4)
    | (clear t2; refine wpList_storeR rfl _ _ rfl rfl rfl r3 ?_; intro W5 U5 q3; replace B1 := U5.trans B1 (by omega); replace r2 := r2.upd U5 (by omega); clear U5 r3)
    | (refine wpList_loadR rfl _ rfl rfl q3 ?_)
    | (go_at_call 31; refine (HF.out _).mono ?_; rintro e W6 ⟨rfl, B3⟩; replace B1 := Below.then B1 B3; replace r2 := r2.grown B3; clear B3 q3)
    | (go_at_call 61; refine (HO.out _ B1).mono ?_; rintro e W7 ⟨rfl, B3⟩; replace B1 := Below.then B1 B3; replace r2 := r2.grown B3; clear B3)
    | (go_at_call 62; refine (HL.out _ B1).mono ?_; rintro e W8 ⟨rfl, B3⟩; replace B1 := Below.then B1 B3; replace r2 := r2.grown B3; clear B3)
    | (go_at_call 63; refine (HW.out _ B1).mono ?_; rintro e W9 ⟨rfl, B3⟩; replace B1 := Below.then B1 B3; replace r2 := r2.grown B3; clear B3)
    | (go_at_call 60; refine (HE.out _ B1).mono ?_; rintro e W10 ⟨rfl, B3⟩; replace B1 := Below.then B1 B3; replace r2 := r2.grown B3; clear B3)
    | (refine wpList_storeR rfl _ _ rfl rfl rfl r2 ?_; intro W11 U7 q7))
  refine ret_R rfl rfl rfl q7 ⟨rfl, U7.trans B1 hb2⟩
end
end Go.Proofs.YtdjlfpkemdiadaaDoor

/- Union, Meet and Minus. -/
import Derived.Test.YtdjlfpkemdiadaaDoorRlY1
namespace Go.Proofs.YtdjlfpkemdiadaaDoor
open Go.RowKit Go.Shelf M
set_option linter.unusedSimpArgs false
set_option linter.unusedVariables false

def opF (o : Nat → Nat → Nat) (F G : Nat → Nat) : Nat → Nat := fun j => o (F j) (G j)
def upTo (o : Nat → Nat → Nat) (F G : Nat → Nat) (k : Nat) : Nat → Nat := fun j => if j < k then o (F j) (G j) else F j
theorem upTo_succ (o : Nat → Nat → Nat) (F G : Nat → Nat) (k j : Nat) : upd (upTo o F G k) k (o (F k) (G k)) j = upTo o F G (k + 1) j := by
  unfold upd upTo
  by_cases h : j = k
  · subst h; simp
  · rw [if_neg h]
    by_cases h2 : j < k
    · rw [if_pos h2, if_pos (by omega)]
    · rw [if_neg h2, if_neg (by omega)]
theorem right_zero {N : Nat} {f : Nat → Nat} (h : Right N f) (j : Nat) (hj : N ≤ j) (h64 : j < 64) : f j = 0 := by
  apply Nat.eq_of_testBit_eq
  intro b
  rw [Nat.zero_testBit]
  by_cases hb : b < 64
  · cases ht : (f j).testBit b
    · rfl
    · have := (h.in' j h64 b hb ht).1; omega
  · exact Nat.testBit_lt_two_pow (Nat.lt_of_lt_of_le (h.wf j) (Nat.pow_le_pow_right (n := 2) (by omega) (show 64 ≤ b by omega)))
theorem upTo_end (o : Nat → Nat → Nat) (h0 : o 0 0 = 0) {N : Nat} {F G : Nat → Nat} (hF : Right N F) (hG : Right N G) (j : Nat) (hj : j < 64) : upTo o F G N j = opF o F G j := by
  unfold upTo opF
  by_cases h : j < N
  · rw [if_pos h]
  · rw [if_neg h, right_zero hF j (by omega) hj, right_zero hG j (by omega) hj, h0]
theorem upTo_at (o : Nat → Nat → Nat) (F G : Nat → Nat) (k : Nat) : upTo o F G k k = F k := by unfold upTo; simp

def orN (x y : Nat) : Nat := x ||| y
def andN (x y : Nat) : Nat := x &&& y
set_option maxRecDepth 100000 in
set_option maxHeartbeats 1000000 in
theorem meet_any (n : Int) (f : Nat → Nat) (m : Int) (g : Nat → Nat) (w : World) (hf : Hid (Wf f)) (hg : Hid (Wf g)) :
    Calls Tryd.prog 80 #[relv n f, relv m g] w fun e w' => e = .returned (relv (alN n f m g) (opF andN (alF n f m g) (alG n f m g))) ∧ Below w.heap.size w w' := by
  have c : Hid (∀ W, Calls Tryd.prog 73 #[relv n f, relv m g] W fun e w' => e = .returned (.tuple #[relv (alN n f m g) (alF n f m g), relv (alN n f m g) (alG n f m g)]) ∧ Below W.heap.size W w') := fun W => alike_any n f m g W hf hg
  obtain ⟨N, hN, hN64, hF, hG⟩ := al_right n f m g hf.out hg.out
  rw [hN] at c ⊢
  generalize alF n f m g = F at *
  generalize alG n f m g = G at *
  clear hN
  have tk1 : True := trivial
  have tk2 : True := trivial
  go_enter Tryd.func80, Tryd.ntmps80
  go_wp2_with (first
      | (refine wpList_boxR rfl _ rfl rfl ?_; clear tk1; intro W1 b1 F1 r1; have B1 := Fresh.trans (Below.refl _ w) (Nat.le_refl _) F1)
      | (refine wpList_boxR rfl _ rfl rfl ?_; intro W2 b2 F2 r2; replace B1 := Fresh.trans B1 B1.size F2; replace r1 := r1.fresh F2)
      | (refine wpList_allocR rfl rfl ?_; intro W3 b3 F3 r3; replace B1 := Fresh.trans B1 B1.size F3; replace r1 := r1.fresh F3; replace r2 := r2.fresh F3; have hb1 : w.heap.size ≤ b1 := (by rw [F1.at']; exact Nat.le_refl _); have hb2 : b1 < b2 := (by rw [F2.at', F1.size]; omega); have hb3 : b2 < b3 := (by rw [F3.at', F2.size]; omega); clear F1 F2 F3)
      | (refine wpList_loadR rfl _ rfl rfl r1 ?_)
      | (refine wpList_loadR rfl _ rfl rfl r2 ?_)
      | (go_at_call 73; refine (c.out _).mono ?_; rintro e w' ⟨rfl, hw'⟩; replace r1 := r1.grown hw'; replace r2 := r2.grown hw'; replace r3 := r3.grown hw'; replace B1 := B1.trans (hw'.mono B1.size); clear hw')
      | (refine wpList_storeR rfl _ _ rfl rfl rfl r1 ?_; clear tk2; intro W4 U4 r4; replace B1 := U4.trans B1 (by omega); replace r2 := r2.upd U4 (by omega); replace r3 := r3.upd U4 (by omega); clear U4 r1)
      | (refine wpList_storeR rfl _ _ rfl rfl rfl r2 ?_; intro W5 U5 r5; replace B1 := U5.trans B1 (by omega); replace r4 := r4.upd U5 (by omega); replace r3 := r3.upd U5 (by omega); clear U5 r2; have hcn := r4.n))
  clear hcn c
  go_loopw [14] (fun i wr => ∃ k : Nat, k ≤ N ∧ i = .int .i64 k ∧ IsR wr b1 N (upTo andN F G k) ∧ IsR wr b2 N G ∧ IsR wr b3 0 void ∧ Below w.heap.size w wr) (fun i _ => N - (intOf i).toNat)
  case atStart => exact ⟨0, by omega, rfl, r4.congr (fun i _ => by simp [upTo]), r5, r3, B1⟩
  case round =>
    obtain ⟨k, hk, rfl, q1, q2, q3, BB⟩ := hrel
    clear r3 r4 r5
    by_cases hlt : k < N
    · have hrow := q1.row k (by omega)
      have hrow2 := q2.row k (by omega)
      rw [upTo_at] at hrow
      have hfz := q1.frozen (1 + k)
      have hop := u64_and_nat (F k) (G k) (hF.wf k) (hG.wf k)
      have hs2 := q1.set k (andN (F k) (G k)) (by omega)
      have U := Upd.setCell wr b1 (1 + k) (.int .u64 ((andN (F k) (G k) : Nat) : Int))
      have BB' := U.trans BB (by omega)
      have q2' := q2.upd U (by omega)
      have q3' := q3.upd U (by omega)
      have HQ : Hid (IsR (wr.setCell ⟨b1, 1 + k, none⟩ (.int .u64 ((andN (F k) (G k) : Nat) : Int))) b1 N (upTo andN F G (k + 1)) ∧ IsR (wr.setCell ⟨b1, 1 + k, none⟩ (.int .u64 ((andN (F k) (G k) : Nat) : Int))) b2 N G ∧ IsR (wr.setCell ⟨b1, 1 + k, none⟩ (.int .u64 ((andN (F k) (G k) : Nat) : Int))) b3 0 void ∧ Below w.heap.size w (wr.setCell ⟨b1, 1 + k, none⟩ (.int .u64 ((andN (F k) (G k) : Nat) : Int)))) := ⟨hs2.congr (fun j _ => upTo_succ andN F G k j), q2', q3', BB'⟩
      change bits .and .u64 (F k : Int) (G k : Int) = ((andN (F k) (G k) : Nat) : Int) at hop
      clear hs2 U BB' q2' q3' q1 q2 q3 BB hF hG
      generalize andN (F k) (G k) = z at *
      generalize F k = z1 at *
      generalize G k = z2 at *
      have hki : (k : Int) < (N : Int) := by omega
      have hk64 : (k : Int) < 64 := by omega
      go_wp2
      go_region
      go_wp2
      go_roundw
      case rel => exact ⟨k + 1, by omega, by simp, HQ.out.1.drew, HQ.out.2.1.drew, HQ.out.2.2.1.drew, HQ.out.2.2.2.drew⟩
      case measure => simp [intOf]; omega
    · obtain rfl : k = N := by omega
      have HV : Hid (relv (k : Int) (upTo andN F G k) = relv (k : Int) (opF andN F G)) := relv_congr rfl (fun j hj => upTo_end andN (by decide) hF hG j hj)
      clear hF hG
      go_wp2_with (first
        | (refine wpList_loadR rfl _ rfl rfl q1 ?_)
        | (refine wpList_storeR rfl _ _ rfl rfl rfl q3 ?_; intro W4 U4 r4))
      refine ret_R rfl rfl rfl r4 ⟨by rw [HV.out], U4.trans BB (by omega)⟩

def notN (x y : Nat) : Nat := x &&& (18446744073709551615 - y)
set_option maxRecDepth 100000 in
set_option maxHeartbeats 1000000 in
theorem minus_any (n : Int) (f : Nat → Nat) (m : Int) (g : Nat → Nat) (w : World) (hf : Hid (Wf f)) (hg : Hid (Wf g)) :
    Calls Tryd.prog 40 #[relv n f, relv m g] w fun e w' => e = .returned (relv (alN n f m g) (opF notN (alF n f m g) (alG n f m g))) ∧ Below w.heap.size w w' := by
  have c : Hid (∀ W, Calls Tryd.prog 73 #[relv n f, relv m g] W fun e w' => e = .returned (.tuple #[relv (alN n f m g) (alF n f m g), relv (alN n f m g) (alG n f m g)]) ∧ Below W.heap.size W w') := fun W => alike_any n f m g W hf hg
  obtain ⟨N, hN, hN64, hF, hG⟩ := al_right n f m g hf.out hg.out
  rw [hN] at c ⊢
  generalize alF n f m g = F at *
  generalize alG n f m g = G at *
  clear hN
  have tk1 : True := trivial
  have tk2 : True := trivial
  go_enter Tryd.func40, Tryd.ntmps40
  go_wp2_with (first
      | (refine wpList_boxR rfl _ rfl rfl ?_; clear tk1; intro W1 b1 F1 r1; have B1 := Fresh.trans (Below.refl _ w) (Nat.le_refl _) F1)
      | (refine wpList_boxR rfl _ rfl rfl ?_; intro W2 b2 F2 r2; replace B1 := Fresh.trans B1 B1.size F2; replace r1 := r1.fresh F2)
      | (refine wpList_allocR rfl rfl ?_; intro W3 b3 F3 r3; replace B1 := Fresh.trans B1 B1.size F3; replace r1 := r1.fresh F3; replace r2 := r2.fresh F3; have hb1 : w.heap.size ≤ b1 := (by rw [F1.at']; exact Nat.le_refl _); have hb2 : b1 < b2 := (by rw [F2.at', F1.size]; omega); have hb3 : b2 < b3 := (by rw [F3.at', F2.size]; omega); clear F1 F2 F3)
      | (refine wpList_loadR rfl _ rfl rfl r1 ?_)
      | (refine wpList_loadR rfl _ rfl rfl r2 ?_)
      | (go_at_call 73; refine (c.out _).mono ?_; rintro e w' ⟨rfl, hw'⟩; replace r1 := r1.grown hw'; replace r2 := r2.grown hw'; replace r3 := r3.grown hw'; replace B1 := B1.trans (hw'.mono B1.size); clear hw')
      | (refine wpList_storeR rfl _ _ rfl rfl rfl r1 ?_; clear tk2; intro W4 U4 r4; replace B1 := U4.trans B1 (by omega); replace r2 := r2.upd U4 (by omega); replace r3 := r3.upd U4 (by omega); clear U4 r1)
      | (refine wpList_storeR rfl _ _ rfl rfl rfl r2 ?_; intro W5 U5 r5; replace B1 := U5.trans B1 (by omega); replace r4 := r4.upd U5 (by omega); replace r3 := r3.upd U5 (by omega); clear U5 r2; have hcn := r4.n))
  clear hcn c
  go_loopw [14] (fun i wr => ∃ k : Nat, k ≤ N ∧ i = .int .i64 k ∧ IsR wr b1 N (upTo notN F G k) ∧ IsR wr b2 N G ∧ IsR wr b3 0 void ∧ Below w.heap.size w wr) (fun i _ => N - (intOf i).toNat)
  case atStart => exact ⟨0, by omega, rfl, r4.congr (fun i _ => by simp [upTo]), r5, r3, B1⟩
  case round =>
    obtain ⟨k, hk, rfl, q1, q2, q3, BB⟩ := hrel
    clear r3 r4 r5
    by_cases hlt : k < N
    · have hrow := q1.row k (by omega)
      have hrow2 := q2.row k (by omega)
      rw [upTo_at] at hrow
      have hfz := q1.frozen (1 + k)
      have hop := u64_andNot_nat (F k) (G k) (hF.wf k) (hG.wf k)
      have hs2 := q1.set k (notN (F k) (G k)) (by omega)
      have U := Upd.setCell wr b1 (1 + k) (.int .u64 ((notN (F k) (G k) : Nat) : Int))
      have BB' := U.trans BB (by omega)
      have q2' := q2.upd U (by omega)
      have q3' := q3.upd U (by omega)
      have HQ : Hid (IsR (wr.setCell ⟨b1, 1 + k, none⟩ (.int .u64 ((notN (F k) (G k) : Nat) : Int))) b1 N (upTo notN F G (k + 1)) ∧ IsR (wr.setCell ⟨b1, 1 + k, none⟩ (.int .u64 ((notN (F k) (G k) : Nat) : Int))) b2 N G ∧ IsR (wr.setCell ⟨b1, 1 + k, none⟩ (.int .u64 ((notN (F k) (G k) : Nat) : Int))) b3 0 void ∧ Below w.heap.size w (wr.setCell ⟨b1, 1 + k, none⟩ (.int .u64 ((notN (F k) (G k) : Nat) : Int)))) := ⟨hs2.congr (fun j _ => upTo_succ notN F G k j), q2', q3', BB'⟩
      change bits .andNot .u64 (F k : Int) (G k : Int) = ((notN (F k) (G k) : Nat) : Int) at hop
      clear hs2 U BB' q2' q3' q1 q2 q3 BB hF hG
      generalize notN (F k) (G k) = z at *
      generalize F k = z1 at *
      generalize G k = z2 at *
      have hki : (k : Int) < (N : Int) := by omega
      have hk64 : (k : Int) < 64 := by omega
      go_wp2
      go_region
      go_wp2
      go_roundw
      case rel => exact ⟨k + 1, by omega, by simp, HQ.out.1.drew, HQ.out.2.1.drew, HQ.out.2.2.1.drew, HQ.out.2.2.2.drew⟩
      case measure => simp [intOf]; omega
    · obtain rfl : k = N := by omega
      have HV : Hid (relv (k : Int) (upTo notN F G k) = relv (k : Int) (opF notN F G)) := relv_congr rfl (fun j hj => upTo_end notN (by decide) hF hG j hj)
      clear hF hG
      go_wp2_with (first
        | (refine wpList_loadR rfl _ rfl rfl q1 ?_)
        | (refine wpList_storeR rfl _ _ rfl rfl rfl q3 ?_; intro W4 U4 r4))
      refine ret_R rfl rfl rfl r4 ⟨by rw [HV.out], U4.trans BB (by omega)⟩
end Go.Proofs.YtdjlfpkemdiadaaDoor

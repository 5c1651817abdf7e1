/- The complement. -/
import Derived.Test.YtdjlfpkemdiadaaDoorRlY2
import Derived.Laws.Bits64
import Derived.Deep.RegionWith
namespace Go.Proofs.YtdjlfpkemdiadaaDoor
open Go.RowKit Go.Shelf M
set_option linter.unusedSimpArgs false
set_option linter.unusedVariables false

def xoN (N : Nat) (x y : Nat) : Nat := x ^^^ bel N

set_option maxRecDepth 100000 in
set_option maxHeartbeats 1000000 in
theorem not_any (n : Int) (f : Nat → Nat) (w : World) (hf : Hid (Wf f)) :
    Calls Tryd.prog 34 #[relv n f] w fun e w' => e = .returned (relv (nN n f) (upTo (xoN (nN n f).toNat) (nF n f) void (nN n f).toNat)) ∧ Below w.heap.size w w' := by
  have c1 : Hid (∀ W, Calls Tryd.prog 70 #[relv n f] W fun e w' => e = .returned (relv (nN n f) (nF n f)) ∧ Below W.heap.size W w') := fun W => right_any n f W hf
  obtain ⟨N, h1, hN64, h3⟩ := n_right' n f hf.out
  rw [h1] at c1 ⊢
  rw [Int.toNat_natCast]
  have hR : Hid (Right N (nF n f)) := h3
  generalize nF n f = F at *
  clear h1 h3
  have ca : Hid (∀ W, Calls Tryd.prog 71 #[.int .i64 (N : Int)] W fun e w' => e = .returned (.int .u64 (bel N : Nat)) ∧ w' = W) := fun W => all_any N W (by omega) (by omega)
  have tk4 : True := trivial
  go_enter Tryd.func34, Tryd.ntmps34
  go_wp2_with (first
      | (refine wpList_boxR rfl _ rfl rfl ?_; intro W1 b1 F1 r1; have B1 := Fresh.trans (Below.refl _ w) (Nat.le_refl _) F1)
      | (refine wpList_allocR rfl rfl ?_; intro W3 b2 F3 r2; replace B1 := Fresh.trans B1 B1.size F3; replace r1 := r1.fresh F3; have hb1 : w.heap.size ≤ b1 := (by rw [F1.at']; exact Nat.le_refl _); have hb2 : b1 < b2 := (by rw [F3.at', F1.size]; omega); clear F1 F3)
      | (refine wpList_loadR rfl _ rfl rfl r1 ?_)
      | (go_at_call 70; refine (c1.out _).mono ?_; rintro e w' ⟨rfl, hw'⟩; replace r1 := r1.grown hw'; replace r2 := r2.grown hw'; replace B1 := B1.trans (hw'.mono B1.size); clear hw')
      | (refine wpList_storeR rfl _ _ rfl rfl rfl r1 ?_; intro W5 U5 q1; replace B1 := U5.trans B1 (by omega); replace r2 := r2.upd U5 (by omega); clear U5 r1; have r1 := q1; clear q1; have cn1 := r1.n))
  clear cn1 c1
  go_loopw [8] (fun i wr => ∃ k : Nat, k ≤ N ∧ i = .int .i64 k ∧ IsR wr b1 N (upTo (xoN N) F void k) ∧ IsR wr b2 0 void ∧ Below w.heap.size w wr) (fun i _ => N - (intOf i).toNat)
  case atStart => exact ⟨0, by omega, rfl, r1.congr (fun i _ => by simp [upTo]), r2, B1⟩
  case round =>
    clear r1 r2 B1
    obtain ⟨k, hk, rfl, q1, q2, BB⟩ := hrel
    by_cases hlt : k < N
    · have hrow := q1.row k (by omega)
      rw [upTo_at] at hrow
      have hcn := q1.n
      have hfz := q1.frozen (1 + k)
      have hop := bits_xor_u64_nat (F k) (bel N) (hR.out.wf k) (bel_lt N)
      have U := Upd.setCell wr b1 (1 + k) (.int .u64 ((xoN N (F k) (void k) : Nat) : Int))
      have HQ : Hid (IsR (wr.setCell ⟨b1, 1 + k, none⟩ (.int .u64 ((xoN N (F k) (void k) : Nat) : Int))) b1 N (upTo (xoN N) F void (k + 1)) ∧ IsR (wr.setCell ⟨b1, 1 + k, none⟩ (.int .u64 ((xoN N (F k) (void k) : Nat) : Int))) b2 0 void ∧ Below w.heap.size w (wr.setCell ⟨b1, 1 + k, none⟩ (.int .u64 ((xoN N (F k) (void k) : Nat) : Int)))) := ⟨(q1.set k (xoN N (F k) (void k)) (by omega)).congr (fun j _ => upTo_succ (xoN N) F void k j), q2.upd U (by omega), U.trans BB (by omega)⟩
      change bits .xor .u64 (F k : Int) (bel N : Int) = ((xoN N (F k) (void k) : Nat) : Int) at hop
      clear U q1 q2 BB hR
      generalize xoN N (F k) (void k) = z at *
      generalize F k = z1 at *
      generalize bel N = z2 at *
      have hki : (k : Int) < (N : Int) := by omega
      have hk64 : (k : Int) < 64 := by omega
      go_wp2_with fail
      go_region_with (go_at_call 71; refine (ca.out _).mono ?_; rintro e w' ⟨rfl, hw'⟩; replace hw' := hw'.symm; subst hw')
      all_goals (go_wp2_with fail; go_roundw)
      all_goals first | exact ⟨k + 1, by omega, by simp, HQ.out.1.drew, HQ.out.2.1.drew, HQ.out.2.2.drew⟩ | (simp [intOf]; omega)
    · obtain rfl : k = N := by omega
      clear hR ca
      go_wp2_with (first
        | (refine wpList_loadR rfl _ rfl rfl q1 ?_)
        | (refine wpList_storeR rfl _ _ rfl rfl rfl q2 ?_; intro W4 U4 r4))
      refine ret_R rfl rfl rfl r4 ⟨rfl, U4.trans BB (by omega)⟩
end Go.Proofs.YtdjlfpkemdiadaaDoor

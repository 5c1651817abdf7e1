/- A relation as the calls take it; Has; Edges as a value. -/
import Derived.Test.YtdjlfpkemdiadaaDoorQO
namespace Go.Proofs.YtdjlfpkemdiadaaDoor
open Go.RowKit Go.Shelf M
set_option linter.unusedSimpArgs false
set_option linter.unusedVariables false

def nN (n : Int) (f : Nat → Nat) : Int := if rightB n f then n else 0
def nF (n : Int) (f : Nat → Nat) : Nat → Nat := if rightB n f then f else void
theorem nF_wf (n : Int) (f : Nat → Nat) (h : Wf f) : Wf (nF n f) := by
  unfold nF
  split
  · exact h
  · intro i; simp [void]
theorem n_right (n : Int) (f : Nat → Nat) (hf : Wf f) : ∃ N : Nat, nN n f = (N : Int) ∧ N ≤ 64 ∧ ∀ a, a < 64 → ∀ b, b < 64 → (nF n f a).testBit b = true → a < N ∧ b < N := by
  unfold nN nF
  by_cases h : rightB n f = true
  · rw [if_pos h, if_pos h]
    unfold rightB at h
    rw [Bool.and_eq_true, decide_eq_true_eq, List.all_eq_true] at h
    refine ⟨n.toNat, by omega, by omega, fun a ha b hb ht => ?_⟩
    have := (okRow_bits n f a (hf a)).1 (h.2 a (by simpa using ha)) b hb ht
    omega
  · rw [if_neg h, if_neg h]
    exact ⟨0, rfl, by omega, fun a _ b _ ht => by simp [void] at ht⟩

theorem right_any (n : Int) (f : Nat → Nat) (w : World) (hf : Hid (Wf f)) : Calls Tryd.prog 70 #[relv n f] w fun e w' => e = .returned (relv (nN n f) (nF n f)) ∧ Below w.heap.size w w' := by
  have c := fun W => check_any n f W hf
  by_cases h : rightB n f = true
  · have hc : checkN n f = 0 := by unfold checkN; rw [if_pos h]
    have hv : relv (nN n f) (nF n f) = relv n f := by unfold nN nF; rw [if_pos h, if_pos h]
    rw [hv]
    rw [hc] at c
    clear h hc hv
    go_enter Tryd.func70, Tryd.ntmps70
    go_wp2_with (first
      | (refine wpList_boxR rfl _ rfl rfl ?_; intro W1 b1 F1 r1; have B1 := Fresh.trans (Below.refl _ w) (Nat.le_refl _) F1)
      | (refine wpList_allocR rfl rfl ?_; intro W2 b2 F2 r2; replace r1 := r1.fresh F2; replace B1 := Fresh.trans B1 B1.size F2)
      | (refine wpList_loadR rfl _ rfl rfl r1 ?_)
      | (refine wpList_storeR rfl _ _ rfl rfl rfl r2 ?_; intro W3 U3 r3; replace B1 := U3.trans B1 (by have := F2.at'; have := F1.at'; have := F1.size; omega))
      | (go_at_call 91; refine (c _).mono ?_; rintro e w' ⟨rfl, hw'⟩; replace r1 := r1.grown hw'; replace r2 := r2.grown hw'; replace B1 := B1.trans (hw'.mono B1.size)))
    refine ret_R rfl rfl rfl r3 ⟨rfl, B1⟩
  · have hc : checkN n f = 20 := by unfold checkN; rw [if_neg h]
    have hv : relv (nN n f) (nF n f) = relv 0 void := by unfold nN nF; rw [if_neg h, if_neg h]
    rw [hv]
    rw [hc] at c
    clear h hc hv
    go_enter Tryd.func70, Tryd.ntmps70
    go_wp2_with (first
      | (refine wpList_boxR rfl _ rfl rfl ?_; intro W1 b1 F1 r1; have B1 := Fresh.trans (Below.refl _ w) (Nat.le_refl _) F1)
      | (refine wpList_allocR rfl rfl ?_; intro W2 b2 F2 r2; replace r1 := r1.fresh F2; replace B1 := Fresh.trans B1 B1.size F2)
      | (refine wpList_loadR rfl _ rfl rfl r1 ?_)
      | (refine wpList_buildR0 rfl rfl ?_)
      | (refine wpList_storeR rfl _ _ rfl rfl rfl r2 ?_; intro W3 U3 r3; replace B1 := U3.trans B1 (by have := F2.at'; have := F1.at'; have := F1.size; omega))
      | (go_at_call 91; refine (c _).mono ?_; rintro e w' ⟨rfl, hw'⟩; replace r1 := r1.grown hw'; replace r2 := r2.grown hw'; replace B1 := B1.trans (hw'.mono B1.size)))
    refine ret_R rfl rfl rfl r3 ⟨rfl, B1⟩

def hasE (N : Int) (f : Nat → Nat) (a b : Int) : Bool := decide (0 ≤ a ∧ a < N) && decide (0 ≤ b ∧ b < N) && (f a.toNat).testBit b.toNat

set_option maxRecDepth 100000 in
theorem edges_any (n : Int) (f : Nat → Nat) (w : World) (hf : Hid (Wf f)) : Calls Tryd.prog 74 #[relv n f] w fun e w' => ∃ b, e = .returned (.func (.func 92) #[] #[.pointer (some ⟨b, 0, none⟩)]) ∧ w.heap.size ≤ b ∧ IsR w' b (nN n f) (nF n f) ∧ Below w.heap.size w w' := by
  go_enter Tryd.func74, Tryd.ntmps74
  go_wp2_with (first
    | (refine wpList_boxR rfl _ rfl rfl ?_; intro W1 b1 F1 r1; have B1 := Fresh.trans (Below.refl _ w) (Nat.le_refl _) F1)
    | (refine wpList_loadR rfl _ rfl rfl r1 ?_)
    | (go_at_call 70; refine (right_any n f _ hf).mono ?_; rintro e w' ⟨rfl, hw'⟩; replace r1 := r1.grown hw'; replace B1 := B1.trans (hw'.mono B1.size))
    | (refine wpList_storeR rfl _ _ rfl rfl rfl r1 ?_; intro W3 U3 r3; replace B1 := U3.trans B1 (by rw [F1.at']; exact Nat.le_refl _)))
  go_ret
  exact ⟨b1, rfl, by rw [F1.at']; exact Nat.le_refl _, r3, B1⟩

end Go.Proofs.YtdjlfpkemdiadaaDoor

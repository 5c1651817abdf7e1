/- RelLaws, whatever the relations. -/
import Derived.Test.YtkccckjiemijeabDoorV6
namespace Go.Proofs.YtkccckjiemijeabDoor
open Go.RowKit Go.Shelf M P
set_option linter.unusedSimpArgs false
set_option linter.unusedVariables false

set_option maxRecDepth 100000 in
set_option maxHeartbeats 2000000 in
theorem relLaws_any (n m k : Int) (f g h : Nat → Nat) (w : World) (hf : Wf f) (hg : Wf g) (hh : Wf h) (hT : TabAt w) :
    Calls Tryd.prog 3 #[relv n f, relv m g, relv k h] w fun e w' => e = .returned (.bool true) ∧ Below w.heap.size w w' := by
  have a8 : Hid (AnsV 8 #[] (.bool true)) := works_any
  have a9 : Hid (∀ z W, Calls Tryd.prog 9 #[.int .i64 z] W fun e w' => e = .returned (.int .i64 z) ∧ w' = W) := fun z W => num_any z W
  have a10f : Hid (∀ W, Calls Tryd.prog 10 #[relv n f] W fun e w' => e = .returned (.int .i64 (checkN n f)) ∧ Below W.heap.size W w') := fun W => check_any n f W hf
  have a10g : Hid (∀ W, Calls Tryd.prog 10 #[relv m g] W fun e w' => e = .returned (.int .i64 (checkN m g)) ∧ Below W.heap.size W w') := fun W => check_any m g W hg
  have a10h : Hid (∀ W, Calls Tryd.prog 10 #[relv k h] W fun e w' => e = .returned (.int .i64 (checkN k h)) ∧ Below W.heap.size W w') := fun W => check_any k h W hh
  have tk1 : True := trivial
  have tk2 : True := trivial
  have tk3 : True := trivial
  have tk4 : True := trivial
  cases h1 : rightB n f
  · clear a10g a10h
    have e0 : checkN n f = 20 := by unfold checkN; rw [h1]; rfl
    rw [e0] at a10f
    clear e0 h1
    go_enter Tryd.func3, Tryd.ntmps3
    go_wp2_with (first
      | (refine wpList_boxR rfl _ rfl rfl ?_; clear tk1; intro W1 b3 F1 r3; have B1 := Fresh.trans (Below.refl _ w) (Nat.le_refl _) F1; clear F1)
      | (refine wpList_boxR rfl _ rfl rfl ?_; clear tk2; intro W2 b4 F2 r4; replace B1 := Fresh.trans B1 B1.size F2; replace r3 := r3.fresh F2; clear F2)
      | (refine wpList_boxR rfl _ rfl rfl ?_; intro W2 b5 F2 r5; replace B1 := Fresh.trans B1 B1.size F2; replace r3 := r3.fresh F2; replace r4 := r4.fresh F2; clear F2)
      | (go_at_call 8; refine (a8.out _ (hT.below B1)).mono ?_; rintro e w' ⟨rfl, hw'⟩; replace r3 := r3.grown hw'; replace r4 := r4.grown hw'; replace r5 := r5.grown hw'; replace B1 := B1.trans (hw'.mono B1.size); clear hw')
      | (refine wpList_loadR rfl _ rfl rfl r3 ?_)
      | (refine wpList_loadRg rfl _ rfl rfl r4 ?_)
      | (refine wpList_loadRg rfl _ rfl rfl r5 ?_)
      | (go_at_call 10; clear tk3; refine (a10f.out _).mono ?_; rintro e w' ⟨rfl, hw'⟩; replace r3 := r3.grown hw'; replace r4 := r4.grown hw'; replace r5 := r5.grown hw'; replace B1 := B1.trans (hw'.mono B1.size); clear hw')
      | (go_at_call 10; clear tk4; refine (a10g.out _).mono ?_; rintro e w' ⟨rfl, hw'⟩; replace r3 := r3.grown hw'; replace r4 := r4.grown hw'; replace r5 := r5.grown hw'; replace B1 := B1.trans (hw'.mono B1.size); clear hw')
      | (go_at_call 10; refine (a10h.out _).mono ?_; rintro e w' ⟨rfl, hw'⟩; replace r3 := r3.grown hw'; replace r4 := r4.grown hw'; replace r5 := r5.grown hw'; replace B1 := B1.trans (hw'.mono B1.size); clear hw'; have cn3 := r3.n; have cn4 := r4.n; have cn5 := r5.n)
      | (go_at_call 9; refine (a9.out _ _).mono ?_; rintro e w' ⟨rfl, hw'⟩; replace hw' := hw'.symm; subst hw'))
    go_ret
    exact ⟨rfl, B1⟩
  · cases h2 : rightB m g
    · clear a10h
      have e0 : checkN n f = 0 := by unfold checkN; rw [h1]; rfl
      rw [e0] at a10f
      have e1 : checkN m g = 20 := by unfold checkN; rw [h2]; rfl
      rw [e1] at a10g
      clear e0 e1 h1 h2
      go_enter Tryd.func3, Tryd.ntmps3
      go_wp2_with (first
        | (refine wpList_boxR rfl _ rfl rfl ?_; clear tk1; intro W1 b3 F1 r3; have B1 := Fresh.trans (Below.refl _ w) (Nat.le_refl _) F1; clear F1)
        | (refine wpList_boxR rfl _ rfl rfl ?_; clear tk2; intro W2 b4 F2 r4; replace B1 := Fresh.trans B1 B1.size F2; replace r3 := r3.fresh F2; clear F2)
        | (refine wpList_boxR rfl _ rfl rfl ?_; intro W2 b5 F2 r5; replace B1 := Fresh.trans B1 B1.size F2; replace r3 := r3.fresh F2; replace r4 := r4.fresh F2; clear F2)
        | (go_at_call 8; refine (a8.out _ (hT.below B1)).mono ?_; rintro e w' ⟨rfl, hw'⟩; replace r3 := r3.grown hw'; replace r4 := r4.grown hw'; replace r5 := r5.grown hw'; replace B1 := B1.trans (hw'.mono B1.size); clear hw')
        | (refine wpList_loadR rfl _ rfl rfl r3 ?_)
        | (refine wpList_loadRg rfl _ rfl rfl r4 ?_)
        | (refine wpList_loadRg rfl _ rfl rfl r5 ?_)
        | (go_at_call 10; clear tk3; refine (a10f.out _).mono ?_; rintro e w' ⟨rfl, hw'⟩; replace r3 := r3.grown hw'; replace r4 := r4.grown hw'; replace r5 := r5.grown hw'; replace B1 := B1.trans (hw'.mono B1.size); clear hw')
        | (go_at_call 10; clear tk4; refine (a10g.out _).mono ?_; rintro e w' ⟨rfl, hw'⟩; replace r3 := r3.grown hw'; replace r4 := r4.grown hw'; replace r5 := r5.grown hw'; replace B1 := B1.trans (hw'.mono B1.size); clear hw')
        | (go_at_call 10; refine (a10h.out _).mono ?_; rintro e w' ⟨rfl, hw'⟩; replace r3 := r3.grown hw'; replace r4 := r4.grown hw'; replace r5 := r5.grown hw'; replace B1 := B1.trans (hw'.mono B1.size); clear hw'; have cn3 := r3.n; have cn4 := r4.n; have cn5 := r5.n)
        | (go_at_call 9; refine (a9.out _ _).mono ?_; rintro e w' ⟨rfl, hw'⟩; replace hw' := hw'.symm; subst hw'))
      go_ret
      exact ⟨rfl, B1⟩
    · cases h3 : rightB k h
      · skip
        have e0 : checkN n f = 0 := by unfold checkN; rw [h1]; rfl
        rw [e0] at a10f
        have e1 : checkN m g = 0 := by unfold checkN; rw [h2]; rfl
        rw [e1] at a10g
        have e2 : checkN k h = 20 := by unfold checkN; rw [h3]; rfl
        rw [e2] at a10h
        clear e0 e1 e2 h1 h2 h3
        go_enter Tryd.func3, Tryd.ntmps3
        go_wp2_with (first
          | (refine wpList_boxR rfl _ rfl rfl ?_; clear tk1; intro W1 b3 F1 r3; have B1 := Fresh.trans (Below.refl _ w) (Nat.le_refl _) F1; clear F1)
          | (refine wpList_boxR rfl _ rfl rfl ?_; clear tk2; intro W2 b4 F2 r4; replace B1 := Fresh.trans B1 B1.size F2; replace r3 := r3.fresh F2; clear F2)
          | (refine wpList_boxR rfl _ rfl rfl ?_; intro W2 b5 F2 r5; replace B1 := Fresh.trans B1 B1.size F2; replace r3 := r3.fresh F2; replace r4 := r4.fresh F2; clear F2)
          | (go_at_call 8; refine (a8.out _ (hT.below B1)).mono ?_; rintro e w' ⟨rfl, hw'⟩; replace r3 := r3.grown hw'; replace r4 := r4.grown hw'; replace r5 := r5.grown hw'; replace B1 := B1.trans (hw'.mono B1.size); clear hw')
          | (refine wpList_loadR rfl _ rfl rfl r3 ?_)
          | (refine wpList_loadRg rfl _ rfl rfl r4 ?_)
          | (refine wpList_loadRg rfl _ rfl rfl r5 ?_)
          | (go_at_call 10; clear tk3; refine (a10f.out _).mono ?_; rintro e w' ⟨rfl, hw'⟩; replace r3 := r3.grown hw'; replace r4 := r4.grown hw'; replace r5 := r5.grown hw'; replace B1 := B1.trans (hw'.mono B1.size); clear hw')
          | (go_at_call 10; clear tk4; refine (a10g.out _).mono ?_; rintro e w' ⟨rfl, hw'⟩; replace r3 := r3.grown hw'; replace r4 := r4.grown hw'; replace r5 := r5.grown hw'; replace B1 := B1.trans (hw'.mono B1.size); clear hw')
          | (go_at_call 10; refine (a10h.out _).mono ?_; rintro e w' ⟨rfl, hw'⟩; replace r3 := r3.grown hw'; replace r4 := r4.grown hw'; replace r5 := r5.grown hw'; replace B1 := B1.trans (hw'.mono B1.size); clear hw'; have cn3 := r3.n; have cn4 := r4.n; have cn5 := r5.n)
          | (go_at_call 9; refine (a9.out _ _).mono ?_; rintro e w' ⟨rfl, hw'⟩; replace hw' := hw'.symm; subst hw'))
        go_ret
        exact ⟨rfl, B1⟩
      · by_cases hnm : n = m
        · by_cases hmk : m = k
          · subst hnm
            subst hmk
            obtain ⟨N, k1, k2, k3⟩ := n_right' n f hf
            obtain ⟨M, j1, j2, j3⟩ := n_right' n g hg
            obtain ⟨L, i1, i2, i3⟩ := n_right' n h hh
            rw [show nN n f = n from if_pos h1] at k1
            rw [show nF n f = f from if_pos h1] at k3
            rw [show nN n g = n from if_pos h2] at j1
            rw [show nF n g = g from if_pos h2] at j3
            rw [show nN n h = n from if_pos h3] at i1
            rw [show nF n h = h from if_pos h3] at i3
            subst k1
            obtain rfl : N = M := by omega
            obtain rfl : N = L := by omega
            exact relLaws_right N f g h w k2 k3 j3 i3 hT
          · skip
            have e0 : checkN n f = 0 := by unfold checkN; rw [h1]; rfl
            rw [e0] at a10f
            have e1 : checkN m g = 0 := by unfold checkN; rw [h2]; rfl
            rw [e1] at a10g
            have e2 : checkN k h = 0 := by unfold checkN; rw [h3]; rfl
            rw [e2] at a10h
            clear e0 e1 e2 h1 h2 h3
            subst hnm
            go_enter Tryd.func3, Tryd.ntmps3
            go_wp2_with (first
              | (refine wpList_boxR rfl _ rfl rfl ?_; clear tk1; intro W1 b3 F1 r3; have B1 := Fresh.trans (Below.refl _ w) (Nat.le_refl _) F1; clear F1)
              | (refine wpList_boxR rfl _ rfl rfl ?_; clear tk2; intro W2 b4 F2 r4; replace B1 := Fresh.trans B1 B1.size F2; replace r3 := r3.fresh F2; clear F2)
              | (refine wpList_boxR rfl _ rfl rfl ?_; intro W2 b5 F2 r5; replace B1 := Fresh.trans B1 B1.size F2; replace r3 := r3.fresh F2; replace r4 := r4.fresh F2; clear F2)
              | (go_at_call 8; refine (a8.out _ (hT.below B1)).mono ?_; rintro e w' ⟨rfl, hw'⟩; replace r3 := r3.grown hw'; replace r4 := r4.grown hw'; replace r5 := r5.grown hw'; replace B1 := B1.trans (hw'.mono B1.size); clear hw')
              | (refine wpList_loadR rfl _ rfl rfl r3 ?_)
              | (refine wpList_loadRg rfl _ rfl rfl r4 ?_)
              | (refine wpList_loadRg rfl _ rfl rfl r5 ?_)
              | (go_at_call 10; clear tk3; refine (a10f.out _).mono ?_; rintro e w' ⟨rfl, hw'⟩; replace r3 := r3.grown hw'; replace r4 := r4.grown hw'; replace r5 := r5.grown hw'; replace B1 := B1.trans (hw'.mono B1.size); clear hw')
              | (go_at_call 10; clear tk4; refine (a10g.out _).mono ?_; rintro e w' ⟨rfl, hw'⟩; replace r3 := r3.grown hw'; replace r4 := r4.grown hw'; replace r5 := r5.grown hw'; replace B1 := B1.trans (hw'.mono B1.size); clear hw')
              | (go_at_call 10; refine (a10h.out _).mono ?_; rintro e w' ⟨rfl, hw'⟩; replace r3 := r3.grown hw'; replace r4 := r4.grown hw'; replace r5 := r5.grown hw'; replace B1 := B1.trans (hw'.mono B1.size); clear hw'; have cn3 := r3.n; have cn4 := r4.n; have cn5 := r5.n)
              | (go_at_call 9; refine (a9.out _ _).mono ?_; rintro e w' ⟨rfl, hw'⟩; replace hw' := hw'.symm; subst hw'))
            go_ret
            exact ⟨rfl, B1⟩
        · skip
          have e0 : checkN n f = 0 := by unfold checkN; rw [h1]; rfl
          rw [e0] at a10f
          have e1 : checkN m g = 0 := by unfold checkN; rw [h2]; rfl
          rw [e1] at a10g
          have e2 : checkN k h = 0 := by unfold checkN; rw [h3]; rfl
          rw [e2] at a10h
          clear e0 e1 e2 h1 h2 h3
          go_enter Tryd.func3, Tryd.ntmps3
          go_wp2_with (first
            | (refine wpList_boxR rfl _ rfl rfl ?_; clear tk1; intro W1 b3 F1 r3; have B1 := Fresh.trans (Below.refl _ w) (Nat.le_refl _) F1; clear F1)
            | (refine wpList_boxR rfl _ rfl rfl ?_; clear tk2; intro W2 b4 F2 r4; replace B1 := Fresh.trans B1 B1.size F2; replace r3 := r3.fresh F2; clear F2)
            | (refine wpList_boxR rfl _ rfl rfl ?_; intro W2 b5 F2 r5; replace B1 := Fresh.trans B1 B1.size F2; replace r3 := r3.fresh F2; replace r4 := r4.fresh F2; clear F2)
            | (go_at_call 8; refine (a8.out _ (hT.below B1)).mono ?_; rintro e w' ⟨rfl, hw'⟩; replace r3 := r3.grown hw'; replace r4 := r4.grown hw'; replace r5 := r5.grown hw'; replace B1 := B1.trans (hw'.mono B1.size); clear hw')
            | (refine wpList_loadR rfl _ rfl rfl r3 ?_)
            | (refine wpList_loadRg rfl _ rfl rfl r4 ?_)
            | (refine wpList_loadRg rfl _ rfl rfl r5 ?_)
            | (go_at_call 10; clear tk3; refine (a10f.out _).mono ?_; rintro e w' ⟨rfl, hw'⟩; replace r3 := r3.grown hw'; replace r4 := r4.grown hw'; replace r5 := r5.grown hw'; replace B1 := B1.trans (hw'.mono B1.size); clear hw')
            | (go_at_call 10; clear tk4; refine (a10g.out _).mono ?_; rintro e w' ⟨rfl, hw'⟩; replace r3 := r3.grown hw'; replace r4 := r4.grown hw'; replace r5 := r5.grown hw'; replace B1 := B1.trans (hw'.mono B1.size); clear hw')
            | (go_at_call 10; refine (a10h.out _).mono ?_; rintro e w' ⟨rfl, hw'⟩; replace r3 := r3.grown hw'; replace r4 := r4.grown hw'; replace r5 := r5.grown hw'; replace B1 := B1.trans (hw'.mono B1.size); clear hw'; have cn3 := r3.n; have cn4 := r4.n; have cn5 := r5.n)
            | (go_at_call 9; refine (a9.out _ _).mono ?_; rintro e w' ⟨rfl, hw'⟩; replace hw' := hw'.symm; subst hw'))
          go_ret
          exact ⟨rfl, B1⟩
end Go.Proofs.YtkccckjiemijeabDoor

/- Restrict, of rel and of the reference. -/
import Derived.Test.YtdjlfpkemdiadaaDoorRlY2
import Derived.Test.YtdjlfpkemdiadaaDoorRlY6
namespace Go.Proofs.YtdjlfpkemdiadaaDoor
open Go.RowKit Go.Shelf M
set_option linter.unusedSimpArgs false
set_option linter.unusedVariables false

theorem crV_parts (n : Int) (s t : Nat) : ∃ p q, crV n s t = relv p q ∧ Wf q := by
  unfold crV
  split
  · refine ⟨_, _, rfl, fun i => ?_⟩
    unfold crF
    split
    · exact crRow_lt _ _ _ _
    · split
      · exact crRow_lt _ _ _ _
      · omega
  · exact ⟨_, _, rfl, fun i => by simp [void]⟩

set_option maxRecDepth 100000 in
set_option maxHeartbeats 1000000 in
theorem restrict_any (n : Int) (f : Nat → Nat) (s t : Nat) (w : World) (hf : Hid (Wf f)) (hs : s < 18446744073709551616) (ht : t < 18446744073709551616) (hT : TabAt w) (p : Int) (q : Nat → Nat) (hc : crV n s t = relv p q) (hq : Hid (Wf q)) :
    Calls Tryd.prog 60 #[relv n f, .int .u64 s, .int .u64 t] w fun e w' => e = .returned (relv (alN n f p q) (opF andN (alF n f p q) (alG n f p q))) ∧ Below w.heap.size w w' := by
  have cc : Hid (∀ W, TabAt W → Calls Tryd.prog 81 #[.int .i64 n, .int .u64 s, .int .u64 t] W fun e w' => e = .returned (relv p q) ∧ Below W.heap.size W w') := fun W h => by
    have := cross_any n s t W hs ht h
    rw [hc] at this
    exact this
  have cm : Hid (∀ W, Calls Tryd.prog 80 #[relv n f, relv p q] W fun e w' => e = .returned (relv (alN n f p q) (opF andN (alF n f p q) (alG n f p q))) ∧ Below W.heap.size W w') := fun W => meet_any n f p q W hf hq
  clear hc
  go_enter Tryd.func60, Tryd.ntmps60
  go_wp2_with (first
      | (refine wpList_boxR rfl _ rfl rfl ?_; intro W1 b3 F1 r3; have B1 := Fresh.trans (Below.refl _ w) (Nat.le_refl _) F1)
      | (refine wpList_allocR rfl rfl ?_; intro W3 b6 F3 r6; replace B1 := Fresh.trans B1 B1.size F3; replace r3 := r3.fresh F3; have hb3 : w.heap.size ≤ b3 := (by rw [F1.at']; exact Nat.le_refl _); have hb6 : b3 < b6 := (by rw [F3.at', F1.size]; omega); clear F1 F3))
  refine wp_mono (Q := fun e a' w' => e = Exit.normal ∧ a' = { tmps := #[relv n f, .int .u64 (s : Nat), .int .u64 (t : Nat), .pointer (some ⟨b3, 0, none⟩), undef, undef, .pointer (some ⟨b6, 0, none⟩), relv n f, .pointer (some ⟨b3, 0, none⟩), .int .i64 n, .int .u64 (s : Nat), .int .u64 (t : Nat), relv p q, relv (alN n f p q) (opF andN (alF n f p q) (alG n f p q))], defers := [] } ∧ IsR w' b6 (alN n f p q) (opF andN (alF n f p q) (alG n f p q)) ∧ Below w.heap.size w w') ?_ ?_
  · refine wp_region_any (by kernel_rfl) ?_
    change wpAny _ _ _ _ _ _ _ (World.drew _)
    replace r3 := r3.drew; replace r6 := r6.drew; replace B1 := B1.drew
    refine wpAny_take (i := 1) rfl (by kernel_rfl) (by kernel_rfl) (by kernel_rfl) (fun c a w h => absurd h.1 (by simp)) (v := .pointer (some ⟨b3, 0, none⟩)) ?y1 ?_
    case y1 => exact .inl ⟨rfl, fun w => by first | rfl | (go_simp; done)⟩
    refine wpAny_take (i := 3) rfl (by kernel_rfl) (by kernel_rfl) (by kernel_rfl) (fun c a w h => absurd h.1 (by simp)) (v := .int .u64 (s : Nat)) ?y2 ?_
    case y2 => exact .inl ⟨rfl, fun w => by first | rfl | (go_simp; done)⟩
    refine wpAny_take (i := 4) rfl (by kernel_rfl) (by kernel_rfl) (by kernel_rfl) (fun c a w h => absurd h.1 (by simp)) (v := .int .u64 (t : Nat)) ?y3 ?_
    case y3 => exact .inl ⟨rfl, fun w => by first | rfl | (go_simp; done)⟩
    refine wpAny_ready (rs := [0, 2]) (by kernel_rfl) (by simp) ?_
    refine (AllReady.cons rfl (fun K hK => ?_) (AllReady.cons rfl (fun K hK => ?_) AllReady.nil))
    · refine step_loadR rfl _ rfl rfl r3 (hK _ _ ?_)
      clear hK K
      refine wpAny_ready (rs := [2]) (by kernel_rfl) (by simp) ?_
      refine (AllReady.cons rfl (fun K hK => ?_) AllReady.nil)
      have cn := r3.n
      go_simp
      refine hK _ _ ?_
      clear hK K cn
      refine wpAny_ready (rs := [5]) (by kernel_rfl) (by simp) ?_
      refine (AllReady.cons rfl (fun K hK => ?_) AllReady.nil)
      go_simp
      go_at_call 81
      refine (cc.out _ (hT.below B1)).mono ?_
      rintro e w' ⟨rfl, hw'⟩
      refine hK _ _ ?_
      clear hK K
      replace r3 := r3.grown hw'; replace r6 := r6.grown hw'; replace B1 := B1.trans (hw'.mono B1.size); clear hw'
      refine wpAny_ready (rs := [6]) (by kernel_rfl) (by simp) ?_
      refine (AllReady.cons rfl (fun K hK => ?_) AllReady.nil)
      go_simp
      go_at_call 80
      refine (cm.out _).mono ?_
      rintro e w' ⟨rfl, hw'⟩
      refine hK _ _ ?_
      clear hK K
      replace r3 := r3.grown hw'; replace r6 := r6.grown hw'; replace B1 := B1.trans (hw'.mono B1.size); clear hw'
      refine wpAny_ready (rs := [7]) (by kernel_rfl) (by simp) ?_
      refine (AllReady.cons rfl (fun K hK => ?_) AllReady.nil)
      refine step_storeR rfl _ _ rfl rfl rfl r6 (fun W6 U6 q6 => hK _ _ ?_)
      clear hK K r6; have r6 := q6; clear q6
      replace B1 := U6.trans B1 (by omega); clear U6
      refine wpAny_done (by kernel_rfl) ?_ _
      exact ⟨rfl, rfl, r6, B1⟩
    · have cn := r3.n
      go_simp
      refine hK _ _ ?_
      clear hK K cn
      refine wpAny_ready (rs := [0, 5]) (by kernel_rfl) (by simp) ?_
      refine (AllReady.cons rfl (fun K hK => ?_) (AllReady.cons rfl (fun K hK => ?_) AllReady.nil))
      · refine step_loadR rfl _ rfl rfl r3 (hK _ _ ?_)
        clear hK K
        refine wpAny_ready (rs := [5]) (by kernel_rfl) (by simp) ?_
        refine (AllReady.cons rfl (fun K hK => ?_) AllReady.nil)
        go_simp
        go_at_call 81
        refine (cc.out _ (hT.below B1)).mono ?_
        rintro e w' ⟨rfl, hw'⟩
        refine hK _ _ ?_
        clear hK K
        replace r3 := r3.grown hw'; replace r6 := r6.grown hw'; replace B1 := B1.trans (hw'.mono B1.size); clear hw'
        refine wpAny_ready (rs := [6]) (by kernel_rfl) (by simp) ?_
        refine (AllReady.cons rfl (fun K hK => ?_) AllReady.nil)
        go_simp
        go_at_call 80
        refine (cm.out _).mono ?_
        rintro e w' ⟨rfl, hw'⟩
        refine hK _ _ ?_
        clear hK K
        replace r3 := r3.grown hw'; replace r6 := r6.grown hw'; replace B1 := B1.trans (hw'.mono B1.size); clear hw'
        refine wpAny_ready (rs := [7]) (by kernel_rfl) (by simp) ?_
        refine (AllReady.cons rfl (fun K hK => ?_) AllReady.nil)
        refine step_storeR rfl _ _ rfl rfl rfl r6 (fun W6 U6 q6 => hK _ _ ?_)
        clear hK K r6; have r6 := q6; clear q6
        replace B1 := U6.trans B1 (by omega); clear U6
        refine wpAny_done (by kernel_rfl) ?_ _
        exact ⟨rfl, rfl, r6, B1⟩
      · go_simp
        go_at_call 81
        refine (cc.out _ (hT.below B1)).mono ?_
        rintro e w' ⟨rfl, hw'⟩
        refine hK _ _ ?_
        clear hK K
        replace r3 := r3.grown hw'; replace r6 := r6.grown hw'; replace B1 := B1.trans (hw'.mono B1.size); clear hw'
        refine wpAny_ready (rs := [0]) (by kernel_rfl) (by simp) ?_
        refine (AllReady.cons rfl (fun K hK => ?_) AllReady.nil)
        refine step_loadR rfl _ rfl rfl r3 (hK _ _ ?_)
        clear hK K
        refine wpAny_ready (rs := [6]) (by kernel_rfl) (by simp) ?_
        refine (AllReady.cons rfl (fun K hK => ?_) AllReady.nil)
        go_simp
        go_at_call 80
        refine (cm.out _).mono ?_
        rintro e w' ⟨rfl, hw'⟩
        refine hK _ _ ?_
        clear hK K
        replace r3 := r3.grown hw'; replace r6 := r6.grown hw'; replace B1 := B1.trans (hw'.mono B1.size); clear hw'
        refine wpAny_ready (rs := [7]) (by kernel_rfl) (by simp) ?_
        refine (AllReady.cons rfl (fun K hK => ?_) AllReady.nil)
        refine step_storeR rfl _ _ rfl rfl rfl r6 (fun W6 U6 q6 => hK _ _ ?_)
        clear hK K r6; have r6 := q6; clear q6
        replace B1 := U6.trans B1 (by omega); clear U6
        refine wpAny_done (by kernel_rfl) ?_ _
        exact ⟨rfl, rfl, r6, B1⟩
  · rintro e a' w' ⟨rfl, rfl, q6, BB⟩
    clear r3 r6 B1
    go_wp2_with fail
    refine ret_R rfl rfl rfl q6 ⟨rfl, BB⟩

end Go.Proofs.YtdjlfpkemdiadaaDoor

/- equation. -/
import Derived.Test.YtjnbhcakfenbhaaDoorV4
namespace Go.Proofs.YtjnbhcakfenbhaaDoor
open Go.RowKit Go.Shelf M
set_option linter.unusedSimpArgs false
set_option linter.unusedVariables false

section
variable {gs : List GT} {a : Option Addr} {cap base br : Nat}
set_option maxRecDepth 100000 in
set_option maxHeartbeats 2000000 in
theorem cequation_any (hn : Few gs) (σ : CS) (ok : Ok gs σ) (w : World) (hP : PC gs a cap base br w σ) :
    Calls Tryd.prog 85 #[.pointer (some ⟨br, 0, none⟩)] w fun en w' => OutC gs a cap base br w (eqC gs σ) (.int .i64 (eqI gs σ)) en w' := by
  have cR := fun W hP => cref_any (a := a) (cap := cap) (base := base) (br := br) hn σ ok W hP
  have hlt := hP.lt
  rcases F_or (refC gs σ) with g1 | ⟨x, u1⟩
  · have ok1 := ok_of ok (on_ref gs σ) g1
    have cS := fun W hP => csign_any (a := a) (cap := cap) (base := base) (br := br) hn _ ok1 ⟨#[61]⟩ W hP
    rcases F_or (signC gs (refC gs σ) [61]) with g2 | ⟨x, u2⟩
    · have ok2 : Ok gs (eqS gs σ) := ok_of ok1 (on_sign gs _ _) g2
      have cN := fun W hP => cnbr_any (a := a) (cap := cap) (base := base) (br := br) hn _ ok2 W hP
      generalize hT : refT gs σ = T at *
      generalize hN : refN gs σ = Nm at *
      have HN : Hid (eqN gs σ = ⟨2, 0, 0, T, Nm, nbrX gs (eqS gs σ)⟩) := (by show _ = _; unfold eqN; rw [hT, hN])
      have HE : Hid (signC gs (refC gs σ) [61] = eqS gs σ) := rfl
      clear hT hN
      go_enter Tryd.func85, Tryd.ntmps85
      go_wp2_with (first
        | (go_at_call 98; refine (cR _ hP).mono ?_; rintro en W1 O1; obtain ⟨rfl, P1⟩ := O1.goes g1; have B1 := O1.bel; clear O1 cR)
        | (refine wpList_allocS rfl 50 rfl (rfL 0 noName) Tryd.zeroValue50 ?_; intro W2 b3 F2 N2; have P2 := P1.fresh F2; have B2 : Below base w W2 := B1.trans (below_lower (F2.trans (Below.refl _ _) (Nat.le_refl _)) P1.sz); have h3 : W1.heap.size ≤ b3 := Nat.le_of_eq F2.at'.symm; have hb3 : b3 ≠ br := (by have := P1.lt; omega); have hbz : base ≤ b3 := Nat.le_trans P1.sz h3; clear F2)
        | (refine wpList_storeS rfl 50 _ _ rfl rfl (rfL T Nm) rfl N2 (by simp [rfL]) infoRf (rf_one _ _) ?_; intro W3 U3 N3x; have N3 : IsS W3 b3 50 (rfL T Nm) := N3x; have P3 := PC.updT P2 U3 N2 hb3 hbz; have B3 : Below base w W3 := U3.trans B2 hbz; clear U3 N3x N2 P2)
        | (go_at_call 83; refine (cS _ P3).mono ?_; rintro en W4 ⟨O4, T4⟩; obtain ⟨rfl, P4x⟩ := O4.goes g2; have P4 : PC gs a cap base br W4 (eqS gs σ) := P4x; have B4 := B3.trans O4.bel; have N4 := N3.turn T4 hb3; clear O4 T4 cS P4x))
      obtain ⟨X, hX⟩ : ∃ X : World, X = { W4 with drawn := W4.drawn + 1 } := ⟨_, rfl⟩
      have BX : Below W4.heap.size W4 X := (by rw [hX]; exact ⟨rfl, rfl, rfl, Nat.le_refl _, fun _ _ => rfl⟩)
      have N5 := N4.grown BX
      have P5 := P4.grown BX
      have B5 := B4.trans (below_lower BX P4.sz)
      clear N4 P4 BX
      try dsimp only [Act.put]
      refine (wpIn_wide (n := 0)).1 ?_
      refine region_headC (fun w => IsS w b3 50 (rfL T Nm)) 5 (by kernel_rfl) (by decide) ?_
      rw [← hX]
      clear hX
      refine atC_take (fun _ => trivial) (headed_of (by kernel_rfl)) 0 rfl (by kernel_rfl) (fun c a w h => h) (v := .pointer (some ⟨br, 0, none⟩)) (.inl ⟨rfl, fun w hc => ?y0⟩) N5 ?_
      case y0 =>
        rfl
      simp only [Act.put, List.getElem_toArray, List.getElem_cons_zero, List.getElem_cons_succ, List.setIfInBounds_toArray, List.set_cons_succ, List.set_cons_zero]
      refine atC_take (fun _ => trivial) (headed_of (by kernel_rfl)) 1 rfl (by kernel_rfl) (fun c a w h => h) (v := .agg (rfL T Nm).toArray) (.inl ⟨rfl, fun w hc => ?y1⟩) N5 ?_
      case y1 =>
        exact run_loadP 50 _ rfl rfl hc 2 (rfL T Nm) rfl _ Tryd.underlying50 rfl infoRf
      simp only [Act.put, List.getElem_toArray, List.getElem_cons_zero, List.getElem_cons_succ, List.setIfInBounds_toArray, List.set_cons_succ, List.set_cons_zero]
      refine atC_take (fun _ => trivial) (headed_of (by kernel_rfl)) 2 rfl (by kernel_rfl) (fun c a w h => h) (v := .pointer (some ⟨br, 0, none⟩)) (.inl ⟨rfl, fun w hc => ?y2⟩) N5 ?_
      case y2 =>
        rfl
      simp only [Act.put, List.getElem_toArray, List.getElem_cons_zero, List.getElem_cons_succ, List.setIfInBounds_toArray, List.set_cons_succ, List.set_cons_zero]
      have hf1 : Fence.wide.fn 99 := trivial
      have hf2 : Fence.wide.fn 65 := trivial
      have hdp : Fence.wide.depth = none := rfl
      refine atC_next 3 rfl (by kernel_rfl) (fun K hK => ?_)
      go_simp
      gi_at_call 99
      refine (callsIn_wide.2 (cN _ P5)).mono ?_
      rcases F_or (nbrC gs (eqS gs σ)) with g3 | ⟨x, u3⟩
      · have ok3 := ok_of ok2 (on_nbr gs _) g3
        have hk3 : 1 ≤ (nbrC gs (eqS gs σ)).k := (by have := eq_more (gs := gs) (σ := σ) g3; omega)
        have cA := fun W hP => cadd_any (a := a) (cap := cap) (base := base) (br := br) hn _ ok3 hk3 ⟨2, 0, 0, T, Nm, nbrX gs (eqS gs σ)⟩ W hP
        have HC : Hid (eqC gs σ = nodeC gs (nbrC gs (eqS gs σ)) ⟨2, 0, 0, T, Nm, nbrX gs (eqS gs σ)⟩) := (by show _ = _; unfold eqC; rw [HN.out])
        have HI : Hid (eqI gs σ = nodeI (nbrC gs (eqS gs σ))) := rfl
        rintro en W6 ⟨O6, T6⟩
        obtain ⟨rfl, P6⟩ := O6.goes g3
        have B6 := B5.trans O6.bel
        have N6 := N5.turn T6 hb3
        clear O6 T6 cN N5 P5
        refine hK _ _ N6 ?_
        clear hK K
        try simp only [Act.put, List.getElem_toArray, List.getElem_cons_zero, List.getElem_cons_succ, List.setIfInBounds_toArray, List.set_cons_succ, List.set_cons_zero]
        refine atC_run (fun _ => trivial) 4 rfl (by kernel_rfl) (by intro c h; cases h) rfl (v := .agg (ndL ⟨2, 0, 0, T, Nm, nbrX gs (eqS gs σ)⟩).toArray) (w' := W6) (by first | rfl | simp [execOp, go_sem, ndL, rfL]) N6 ?_
        try simp only [Act.put, List.getElem_toArray, List.getElem_cons_zero, List.getElem_cons_succ, List.setIfInBounds_toArray, List.set_cons_succ, List.set_cons_zero]
        refine atC_end (by kernel_rfl) ?_
        simp only [List.drop_succ_cons, List.drop_zero]
        rcases F_or (nodeC gs (nbrC gs (eqS gs σ)) ⟨2, 0, 0, T, Nm, nbrX gs (eqS gs σ)⟩) with g4 | ⟨x, u4⟩
        · gi_wp2_with (first
            | (gi_at_call 65; refine (callsIn_wide.2 (cA _ P6)).mono ?_; rintro en W7 O7; obtain ⟨rfl, P7⟩ := O7.goes g4; have B7 := B6.trans O7.bel; clear O7 cA))
          go_wp2_with fail
          go_ret
          rw [HC.out, HI.out]
          exact OutC.ret g4 P7 B7
        · gi_wp2_with (first
            | (gi_at_call 65; refine (callsIn_wide.2 (cA _ P6)).mono ?_; rintro en W7 O7; have B7 := B6.trans O7.bel; obtain ⟨bp, rfl, hb, hI⟩ := O7.ups _ u4; clear O7 cA))
          refine ⟨rfl, ?_⟩
          rw [HC.out]
          exact OutC.thrown u4 ⟨bp, rfl, Nat.le_trans B6.size hb, hI⟩ B7
      · rintro en W6 ⟨O6, T6⟩
        have B6 := B5.trans O6.bel
        obtain ⟨bp, rfl, hb, hI⟩ := O6.ups _ u3
        exact ⟨rfl, OutC.thrown ((on_node gs _ _).F _ u3) ⟨bp, rfl, Nat.le_trans B5.size hb, hI⟩ B6⟩
    · go_enter Tryd.func85, Tryd.ntmps85
      go_wp2_with (first
        | (go_at_call 98; refine (cR _ hP).mono ?_; rintro en W1 O1; obtain ⟨rfl, P1⟩ := O1.goes g1; have B1 := O1.bel; clear O1 cR)
        | (refine wpList_allocS rfl 50 rfl (rfL 0 noName) Tryd.zeroValue50 ?_; intro W2 b3 F2 N2; have P2 := P1.fresh F2; have B2 : Below base w W2 := B1.trans (below_lower (F2.trans (Below.refl _ _) (Nat.le_refl _)) P1.sz); have h3 : W1.heap.size ≤ b3 := Nat.le_of_eq F2.at'.symm; have hb3 : b3 ≠ br := (by have := P1.lt; omega); have hbz : base ≤ b3 := Nat.le_trans P1.sz h3; clear F2)
        | (refine wpList_storeS rfl 50 _ _ rfl rfl (rfL (refT gs σ) (refN gs σ)) rfl N2 (by simp [rfL]) infoRf (rf_one _ _) ?_; intro W3 U3 N3x; have P3 := PC.updT P2 U3 N2 hb3 hbz; have B3 : Below base w W3 := U3.trans B2 hbz; clear U3 N3x N2 P2)
        | (go_at_call 83; refine (cS _ P3).mono ?_; rintro en W4 ⟨O4, T4⟩; have B4 := B3.trans O4.bel; obtain ⟨bp, rfl, hb, hI⟩ := O4.ups _ u2; clear O4 T4 cS))
      exact ⟨rfl, OutC.thrown ((on_node gs _ _).F _ ((on_nbr gs _).F _ u2)) ⟨bp, rfl, Nat.le_trans B3.size hb, hI⟩ B4⟩
  · go_enter Tryd.func85, Tryd.ntmps85
    go_wp2_with (first
      | (go_at_call 98; refine (cR _ hP).mono ?_; rintro en W1 O1; have B1 := O1.bel; obtain ⟨bp, rfl, hb, hI⟩ := O1.ups _ u1; clear O1 cR))
    exact ⟨rfl, OutC.thrown ((on_node gs _ _).F _ ((on_nbr gs _).F _ ((on_sign gs _ _).F _ u1))) ⟨bp, rfl, hb, hI⟩ B1⟩
end
end Go.Proofs.YtjnbhcakfenbhaaDoor

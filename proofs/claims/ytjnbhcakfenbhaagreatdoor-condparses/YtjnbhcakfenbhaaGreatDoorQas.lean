/- Several texts in one: V5, V6. -/
import Derived.Test.YtjnbhcakfenbhaaGreatDoorQar
import Derived.Deep.LoopGhost
/- equation. -/
namespace Go.Proofs.YtjnbhcakfenbhaaGreatDoor
open Go.RowKit Go.Shelf M
set_option linter.unusedSimpArgs false
set_option linter.unusedVariables false

section
variable {gs : List GT} {a : Option Addr} {cap base br : Nat}
set_option maxRecDepth 100000 in
set_option maxHeartbeats 2000000 in
theorem cequation_any (hn : Few gs) (σ : CS) (ok : Ok gs σ) (w : World) (hP : PC gs a cap base br w σ) :
    Calls Tryz.prog 114 #[.pointer (some ⟨br, 0, none⟩)] w fun en w' => OutC gs a cap base br w (eqC gs σ) (.int .i64 (eqI gs σ)) en w' := by
  have cR := fun W hP => cref_any (a := a) (cap := cap) (base := base) (br := br) hn σ ok W hP
  have hlt := hP.lt
  rcases F_or (refC gs σ) with g1 | ⟨x, u1⟩
  · have ok1 := ok_of ok (on_ref gs σ) g1
    have cS := fun W hP => csign_any (a := a) (cap := cap) (base := base) (br := br) hn _ ok1 ⟨#[61]⟩ W hP
    rcases F_or (signC gs (refC gs σ) [61]) with g2 | ⟨x, u2⟩
    · have ok2 : Ok gs (eqS gs σ) := ok_of ok1 (on_sign gs _ _) g2
      have cN := fun W hP => cnbr_any (a := a) (cap := cap) (base := base) (br := br) hn _ ok2 W hP
      generalize hT : refT gs σ = T at *
      generalize hN : refN gs σ = Nm at *
      have HN : Hid (eqN gs σ = ⟨2, 0, 0, T, Nm, nbrX gs (eqS gs σ)⟩) := (by show _ = _; unfold eqN; rw [hT, hN])
      have HE : Hid (signC gs (refC gs σ) [61] = eqS gs σ) := rfl
      clear hT hN
      go_enter Tryz.func114, Tryz.ntmps114
      go_wp2_with (first
        | (go_at_call 138; refine (cR _ hP).mono ?_; rintro en W1 O1; obtain ⟨rfl, P1⟩ := O1.goes g1; have B1 := O1.bel; clear O1 cR)
        | (refine wpList_allocS rfl 60 rfl (rfL 0 noName) Tryz.zeroValue60 ?_; intro W2 b3 F2 N2; have P2 := P1.fresh F2; have B2 : Below base w W2 := B1.trans (below_lower (F2.trans (Below.refl _ _) (Nat.le_refl _)) P1.sz); have h3 : W1.heap.size ≤ b3 := Nat.le_of_eq F2.at'.symm; have hb3 : b3 ≠ br := (by have := P1.lt; omega); have hbz : base ≤ b3 := Nat.le_trans P1.sz h3; clear F2)
        | (refine wpList_storeS rfl 60 _ _ rfl rfl (rfL T Nm) rfl N2 (by simp [rfL]) infoRf (rf_one _ _) ?_; intro W3 U3 N3x; have N3 : IsS W3 b3 60 (rfL T Nm) := N3x; have P3 := PC.updT P2 U3 N2 hb3 hbz; have B3 : Below base w W3 := U3.trans B2 hbz; clear U3 N3x N2 P2)
        | (go_at_call 112; refine (cS _ P3).mono ?_; rintro en W4 ⟨O4, T4⟩; obtain ⟨rfl, P4x⟩ := O4.goes g2; have P4 : PC gs a cap base br W4 (eqS gs σ) := P4x; have B4 := B3.trans O4.bel; have N4 := N3.turn T4 hb3; clear O4 T4 cS P4x))
      obtain ⟨X, hX⟩ : ∃ X : World, X = { W4 with drawn := W4.drawn + 1 } := ⟨_, rfl⟩
      have BX : Below W4.heap.size W4 X := (by rw [hX]; exact ⟨rfl, rfl, rfl, Nat.le_refl _, fun _ _ => rfl⟩)
      have N5 := N4.grown BX
      have P5 := P4.grown BX
      have B5 := B4.trans (below_lower BX P4.sz)
      clear N4 P4 BX
      try dsimp only [Act.put]
      refine (wpIn_wide (n := 0)).1 ?_
      refine region_headC (fun w => IsS w b3 60 (rfL T Nm)) 5 (by kernel_rfl) (by decide) ?_
      rw [← hX]
      clear hX
      refine atC_take (fun _ => trivial) (headed_of (by kernel_rfl)) 0 rfl (by kernel_rfl) (fun c a w h => h) (v := .pointer (some ⟨br, 0, none⟩)) (.inl ⟨rfl, fun w hc => ?y0⟩) N5 ?_
      case y0 =>
        rfl
      simp only [Act.put, List.getElem_toArray, List.getElem_cons_zero, List.getElem_cons_succ, List.setIfInBounds_toArray, List.set_cons_succ, List.set_cons_zero]
      refine atC_take (fun _ => trivial) (headed_of (by kernel_rfl)) 1 rfl (by kernel_rfl) (fun c a w h => h) (v := .agg (rfL T Nm).toArray) (.inl ⟨rfl, fun w hc => ?y1⟩) N5 ?_
      case y1 =>
        exact run_loadP 60 _ rfl rfl hc 2 (rfL T Nm) rfl _ Tryz.underlying60 rfl infoRf
      simp only [Act.put, List.getElem_toArray, List.getElem_cons_zero, List.getElem_cons_succ, List.setIfInBounds_toArray, List.set_cons_succ, List.set_cons_zero]
      refine atC_take (fun _ => trivial) (headed_of (by kernel_rfl)) 2 rfl (by kernel_rfl) (fun c a w h => h) (v := .pointer (some ⟨br, 0, none⟩)) (.inl ⟨rfl, fun w hc => ?y2⟩) N5 ?_
      case y2 =>
        rfl
      simp only [Act.put, List.getElem_toArray, List.getElem_cons_zero, List.getElem_cons_succ, List.setIfInBounds_toArray, List.set_cons_succ, List.set_cons_zero]
      have hf1 : Fence.wide.fn 139 := trivial
      have hf2 : Fence.wide.fn 86 := trivial
      have hdp : Fence.wide.depth = none := rfl
      refine atC_next 3 rfl (by kernel_rfl) (fun K hK => ?_)
      go_simp
      gi_at_call 139
      refine (callsIn_wide.2 (cN _ P5)).mono ?_
      rcases F_or (nbrC gs (eqS gs σ)) with g3 | ⟨x, u3⟩
      · have ok3 := ok_of ok2 (on_nbr gs _) g3
        have hk3 : 1 ≤ (nbrC gs (eqS gs σ)).k := (by have := eq_more (gs := gs) (σ := σ) g3; omega)
        have cA := fun W hP => cadd_any (a := a) (cap := cap) (base := base) (br := br) hn _ ok3 hk3 ⟨2, 0, 0, T, Nm, nbrX gs (eqS gs σ)⟩ W hP
        have HC : Hid (eqC gs σ = nodeC gs (nbrC gs (eqS gs σ)) ⟨2, 0, 0, T, Nm, nbrX gs (eqS gs σ)⟩) := (by show _ = _; unfold eqC; rw [HN.out])
        have HI : Hid (eqI gs σ = nodeI (nbrC gs (eqS gs σ))) := rfl
        rintro en W6 ⟨O6, T6⟩
        obtain ⟨rfl, P6⟩ := O6.goes g3
        have B6 := B5.trans O6.bel
        have N6 := N5.turn T6 hb3
        clear O6 T6 cN N5 P5
        refine hK _ _ N6 ?_
        clear hK K
        try simp only [Act.put, List.getElem_toArray, List.getElem_cons_zero, List.getElem_cons_succ, List.setIfInBounds_toArray, List.set_cons_succ, List.set_cons_zero]
        refine atC_run (fun _ => trivial) 4 rfl (by kernel_rfl) (by intro c h; cases h) rfl (v := .agg (ndL ⟨2, 0, 0, T, Nm, nbrX gs (eqS gs σ)⟩).toArray) (w' := W6) (by first | rfl | simp [execOp, go_sem, ndL, rfL]) N6 ?_
        try simp only [Act.put, List.getElem_toArray, List.getElem_cons_zero, List.getElem_cons_succ, List.setIfInBounds_toArray, List.set_cons_succ, List.set_cons_zero]
        refine atC_end (by kernel_rfl) ?_
        simp only [List.drop_succ_cons, List.drop_zero]
        rcases F_or (nodeC gs (nbrC gs (eqS gs σ)) ⟨2, 0, 0, T, Nm, nbrX gs (eqS gs σ)⟩) with g4 | ⟨x, u4⟩
        · gi_wp2_with (first
            | (gi_at_call 86; refine (callsIn_wide.2 (cA _ P6)).mono ?_; rintro en W7 O7; obtain ⟨rfl, P7⟩ := O7.goes g4; have B7 := B6.trans O7.bel; clear O7 cA))
          go_wp2_with fail
          go_ret
          rw [HC.out, HI.out]
          exact OutC.ret g4 P7 B7
        · gi_wp2_with (first
            | (gi_at_call 86; refine (callsIn_wide.2 (cA _ P6)).mono ?_; rintro en W7 O7; have B7 := B6.trans O7.bel; obtain ⟨bp, rfl, hb, hI⟩ := O7.ups _ u4; clear O7 cA))
          refine ⟨rfl, ?_⟩
          rw [HC.out]
          exact OutC.thrown u4 ⟨bp, rfl, Nat.le_trans B6.size hb, hI⟩ B7
      · rintro en W6 ⟨O6, T6⟩
        have B6 := B5.trans O6.bel
        obtain ⟨bp, rfl, hb, hI⟩ := O6.ups _ u3
        exact ⟨rfl, OutC.thrown ((on_node gs _ _).F _ u3) ⟨bp, rfl, Nat.le_trans B5.size hb, hI⟩ B6⟩
    · go_enter Tryz.func114, Tryz.ntmps114
      go_wp2_with (first
        | (go_at_call 138; refine (cR _ hP).mono ?_; rintro en W1 O1; obtain ⟨rfl, P1⟩ := O1.goes g1; have B1 := O1.bel; clear O1 cR)
        | (refine wpList_allocS rfl 60 rfl (rfL 0 noName) Tryz.zeroValue60 ?_; intro W2 b3 F2 N2; have P2 := P1.fresh F2; have B2 : Below base w W2 := B1.trans (below_lower (F2.trans (Below.refl _ _) (Nat.le_refl _)) P1.sz); have h3 : W1.heap.size ≤ b3 := Nat.le_of_eq F2.at'.symm; have hb3 : b3 ≠ br := (by have := P1.lt; omega); have hbz : base ≤ b3 := Nat.le_trans P1.sz h3; clear F2)
        | (refine wpList_storeS rfl 60 _ _ rfl rfl (rfL (refT gs σ) (refN gs σ)) rfl N2 (by simp [rfL]) infoRf (rf_one _ _) ?_; intro W3 U3 N3x; have P3 := PC.updT P2 U3 N2 hb3 hbz; have B3 : Below base w W3 := U3.trans B2 hbz; clear U3 N3x N2 P2)
        | (go_at_call 112; refine (cS _ P3).mono ?_; rintro en W4 ⟨O4, T4⟩; have B4 := B3.trans O4.bel; obtain ⟨bp, rfl, hb, hI⟩ := O4.ups _ u2; clear O4 T4 cS))
      exact ⟨rfl, OutC.thrown ((on_node gs _ _).F _ ((on_nbr gs _).F _ u2)) ⟨bp, rfl, Nat.le_trans B3.size hb, hI⟩ B4⟩
  · go_enter Tryz.func114, Tryz.ntmps114
    go_wp2_with (first
      | (go_at_call 138; refine (cR _ hP).mono ?_; rintro en W1 O1; have B1 := O1.bel; obtain ⟨bp, rfl, hb, hI⟩ := O1.ups _ u1; clear O1 cR))
    exact ⟨rfl, OutC.thrown ((on_node gs _ _).F _ ((on_nbr gs _).F _ ((on_sign gs _ _).F _ u1))) ⟨bp, rfl, hb, hI⟩ B1⟩
end
end Go.Proofs.YtjnbhcakfenbhaaGreatDoor
/- part, chain, both, either. -/
namespace Go.Proofs.YtjnbhcakfenbhaaGreatDoor
open Go.RowKit Go.Shelf M
set_option linter.unusedSimpArgs false
set_option linter.unusedVariables false

def fnOf (lvl : Nat) : Nat := if lvl = 0 then 87 else if lvl = 1 then 62 else 39
/-- With so much fuel a level's parts are read as the plain reader reads them. -/
def RunP (gs : List GT) (a : Option Addr) (cap base br f lvl : Nat) : Prop :=
  ∀ (σ : CS) (w : World), Ok gs σ → PC gs a cap base br w σ → need gs none lvl σ ≤ f →
    Calls Tryz.prog (fnOf lvl) #[.pointer (some ⟨br, 0, none⟩)] w fun en w' => OutC gs a cap base br w (goC gs f none lvl σ).2 (.int .i64 (goC gs f none lvl σ).1) en w'
theorem need_mono {gs : List GT} {m : Option Int} {lvl : Nat} {σ σ' : CS} (h : σ.k ≤ σ'.k) : need gs m lvl σ' ≤ need gs m lvl σ := by unfold need; cases m <;> dsimp only <;> omega
theorem go_some {gs : List GT} {f lvl : Nat} {a : Int} {σ : CS} (h : isT gs σ 0 4 (sgnOf lvl) = true) : goC gs (f + 1) (some a) lvl σ = goC gs f (some (nodeI (goC gs f none lvl (takeC gs σ)).2)) lvl (nodeC gs (goC gs f none lvl (takeC gs σ)).2 (nd2 (opOf lvl) a (goC gs f none lvl (takeC gs σ)).1)) := by
  conv => lhs; unfold goC
  rw [if_pos h]
theorem go_stop {gs : List GT} {f lvl : Nat} {a : Int} {σ : CS} (h : isT gs σ 0 4 (sgnOf lvl) = false) : goC gs (f + 1) (some a) lvl σ = (a, σ) := by
  conv => lhs; unfold goC
  rw [if_neg (by rw [h]; simp)]
section
variable {gs : List GT} {a : Option Addr} {cap base br : Nat}
set_option maxRecDepth 100000 in
set_option maxHeartbeats 4000000 in
theorem chain0_any (hn : Few gs) (f : Nat) (hR : ∀ g, g ≤ f → RunP gs a cap base br g 0) (σ : CS) (w : World) (ok : Ok gs σ) (hP : PC gs a cap base br w σ) (hf : need gs none (0 + 1) σ ≤ f + 1) :
    Calls Tryz.prog 61 #[.pointer (some ⟨br, 0, none⟩), .string ⟨#[47, 92]⟩, .int .i64 4, .func (.func 87) #[.pointer (some ⟨br, 0, none⟩)] #[]] w fun en w' => OutC gs a cap base br w (goC gs (f + 1) none (0 + 1) σ).2 (.int .i64 (goC gs (f + 1) none (0 + 1) σ).1) en w' := by
  have eG : goC gs (f + 1) none (0 + 1) σ = goC gs f (some (goC gs f none 0 σ).1) 0 (goC gs f none 0 σ).2 := by conv => lhs; unfold goC
  rw [eG]
  clear eG
  have hf0 : need gs none 0 σ ≤ f := by unfold need at *; dsimp only at *; omega
  have hp0 : Hid (need gs none 0 σ ≤ f) := hf0
  have c1 := hR f (Nat.le_refl _) σ w ok hP hf0
  have on1 := on_go gs f none 0 σ
  have more1 : (goC gs f none 0 σ).2.F = none → σ.k < (goC gs f none 0 σ).2.k := fun h => go_more gs f 0 σ (by unfold need at hf0; dsimp only at hf0; omega) h
  generalize hr : goC gs f none 0 σ = r at *
  obtain ⟨a0, σ1⟩ := r
  dsimp only at *
  have hc1 : Calls Tryz.prog 87 #[.pointer (some ⟨br, 0, none⟩)] w fun en w' => OutC gs a cap base br w σ1 (.int .i64 a0) en w' := c1
  clear c1 hr
  rcases F_or σ1 with g1 | ⟨x, u1⟩
  · have ok1 : Ok gs σ1 := ⟨g1, on1.len ok.k⟩
    have hk1 : 1 ≤ σ1.k := (by have := more1 g1; omega)
    have hnd1 : need gs (some a0) 0 σ1 ≤ f := (by unfold need at hf0 ⊢; dsimp only at hf0 ⊢; have := on1.k; omega)
    generalize hfin : goC gs f (some a0) 0 σ1 = res at *
    obtain ⟨ra, rσ⟩ := res
    dsimp only
    have HF : Hid (goC gs f (some a0) 0 σ1 = (ra, rσ)) := hfin
    clear hfin hf hf0 on1 more1
    go_enter Tryz.func61, Tryz.ntmps61
    go_wp2_with (first
      | (go_at_call 87; refine hc1.mono ?_; rintro en W1 O1; obtain ⟨rfl, P1⟩ := O1.goes g1; have B1 := O1.bel; clear O1 hc1))
    go_loopg [9, 10] f (fun g av _ wr => ∃ (i : Int) (τ : CS) (q : Nat), Hid (q = g) ∧ av = .int .i64 i ∧ Hid (goC gs q (some i) 0 τ = (ra, rσ)) ∧ Hid (need gs (some i) 0 τ ≤ q) ∧ q ≤ f ∧ 1 ≤ τ.k ∧ Ok gs τ ∧ PC gs a cap base br wr τ ∧ Hid (Below base w wr))
    case atStart => exact ⟨a0, σ1, f, rfl, rfl, HF, hnd1, Nat.le_refl _, hk1, ok1, P1, B1⟩
    case round =>
      obtain ⟨i, τ, q, HQ, rfl, HG, HN, hgf, hk, okt, PT, BT⟩ := hrel
      clear HF P1 B1 hnd1 hk1 ok1
      obtain ⟨g', rfl⟩ : ∃ g', q = g' + 1 := ⟨q - 1, (by have := HN.out; unfold need at this; dsimp only at this; omega)⟩
      have cS := fun W hP => csees_any (a := a) (cap := cap) (base := base) (br := br) hn τ okt ⟨#[47, 92]⟩ W hP
      cases hB : isT gs τ 0 4 (sgnOf 0) with
      | false =>
        rw [show isT gs τ 0 4 (ByteArray.data ⟨#[47, 92]⟩).toList = false from hB] at cS
        have he := HG.out
        rw [go_stop hB] at he
        have e1 : i = ra := congrArg Prod.fst he
        have e2 : τ = rσ := congrArg Prod.snd he
        subst e1
        subst e2
        clear he HG hB HN
        go_wp2_with (first
          | (go_at_call 85; refine (cS _ PT).mono ?_; rintro en W2 ⟨rfl, B2⟩; have P2 := PT.grown B2; have BB := BT.out.trans (below_lower B2 PT.sz); clear cS))
        go_ret
        exact OutC.ret okt.F P2 BB
      | true =>
        rw [show isT gs τ 0 4 (ByteArray.data ⟨#[47, 92]⟩).toList = true from hB] at cS
        have hlt := (isT_lt hB).2
        have et : takeC gs τ = CS.mk (CS.k τ + 1) (CS.deep τ) (CS.nodes τ) none := take_more okt.F (by omega)
        have hG := HG.out
        rw [go_some hB, et] at hG
        have ok2 : Ok gs (CS.mk (CS.k τ + 1) (CS.deep τ) (CS.nodes τ) none) := ⟨rfl, by show τ.k + 1 ≤ _; omega⟩
        have hn2 : need gs none 0 (CS.mk (CS.k τ + 1) (CS.deep τ) (CS.nodes τ) none) ≤ g' := (by have := HN.out; unfold need at this ⊢; dsimp only at this ⊢; omega)
        have cP := fun W hP => hR g' (by omega) _ W ok2 hP hn2
        have on2 := on_go gs g' none 0 (CS.mk (CS.k τ + 1) (CS.deep τ) (CS.nodes τ) none)
        have hkb : τ.k ≤ 1099511627776 := Nat.le_trans okt.k hn.1
        generalize hr2 : goC gs g' none 0 (CS.mk (CS.k τ + 1) (CS.deep τ) (CS.nodes τ) none) = r2 at *
        obtain ⟨b0, τ2⟩ := r2
        dsimp only at *
        have hcP : ∀ W, PC gs a cap base br W (CS.mk (CS.k τ + 1) (CS.deep τ) (CS.nodes τ) none) → Calls Tryz.prog 87 #[.pointer (some ⟨br, 0, none⟩)] W fun en w' => OutC gs a cap base br W τ2 (.int .i64 b0) en w' := fun W h => cP W h
        have HG2 : Hid (goC gs g' (some (nodeI τ2)) 0 (nodeC gs τ2 (nd2 4 i b0)) = (ra, rσ)) := hG
        clear cP hr2 hG HG et hB
        rcases F_or τ2 with g2 | ⟨x, u2⟩
        · have ok3 : Ok gs τ2 := ⟨g2, on2.len ok2.k⟩
          have hk3 : 1 ≤ τ2.k := (by have : τ.k + 1 ≤ τ2.k := on2.k; omega)
          have cA := fun W hP => cadd_any (a := a) (cap := cap) (base := base) (br := br) hn τ2 ok3 hk3 (nd2 4 i b0) W hP
          have hn3 : need gs (some (nodeI τ2)) 0 (nodeC gs τ2 (nd2 4 i b0)) ≤ g' := (by have h1 := HN.out; have h2 : τ.k + 1 ≤ τ2.k := on2.k; have h3 := (on_node gs τ2 (nd2 4 i b0)).k; unfold need at h1 ⊢; dsimp only at h1 ⊢; omega)
          dsimp only [nd2] at cA
          rcases F_or (nodeC gs τ2 (nd2 4 i b0)) with g3 | ⟨x, u3⟩
          · have ok4 := ok_of ok3 (on_node gs _ _) g3
            have hk4 : 1 ≤ (nodeC gs τ2 (nd2 4 i b0)).k := Nat.le_trans hk3 (on_node gs _ _).k
            go_wp2_with (first
              | (go_at_call 85; refine (cS _ PT).mono ?_; rintro en W2 ⟨rfl, B2x⟩; have P2 := PT.grown B2x; have B2 := BT.out.trans (below_lower B2x PT.sz); obtain ⟨v2, d2, e2, f2, R2, _⟩ := P2.ex; have c2 : W2.cell? ⟨br, 1, none⟩ = some (.int .i64 (CS.k τ : Int)) := R2.cell 1; clear cS B2x)
              | (refine wpList_store1 rfl 3 _ _ rfl rfl (.int .i64 ((CS.k τ : Int) + 1)) rfl R2 (by simp [rdL]) info3 rfl ?_; intro W3 U3 R3x; have P3 : PC gs a cap base br W3 (CS.mk (CS.k τ + 1) (CS.deep τ) (CS.nodes τ) none) := P2.turn (σ' := CS.mk (CS.k τ + 1) (CS.deep τ) (CS.nodes τ) none) (Turn.of_upd U3) R2 rfl e2 f2 (by simpa [rdL] using R3x); have B3 : Below base w W3 := Turn.below B2 P2.bb P2.sz (Turn.of_upd U3); clear U3 R3x R2 c2 e2 f2 P2)
              | (go_at_call 87; refine (hcP _ P3).mono ?_; rintro en W4 O4; obtain ⟨rfl, P4⟩ := O4.goes g2; have B4 := B3.trans O4.bel; clear O4 hcP P3)
              | (go_at_call 86; refine (cA _ P4).mono ?_; rintro en W5 O5; obtain ⟨rfl, P5x⟩ := O5.goes g3; have P5 : PC gs a cap base br W5 (nodeC gs τ2 (nd2 4 i b0)) := P5x; have B5 : Hid (Below base w W5) := B4.trans O5.bel; clear O5 cA P4 P5x))
            go_roundg g'
            case measure => exact (by have := HQ.out; omega)
            case rel => exact ⟨nodeI τ2, nodeC gs τ2 (nd2 4 i b0), g', rfl, rfl, HG2, hn3, by omega, hk4, ok4, P5, B5⟩
          · have hfin : rσ.F = some x := (by have h := (on_go gs g' (some (nodeI τ2)) 0 (nodeC gs τ2 (nd2 4 i b0))).F x u3; rw [HG2.out] at h; exact h)
            go_wp2_with (first
              | (go_at_call 85; refine (cS _ PT).mono ?_; rintro en W2 ⟨rfl, B2x⟩; have P2 := PT.grown B2x; have B2 := BT.out.trans (below_lower B2x PT.sz); obtain ⟨v2, d2, e2, f2, R2, _⟩ := P2.ex; have c2 : W2.cell? ⟨br, 1, none⟩ = some (.int .i64 (CS.k τ : Int)) := R2.cell 1; clear cS B2x)
              | (refine wpList_store1 rfl 3 _ _ rfl rfl (.int .i64 ((CS.k τ : Int) + 1)) rfl R2 (by simp [rdL]) info3 rfl ?_; intro W3 U3 R3x; have P3 : PC gs a cap base br W3 (CS.mk (CS.k τ + 1) (CS.deep τ) (CS.nodes τ) none) := P2.turn (σ' := CS.mk (CS.k τ + 1) (CS.deep τ) (CS.nodes τ) none) (Turn.of_upd U3) R2 rfl e2 f2 (by simpa [rdL] using R3x); have B3 : Below base w W3 := Turn.below B2 P2.bb P2.sz (Turn.of_upd U3); clear U3 R3x R2 c2 e2 f2 P2)
              | (go_at_call 87; refine (hcP _ P3).mono ?_; rintro en W4 O4; obtain ⟨rfl, P4⟩ := O4.goes g2; have B4 := B3.trans O4.bel; clear O4 hcP P3)
              | (go_at_call 86; refine (cA _ P4).mono ?_; rintro en W5 O5; have B5 := B4.trans O5.bel; obtain ⟨bp, rfl, hb, hI⟩ := O5.ups _ u3; clear O5 cA P4))
            exact ⟨rfl, OutC.thrown hfin ⟨bp, rfl, Nat.le_trans B4.size hb, hI⟩ B5⟩
        · have u3 := (on_node gs τ2 (nd2 4 i b0)).F x u2
          have hfin : rσ.F = some x := (by have h := (on_go gs g' (some (nodeI τ2)) 0 (nodeC gs τ2 (nd2 4 i b0))).F x u3; rw [HG2.out] at h; exact h)
          go_wp2_with (first
            | (go_at_call 85; refine (cS _ PT).mono ?_; rintro en W2 ⟨rfl, B2x⟩; have P2 := PT.grown B2x; have B2 := BT.out.trans (below_lower B2x PT.sz); obtain ⟨v2, d2, e2, f2, R2, _⟩ := P2.ex; have c2 : W2.cell? ⟨br, 1, none⟩ = some (.int .i64 (CS.k τ : Int)) := R2.cell 1; clear cS B2x)
            | (refine wpList_store1 rfl 3 _ _ rfl rfl (.int .i64 ((CS.k τ : Int) + 1)) rfl R2 (by simp [rdL]) info3 rfl ?_; intro W3 U3 R3x; have P3 : PC gs a cap base br W3 (CS.mk (CS.k τ + 1) (CS.deep τ) (CS.nodes τ) none) := P2.turn (σ' := CS.mk (CS.k τ + 1) (CS.deep τ) (CS.nodes τ) none) (Turn.of_upd U3) R2 rfl e2 f2 (by simpa [rdL] using R3x); have B3 : Below base w W3 := Turn.below B2 P2.bb P2.sz (Turn.of_upd U3); clear U3 R3x R2 c2 e2 f2 P2)
            | (go_at_call 87; refine (hcP _ P3).mono ?_; rintro en W4 O4; have B4 := B3.trans O4.bel; obtain ⟨bp, rfl, hb, hI⟩ := O4.ups _ u2; clear O4 hcP P3))
          exact ⟨rfl, OutC.thrown hfin ⟨bp, rfl, Nat.le_trans B3.size hb, hI⟩ B4⟩
  · have hfin := (on_go gs f (some a0) 0 σ1).F x u1
    go_enter Tryz.func61, Tryz.ntmps61
    go_wp2_with (first
      | (go_at_call 87; refine hc1.mono ?_; rintro en W1 O1; have B1 := O1.bel; obtain ⟨bp, rfl, hb, hI⟩ := O1.ups _ u1; clear O1 hc1))
    exact ⟨rfl, OutC.thrown hfin ⟨bp, rfl, hb, hI⟩ B1⟩
set_option maxRecDepth 100000 in
set_option maxHeartbeats 2000000 in
theorem run0_up (hn : Few gs) (f : Nat) (hR : ∀ g, g ≤ f → RunP gs a cap base br g 0) : RunP gs a cap base br (f + 1) (0 + 1) := by
  intro σ w ok hP hf
  have hmf : ∀ (fn : Fn) (first cap : Array Value) (w : World), (Instr.makeFunc fn first cap).run Tryz.prog w = .ok (.func fn first cap) w := fun _ _ _ _ => rfl
  have cC := chain0_any hn f hR σ w ok hP hf
  generalize goC gs (f + 1) none (0 + 1) σ = r at *
  obtain ⟨ra, rσ⟩ := r
  dsimp only at *
  show Calls Tryz.prog 62 _ w _
  rcases F_or rσ with g1 | ⟨x, u1⟩
  · go_enter Tryz.func62, Tryz.ntmps62
    go_wp2_with (first
      | (go_at_call 61; refine cC.mono ?_; rintro en W1 O1; obtain ⟨rfl, P1⟩ := O1.goes g1; have B1 := O1.bel; clear O1 cC))
    go_ret
    exact OutC.ret g1 P1 B1
  · go_enter Tryz.func62, Tryz.ntmps62
    go_wp2_with (first
      | (go_at_call 61; refine cC.mono ?_; rintro en W1 O1; have B1 := O1.bel; obtain ⟨bp, rfl, hb, hI⟩ := O1.ups _ u1; clear O1 cC))
    exact ⟨rfl, OutC.thrown u1 ⟨bp, rfl, hb, hI⟩ B1⟩
set_option maxRecDepth 100000 in
set_option maxHeartbeats 4000000 in
theorem chain1_any (hn : Few gs) (f : Nat) (hR : ∀ g, g ≤ f → RunP gs a cap base br g 1) (σ : CS) (w : World) (ok : Ok gs σ) (hP : PC gs a cap base br w σ) (hf : need gs none (1 + 1) σ ≤ f + 1) :
    Calls Tryz.prog 61 #[.pointer (some ⟨br, 0, none⟩), .string ⟨#[92, 47]⟩, .int .i64 5, .func (.func 62) #[.pointer (some ⟨br, 0, none⟩)] #[]] w fun en w' => OutC gs a cap base br w (goC gs (f + 1) none (1 + 1) σ).2 (.int .i64 (goC gs (f + 1) none (1 + 1) σ).1) en w' := by
  have eG : goC gs (f + 1) none (1 + 1) σ = goC gs f (some (goC gs f none 1 σ).1) 1 (goC gs f none 1 σ).2 := by conv => lhs; unfold goC
  rw [eG]
  clear eG
  have hf0 : need gs none 1 σ ≤ f := by unfold need at *; dsimp only at *; omega
  have hp0 : Hid (need gs none 1 σ ≤ f) := hf0
  have c1 := hR f (Nat.le_refl _) σ w ok hP hf0
  have on1 := on_go gs f none 1 σ
  have more1 : (goC gs f none 1 σ).2.F = none → σ.k < (goC gs f none 1 σ).2.k := fun h => go_more gs f 1 σ (by unfold need at hf0; dsimp only at hf0; omega) h
  generalize hr : goC gs f none 1 σ = r at *
  obtain ⟨a0, σ1⟩ := r
  dsimp only at *
  have hc1 : Calls Tryz.prog 62 #[.pointer (some ⟨br, 0, none⟩)] w fun en w' => OutC gs a cap base br w σ1 (.int .i64 a0) en w' := c1
  clear c1 hr
  rcases F_or σ1 with g1 | ⟨x, u1⟩
  · have ok1 : Ok gs σ1 := ⟨g1, on1.len ok.k⟩
    have hk1 : 1 ≤ σ1.k := (by have := more1 g1; omega)
    have hnd1 : need gs (some a0) 1 σ1 ≤ f := (by unfold need at hf0 ⊢; dsimp only at hf0 ⊢; have := on1.k; omega)
    generalize hfin : goC gs f (some a0) 1 σ1 = res at *
    obtain ⟨ra, rσ⟩ := res
    dsimp only
    have HF : Hid (goC gs f (some a0) 1 σ1 = (ra, rσ)) := hfin
    clear hfin hf hf0 on1 more1
    go_enter Tryz.func61, Tryz.ntmps61
    go_wp2_with (first
      | (go_at_call 62; refine hc1.mono ?_; rintro en W1 O1; obtain ⟨rfl, P1⟩ := O1.goes g1; have B1 := O1.bel; clear O1 hc1))
    go_loopg [9, 10] f (fun g av _ wr => ∃ (i : Int) (τ : CS) (q : Nat), Hid (q = g) ∧ av = .int .i64 i ∧ Hid (goC gs q (some i) 1 τ = (ra, rσ)) ∧ Hid (need gs (some i) 1 τ ≤ q) ∧ q ≤ f ∧ 1 ≤ τ.k ∧ Ok gs τ ∧ PC gs a cap base br wr τ ∧ Hid (Below base w wr))
    case atStart => exact ⟨a0, σ1, f, rfl, rfl, HF, hnd1, Nat.le_refl _, hk1, ok1, P1, B1⟩
    case round =>
      obtain ⟨i, τ, q, HQ, rfl, HG, HN, hgf, hk, okt, PT, BT⟩ := hrel
      clear HF P1 B1 hnd1 hk1 ok1
      obtain ⟨g', rfl⟩ : ∃ g', q = g' + 1 := ⟨q - 1, (by have := HN.out; unfold need at this; dsimp only at this; omega)⟩
      have cS := fun W hP => csees_any (a := a) (cap := cap) (base := base) (br := br) hn τ okt ⟨#[92, 47]⟩ W hP
      cases hB : isT gs τ 0 4 (sgnOf 1) with
      | false =>
        rw [show isT gs τ 0 4 (ByteArray.data ⟨#[92, 47]⟩).toList = false from hB] at cS
        have he := HG.out
        rw [go_stop hB] at he
        have e1 : i = ra := congrArg Prod.fst he
        have e2 : τ = rσ := congrArg Prod.snd he
        subst e1
        subst e2
        clear he HG hB HN
        go_wp2_with (first
          | (go_at_call 85; refine (cS _ PT).mono ?_; rintro en W2 ⟨rfl, B2⟩; have P2 := PT.grown B2; have BB := BT.out.trans (below_lower B2 PT.sz); clear cS))
        go_ret
        exact OutC.ret okt.F P2 BB
      | true =>
        rw [show isT gs τ 0 4 (ByteArray.data ⟨#[92, 47]⟩).toList = true from hB] at cS
        have hlt := (isT_lt hB).2
        have et : takeC gs τ = CS.mk (CS.k τ + 1) (CS.deep τ) (CS.nodes τ) none := take_more okt.F (by omega)
        have hG := HG.out
        rw [go_some hB, et] at hG
        have ok2 : Ok gs (CS.mk (CS.k τ + 1) (CS.deep τ) (CS.nodes τ) none) := ⟨rfl, by show τ.k + 1 ≤ _; omega⟩
        have hn2 : need gs none 1 (CS.mk (CS.k τ + 1) (CS.deep τ) (CS.nodes τ) none) ≤ g' := (by have := HN.out; unfold need at this ⊢; dsimp only at this ⊢; omega)
        have cP := fun W hP => hR g' (by omega) _ W ok2 hP hn2
        have on2 := on_go gs g' none 1 (CS.mk (CS.k τ + 1) (CS.deep τ) (CS.nodes τ) none)
        have hkb : τ.k ≤ 1099511627776 := Nat.le_trans okt.k hn.1
        generalize hr2 : goC gs g' none 1 (CS.mk (CS.k τ + 1) (CS.deep τ) (CS.nodes τ) none) = r2 at *
        obtain ⟨b0, τ2⟩ := r2
        dsimp only at *
        have hcP : ∀ W, PC gs a cap base br W (CS.mk (CS.k τ + 1) (CS.deep τ) (CS.nodes τ) none) → Calls Tryz.prog 62 #[.pointer (some ⟨br, 0, none⟩)] W fun en w' => OutC gs a cap base br W τ2 (.int .i64 b0) en w' := fun W h => cP W h
        have HG2 : Hid (goC gs g' (some (nodeI τ2)) 1 (nodeC gs τ2 (nd2 5 i b0)) = (ra, rσ)) := hG
        clear cP hr2 hG HG et hB
        rcases F_or τ2 with g2 | ⟨x, u2⟩
        · have ok3 : Ok gs τ2 := ⟨g2, on2.len ok2.k⟩
          have hk3 : 1 ≤ τ2.k := (by have : τ.k + 1 ≤ τ2.k := on2.k; omega)
          have cA := fun W hP => cadd_any (a := a) (cap := cap) (base := base) (br := br) hn τ2 ok3 hk3 (nd2 5 i b0) W hP
          have hn3 : need gs (some (nodeI τ2)) 1 (nodeC gs τ2 (nd2 5 i b0)) ≤ g' := (by have h1 := HN.out; have h2 : τ.k + 1 ≤ τ2.k := on2.k; have h3 := (on_node gs τ2 (nd2 5 i b0)).k; unfold need at h1 ⊢; dsimp only at h1 ⊢; omega)
          dsimp only [nd2] at cA
          rcases F_or (nodeC gs τ2 (nd2 5 i b0)) with g3 | ⟨x, u3⟩
          · have ok4 := ok_of ok3 (on_node gs _ _) g3
            have hk4 : 1 ≤ (nodeC gs τ2 (nd2 5 i b0)).k := Nat.le_trans hk3 (on_node gs _ _).k
            go_wp2_with (first
              | (go_at_call 85; refine (cS _ PT).mono ?_; rintro en W2 ⟨rfl, B2x⟩; have P2 := PT.grown B2x; have B2 := BT.out.trans (below_lower B2x PT.sz); obtain ⟨v2, d2, e2, f2, R2, _⟩ := P2.ex; have c2 : W2.cell? ⟨br, 1, none⟩ = some (.int .i64 (CS.k τ : Int)) := R2.cell 1; clear cS B2x)
              | (refine wpList_store1 rfl 3 _ _ rfl rfl (.int .i64 ((CS.k τ : Int) + 1)) rfl R2 (by simp [rdL]) info3 rfl ?_; intro W3 U3 R3x; have P3 : PC gs a cap base br W3 (CS.mk (CS.k τ + 1) (CS.deep τ) (CS.nodes τ) none) := P2.turn (σ' := CS.mk (CS.k τ + 1) (CS.deep τ) (CS.nodes τ) none) (Turn.of_upd U3) R2 rfl e2 f2 (by simpa [rdL] using R3x); have B3 : Below base w W3 := Turn.below B2 P2.bb P2.sz (Turn.of_upd U3); clear U3 R3x R2 c2 e2 f2 P2)
              | (go_at_call 62; refine (hcP _ P3).mono ?_; rintro en W4 O4; obtain ⟨rfl, P4⟩ := O4.goes g2; have B4 := B3.trans O4.bel; clear O4 hcP P3)
              | (go_at_call 86; refine (cA _ P4).mono ?_; rintro en W5 O5; obtain ⟨rfl, P5x⟩ := O5.goes g3; have P5 : PC gs a cap base br W5 (nodeC gs τ2 (nd2 5 i b0)) := P5x; have B5 : Hid (Below base w W5) := B4.trans O5.bel; clear O5 cA P4 P5x))
            go_roundg g'
            case measure => exact (by have := HQ.out; omega)
            case rel => exact ⟨nodeI τ2, nodeC gs τ2 (nd2 5 i b0), g', rfl, rfl, HG2, hn3, by omega, hk4, ok4, P5, B5⟩
          · have hfin : rσ.F = some x := (by have h := (on_go gs g' (some (nodeI τ2)) 1 (nodeC gs τ2 (nd2 5 i b0))).F x u3; rw [HG2.out] at h; exact h)
            go_wp2_with (first
              | (go_at_call 85; refine (cS _ PT).mono ?_; rintro en W2 ⟨rfl, B2x⟩; have P2 := PT.grown B2x; have B2 := BT.out.trans (below_lower B2x PT.sz); obtain ⟨v2, d2, e2, f2, R2, _⟩ := P2.ex; have c2 : W2.cell? ⟨br, 1, none⟩ = some (.int .i64 (CS.k τ : Int)) := R2.cell 1; clear cS B2x)
              | (refine wpList_store1 rfl 3 _ _ rfl rfl (.int .i64 ((CS.k τ : Int) + 1)) rfl R2 (by simp [rdL]) info3 rfl ?_; intro W3 U3 R3x; have P3 : PC gs a cap base br W3 (CS.mk (CS.k τ + 1) (CS.deep τ) (CS.nodes τ) none) := P2.turn (σ' := CS.mk (CS.k τ + 1) (CS.deep τ) (CS.nodes τ) none) (Turn.of_upd U3) R2 rfl e2 f2 (by simpa [rdL] using R3x); have B3 : Below base w W3 := Turn.below B2 P2.bb P2.sz (Turn.of_upd U3); clear U3 R3x R2 c2 e2 f2 P2)
              | (go_at_call 62; refine (hcP _ P3).mono ?_; rintro en W4 O4; obtain ⟨rfl, P4⟩ := O4.goes g2; have B4 := B3.trans O4.bel; clear O4 hcP P3)
              | (go_at_call 86; refine (cA _ P4).mono ?_; rintro en W5 O5; have B5 := B4.trans O5.bel; obtain ⟨bp, rfl, hb, hI⟩ := O5.ups _ u3; clear O5 cA P4))
            exact ⟨rfl, OutC.thrown hfin ⟨bp, rfl, Nat.le_trans B4.size hb, hI⟩ B5⟩
        · have u3 := (on_node gs τ2 (nd2 5 i b0)).F x u2
          have hfin : rσ.F = some x := (by have h := (on_go gs g' (some (nodeI τ2)) 1 (nodeC gs τ2 (nd2 5 i b0))).F x u3; rw [HG2.out] at h; exact h)
          go_wp2_with (first
            | (go_at_call 85; refine (cS _ PT).mono ?_; rintro en W2 ⟨rfl, B2x⟩; have P2 := PT.grown B2x; have B2 := BT.out.trans (below_lower B2x PT.sz); obtain ⟨v2, d2, e2, f2, R2, _⟩ := P2.ex; have c2 : W2.cell? ⟨br, 1, none⟩ = some (.int .i64 (CS.k τ : Int)) := R2.cell 1; clear cS B2x)
            | (refine wpList_store1 rfl 3 _ _ rfl rfl (.int .i64 ((CS.k τ : Int) + 1)) rfl R2 (by simp [rdL]) info3 rfl ?_; intro W3 U3 R3x; have P3 : PC gs a cap base br W3 (CS.mk (CS.k τ + 1) (CS.deep τ) (CS.nodes τ) none) := P2.turn (σ' := CS.mk (CS.k τ + 1) (CS.deep τ) (CS.nodes τ) none) (Turn.of_upd U3) R2 rfl e2 f2 (by simpa [rdL] using R3x); have B3 : Below base w W3 := Turn.below B2 P2.bb P2.sz (Turn.of_upd U3); clear U3 R3x R2 c2 e2 f2 P2)
            | (go_at_call 62; refine (hcP _ P3).mono ?_; rintro en W4 O4; have B4 := B3.trans O4.bel; obtain ⟨bp, rfl, hb, hI⟩ := O4.ups _ u2; clear O4 hcP P3))
          exact ⟨rfl, OutC.thrown hfin ⟨bp, rfl, Nat.le_trans B3.size hb, hI⟩ B4⟩
  · have hfin := (on_go gs f (some a0) 1 σ1).F x u1
    go_enter Tryz.func61, Tryz.ntmps61
    go_wp2_with (first
      | (go_at_call 62; refine hc1.mono ?_; rintro en W1 O1; have B1 := O1.bel; obtain ⟨bp, rfl, hb, hI⟩ := O1.ups _ u1; clear O1 hc1))
    exact ⟨rfl, OutC.thrown hfin ⟨bp, rfl, hb, hI⟩ B1⟩
set_option maxRecDepth 100000 in
set_option maxHeartbeats 2000000 in
theorem run1_up (hn : Few gs) (f : Nat) (hR : ∀ g, g ≤ f → RunP gs a cap base br g 1) : RunP gs a cap base br (f + 1) (1 + 1) := by
  intro σ w ok hP hf
  have hmf : ∀ (fn : Fn) (first cap : Array Value) (w : World), (Instr.makeFunc fn first cap).run Tryz.prog w = .ok (.func fn first cap) w := fun _ _ _ _ => rfl
  have cC := chain1_any hn f hR σ w ok hP hf
  generalize goC gs (f + 1) none (1 + 1) σ = r at *
  obtain ⟨ra, rσ⟩ := r
  dsimp only at *
  show Calls Tryz.prog 39 _ w _
  rcases F_or rσ with g1 | ⟨x, u1⟩
  · go_enter Tryz.func39, Tryz.ntmps39
    go_wp2_with (first
      | (go_at_call 61; refine cC.mono ?_; rintro en W1 O1; obtain ⟨rfl, P1⟩ := O1.goes g1; have B1 := O1.bel; clear O1 cC))
    go_ret
    exact OutC.ret g1 P1 B1
  · go_enter Tryz.func39, Tryz.ntmps39
    go_wp2_with (first
      | (go_at_call 61; refine cC.mono ?_; rintro en W1 O1; have B1 := O1.bel; obtain ⟨bp, rfl, hb, hI⟩ := O1.ups _ u1; clear O1 cC))
    exact ⟨rfl, OutC.thrown u1 ⟨bp, rfl, hb, hI⟩ B1⟩
end
end Go.Proofs.YtjnbhcakfenbhaaGreatDoor

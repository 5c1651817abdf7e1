/- The reference's reader of conditions: and, or; all levels. -/
import Derived.Test.YtjnbhcakfenbhaaDoorWB
import Derived.Deep.LoopGhost
namespace Go.Proofs.YtjnbhcakfenbhaaDoor
open Go.RowKit Go.Shelf M
set_option linter.unusedSimpArgs false
set_option linter.unusedVariables false

section
variable {gs : List GT} {a : Option Addr} {cap base br k0 : Nat}
set_option maxRecDepth 100000 in
set_option maxHeartbeats 4000000 in
theorem rstay1 (hn : Few gs) (f : Nat) (σ : CS) (y : Int × Int × Int) (h : σ.F = some y) (w : World) (hP : RC gs a cap base br k0 w σ) :
    Calls Tryd.prog (fnR 1) #[.pointer (some ⟨br, 0, none⟩)] w fun en w' => OutR gs a cap base br k0 w (goC gs f none 1 σ).2 (.int .i64 (goC gs f none 1 σ).1) en w' := by
  show Calls Tryd.prog 50 _ w _
  rw [go_val gs h f 1]
  have c1 := rstay0  0 σ y h w hP
  rw [go_val gs h 0 0] at c1
  have hc1 : Calls Tryd.prog 67 #[.pointer (some ⟨br, 0, none⟩)] w fun en w' => OutR gs a cap base br k0 w σ (.int .i64 0) en w' := c1
  have cS := fun W hP => ris_any (gs := gs) (a := a) (cap := cap) (base := base) (br := br) (k0 := k0) hn σ 0 (by omega) 4 ⟨#[47, 92]⟩ W hP
  rw [isT_none h] at cS
  clear c1 h
  go_enter Tryd.func50, Tryd.ntmps50
  go_wp2_with (first
    | (go_at_call 67; refine hc1.mono ?_; rintro en W1 ⟨rfl, P1, B1⟩; clear hc1))
  go_loop [3, 4] (fun av _ => av = .int .i64 0) (fun _ _ => 0)
  case atStart => rfl
  case round =>
    subst hrel
    go_wp2_with (first
      | (go_at_call 51; refine (cS _ P1).mono ?_; rintro en W2 ⟨rfl, hW⟩; replace hW := hW.symm; subst hW; clear cS))
    go_ret
    exact ⟨rfl, P1, B1⟩
set_option maxRecDepth 100000 in
set_option maxHeartbeats 4000000 in
theorem rrun0_up (hn : Few gs) (f : Nat) (hR : ∀ g, g ≤ f → RunR gs a cap base br k0 g 0) : RunR gs a cap base br k0 (f + 1) (0 + 1) := by
  intro σ w hP hpre
  rcases F_or σ with hF | ⟨y, u⟩
  · obtain ⟨hd0, hd64, hf⟩ := hpre hF
    show Calls Tryd.prog 50 _ w _
    have eG : goC gs (f + 1) none (0 + 1) σ = goC gs f (some (goC gs f none 0 σ).1) 0 (goC gs f none 0 σ).2 := by conv => lhs; unfold goC
    rw [eG]
    clear eG
    have hfrom := hP.from'
    have hf0 : need gs none 0 σ ≤ f := by unfold need at *; dsimp only at *; omega
    have c1 := hR f (Nat.le_refl _) σ w hP (fun _ => ⟨hd0, hd64, hf0⟩)
    have on1 := on_go gs f none 0 σ
    have kp1 := kp_go gs f none 0 σ
    have more1 : (goC gs f none 0 σ).2.F = none → σ.k < (goC gs f none 0 σ).2.k := fun h => go_more gs f 0 σ (by unfold need at hf0; dsimp only at hf0; omega) h
    generalize hr : goC gs f none 0 σ = r at *
    obtain ⟨a0, σ1⟩ := r
    dsimp only at *
    have hc1 : Calls Tryd.prog 67 #[.pointer (some ⟨br, 0, none⟩)] w fun en w' => OutR gs a cap base br k0 w σ1 (.int .i64 a0) en w' := c1
    clear c1 hr
    have hnd1 : Hid (need gs (some a0) 0 σ1 ≤ f) := (by show need gs (some a0) 0 σ1 ≤ f; unfold need at hf0 ⊢; dsimp only at hf0 ⊢; have := on1.k; omega)
    have hg1 : Hid (σ1.F = none → k0 < σ1.k ∧ 0 ≤ σ1.deep ∧ σ1.deep ≤ 64) := (fun g => by have := more1 g; have := kp1.deep g; refine ⟨?_, ?_, ?_⟩ <;> omega)
    generalize hfin : goC gs f (some a0) 0 σ1 = res at *
    obtain ⟨ra, rσ⟩ := res
    dsimp only
    have HF : Hid (goC gs f (some a0) 0 σ1 = (ra, rσ)) := hfin
    clear hfin hf hf0 on1 more1 kp1 hF hpre
    go_enter Tryd.func50, Tryd.ntmps50
    go_wp2_with (first
      | (go_at_call 67; refine hc1.mono ?_; rintro en W1 ⟨rfl, P1, B1⟩; clear hc1))
    go_loopg [3, 4] f (fun g av _ wr => ∃ (i : Int) (τ : CS) (q : Nat), Hid (q = g) ∧ av = .int .i64 i ∧ Hid (goC gs q (some i) 0 τ = (ra, rσ)) ∧ Hid (need gs (some i) 0 τ ≤ q) ∧ q ≤ f ∧ Hid (τ.F = none → k0 < τ.k ∧ 0 ≤ τ.deep ∧ τ.deep ≤ 64) ∧ RC gs a cap base br k0 wr τ ∧ Hid (Below base w wr))
    case atStart => exact ⟨a0, σ1, f, rfl, rfl, HF, hnd1, Nat.le_refl _, hg1, P1, B1⟩
    case round =>
      obtain ⟨i, τ, q, HQ, rfl, HG, HN, hgf, HK, PT, BT⟩ := hrel
      clear HF P1 B1 hnd1 hg1
      obtain ⟨g', rfl⟩ : ∃ g', q = g' + 1 := ⟨q - 1, (by have := HN.out; unfold need at this; dsimp only at this; omega)⟩
      have cS := fun W hP => ris_any (gs := gs) (a := a) (cap := cap) (base := base) (br := br) (k0 := k0) hn τ 0 (by omega) 4 ⟨#[47, 92]⟩ W hP
      cases hB : isT gs τ 0 4 (sgnOf 0) with
      | false =>
        rw [show isT gs τ 0 4 (ByteArray.data ⟨#[47, 92]⟩).toList = false from hB] at cS
        have he := HG.out
        rw [go_stop hB] at he
        have e1 : i = ra := congrArg Prod.fst he
        have e2 : τ = rσ := congrArg Prod.snd he
        subst e1
        subst e2
        clear he HG hB HN
        go_wp2_with (first
          | (go_at_call 51; refine (cS _ PT).mono ?_; rintro en W2 ⟨rfl, hW⟩; replace hW := hW.symm; subst hW; clear cS))
        go_ret
        exact ⟨rfl, PT, BT.out⟩
      | true =>
        rw [show isT gs τ 0 4 (ByteArray.data ⟨#[47, 92]⟩).toList = true from hB] at cS
        have hlt : τ.k < gs.length := (isT_lt hB).2
        have hFt : τ.F = none := (by rcases F_or τ with g | ⟨y, u⟩; exact g; rw [isT_none u] at hB; cases hB)
        obtain ⟨hkt, hdt0, hdt⟩ := HK.out hFt
        have cT := fun W hP => rtake_any (gs := gs) (a := a) (cap := cap) (base := base) (br := br) (k0 := k0) hn τ W hP
        have et := take_more (gs := gs) hFt hlt
        have hG := HG.out
        rw [go_some hB, et] at hG
        rw [et] at cT
        have hn2 : need gs none 0 (CS.mk (CS.k τ + 1) (CS.deep τ) (CS.nodes τ) none) ≤ g' := (by have := HN.out; unfold need at this ⊢; dsimp only at this ⊢; omega)
        have cP := fun W hP => hR g' (by omega) (CS.mk (CS.k τ + 1) (CS.deep τ) (CS.nodes τ) none) W hP (fun _ => ⟨hdt0, hdt, hn2⟩)
        have on2 := on_go gs g' none 0 (CS.mk (CS.k τ + 1) (CS.deep τ) (CS.nodes τ) none)
        have kp2 := kp_go gs g' none 0 (CS.mk (CS.k τ + 1) (CS.deep τ) (CS.nodes τ) none)
        generalize hr2 : goC gs g' none 0 (CS.mk (CS.k τ + 1) (CS.deep τ) (CS.nodes τ) none) = r2 at *
        obtain ⟨b0, τ2⟩ := r2
        dsimp only at *
        have hcP : ∀ W, RC gs a cap base br k0 W (CS.mk (CS.k τ + 1) (CS.deep τ) (CS.nodes τ) none) → Calls Tryd.prog 67 #[.pointer (some ⟨br, 0, none⟩)] W fun en w' => OutR gs a cap base br k0 W τ2 (.int .i64 b0) en w' := fun W h => cP W h
        have HG2 : Hid (goC gs g' (some (nodeI τ2)) 0 (nodeC gs τ2 (nd2 4 i b0)) = (ra, rσ)) := hG
        have hk2 : τ.k + 1 ≤ τ2.k := on2.k
        have cA := fun W hP => rnode_any (gs := gs) (a := a) (cap := cap) (base := base) (br := br) (k0 := k0) τ2 (nd2 4 i b0) (fun _ => by omega) W hP
        have HN3 : Hid (need gs (some (nodeI τ2)) 0 (nodeC gs τ2 (nd2 4 i b0)) ≤ g') := (by show need gs (some (nodeI τ2)) 0 (nodeC gs τ2 (nd2 4 i b0)) ≤ g'; have h1 := HN.out; have h3 := (on_node gs τ2 (nd2 4 i b0)).k; unfold need at h1 ⊢; dsimp only at h1 ⊢; omega)
        have HK3 : Hid ((nodeC gs τ2 (nd2 4 i b0)).F = none → k0 < (nodeC gs τ2 (nd2 4 i b0)).k ∧ 0 ≤ (nodeC gs τ2 (nd2 4 i b0)).deep ∧ (nodeC gs τ2 (nd2 4 i b0)).deep ≤ 64) := (fun g => by
          have h3 := (on_node gs τ2 (nd2 4 i b0)).k
          have g2 : τ2.F = none := (by rcases F_or τ2 with g2 | ⟨y, u⟩; exact g2; rw [node_stay gs u, u] at g; cases g)
          have h4 : τ2.deep = τ.deep := kp2.deep g2
          rw [node_dp]
          refine ⟨?_, ?_, ?_⟩ <;> omega)
        clear cP hr2 hG HG et hB kp2 on2 hFt HN HK
        generalize hno : nodeC gs τ2 (nd2 4 i b0) = τ3 at *
        clear hno
        dsimp only [nd2] at cA
        generalize takeX gs τ = tx at *
        go_wp2_with (first
          | (go_at_call 51; refine (cS _ PT).mono ?_; rintro en W2 ⟨rfl, hW⟩; replace hW := hW.symm; subst hW; clear cS)
          | (go_at_call 52; refine (cT _ PT).mono ?_; rintro en W3 ⟨rfl, P3, B3x, _⟩; have B3 := BT.out.trans B3x; clear cT B3x PT BT)
          | (go_at_call 67; refine (hcP _ P3).mono ?_; rintro en W4 ⟨rfl, P4, B4x⟩; have B4 := B3.trans B4x; clear hcP P3 B3 B4x)
          | (go_at_call 53; refine (cA _ P4).mono ?_; rintro en W5 ⟨rfl, P5, B5x⟩; have B5 : Hid (Below base w W5) := B4.trans B5x; clear cA P4 B4 B5x))
        go_roundg g'
        case measure => exact (by have := HQ.out; omega)
        case rel => exact ⟨nodeI τ2, τ3, g', rfl, rfl, HG2, HN3, by omega, HK3, P5, B5⟩
  · exact rstay1 hn (f + 1) σ y u w hP
set_option maxRecDepth 100000 in
set_option maxHeartbeats 4000000 in
theorem rstay2 (hn : Few gs) (f : Nat) (σ : CS) (y : Int × Int × Int) (h : σ.F = some y) (w : World) (hP : RC gs a cap base br k0 w σ) :
    Calls Tryd.prog (fnR 2) #[.pointer (some ⟨br, 0, none⟩)] w fun en w' => OutR gs a cap base br k0 w (goC gs f none 2 σ).2 (.int .i64 (goC gs f none 2 σ).1) en w' := by
  show Calls Tryd.prog 34 _ w _
  rw [go_val gs h f 2]
  have c1 := rstay1 hn 0 σ y h w hP
  rw [go_val gs h 0 1] at c1
  have hc1 : Calls Tryd.prog 50 #[.pointer (some ⟨br, 0, none⟩)] w fun en w' => OutR gs a cap base br k0 w σ (.int .i64 0) en w' := c1
  have cS := fun W hP => ris_any (gs := gs) (a := a) (cap := cap) (base := base) (br := br) (k0 := k0) hn σ 0 (by omega) 4 ⟨#[92, 47]⟩ W hP
  rw [isT_none h] at cS
  clear c1 h
  go_enter Tryd.func34, Tryd.ntmps34
  go_wp2_with (first
    | (go_at_call 50; refine hc1.mono ?_; rintro en W1 ⟨rfl, P1, B1⟩; clear hc1))
  go_loop [3, 4] (fun av _ => av = .int .i64 0) (fun _ _ => 0)
  case atStart => rfl
  case round =>
    subst hrel
    go_wp2_with (first
      | (go_at_call 51; refine (cS _ P1).mono ?_; rintro en W2 ⟨rfl, hW⟩; replace hW := hW.symm; subst hW; clear cS))
    go_ret
    exact ⟨rfl, P1, B1⟩
set_option maxRecDepth 100000 in
set_option maxHeartbeats 4000000 in
theorem rrun1_up (hn : Few gs) (f : Nat) (hR : ∀ g, g ≤ f → RunR gs a cap base br k0 g 1) : RunR gs a cap base br k0 (f + 1) (1 + 1) := by
  intro σ w hP hpre
  rcases F_or σ with hF | ⟨y, u⟩
  · obtain ⟨hd0, hd64, hf⟩ := hpre hF
    show Calls Tryd.prog 34 _ w _
    have eG : goC gs (f + 1) none (1 + 1) σ = goC gs f (some (goC gs f none 1 σ).1) 1 (goC gs f none 1 σ).2 := by conv => lhs; unfold goC
    rw [eG]
    clear eG
    have hfrom := hP.from'
    have hf0 : need gs none 1 σ ≤ f := by unfold need at *; dsimp only at *; omega
    have c1 := hR f (Nat.le_refl _) σ w hP (fun _ => ⟨hd0, hd64, hf0⟩)
    have on1 := on_go gs f none 1 σ
    have kp1 := kp_go gs f none 1 σ
    have more1 : (goC gs f none 1 σ).2.F = none → σ.k < (goC gs f none 1 σ).2.k := fun h => go_more gs f 1 σ (by unfold need at hf0; dsimp only at hf0; omega) h
    generalize hr : goC gs f none 1 σ = r at *
    obtain ⟨a0, σ1⟩ := r
    dsimp only at *
    have hc1 : Calls Tryd.prog 50 #[.pointer (some ⟨br, 0, none⟩)] w fun en w' => OutR gs a cap base br k0 w σ1 (.int .i64 a0) en w' := c1
    clear c1 hr
    have hnd1 : Hid (need gs (some a0) 1 σ1 ≤ f) := (by show need gs (some a0) 1 σ1 ≤ f; unfold need at hf0 ⊢; dsimp only at hf0 ⊢; have := on1.k; omega)
    have hg1 : Hid (σ1.F = none → k0 < σ1.k ∧ 0 ≤ σ1.deep ∧ σ1.deep ≤ 64) := (fun g => by have := more1 g; have := kp1.deep g; refine ⟨?_, ?_, ?_⟩ <;> omega)
    generalize hfin : goC gs f (some a0) 1 σ1 = res at *
    obtain ⟨ra, rσ⟩ := res
    dsimp only
    have HF : Hid (goC gs f (some a0) 1 σ1 = (ra, rσ)) := hfin
    clear hfin hf hf0 on1 more1 kp1 hF hpre
    go_enter Tryd.func34, Tryd.ntmps34
    go_wp2_with (first
      | (go_at_call 50; refine hc1.mono ?_; rintro en W1 ⟨rfl, P1, B1⟩; clear hc1))
    go_loopg [3, 4] f (fun g av _ wr => ∃ (i : Int) (τ : CS) (q : Nat), Hid (q = g) ∧ av = .int .i64 i ∧ Hid (goC gs q (some i) 1 τ = (ra, rσ)) ∧ Hid (need gs (some i) 1 τ ≤ q) ∧ q ≤ f ∧ Hid (τ.F = none → k0 < τ.k ∧ 0 ≤ τ.deep ∧ τ.deep ≤ 64) ∧ RC gs a cap base br k0 wr τ ∧ Hid (Below base w wr))
    case atStart => exact ⟨a0, σ1, f, rfl, rfl, HF, hnd1, Nat.le_refl _, hg1, P1, B1⟩
    case round =>
      obtain ⟨i, τ, q, HQ, rfl, HG, HN, hgf, HK, PT, BT⟩ := hrel
      clear HF P1 B1 hnd1 hg1
      obtain ⟨g', rfl⟩ : ∃ g', q = g' + 1 := ⟨q - 1, (by have := HN.out; unfold need at this; dsimp only at this; omega)⟩
      have cS := fun W hP => ris_any (gs := gs) (a := a) (cap := cap) (base := base) (br := br) (k0 := k0) hn τ 0 (by omega) 4 ⟨#[92, 47]⟩ W hP
      cases hB : isT gs τ 0 4 (sgnOf 1) with
      | false =>
        rw [show isT gs τ 0 4 (ByteArray.data ⟨#[92, 47]⟩).toList = false from hB] at cS
        have he := HG.out
        rw [go_stop hB] at he
        have e1 : i = ra := congrArg Prod.fst he
        have e2 : τ = rσ := congrArg Prod.snd he
        subst e1
        subst e2
        clear he HG hB HN
        go_wp2_with (first
          | (go_at_call 51; refine (cS _ PT).mono ?_; rintro en W2 ⟨rfl, hW⟩; replace hW := hW.symm; subst hW; clear cS))
        go_ret
        exact ⟨rfl, PT, BT.out⟩
      | true =>
        rw [show isT gs τ 0 4 (ByteArray.data ⟨#[92, 47]⟩).toList = true from hB] at cS
        have hlt : τ.k < gs.length := (isT_lt hB).2
        have hFt : τ.F = none := (by rcases F_or τ with g | ⟨y, u⟩; exact g; rw [isT_none u] at hB; cases hB)
        obtain ⟨hkt, hdt0, hdt⟩ := HK.out hFt
        have cT := fun W hP => rtake_any (gs := gs) (a := a) (cap := cap) (base := base) (br := br) (k0 := k0) hn τ W hP
        have et := take_more (gs := gs) hFt hlt
        have hG := HG.out
        rw [go_some hB, et] at hG
        rw [et] at cT
        have hn2 : need gs none 1 (CS.mk (CS.k τ + 1) (CS.deep τ) (CS.nodes τ) none) ≤ g' := (by have := HN.out; unfold need at this ⊢; dsimp only at this ⊢; omega)
        have cP := fun W hP => hR g' (by omega) (CS.mk (CS.k τ + 1) (CS.deep τ) (CS.nodes τ) none) W hP (fun _ => ⟨hdt0, hdt, hn2⟩)
        have on2 := on_go gs g' none 1 (CS.mk (CS.k τ + 1) (CS.deep τ) (CS.nodes τ) none)
        have kp2 := kp_go gs g' none 1 (CS.mk (CS.k τ + 1) (CS.deep τ) (CS.nodes τ) none)
        generalize hr2 : goC gs g' none 1 (CS.mk (CS.k τ + 1) (CS.deep τ) (CS.nodes τ) none) = r2 at *
        obtain ⟨b0, τ2⟩ := r2
        dsimp only at *
        have hcP : ∀ W, RC gs a cap base br k0 W (CS.mk (CS.k τ + 1) (CS.deep τ) (CS.nodes τ) none) → Calls Tryd.prog 50 #[.pointer (some ⟨br, 0, none⟩)] W fun en w' => OutR gs a cap base br k0 W τ2 (.int .i64 b0) en w' := fun W h => cP W h
        have HG2 : Hid (goC gs g' (some (nodeI τ2)) 1 (nodeC gs τ2 (nd2 5 i b0)) = (ra, rσ)) := hG
        have hk2 : τ.k + 1 ≤ τ2.k := on2.k
        have cA := fun W hP => rnode_any (gs := gs) (a := a) (cap := cap) (base := base) (br := br) (k0 := k0) τ2 (nd2 5 i b0) (fun _ => by omega) W hP
        have HN3 : Hid (need gs (some (nodeI τ2)) 1 (nodeC gs τ2 (nd2 5 i b0)) ≤ g') := (by show need gs (some (nodeI τ2)) 1 (nodeC gs τ2 (nd2 5 i b0)) ≤ g'; have h1 := HN.out; have h3 := (on_node gs τ2 (nd2 5 i b0)).k; unfold need at h1 ⊢; dsimp only at h1 ⊢; omega)
        have HK3 : Hid ((nodeC gs τ2 (nd2 5 i b0)).F = none → k0 < (nodeC gs τ2 (nd2 5 i b0)).k ∧ 0 ≤ (nodeC gs τ2 (nd2 5 i b0)).deep ∧ (nodeC gs τ2 (nd2 5 i b0)).deep ≤ 64) := (fun g => by
          have h3 := (on_node gs τ2 (nd2 5 i b0)).k
          have g2 : τ2.F = none := (by rcases F_or τ2 with g2 | ⟨y, u⟩; exact g2; rw [node_stay gs u, u] at g; cases g)
          have h4 : τ2.deep = τ.deep := kp2.deep g2
          rw [node_dp]
          refine ⟨?_, ?_, ?_⟩ <;> omega)
        clear cP hr2 hG HG et hB kp2 on2 hFt HN HK
        generalize hno : nodeC gs τ2 (nd2 5 i b0) = τ3 at *
        clear hno
        dsimp only [nd2] at cA
        generalize takeX gs τ = tx at *
        go_wp2_with (first
          | (go_at_call 51; refine (cS _ PT).mono ?_; rintro en W2 ⟨rfl, hW⟩; replace hW := hW.symm; subst hW; clear cS)
          | (go_at_call 52; refine (cT _ PT).mono ?_; rintro en W3 ⟨rfl, P3, B3x, _⟩; have B3 := BT.out.trans B3x; clear cT B3x PT BT)
          | (go_at_call 50; refine (hcP _ P3).mono ?_; rintro en W4 ⟨rfl, P4, B4x⟩; have B4 := B3.trans B4x; clear hcP P3 B3 B4x)
          | (go_at_call 53; refine (cA _ P4).mono ?_; rintro en W5 ⟨rfl, P5, B5x⟩; have B5 : Hid (Below base w W5) := B4.trans B5x; clear cA P4 B4 B5x))
        go_roundg g'
        case measure => exact (by have := HQ.out; omega)
        case rel => exact ⟨nodeI τ2, τ3, g', rfl, rfl, HG2, HN3, by omega, HK3, P5, B5⟩
  · exact rstay2 hn (f + 1) σ y u w hP
/-- All levels, whatever the fuel. -/
theorem rrun_all (hn : Few gs) : ∀ f, ∀ g, g ≤ f → ∀ lvl, lvl ≤ 2 → RunR gs a cap base br k0 g lvl
  | 0, g, hg, lvl, hl => by
    intro σ w hP hpre
    rcases F_or σ with hF | ⟨y, u⟩
    · exfalso
      have := (hpre hF).2.2
      unfold need at this
      dsimp only at this
      omega
    · rcases lvl with _ | _ | _ | lvl
      · exact rstay0 g σ y u w hP
      · exact rstay1 hn g σ y u w hP
      · exact rstay2 hn g σ y u w hP
      · omega
  | f + 1, g, hg, lvl, hl => by
    rcases Nat.lt_or_ge g (f + 1) with h | h
    · exact rrun_all hn f g (by omega) lvl hl
    · have : g = f + 1 := by omega
      subst this
      have ih := rrun_all hn f
      rcases lvl with _ | _ | _ | lvl
      · exact rpart_up hn f (ih f (Nat.le_refl _) 0 (by omega)) (ih f (Nat.le_refl _) 2 (by omega))
      · exact rrun0_up hn f (fun g hg => ih g hg 0 (by omega))
      · exact rrun1_up hn f (fun g hg => ih g hg 1 (by omega))
      · omega
end
end Go.Proofs.YtjnbhcakfenbhaaDoor

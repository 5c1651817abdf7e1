/- Several texts in one: V7, V8. -/
import Derived.Test.YtjnbhcakfenbhaaGreatDoorQas
import Derived.Defers
import Derived.StillTailTactics
/- part; all levels. -/
namespace Go.Proofs.YtjnbhcakfenbhaaGreatDoor
open Go.RowKit Go.Shelf M
set_option linter.unusedSimpArgs false
set_option linter.unusedVariables false

theorem sign_out (gs : List GT) (σ : CS) (x : List UInt8) : signC gs (outC σ) x = outC (signC gs σ x) := by
  have e : isT gs (outC σ) 0 4 x = isT gs σ 0 4 x := rfl
  have e2 : takeC gs (outC σ) = outC (takeC gs σ) := by
    unfold takeC
    by_cases h : (σ.F.isSome || decide (gs.length ≤ σ.k)) = true
    · rw [if_pos h, if_pos (show ((outC σ).F.isSome || decide (gs.length ≤ (outC σ).k)) = true from h)]
    · rw [if_neg h, if_neg (show ¬((outC σ).F.isSome || decide (gs.length ≤ (outC σ).k)) = true from h)]; rfl
  have e3 : synC gs (outC σ) = outC (synC gs σ) := by
    unfold synC failC
    by_cases h : σ.F.isSome = true
    · rw [if_pos h, if_pos (show (outC σ).F.isSome = true from h)]
    · rw [if_neg h, if_neg (show ¬(outC σ).F.isSome = true from h)]; rfl
  unfold signC
  rw [e, e2, e3]
  split <;> rfl
theorem go_zero {gs : List GT} {f : Nat} {σ : CS} (hF : σ.F = none) : goC gs (f + 1) none 0 σ =
    if isT gs σ 0 4 [126] = true then (nodeI (outC (goC gs f none 0 (openC gs σ)).2), nodeC gs (outC (goC gs f none 0 (openC gs σ)).2) (nd2 3 (goC gs f none 0 (openC gs σ)).1 0))
    else if isT gs σ 0 4 [40] = true then ((goC gs f none 2 (openC gs σ)).1, outC (signC gs (goC gs f none 2 (openC gs σ)).2 [41]))
    else if (isT gs σ 0 1 wTrue && !isT gs σ 1 4 [61]) = true then (nodeI (takeC gs σ), nodeC gs (takeC gs σ) (nd2 1 0 0))
    else (eqI gs σ, eqC gs σ) := by
  conv => lhs; unfold goC
  rw [if_neg (by rw [hF]; simp)]
section
variable {gs : List GT} {a : Option Addr} {cap base br : Nat}
theorem open_k {gs : List GT} {σ : CS} (hF : σ.F = none) (hk : σ.k < gs.length) (h : (openC gs σ).F = none) : (openC gs σ).k = σ.k + 1 := by
  have hd := (open_deep h).2.2
  have e : openC gs σ = takeC gs ⟨σ.k, σ.deep + 1, σ.nodes, σ.F⟩ := by unfold openC; rw [if_neg (by omega)]
  rw [e, take_more (σ := ⟨σ.k, σ.deep + 1, σ.nodes, σ.F⟩) hF hk]
set_option maxRecDepth 100000 in
set_option maxHeartbeats 4000000 in
theorem part_up (hn : Few gs) (f : Nat) (h0 : RunP gs a cap base br f 0) (h2 : RunP gs a cap base br f 2) : RunP gs a cap base br (f + 1) 0 := by
  intro σ w ok hP hf
  show Calls Tryz.prog 87 _ w _
  rw [go_zero ok.F]
  have hkb : σ.k ≤ 1099511627776 := Nat.le_trans ok.k hn.1
  obtain ⟨vv, dd, hdd, _, _, _⟩ := hP.ex
  have hdeep : 0 ≤ σ.deep := (by rw [hdd]; omega)
  clear hdd
  have cS1 := fun W hP => csees_any (a := a) (cap := cap) (base := base) (br := br) hn σ ok ⟨#[126]⟩ W hP
  have cS2 := fun W hP => csees_any (a := a) (cap := cap) (base := base) (br := br) hn σ ok ⟨#[40]⟩ W hP
  have cS3 := fun W hP => cseesTrue_any (a := a) (cap := cap) (base := base) (br := br) hn σ ok W hP
  cases hB1 : isT gs σ 0 4 [126] with
  | true =>
    rw [show isT gs σ 0 4 (ByteArray.data ⟨#[126]⟩).toList = true from hB1] at cS1
    have hlt : σ.k < gs.length := (isT_lt hB1).2
    rw [if_pos rfl]
    dsimp only
    clear cS2 cS3 hB1
    have cO := fun W hP => copen_any (a := a) (cap := cap) (base := base) (br := br) hn σ ok hlt W hP
    rcases F_or (openC gs σ) with g1 | ⟨x, u1⟩
    · have hok := open_k ok.F hlt g1
      have ok1 : Ok gs (openC gs σ) := ⟨g1, (on_open gs σ).len ok.k⟩
      have hn1 : need gs none 0 (openC gs σ) ≤ f := (by unfold need at hf ⊢; dsimp only at hf ⊢; rw [hok]; omega)
      have cP := fun W hP => h0 (openC gs σ) W ok1 hP hn1
      have on1 := on_go gs f none 0 (openC gs σ)
      have kp1 := kp_go gs f none 0 (openC gs σ)
      have hd1 := (open_deep g1).2.1
      generalize openC gs σ = σ1 at *
      generalize goC gs f none 0 σ1 = r at *
      obtain ⟨a0, σ2⟩ := r
      dsimp only at *
      have hcP : ∀ W, PC gs a cap base br W σ1 → Calls Tryz.prog 87 #[.pointer (some ⟨br, 0, none⟩)] W fun en w' => OutC gs a cap base br W σ2 (.int .i64 a0) en w' := fun W h => cP W h
      clear cP
      rcases F_or σ2 with g2 | ⟨x, u2⟩
      · have hd2 : σ2.deep = σ.deep + 1 := (by rw [kp1.deep g2, hd1])
        have ok3 : Ok gs (outC σ2) := ⟨g2, on1.len ok1.k⟩
        have hk3 : 1 ≤ (outC σ2).k := (by show 1 ≤ σ2.k; have := on1.k; omega)
        have cA := fun W hP => cadd_any (a := a) (cap := cap) (base := base) (br := br) hn (outC σ2) ok3 hk3 (nd2 3 a0 0) W hP
        have hge : 1 ≤ σ2.deep := by omega
        clear hd2 hd1 hok kp1
        dsimp only [nd2] at cA
        rcases F_or (nodeC gs (outC σ2) (nd2 3 a0 0)) with g3 | ⟨x, u3⟩
        · go_enter Tryz.func87, Tryz.ntmps87
          go_wp2_with (first
            | (go_at_call 85; refine (cS1 _ hP).mono ?_; rintro en W1 ⟨rfl, B1x⟩; have P1 := hP.grown B1x; have B1 : Below base w W1 := below_lower B1x hP.sz; clear cS1 B1x)
            | (go_at_call 111; refine (cO _ P1).mono ?_; rintro en W2 O2; obtain ⟨rfl, P2⟩ := O2.goes g1; have B2 := B1.trans O2.bel; clear O2 cO)
            | (go_at_call 87; refine (hcP _ P2).mono ?_; rintro en W3 O3; obtain ⟨rfl, P3⟩ := O3.goes g2; have B3 := B2.trans O3.bel; obtain ⟨v3, d3, e3, f3, R3, _⟩ := P3.ex; have c3 : W3.cell? ⟨br, 2, none⟩ = some (.int .i64 (d3 : Int)) := R3.cell 2; have hd3 : 1 ≤ d3 := (by omega); clear O3 hcP)
            | (refine wpList_store1 rfl 3 _ _ rfl rfl (.int .i64 ((d3 : Int) - 1)) rfl R3 (by simp [rdL]) info3 rfl ?_; intro W4 U4 R4x; have hcast : ((d3 - 1 : Nat) : Int) = (d3 : Int) - 1 := (by omega); have hq : σ2.deep - 1 = ((d3 - 1 : Nat) : Int) := (by omega); have R5x : IsS W4 br 94 (rdL a gs.length cap σ2.k (d3 - 1) v3) := (by unfold rdL; rw [hcast]; exact R4x); have P4 : PC gs a cap base br W4 (outC σ2) := P3.turn (σ' := outC σ2) (d' := d3 - 1) (Turn.of_upd U4) R3 rfl hq (by omega) R5x; have B4 : Below base w W4 := Turn.below B3 P3.bb P3.sz (Turn.of_upd U4); clear U4 R4x R5x R3 c3 e3 f3 hcast hq hge)
            | (go_at_call 86; refine (cA _ P4).mono ?_; rintro en W5 O5; obtain ⟨rfl, P5x⟩ := O5.goes g3; have P5 : PC gs a cap base br W5 (nodeC gs (outC σ2) (nd2 3 a0 0)) := P5x; have B5 := B4.trans O5.bel; clear O5 cA))
          go_ret
          exact OutC.ret g3 P5 B5
        · go_enter Tryz.func87, Tryz.ntmps87
          go_wp2_with (first
            | (go_at_call 85; refine (cS1 _ hP).mono ?_; rintro en W1 ⟨rfl, B1x⟩; have P1 := hP.grown B1x; have B1 : Below base w W1 := below_lower B1x hP.sz; clear cS1 B1x)
            | (go_at_call 111; refine (cO _ P1).mono ?_; rintro en W2 O2; obtain ⟨rfl, P2⟩ := O2.goes g1; have B2 := B1.trans O2.bel; clear O2 cO)
            | (go_at_call 87; refine (hcP _ P2).mono ?_; rintro en W3 O3; obtain ⟨rfl, P3⟩ := O3.goes g2; have B3 := B2.trans O3.bel; obtain ⟨v3, d3, e3, f3, R3, _⟩ := P3.ex; have c3 : W3.cell? ⟨br, 2, none⟩ = some (.int .i64 (d3 : Int)) := R3.cell 2; have hd3 : 1 ≤ d3 := (by omega); clear O3 hcP)
            | (refine wpList_store1 rfl 3 _ _ rfl rfl (.int .i64 ((d3 : Int) - 1)) rfl R3 (by simp [rdL]) info3 rfl ?_; intro W4 U4 R4x; have hcast : ((d3 - 1 : Nat) : Int) = (d3 : Int) - 1 := (by omega); have hq : σ2.deep - 1 = ((d3 - 1 : Nat) : Int) := (by omega); have R5x : IsS W4 br 94 (rdL a gs.length cap σ2.k (d3 - 1) v3) := (by unfold rdL; rw [hcast]; exact R4x); have P4 : PC gs a cap base br W4 (outC σ2) := P3.turn (σ' := outC σ2) (d' := d3 - 1) (Turn.of_upd U4) R3 rfl hq (by omega) R5x; have B4 : Below base w W4 := Turn.below B3 P3.bb P3.sz (Turn.of_upd U4); clear U4 R4x R5x R3 c3 e3 f3 hcast hq hge)
            | (go_at_call 86; refine (cA _ P4).mono ?_; rintro en W5 O5; have B5 := B4.trans O5.bel; obtain ⟨bp, rfl, hb, hI⟩ := O5.ups _ u3; clear O5 cA))
          exact ⟨rfl, OutC.thrown u3 ⟨bp, rfl, Nat.le_trans B4.size hb, hI⟩ B5⟩
      · have u3 := (on_node gs (outC σ2) (nd2 3 a0 0)).F x u2
        go_enter Tryz.func87, Tryz.ntmps87
        go_wp2_with (first
          | (go_at_call 85; refine (cS1 _ hP).mono ?_; rintro en W1 ⟨rfl, B1x⟩; have P1 := hP.grown B1x; have B1 : Below base w W1 := below_lower B1x hP.sz; clear cS1 B1x)
          | (go_at_call 111; refine (cO _ P1).mono ?_; rintro en W2 O2; obtain ⟨rfl, P2⟩ := O2.goes g1; have B2 := B1.trans O2.bel; clear O2 cO)
          | (go_at_call 87; refine (hcP _ P2).mono ?_; rintro en W3 O3; have B3 := B2.trans O3.bel; obtain ⟨bp, rfl, hb, hI⟩ := O3.ups _ u2; clear O3 hcP))
        exact ⟨rfl, OutC.thrown u3 ⟨bp, rfl, Nat.le_trans B2.size hb, hI⟩ B3⟩
    · have u2 := (on_go gs f none 0 (openC gs σ)).F x u1
      have u3 := (on_node gs (outC (goC gs f none 0 (openC gs σ)).2) (nd2 3 (goC gs f none 0 (openC gs σ)).1 0)).F x u2
      go_enter Tryz.func87, Tryz.ntmps87
      go_wp2_with (first
        | (go_at_call 85; refine (cS1 _ hP).mono ?_; rintro en W1 ⟨rfl, B1x⟩; have P1 := hP.grown B1x; have B1 : Below base w W1 := below_lower B1x hP.sz; clear cS1 B1x)
        | (go_at_call 111; refine (cO _ P1).mono ?_; rintro en W2 O2; have B2 := B1.trans O2.bel; obtain ⟨bp, rfl, hb, hI⟩ := O2.ups _ u1; clear O2 cO))
      exact ⟨rfl, OutC.thrown u3 ⟨bp, rfl, Nat.le_trans B1.size hb, hI⟩ B2⟩
  | false =>
    rw [show isT gs σ 0 4 (ByteArray.data ⟨#[126]⟩).toList = false from hB1] at cS1
    rw [if_neg (by simp)]
    cases hB2 : isT gs σ 0 4 [40] with
    | true =>
      rw [show isT gs σ 0 4 (ByteArray.data ⟨#[40]⟩).toList = true from hB2] at cS2
      have hlt : σ.k < gs.length := (isT_lt hB2).2
      rw [if_pos rfl]
      dsimp only
      clear cS3 hB1 hB2
      have cO := fun W hP => copen_any (a := a) (cap := cap) (base := base) (br := br) hn σ ok hlt W hP
      rcases F_or (openC gs σ) with g1 | ⟨x, u1⟩
      · have hok := open_k ok.F hlt g1
        have ok1 : Ok gs (openC gs σ) := ⟨g1, (on_open gs σ).len ok.k⟩
        have hn1 : need gs none 2 (openC gs σ) ≤ f := (by unfold need at hf ⊢; dsimp only at hf ⊢; rw [hok]; omega)
        have cP := fun W hP => h2 (openC gs σ) W ok1 hP hn1
        have on1 := on_go gs f none 2 (openC gs σ)
        have kp1 := kp_go gs f none 2 (openC gs σ)
        have hd1 := (open_deep g1).2.1
        generalize openC gs σ = σ1 at *
        generalize goC gs f none 2 σ1 = r at *
        obtain ⟨a0, σ2⟩ := r
        dsimp only at *
        have hcP : ∀ W, PC gs a cap base br W σ1 → Calls Tryz.prog 39 #[.pointer (some ⟨br, 0, none⟩)] W fun en w' => OutC gs a cap base br W σ2 (.int .i64 a0) en w' := fun W h => cP W h
        clear cP
        rw [← sign_out]
        rcases F_or σ2 with g2 | ⟨x, u2⟩
        · have hd2 : σ2.deep = σ.deep + 1 := (by rw [kp1.deep g2, hd1])
          have ok3 : Ok gs (outC σ2) := ⟨g2, on1.len ok1.k⟩
          have cG := fun W hP => csign_any (a := a) (cap := cap) (base := base) (br := br) hn (outC σ2) ok3 ⟨#[41]⟩ W hP
          have hge : 1 ≤ σ2.deep := by omega
          clear hd2 hd1 hok kp1
          rcases F_or (signC gs (outC σ2) [41]) with g3 | ⟨x, u3⟩
          · go_enter Tryz.func87, Tryz.ntmps87
            go_wp2_with (first
              | (go_at_call 85; refine (cS1 _ hP).mono ?_; rintro en W1 ⟨rfl, B1x⟩; have P1 := hP.grown B1x; have B1 : Below base w W1 := below_lower B1x hP.sz; clear cS1 B1x)
              | (go_at_call 85; refine (cS2 _ P1).mono ?_; rintro en W1b ⟨rfl, B1y⟩; have P1b := P1.grown B1y; have B1b : Below base w W1b := B1.trans (below_lower B1y P1.sz); clear cS2 B1y)
              | (go_at_call 111; refine (cO _ P1b).mono ?_; rintro en W2 O2; obtain ⟨rfl, P2⟩ := O2.goes g1; have B2 := B1b.trans O2.bel; clear O2 cO)
              | (go_at_call 39; refine (hcP _ P2).mono ?_; rintro en W3 O3; obtain ⟨rfl, P3⟩ := O3.goes g2; have B3 := B2.trans O3.bel; obtain ⟨v3, d3, e3, f3, R3, _⟩ := P3.ex; have c3 : W3.cell? ⟨br, 2, none⟩ = some (.int .i64 (d3 : Int)) := R3.cell 2; have hd3 : 1 ≤ d3 := (by omega); clear O3 hcP)
              | (refine wpList_store1 rfl 3 _ _ rfl rfl (.int .i64 ((d3 : Int) - 1)) rfl R3 (by simp [rdL]) info3 rfl ?_; intro W4 U4 R4x; have hcast : ((d3 - 1 : Nat) : Int) = (d3 : Int) - 1 := (by omega); have hq : σ2.deep - 1 = ((d3 - 1 : Nat) : Int) := (by omega); have R5x : IsS W4 br 94 (rdL a gs.length cap σ2.k (d3 - 1) v3) := (by unfold rdL; rw [hcast]; exact R4x); have P4 : PC gs a cap base br W4 (outC σ2) := P3.turn (σ' := outC σ2) (d' := d3 - 1) (Turn.of_upd U4) R3 rfl hq (by omega) R5x; have B4 : Below base w W4 := Turn.below B3 P3.bb P3.sz (Turn.of_upd U4); clear U4 R4x R5x R3 c3 e3 f3 hcast hq hge)
              | (go_at_call 112; refine (cG _ P4).mono ?_; rintro en W5 ⟨O5, T5⟩; obtain ⟨rfl, P5⟩ := O5.goes g3; have B5 := B4.trans O5.bel; clear O5 T5 cG))
            go_ret
            exact OutC.ret g3 P5 B5
          · go_enter Tryz.func87, Tryz.ntmps87
            go_wp2_with (first
              | (go_at_call 85; refine (cS1 _ hP).mono ?_; rintro en W1 ⟨rfl, B1x⟩; have P1 := hP.grown B1x; have B1 : Below base w W1 := below_lower B1x hP.sz; clear cS1 B1x)
              | (go_at_call 85; refine (cS2 _ P1).mono ?_; rintro en W1b ⟨rfl, B1y⟩; have P1b := P1.grown B1y; have B1b : Below base w W1b := B1.trans (below_lower B1y P1.sz); clear cS2 B1y)
              | (go_at_call 111; refine (cO _ P1b).mono ?_; rintro en W2 O2; obtain ⟨rfl, P2⟩ := O2.goes g1; have B2 := B1b.trans O2.bel; clear O2 cO)
              | (go_at_call 39; refine (hcP _ P2).mono ?_; rintro en W3 O3; obtain ⟨rfl, P3⟩ := O3.goes g2; have B3 := B2.trans O3.bel; obtain ⟨v3, d3, e3, f3, R3, _⟩ := P3.ex; have c3 : W3.cell? ⟨br, 2, none⟩ = some (.int .i64 (d3 : Int)) := R3.cell 2; have hd3 : 1 ≤ d3 := (by omega); clear O3 hcP)
              | (refine wpList_store1 rfl 3 _ _ rfl rfl (.int .i64 ((d3 : Int) - 1)) rfl R3 (by simp [rdL]) info3 rfl ?_; intro W4 U4 R4x; have hcast : ((d3 - 1 : Nat) : Int) = (d3 : Int) - 1 := (by omega); have hq : σ2.deep - 1 = ((d3 - 1 : Nat) : Int) := (by omega); have R5x : IsS W4 br 94 (rdL a gs.length cap σ2.k (d3 - 1) v3) := (by unfold rdL; rw [hcast]; exact R4x); have P4 : PC gs a cap base br W4 (outC σ2) := P3.turn (σ' := outC σ2) (d' := d3 - 1) (Turn.of_upd U4) R3 rfl hq (by omega) R5x; have B4 : Below base w W4 := Turn.below B3 P3.bb P3.sz (Turn.of_upd U4); clear U4 R4x R5x R3 c3 e3 f3 hcast hq hge)
              | (go_at_call 112; refine (cG _ P4).mono ?_; rintro en W5 ⟨O5, T5⟩; have B5 := B4.trans O5.bel; obtain ⟨bp, rfl, hb, hI⟩ := O5.ups _ u3; clear O5 T5 cG))
            exact ⟨rfl, OutC.thrown u3 ⟨bp, rfl, Nat.le_trans B4.size hb, hI⟩ B5⟩
        · have u3 := (on_sign gs (outC σ2) [41]).F x u2
          go_enter Tryz.func87, Tryz.ntmps87
          go_wp2_with (first
            | (go_at_call 85; refine (cS1 _ hP).mono ?_; rintro en W1 ⟨rfl, B1x⟩; have P1 := hP.grown B1x; have B1 : Below base w W1 := below_lower B1x hP.sz; clear cS1 B1x)
            | (go_at_call 85; refine (cS2 _ P1).mono ?_; rintro en W1b ⟨rfl, B1y⟩; have P1b := P1.grown B1y; have B1b : Below base w W1b := B1.trans (below_lower B1y P1.sz); clear cS2 B1y)
            | (go_at_call 111; refine (cO _ P1b).mono ?_; rintro en W2 O2; obtain ⟨rfl, P2⟩ := O2.goes g1; have B2 := B1b.trans O2.bel; clear O2 cO)
            | (go_at_call 39; refine (hcP _ P2).mono ?_; rintro en W3 O3; have B3 := B2.trans O3.bel; obtain ⟨bp, rfl, hb, hI⟩ := O3.ups _ u2; clear O3 hcP))
          exact ⟨rfl, OutC.thrown u3 ⟨bp, rfl, Nat.le_trans B2.size hb, hI⟩ B3⟩
      · have u2 := (on_go gs f none 2 (openC gs σ)).F x u1
        have u3 := (on_sign gs (goC gs f none 2 (openC gs σ)).2 [41]).F x u2
        go_enter Tryz.func87, Tryz.ntmps87
        go_wp2_with (first
          | (go_at_call 85; refine (cS1 _ hP).mono ?_; rintro en W1 ⟨rfl, B1x⟩; have P1 := hP.grown B1x; have B1 : Below base w W1 := below_lower B1x hP.sz; clear cS1 B1x)
          | (go_at_call 85; refine (cS2 _ P1).mono ?_; rintro en W1b ⟨rfl, B1y⟩; have P1b := P1.grown B1y; have B1b : Below base w W1b := B1.trans (below_lower B1y P1.sz); clear cS2 B1y)
          | (go_at_call 111; refine (cO _ P1b).mono ?_; rintro en W2 O2; have B2 := B1b.trans O2.bel; obtain ⟨bp, rfl, hb, hI⟩ := O2.ups _ u1; clear O2 cO))
        exact ⟨rfl, OutC.thrown u3 ⟨bp, rfl, Nat.le_trans B1b.size hb, hI⟩ B2⟩
    | false =>
      rw [show isT gs σ 0 4 (ByteArray.data ⟨#[40]⟩).toList = false from hB2] at cS2
      rw [if_neg (by simp)]
      cases hB3 : (isT gs σ 0 1 wTrue && !isT gs σ 1 4 [61]) with
      | true =>
        rw [hB3] at cS3
        rw [if_pos rfl]
        dsimp only
        have hlt : σ.k < gs.length := (by simp only [Bool.and_eq_true] at hB3; exact (isT_lt hB3.1).2)
        have et : takeC gs σ = CS.mk (CS.k σ + 1) (CS.deep σ) (CS.nodes σ) none := take_more ok.F hlt
        rw [et]
        have ok1 : Ok gs (CS.mk (CS.k σ + 1) (CS.deep σ) (CS.nodes σ) none) := ⟨rfl, by show σ.k + 1 ≤ _; omega⟩
        have cA := fun W hP => cadd_any (a := a) (cap := cap) (base := base) (br := br) hn _ ok1 (by show 1 ≤ σ.k + 1; omega) (nd2 1 0 0) W hP
        dsimp only [nd2] at cA
        clear hB1 hB2 hB3 et
        rcases F_or (nodeC gs (CS.mk (CS.k σ + 1) (CS.deep σ) (CS.nodes σ) none) (nd2 1 0 0)) with g3 | ⟨x, u3⟩
        · go_enter Tryz.func87, Tryz.ntmps87
          go_wp2_with (first
            | (go_at_call 85; refine (cS1 _ hP).mono ?_; rintro en W1 ⟨rfl, B1x⟩; have P1 := hP.grown B1x; have B1 : Below base w W1 := below_lower B1x hP.sz; clear cS1 B1x)
            | (go_at_call 85; refine (cS2 _ P1).mono ?_; rintro en W1b ⟨rfl, B1y⟩; have P1b := P1.grown B1y; have B1b : Below base w W1b := B1.trans (below_lower B1y P1.sz); clear cS2 B1y)
            | (go_at_call 113; refine (cS3 _ P1b).mono ?_; rintro en W1c ⟨rfl, B1z⟩; have P1c := P1b.grown B1z; have B1c : Below base w W1c := B1b.trans (below_lower B1z P1b.sz); obtain ⟨v9, d9, e9, f9, R9, _⟩ := P1c.ex; have c9 : W1c.cell? ⟨br, 1, none⟩ = some (.int .i64 (CS.k σ : Int)) := R9.cell 1; clear cS3 B1z)
            | (refine wpList_store1 rfl 3 _ _ rfl rfl (.int .i64 ((CS.k σ : Int) + 1)) rfl R9 (by simp [rdL]) info3 rfl ?_; intro W4 U4 R4x; have P4 : PC gs a cap base br W4 (CS.mk (CS.k σ + 1) (CS.deep σ) (CS.nodes σ) none) := P1c.turn (σ' := CS.mk (CS.k σ + 1) (CS.deep σ) (CS.nodes σ) none) (Turn.of_upd U4) R9 rfl e9 f9 (by simpa [rdL] using R4x); have B4 : Below base w W4 := Turn.below B1c P1c.bb P1c.sz (Turn.of_upd U4); clear U4 R4x R9 c9 e9 f9)
            | (go_at_call 86; refine (cA _ P4).mono ?_; rintro en W5 O5; obtain ⟨rfl, P5x⟩ := O5.goes g3; have P5 : PC gs a cap base br W5 (nodeC gs (CS.mk (CS.k σ + 1) (CS.deep σ) (CS.nodes σ) none) (nd2 1 0 0)) := P5x; have B5 := B4.trans O5.bel; clear O5 cA))
          go_ret
          exact OutC.ret g3 P5 B5
        · go_enter Tryz.func87, Tryz.ntmps87
          go_wp2_with (first
            | (go_at_call 85; refine (cS1 _ hP).mono ?_; rintro en W1 ⟨rfl, B1x⟩; have P1 := hP.grown B1x; have B1 : Below base w W1 := below_lower B1x hP.sz; clear cS1 B1x)
            | (go_at_call 85; refine (cS2 _ P1).mono ?_; rintro en W1b ⟨rfl, B1y⟩; have P1b := P1.grown B1y; have B1b : Below base w W1b := B1.trans (below_lower B1y P1.sz); clear cS2 B1y)
            | (go_at_call 113; refine (cS3 _ P1b).mono ?_; rintro en W1c ⟨rfl, B1z⟩; have P1c := P1b.grown B1z; have B1c : Below base w W1c := B1b.trans (below_lower B1z P1b.sz); obtain ⟨v9, d9, e9, f9, R9, _⟩ := P1c.ex; have c9 : W1c.cell? ⟨br, 1, none⟩ = some (.int .i64 (CS.k σ : Int)) := R9.cell 1; clear cS3 B1z)
            | (refine wpList_store1 rfl 3 _ _ rfl rfl (.int .i64 ((CS.k σ : Int) + 1)) rfl R9 (by simp [rdL]) info3 rfl ?_; intro W4 U4 R4x; have P4 : PC gs a cap base br W4 (CS.mk (CS.k σ + 1) (CS.deep σ) (CS.nodes σ) none) := P1c.turn (σ' := CS.mk (CS.k σ + 1) (CS.deep σ) (CS.nodes σ) none) (Turn.of_upd U4) R9 rfl e9 f9 (by simpa [rdL] using R4x); have B4 : Below base w W4 := Turn.below B1c P1c.bb P1c.sz (Turn.of_upd U4); clear U4 R4x R9 c9 e9 f9)
            | (go_at_call 86; refine (cA _ P4).mono ?_; rintro en W5 O5; have B5 := B4.trans O5.bel; obtain ⟨bp, rfl, hb, hI⟩ := O5.ups _ u3; clear O5 cA))
          exact ⟨rfl, OutC.thrown u3 ⟨bp, rfl, Nat.le_trans B4.size hb, hI⟩ B5⟩
      | false =>
        rw [hB3] at cS3
        rw [if_neg (by simp)]
        dsimp only
        have cE := fun W hP => cequation_any (a := a) (cap := cap) (base := base) (br := br) hn σ ok W hP
        clear hB1 hB2 hB3
        rcases F_or (eqC gs σ) with g3 | ⟨x, u3⟩
        · go_enter Tryz.func87, Tryz.ntmps87
          go_wp2_with (first
            | (go_at_call 85; refine (cS1 _ hP).mono ?_; rintro en W1 ⟨rfl, B1x⟩; have P1 := hP.grown B1x; have B1 : Below base w W1 := below_lower B1x hP.sz; clear cS1 B1x)
            | (go_at_call 85; refine (cS2 _ P1).mono ?_; rintro en W1b ⟨rfl, B1y⟩; have P1b := P1.grown B1y; have B1b : Below base w W1b := B1.trans (below_lower B1y P1.sz); clear cS2 B1y)
            | (go_at_call 113; refine (cS3 _ P1b).mono ?_; rintro en W1c ⟨rfl, B1z⟩; have P1c := P1b.grown B1z; have B1c : Below base w W1c := B1b.trans (below_lower B1z P1b.sz); obtain ⟨v9, d9, e9, f9, R9, _⟩ := P1c.ex; have c9 : W1c.cell? ⟨br, 1, none⟩ = some (.int .i64 (CS.k σ : Int)) := R9.cell 1; clear cS3 B1z)
            | (go_at_call 114; refine (cE _ P1c).mono ?_; rintro en W5 O5; obtain ⟨rfl, P5⟩ := O5.goes g3; have B5 := B1c.trans O5.bel; clear O5 cE))
          go_ret
          exact OutC.ret g3 P5 B5
        · go_enter Tryz.func87, Tryz.ntmps87
          go_wp2_with (first
            | (go_at_call 85; refine (cS1 _ hP).mono ?_; rintro en W1 ⟨rfl, B1x⟩; have P1 := hP.grown B1x; have B1 : Below base w W1 := below_lower B1x hP.sz; clear cS1 B1x)
            | (go_at_call 85; refine (cS2 _ P1).mono ?_; rintro en W1b ⟨rfl, B1y⟩; have P1b := P1.grown B1y; have B1b : Below base w W1b := B1.trans (below_lower B1y P1.sz); clear cS2 B1y)
            | (go_at_call 113; refine (cS3 _ P1b).mono ?_; rintro en W1c ⟨rfl, B1z⟩; have P1c := P1b.grown B1z; have B1c : Below base w W1c := B1b.trans (below_lower B1z P1b.sz); obtain ⟨v9, d9, e9, f9, R9, _⟩ := P1c.ex; have c9 : W1c.cell? ⟨br, 1, none⟩ = some (.int .i64 (CS.k σ : Int)) := R9.cell 1; clear cS3 B1z)
            | (go_at_call 114; refine (cE _ P1c).mono ?_; rintro en W5 O5; have B5 := B1c.trans O5.bel; obtain ⟨bp, rfl, hb, hI⟩ := O5.ups _ u3; clear O5 cE))
          exact ⟨rfl, OutC.thrown u3 ⟨bp, rfl, Nat.le_trans B1c.size hb, hI⟩ B5⟩
/-- All levels, whatever the fuel. -/
theorem run_all (hn : Few gs) : ∀ f, ∀ g, g ≤ f → ∀ lvl, lvl ≤ 2 → RunP gs a cap base br g lvl
  | 0, g, hg, lvl, _ => by
    intro σ w ok hP hf
    exfalso
    unfold need at hf
    dsimp only at hf
    omega
  | f + 1, g, hg, lvl, hl => by
    rcases Nat.lt_or_ge g (f + 1) with h | h
    · exact run_all hn f g (by omega) lvl hl
    · have : g = f + 1 := by omega
      subst this
      have ih := run_all hn f
      rcases lvl with _ | _ | _ | lvl
      · exact part_up hn f (ih f (Nat.le_refl _) 0 (by omega)) (ih f (Nat.le_refl _) 2 (by omega))
      · exact run0_up hn f (fun g hg => ih g hg 0 (by omega))
      · exact run1_up hn f (fun g hg => ih g hg 1 (by omega))
      · omega
end
end Go.Proofs.YtjnbhcakfenbhaaGreatDoor
/- Take's deferred closure catches what the reader throws. -/
namespace Go.Proofs.YtjnbhcakfenbhaaGreatDoor
open Go.RowKit Go.Shelf M
set_option linter.unusedSimpArgs false
set_option linter.unusedVariables false

theorem wpList_allocO {w : World} {ops : Array Oper} {rest : List Oper} {op : Oper} {a : Act} {Q : Exit → Act → World → Prop} (hgd : op.guard = none) (ty : TypeId) (ho : op.op = .alloc ty) (v : Value) (hv : v.cells = #[v]) (hz : ∀ w, (zeroValue ty).run Tryz.prog w = .ok v w)
    (h : ∀ W b, Fresh w W b → IsS W b ty [v] → wpList Tryz.prog ops Q rest (a.put op.dst (.pointer (some ⟨b, 0, none⟩))) W) : wpList Tryz.prog ops Q (op :: rest) a w := by
  refine wpList_plain hgd fun K hK => ?_
  unfold Oper.wp
  have hr : (execOp a.eval op).run Tryz.prog w = .ok (.value (.pointer (some ⟨w.heap.size, 0, none⟩))) (w.alloc (.cells [v].toArray ty)) := by
    unfold execOp
    simp [ho, go_sem, hz]
    exact congrArg (fun c => w.alloc (.cells c ty)) hv
  rw [hr]
  exact hK _ _ (h _ _ (Fresh.alloc w _) (IsS.new w ty [v]))
theorem zCond (w : World) : (zeroValue 23).run Tryz.prog w = .ok (.slice none 0 0) w := Tryz.zeroValue23 w
theorem zInt (w : World) : (zeroValue 3).run Tryz.prog w = .ok (.int .i64 0) w := Tryz.zeroValue3 w
theorem zErr (w : World) : (zeroValue 25).run Tryz.prog w = .ok .nilIface w := Tryz.zeroValue25 w
theorem infoCond : (Tryz.prog.info? 23).map (·.size) = some 1 := by kernel_rfl
theorem infoErr : (Tryz.prog.info? 25).map (·.size) = some 1 := by kernel_rfl

set_option maxRecDepth 100000 in
/-- What was thrown is the error. -/
theorem cfault_any (p : Option Addr) (w : World) :
    Calls Tryz.prog 38 #[.iface 52 (.pointer p)] w fun en w' => en = .returned (.iface 52 (.pointer p)) ∧ w' = w := by
  have hta : ∀ w, (Instr.typeAssert (.iface 52 (.pointer p)) 20 52 true).run Tryz.prog w = .ok (.tuple #[.pointer p, .bool true]) w := fun w => by kernel_rfl
  go_enter Tryz.func38, Tryz.ntmps38
  go_wp2_with fail
  go_ret
  exact ⟨rfl, rfl⟩
set_option maxRecDepth 100000 in
theorem catch_idle (p q r : Addr) (w : World) :
    CallsD Tryz.prog 37 #[.pointer (some p), .pointer (some q), .pointer (some r)] .returning w fun e u' w' => e = .returned (.tuple #[]) ∧ u' = .returning ∧ w' = w := by
  refine callsD_of_wpS Tryz.func37 rfl fun c₀ cs hu => ?_
  apply wpS_seq
  apply wpS_region
  simp [wpOpsS, go_sem, recoverD, hu, Tryz.ntmps37, Exit.thenS]
  refine wpS_of_wp ?_
  change Code.wp _ _ _ { tmps := #[.pointer (some p), .pointer (some q), .pointer (some r), .nilIface, .nilIface, undef, undef, undef, undef], defers := [] } w
  go_wp2_with fail
  refine ⟨rfl, .returning, ?_, .tuple #[], (by simp [results, Tryz.results37, go_sem]), rfl, rfl, rfl⟩
  cases c₀
  simp_all
set_option maxRecDepth 100000 in
set_option maxHeartbeats 2000000 in
theorem catch_thrown (b1 b2 b3 : Nat) (h12 : b1 ≠ b2) (h13 : b1 ≠ b3) (h23 : b2 ≠ b3) (p : Option Addr) (v1 v2 v3 : Value) (older : List PanicEntry) (w : World) (h1 : IsS w b1 23 [v1]) (h2 : IsS w b2 3 [v2]) (h3 : IsS w b3 25 [v3]) :
    CallsD Tryz.prog 37 #[.pointer (some ⟨b1, 0, none⟩), .pointer (some ⟨b2, 0, none⟩), .pointer (some ⟨b3, 0, none⟩)] (.panicking ({ v := .iface 52 (.pointer p), recovered := false } :: older)) w fun e u' w' => e = .returned (.tuple #[]) ∧ u' = .panicking ({ v := .iface 52 (.pointer p), recovered := true } :: older) ∧
      IsS w' b1 23 [.slice none 0 0] ∧ IsS w' b2 3 [.int .i64 0] ∧ IsS w' b3 25 [.iface 52 (.pointer p)] ∧ w'.heap.size = w.heap.size ∧ (∀ k, k ≠ b1 → k ≠ b2 → k ≠ b3 → w'.heap[k]? = w.heap[k]?) ∧ w'.os = w.os ∧ w'.tape = w.tape ∧ w'.output = w.output := by
  have cF := fun w => cfault_any p w
  refine callsD_of_wpS Tryz.func37 rfl fun c₀ cs hu => ?_
  apply wpS_seq
  apply wpS_region
  simp [wpOpsS, go_sem, recoverD, hu, Tryz.ntmps37, Exit.thenS]
  refine wpS_of_wp ?_
  change Code.wp _ _ _ { tmps := #[.pointer (some ⟨b1, 0, none⟩), .pointer (some ⟨b2, 0, none⟩), .pointer (some ⟨b3, 0, none⟩), .iface 52 (.pointer p), .iface 52 (.pointer p), undef, undef, undef, undef], defers := [] } w
  go_wp2_with (first
    | (go_at_call 38; refine (cF _).mono ?_; rintro en W1 ⟨rfl, hW1⟩; replace hW1 := hW1.symm; subst hW1; clear cF)
    | (refine wpList_store1 rfl 23 _ _ rfl rfl (.slice none 0 0) rfl h1 (by simp) infoCond rfl ?_; intro W2 U2 E2x; have E2 : IsS W2 b1 23 [.slice none 0 0] := E2x; have I2 := h2.upd U2 (Ne.symm h12); have J2 := h3.upd U2 (Ne.symm h13); clear h1 h2 h3 E2x)
    | (refine wpList_store1 rfl 3 _ _ rfl rfl (.int .i64 0) rfl I2 (by simp) info3 rfl ?_; intro W3 U3 I3x; have I3 : IsS W3 b2 3 [.int .i64 0] := I3x; have E3 := E2.upd U3 h12; have J3 := J2.upd U3 (Ne.symm h23); clear E2 I2 J2 I3x)
    | (refine wpList_store1 rfl 25 _ _ rfl rfl (.iface 52 (.pointer p)) rfl J3 (by simp) infoErr rfl ?_; intro W4 U4 J4x; have J4 : IsS W4 b3 25 [.iface 52 (.pointer p)] := J4x; have E4 := E3.upd U4 h13; have I4 := I3.upd U4 h23; clear E3 I3 J3 J4x))
  refine ⟨rfl, _, rfl, .tuple #[], (by simp [results, Tryz.results37, go_sem]), rfl, rfl, E4, I4, J4, by rw [U4.size, U3.size, U2.size], fun k k1 k2 k3 => by rw [U4.block k k3, U3.block k k2, U2.block k k1], by rw [U4.os, U3.os, U2.os], by rw [U4.tape, U3.tape, U2.tape], by rw [U4.output, U3.output, U2.output]⟩
end Go.Proofs.YtjnbhcakfenbhaaGreatDoor

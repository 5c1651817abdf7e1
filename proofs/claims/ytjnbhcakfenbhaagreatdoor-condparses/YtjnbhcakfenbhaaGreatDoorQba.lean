/- Several texts in one: WB, WC. -/
import Derived.Test.YtjnbhcakfenbhaaGreatDoorQaz
import Derived.Deep.LoopGhost
/- The reference's reader of conditions: not. -/
namespace Go.Proofs.YtjnbhcakfenbhaaGreatDoor
open Go.RowKit Go.Shelf M
set_option linter.unusedSimpArgs false
set_option linter.unusedVariables false

def fnR (lvl : Nat) : Nat := if lvl = 0 then 93 else if lvl = 1 then 66 else 42
theorem go_val (gs : List GT) {σ : CS} {y : Int × Int × Int} (h : σ.F = some y) : ∀ (f : Nat) (lvl : Nat), goC gs f none lvl σ = (0, σ)
  | 0, _ => rfl
  | f + 1, lvl + 1 => by
    have e : goC gs (f + 1) none (lvl + 1) σ = goC gs f (some (goC gs f none lvl σ).1) lvl (goC gs f none lvl σ).2 := by conv => lhs; unfold goC
    rw [e, go_val gs h f lvl]
    cases f with
    | zero => rfl
    | succ f => unfold goC; rw [if_neg (by rw [isT_none h]; simp)]
  | f + 1, 0 => by unfold goC; rw [if_pos (by rw [h]; rfl)]
/-- With so much fuel a level's parts are read as the plain reader reads them. -/
def RunR (gs : List GT) (a : Option Addr) (cap base br k0 f lvl : Nat) : Prop :=
  ∀ (σ : CS) (w : World), RC gs a cap base br k0 w σ → (σ.F = none → 0 ≤ σ.deep ∧ σ.deep ≤ 64 ∧ need gs none lvl σ ≤ f) →
    Calls Tryz.prog (fnR lvl) #[.pointer (some ⟨br, 0, none⟩)] w fun en w' => OutR gs a cap base br k0 w (goC gs f none lvl σ).2 (.int .i64 (goC gs f none lvl σ).1) en w'
section
variable {gs : List GT} {a : Option Addr} {cap base br k0 : Nat}
set_option maxRecDepth 100000 in
set_option maxHeartbeats 4000000 in
theorem rstay0 (f : Nat) (σ : CS) (y : Int × Int × Int) (h : σ.F = some y) (w : World) (hP : RC gs a cap base br k0 w σ) :
    Calls Tryz.prog (fnR 0) #[.pointer (some ⟨br, 0, none⟩)] w fun en w' => OutR gs a cap base br k0 w (goC gs f none 0 σ).2 (.int .i64 (goC gs f none 0 σ).1) en w' := by
  show Calls Tryz.prog 93 _ w _
  rw [go_val gs h f 0]
  have cB := rbad_any σ w hP
  rw [h] at cB
  go_enter Tryz.func93, Tryz.ntmps93
  go_wp2_with (first
    | (go_at_call 43; refine cB.mono ?_; rintro en W1 ⟨rfl, hW⟩; replace hW := hW.symm; subst hW; clear cB))
  go_ret
  exact ⟨rfl, hP, Below.refl _ _⟩
set_option maxRecDepth 100000 in
set_option maxHeartbeats 4000000 in
theorem rpart_up (hn : Few gs) (f : Nat) (h0 : RunR gs a cap base br k0 f 0) (h2 : RunR gs a cap base br k0 f 2) : RunR gs a cap base br k0 (f + 1) 0 := by
  intro σ w hP hpre
  rcases F_or σ with hF | ⟨y, u⟩
  · obtain ⟨hd0, hd64, hf⟩ := hpre hF
    show Calls Tryz.prog 93 _ w _
    rw [go_zero hF]
    have hbb := hP.bb
    have hsz := hP.sz
    have hfrom := hP.from'
    have cB := rbad_any σ w hP
    rw [hF] at cB
    have cS1 := ris_any hn σ 0 (by omega) 4 ⟨#[126]⟩ w hP
    have cS2 := ris_any hn σ 0 (by omega) 4 ⟨#[40]⟩ w hP
    have cS3 := ris_any hn σ 0 (by omega) 1 ⟨#[116, 114, 117, 101]⟩ w hP
    have cS4 := ris_any hn σ 1 (by omega) 4 ⟨#[61]⟩ w hP
    cases hB1 : isT gs σ 0 4 [126] with
    | true =>
      rw [show isT gs σ 0 4 (ByteArray.data ⟨#[126]⟩).toList = true from hB1] at cS1
      have hlt : σ.k < gs.length := (isT_lt hB1).2
      rw [if_pos rfl]
      dsimp only
      have cO := ropens_any hn σ hF hlt hd0 w hP
      have ho := open_cases gs hF
      have hdp := go_dp gs f none 0 (openC gs σ)
      have on1 := on_go gs f none 0 (openC gs σ)
      have hpre1 : (openC gs σ).F = none → 0 ≤ (openC gs σ).deep ∧ (openC gs σ).deep ≤ 64 ∧ need gs none 0 (openC gs σ) ≤ f := fun g => by
        rcases ho with ⟨_, _, y, u⟩ | ⟨l, e⟩
        · rw [u] at g; cases g
        · refine ⟨by omega, by omega, ?_⟩
          unfold need at hf ⊢; dsimp only at hf ⊢; rw [open_k hF hlt g]; omega
      have cP := fun W hP => h0 (openC gs σ) W hP hpre1
      have hk3 : (outC (goC gs f none 0 (openC gs σ)).2).F = none → k0 < (outC (goC gs f none 0 (openC gs σ)).2).k := fun g => by
        have g1 : (openC gs σ).F = none := (kp_go gs f none 0 (openC gs σ)).F g
        have := open_k hF hlt g1
        have := on1.k
        show k0 < (goC gs f none 0 (openC gs σ)).2.k
        omega
      have cA := fun W hP => rnode_any (gs := gs) (a := a) (cap := cap) (base := base) (br := br) (k0 := k0) _ (nd2 3 (goC gs f none 0 (openC gs σ)).1 0) hk3 W hP
      have hb1 : -2 ≤ (goC gs f none 0 (openC gs σ)).2.deep ∧ (goC gs f none 0 (openC gs σ)).2.deep ≤ 65 := by rcases ho with ⟨_, e, _⟩ | ⟨_, e⟩ <;> rw [e] at hdp <;> omega
      clear hdp ho hk3 hpre1 on1 hB1 cS2 cS3 cS4 h0 h2
      generalize openC gs σ = σ1 at *
      generalize goC gs f none 0 σ1 = r at *
      obtain ⟨a0, σ2⟩ := r
      dsimp only at *
      have hcP : ∀ W, RC gs a cap base br k0 W σ1 → Calls Tryz.prog 93 #[.pointer (some ⟨br, 0, none⟩)] W fun en w' => OutR gs a cap base br k0 W σ2 (.int .i64 a0) en w' := fun W h => cP W h
      clear cP
      dsimp only [nd2] at cA
      go_enter Tryz.func93, Tryz.ntmps93
      go_wp2_with (first
        | (go_at_call 43; refine cB.mono ?_; rintro en W1 ⟨rfl, hW⟩; replace hW := hW.symm; subst hW; clear cB)
        | (go_at_call 67; refine cS1.mono ?_; rintro en W1 ⟨rfl, hW⟩; replace hW := hW.symm; subst hW; clear cS1)
        | (go_at_call 118; refine cO.mono ?_; rintro en W2 ⟨rfl, P2, B2, _⟩; clear cO)
        | (go_at_call 93; refine (hcP _ P2).mono ?_; rintro en W3 ⟨rfl, P3, B3x⟩; have B3 := B2.trans B3x; obtain ⟨v3, t3, R3, O3, L3⟩ := P3.ex; have c9 : W3.cell? ⟨br, 9, none⟩ = some (.int .i64 (CS.deep σ2)) := R3.cell 9; have hlo := hb1.1; have hup := hb1.2; clear hcP B3x P2 B2 hb1)
        | (refine wpList_store1 rfl 3 _ _ rfl rfl (.int .i64 (CS.deep σ2 - 1)) rfl R3 (by rw [rrL_len]; omega) info3 rfl ?_; intro W4 U4 R4x; have P4 : RC gs a cap base br k0 W4 (outC σ2) := P3.turn (σ' := outC σ2) (Turn.of_upd U4) R3 rfl P3.from' P3.k P3.code L3 R4x; have B4 := U4.trans B3 hbb; clear U4 R4x R3 c9 P3 B3)
        | (go_at_call 69; refine (cA _ P4).mono ?_; rintro en W5 ⟨rfl, P5, B5x⟩; have B5 := B4.trans B5x; clear cA B5x))
      go_ret
      exact ⟨rfl, P5, B5⟩
    | false =>
      rw [show isT gs σ 0 4 (ByteArray.data ⟨#[126]⟩).toList = false from hB1] at cS1
      rw [if_neg (by simp)]
      cases hB2 : isT gs σ 0 4 [40] with
      | true =>
        rw [show isT gs σ 0 4 (ByteArray.data ⟨#[40]⟩).toList = true from hB2] at cS2
        have hlt : σ.k < gs.length := (isT_lt hB2).2
        rw [if_pos rfl]
        dsimp only
        have cO := ropens_any hn σ hF hlt hd0 w hP
        have ho := open_cases gs hF
        have hdp := go_dp gs f none 2 (openC gs σ)
        have hpre1 : (openC gs σ).F = none → 0 ≤ (openC gs σ).deep ∧ (openC gs σ).deep ≤ 64 ∧ need gs none 2 (openC gs σ) ≤ f := fun g => by
          rcases ho with ⟨_, _, y, u⟩ | ⟨l, e⟩
          · rw [u] at g; cases g
          · refine ⟨by omega, by omega, ?_⟩
            unfold need at hf ⊢; dsimp only at hf ⊢; rw [open_k hF hlt g]; omega
        have cP := fun W hP => h2 (openC gs σ) W hP hpre1
        have cG := fun W hP => rsign_any (gs := gs) (a := a) (cap := cap) (base := base) (br := br) (k0 := k0) hn (goC gs f none 2 (openC gs σ)).2 ⟨#[41]⟩ W hP
        rw [show signC gs (goC gs f none 2 (openC gs σ)).2 (ByteArray.data ⟨#[41]⟩).toList = signC gs (goC gs f none 2 (openC gs σ)).2 [41] from rfl] at cG
        have hb1 : -2 ≤ (signC gs (goC gs f none 2 (openC gs σ)).2 [41]).deep ∧ (signC gs (goC gs f none 2 (openC gs σ)).2 [41]).deep ≤ 65 := by rw [sign_dp]; rcases ho with ⟨_, e, _⟩ | ⟨_, e⟩ <;> rw [e] at hdp <;> omega
        clear hdp ho hpre1 hB1 hB2 cS3 cS4 h0 h2
        generalize openC gs σ = σ1 at *
        generalize goC gs f none 2 σ1 = r at *
        obtain ⟨a0, σ0⟩ := r
        dsimp only at *
        generalize signC gs σ0 [41] = σ2 at *
        have hcP : ∀ W, RC gs a cap base br k0 W σ1 → Calls Tryz.prog 42 #[.pointer (some ⟨br, 0, none⟩)] W fun en w' => OutR gs a cap base br k0 W σ0 (.int .i64 a0) en w' := fun W h => cP W h
        clear cP
        go_enter Tryz.func93, Tryz.ntmps93
        go_wp2_with (first
          | (go_at_call 43; refine cB.mono ?_; rintro en W1 ⟨rfl, hW⟩; replace hW := hW.symm; subst hW; clear cB)
          | (go_at_call 67; refine cS1.mono ?_; rintro en W1 ⟨rfl, hW⟩; replace hW := hW.symm; subst hW; clear cS1)
          | (go_at_call 67; refine cS2.mono ?_; rintro en W1 ⟨rfl, hW⟩; replace hW := hW.symm; subst hW; clear cS2)
          | (go_at_call 118; refine cO.mono ?_; rintro en W2 ⟨rfl, P2, B2, _⟩; clear cO)
          | (go_at_call 42; refine (hcP _ P2).mono ?_; rintro en W2b ⟨rfl, P2b, B2x⟩; have B2b := B2.trans B2x; clear hcP B2x P2 B2)
          | (go_at_call 119; refine (cG _ P2b).mono ?_; rintro en W3 ⟨rfl, P3, B3x, _⟩; have B3 := B2b.trans B3x; obtain ⟨v3, t3, R3, O3, L3⟩ := P3.ex; have c9 : W3.cell? ⟨br, 9, none⟩ = some (.int .i64 (CS.deep σ2)) := R3.cell 9; have hlo := hb1.1; have hup := hb1.2; clear cG B3x P2b B2b hb1)
          | (refine wpList_store1 rfl 3 _ _ rfl rfl (.int .i64 (CS.deep σ2 - 1)) rfl R3 (by rw [rrL_len]; omega) info3 rfl ?_; intro W4 U4 R4x; have P4 : RC gs a cap base br k0 W4 (outC σ2) := P3.turn (σ' := outC σ2) (Turn.of_upd U4) R3 rfl P3.from' P3.k P3.code L3 R4x; have B4 := U4.trans B3 hbb; clear U4 R4x R3 c9 P3 B3))
        go_ret
        exact ⟨rfl, P4, B4⟩
      | false =>
        rw [show isT gs σ 0 4 (ByteArray.data ⟨#[40]⟩).toList = false from hB2] at cS2
        rw [if_neg (by simp)]
        rw [show isT gs σ 0 1 (ByteArray.data ⟨#[116, 114, 117, 101]⟩).toList = isT gs σ 0 1 wTrue from rfl] at cS3
        rw [show isT gs σ 1 4 (ByteArray.data ⟨#[61]⟩).toList = isT gs σ 1 4 [61] from rfl] at cS4
        cases hB3 : isT gs σ 0 1 wTrue with
        | true =>
          rw [hB3] at cS3
          cases hB4 : isT gs σ 1 4 [61] with
          | false =>
            rw [hB4] at cS4
            rw [if_pos (by simp)]
            dsimp only
            have hlt : σ.k < gs.length := (isT_lt hB3).2
            have cT := rtake_any hn σ w hP
            have et := take_more (gs := gs) hF hlt
            have hk3 : (takeC gs σ).F = none → k0 < (takeC gs σ).k := fun _ => by rw [et]; show k0 < σ.k + 1; omega
            have cA := fun W hP => rnode_any (gs := gs) (a := a) (cap := cap) (base := base) (br := br) (k0 := k0) _ (nd2 1 0 0) hk3 W hP
            dsimp only [nd2] at cA ⊢
            clear hB1 hB2 hB3 hB4 hk3 et h0 h2
            generalize takeX gs σ = tx at *
            generalize takeC gs σ = σ1 at *
            go_enter Tryz.func93, Tryz.ntmps93
            go_wp2_with (first
              | (go_at_call 43; refine cB.mono ?_; rintro en W1 ⟨rfl, hW⟩; replace hW := hW.symm; subst hW; clear cB)
              | (go_at_call 67; refine cS1.mono ?_; rintro en W1 ⟨rfl, hW⟩; replace hW := hW.symm; subst hW; clear cS1)
              | (go_at_call 67; refine cS2.mono ?_; rintro en W1 ⟨rfl, hW⟩; replace hW := hW.symm; subst hW; clear cS2)
              | (go_at_call 67; refine cS3.mono ?_; rintro en W1 ⟨rfl, hW⟩; replace hW := hW.symm; subst hW; clear cS3)
              | (go_at_call 67; refine cS4.mono ?_; rintro en W1 ⟨rfl, hW⟩; replace hW := hW.symm; subst hW; clear cS4)
              | (go_at_call 68; refine cT.mono ?_; rintro en W4 ⟨rfl, P4, B4, _⟩; clear cT)
              | (go_at_call 69; refine (cA _ P4).mono ?_; rintro en W5 ⟨rfl, P5, B5x⟩; have B5 := B4.trans B5x; clear cA B5x))
            go_ret
            exact ⟨rfl, P5, B5⟩
          | true =>
            rw [hB4] at cS4
            rw [if_neg (by simp)]
            dsimp only
            have cE := requation_any hn σ hF w hP
            clear hB1 hB2 hB3 hB4 h0 h2
            go_enter Tryz.func93, Tryz.ntmps93
            go_wp2_with (first
              | (go_at_call 43; refine cB.mono ?_; rintro en W1 ⟨rfl, hW⟩; replace hW := hW.symm; subst hW; clear cB)
              | (go_at_call 67; refine cS1.mono ?_; rintro en W1 ⟨rfl, hW⟩; replace hW := hW.symm; subst hW; clear cS1)
              | (go_at_call 67; refine cS2.mono ?_; rintro en W1 ⟨rfl, hW⟩; replace hW := hW.symm; subst hW; clear cS2)
              | (go_at_call 67; refine cS3.mono ?_; rintro en W1 ⟨rfl, hW⟩; replace hW := hW.symm; subst hW; clear cS3)
              | (go_at_call 67; refine cS4.mono ?_; rintro en W1 ⟨rfl, hW⟩; replace hW := hW.symm; subst hW; clear cS4)
              | (go_at_call 120; refine cE.mono ?_; rintro en W5 ⟨rfl, P5, B5⟩; clear cE))
            go_ret
            exact ⟨rfl, P5, B5⟩
        | false =>
          rw [hB3] at cS3
          rw [if_neg (by simp)]
          dsimp only
          have cE := requation_any hn σ hF w hP
          clear hB1 hB2 hB3 h0 h2 cS4
          go_enter Tryz.func93, Tryz.ntmps93
          go_wp2_with (first
            | (go_at_call 43; refine cB.mono ?_; rintro en W1 ⟨rfl, hW⟩; replace hW := hW.symm; subst hW; clear cB)
            | (go_at_call 67; refine cS1.mono ?_; rintro en W1 ⟨rfl, hW⟩; replace hW := hW.symm; subst hW; clear cS1)
            | (go_at_call 67; refine cS2.mono ?_; rintro en W1 ⟨rfl, hW⟩; replace hW := hW.symm; subst hW; clear cS2)
            | (go_at_call 67; refine cS3.mono ?_; rintro en W1 ⟨rfl, hW⟩; replace hW := hW.symm; subst hW; clear cS3)
            | (go_at_call 120; refine cE.mono ?_; rintro en W5 ⟨rfl, P5, B5⟩; clear cE))
          go_ret
          exact ⟨rfl, P5, B5⟩
  · exact rstay0 (f + 1) σ y u w hP
end
end Go.Proofs.YtjnbhcakfenbhaaGreatDoor
/- The reference's reader of conditions: and, or; all levels. -/
namespace Go.Proofs.YtjnbhcakfenbhaaGreatDoor
open Go.RowKit Go.Shelf M
set_option linter.unusedSimpArgs false
set_option linter.unusedVariables false

section
variable {gs : List GT} {a : Option Addr} {cap base br k0 : Nat}
set_option maxRecDepth 100000 in
set_option maxHeartbeats 4000000 in
theorem rstay1 (hn : Few gs) (f : Nat) (σ : CS) (y : Int × Int × Int) (h : σ.F = some y) (w : World) (hP : RC gs a cap base br k0 w σ) :
    Calls Tryz.prog (fnR 1) #[.pointer (some ⟨br, 0, none⟩)] w fun en w' => OutR gs a cap base br k0 w (goC gs f none 1 σ).2 (.int .i64 (goC gs f none 1 σ).1) en w' := by
  show Calls Tryz.prog 66 _ w _
  rw [go_val gs h f 1]
  have c1 := rstay0  0 σ y h w hP
  rw [go_val gs h 0 0] at c1
  have hc1 : Calls Tryz.prog 93 #[.pointer (some ⟨br, 0, none⟩)] w fun en w' => OutR gs a cap base br k0 w σ (.int .i64 0) en w' := c1
  have cS := fun W hP => ris_any (gs := gs) (a := a) (cap := cap) (base := base) (br := br) (k0 := k0) hn σ 0 (by omega) 4 ⟨#[47, 92]⟩ W hP
  rw [isT_none h] at cS
  clear c1 h
  go_enter Tryz.func66, Tryz.ntmps66
  go_wp2_with (first
    | (go_at_call 93; refine hc1.mono ?_; rintro en W1 ⟨rfl, P1, B1⟩; clear hc1))
  go_loop [3, 4] (fun av _ => av = .int .i64 0) (fun _ _ => 0)
  case atStart => rfl
  case round =>
    subst hrel
    go_wp2_with (first
      | (go_at_call 67; refine (cS _ P1).mono ?_; rintro en W2 ⟨rfl, hW⟩; replace hW := hW.symm; subst hW; clear cS))
    go_ret
    exact ⟨rfl, P1, B1⟩
set_option maxRecDepth 100000 in
set_option maxHeartbeats 4000000 in
theorem rrun0_up (hn : Few gs) (f : Nat) (hR : ∀ g, g ≤ f → RunR gs a cap base br k0 g 0) : RunR gs a cap base br k0 (f + 1) (0 + 1) := by
  intro σ w hP hpre
  rcases F_or σ with hF | ⟨y, u⟩
  · obtain ⟨hd0, hd64, hf⟩ := hpre hF
    show Calls Tryz.prog 66 _ w _
    have eG : goC gs (f + 1) none (0 + 1) σ = goC gs f (some (goC gs f none 0 σ).1) 0 (goC gs f none 0 σ).2 := by conv => lhs; unfold goC
    rw [eG]
    clear eG
    have hfrom := hP.from'
    have hf0 : need gs none 0 σ ≤ f := by unfold need at *; dsimp only at *; omega
    have c1 := hR f (Nat.le_refl _) σ w hP (fun _ => ⟨hd0, hd64, hf0⟩)
    have on1 := on_go gs f none 0 σ
    have kp1 := kp_go gs f none 0 σ
    have more1 : (goC gs f none 0 σ).2.F = none → σ.k < (goC gs f none 0 σ).2.k := fun h => go_more gs f 0 σ (by unfold need at hf0; dsimp only at hf0; omega) h
    generalize hr : goC gs f none 0 σ = r at *
    obtain ⟨a0, σ1⟩ := r
    dsimp only at *
    have hc1 : Calls Tryz.prog 93 #[.pointer (some ⟨br, 0, none⟩)] w fun en w' => OutR gs a cap base br k0 w σ1 (.int .i64 a0) en w' := c1
    clear c1 hr
    have hnd1 : Hid (need gs (some a0) 0 σ1 ≤ f) := (by show need gs (some a0) 0 σ1 ≤ f; unfold need at hf0 ⊢; dsimp only at hf0 ⊢; have := on1.k; omega)
    have hg1 : Hid (σ1.F = none → k0 < σ1.k ∧ 0 ≤ σ1.deep ∧ σ1.deep ≤ 64) := (fun g => by have := more1 g; have := kp1.deep g; refine ⟨?_, ?_, ?_⟩ <;> omega)
    generalize hfin : goC gs f (some a0) 0 σ1 = res at *
    obtain ⟨ra, rσ⟩ := res
    dsimp only
    have HF : Hid (goC gs f (some a0) 0 σ1 = (ra, rσ)) := hfin
    clear hfin hf hf0 on1 more1 kp1 hF hpre
    go_enter Tryz.func66, Tryz.ntmps66
    go_wp2_with (first
      | (go_at_call 93; refine hc1.mono ?_; rintro en W1 ⟨rfl, P1, B1⟩; clear hc1))
    go_loopg [3, 4] f (fun g av _ wr => ∃ (i : Int) (τ : CS) (q : Nat), Hid (q = g) ∧ av = .int .i64 i ∧ Hid (goC gs q (some i) 0 τ = (ra, rσ)) ∧ Hid (need gs (some i) 0 τ ≤ q) ∧ q ≤ f ∧ Hid (τ.F = none → k0 < τ.k ∧ 0 ≤ τ.deep ∧ τ.deep ≤ 64) ∧ RC gs a cap base br k0 wr τ ∧ Hid (Below base w wr))
    case atStart => exact ⟨a0, σ1, f, rfl, rfl, HF, hnd1, Nat.le_refl _, hg1, P1, B1⟩
    case round =>
      obtain ⟨i, τ, q, HQ, rfl, HG, HN, hgf, HK, PT, BT⟩ := hrel
      clear HF P1 B1 hnd1 hg1
      obtain ⟨g', rfl⟩ : ∃ g', q = g' + 1 := ⟨q - 1, (by have := HN.out; unfold need at this; dsimp only at this; omega)⟩
      have cS := fun W hP => ris_any (gs := gs) (a := a) (cap := cap) (base := base) (br := br) (k0 := k0) hn τ 0 (by omega) 4 ⟨#[47, 92]⟩ W hP
      cases hB : isT gs τ 0 4 (sgnOf 0) with
      | false =>
        rw [show isT gs τ 0 4 (ByteArray.data ⟨#[47, 92]⟩).toList = false from hB] at cS
        have he := HG.out
        rw [go_stop hB] at he
        have e1 : i = ra := congrArg Prod.fst he
        have e2 : τ = rσ := congrArg Prod.snd he
        subst e1
        subst e2
        clear he HG hB HN
        go_wp2_with (first
          | (go_at_call 67; refine (cS _ PT).mono ?_; rintro en W2 ⟨rfl, hW⟩; replace hW := hW.symm; subst hW; clear cS))
        go_ret
        exact ⟨rfl, PT, BT.out⟩
      | true =>
        rw [show isT gs τ 0 4 (ByteArray.data ⟨#[47, 92]⟩).toList = true from hB] at cS
        have hlt : τ.k < gs.length := (isT_lt hB).2
        have hFt : τ.F = none := (by rcases F_or τ with g | ⟨y, u⟩; exact g; rw [isT_none u] at hB; cases hB)
        obtain ⟨hkt, hdt0, hdt⟩ := HK.out hFt
        have cT := fun W hP => rtake_any (gs := gs) (a := a) (cap := cap) (base := base) (br := br) (k0 := k0) hn τ W hP
        have et := take_more (gs := gs) hFt hlt
        have hG := HG.out
        rw [go_some hB, et] at hG
        rw [et] at cT
        have hn2 : need gs none 0 (CS.mk (CS.k τ + 1) (CS.deep τ) (CS.nodes τ) none) ≤ g' := (by have := HN.out; unfold need at this ⊢; dsimp only at this ⊢; omega)
        have cP := fun W hP => hR g' (by omega) (CS.mk (CS.k τ + 1) (CS.deep τ) (CS.nodes τ) none) W hP (fun _ => ⟨hdt0, hdt, hn2⟩)
        have on2 := on_go gs g' none 0 (CS.mk (CS.k τ + 1) (CS.deep τ) (CS.nodes τ) none)
        have kp2 := kp_go gs g' none 0 (CS.mk (CS.k τ + 1) (CS.deep τ) (CS.nodes τ) none)
        generalize hr2 : goC gs g' none 0 (CS.mk (CS.k τ + 1) (CS.deep τ) (CS.nodes τ) none) = r2 at *
        obtain ⟨b0, τ2⟩ := r2
        dsimp only at *
        have hcP : ∀ W, RC gs a cap base br k0 W (CS.mk (CS.k τ + 1) (CS.deep τ) (CS.nodes τ) none) → Calls Tryz.prog 93 #[.pointer (some ⟨br, 0, none⟩)] W fun en w' => OutR gs a cap base br k0 W τ2 (.int .i64 b0) en w' := fun W h => cP W h
        have HG2 : Hid (goC gs g' (some (nodeI τ2)) 0 (nodeC gs τ2 (nd2 4 i b0)) = (ra, rσ)) := hG
        have hk2 : τ.k + 1 ≤ τ2.k := on2.k
        have cA := fun W hP => rnode_any (gs := gs) (a := a) (cap := cap) (base := base) (br := br) (k0 := k0) τ2 (nd2 4 i b0) (fun _ => by omega) W hP
        have HN3 : Hid (need gs (some (nodeI τ2)) 0 (nodeC gs τ2 (nd2 4 i b0)) ≤ g') := (by show need gs (some (nodeI τ2)) 0 (nodeC gs τ2 (nd2 4 i b0)) ≤ g'; have h1 := HN.out; have h3 := (on_node gs τ2 (nd2 4 i b0)).k; unfold need at h1 ⊢; dsimp only at h1 ⊢; omega)
        have HK3 : Hid ((nodeC gs τ2 (nd2 4 i b0)).F = none → k0 < (nodeC gs τ2 (nd2 4 i b0)).k ∧ 0 ≤ (nodeC gs τ2 (nd2 4 i b0)).deep ∧ (nodeC gs τ2 (nd2 4 i b0)).deep ≤ 64) := (fun g => by
          have h3 := (on_node gs τ2 (nd2 4 i b0)).k
          have g2 : τ2.F = none := (by rcases F_or τ2 with g2 | ⟨y, u⟩; exact g2; rw [node_stay gs u, u] at g; cases g)
          have h4 : τ2.deep = τ.deep := kp2.deep g2
          rw [node_dp]
          refine ⟨?_, ?_, ?_⟩ <;> omega)
        clear cP hr2 hG HG et hB kp2 on2 hFt HN HK
        generalize hno : nodeC gs τ2 (nd2 4 i b0) = τ3 at *
        clear hno
        dsimp only [nd2] at cA
        generalize takeX gs τ = tx at *
        go_wp2_with (first
          | (go_at_call 67; refine (cS _ PT).mono ?_; rintro en W2 ⟨rfl, hW⟩; replace hW := hW.symm; subst hW; clear cS)
          | (go_at_call 68; refine (cT _ PT).mono ?_; rintro en W3 ⟨rfl, P3, B3x, _⟩; have B3 := BT.out.trans B3x; clear cT B3x PT BT)
          | (go_at_call 93; refine (hcP _ P3).mono ?_; rintro en W4 ⟨rfl, P4, B4x⟩; have B4 := B3.trans B4x; clear hcP P3 B3 B4x)
          | (go_at_call 69; refine (cA _ P4).mono ?_; rintro en W5 ⟨rfl, P5, B5x⟩; have B5 : Hid (Below base w W5) := B4.trans B5x; clear cA P4 B4 B5x))
        go_roundg g'
        case measure => exact (by have := HQ.out; omega)
        case rel => exact ⟨nodeI τ2, τ3, g', rfl, rfl, HG2, HN3, by omega, HK3, P5, B5⟩
  · exact rstay1 hn (f + 1) σ y u w hP
set_option maxRecDepth 100000 in
set_option maxHeartbeats 4000000 in
theorem rstay2 (hn : Few gs) (f : Nat) (σ : CS) (y : Int × Int × Int) (h : σ.F = some y) (w : World) (hP : RC gs a cap base br k0 w σ) :
    Calls Tryz.prog (fnR 2) #[.pointer (some ⟨br, 0, none⟩)] w fun en w' => OutR gs a cap base br k0 w (goC gs f none 2 σ).2 (.int .i64 (goC gs f none 2 σ).1) en w' := by
  show Calls Tryz.prog 42 _ w _
  rw [go_val gs h f 2]
  have c1 := rstay1 hn 0 σ y h w hP
  rw [go_val gs h 0 1] at c1
  have hc1 : Calls Tryz.prog 66 #[.pointer (some ⟨br, 0, none⟩)] w fun en w' => OutR gs a cap base br k0 w σ (.int .i64 0) en w' := c1
  have cS := fun W hP => ris_any (gs := gs) (a := a) (cap := cap) (base := base) (br := br) (k0 := k0) hn σ 0 (by omega) 4 ⟨#[92, 47]⟩ W hP
  rw [isT_none h] at cS
  clear c1 h
  go_enter Tryz.func42, Tryz.ntmps42
  go_wp2_with (first
    | (go_at_call 66; refine hc1.mono ?_; rintro en W1 ⟨rfl, P1, B1⟩; clear hc1))
  go_loop [3, 4] (fun av _ => av = .int .i64 0) (fun _ _ => 0)
  case atStart => rfl
  case round =>
    subst hrel
    go_wp2_with (first
      | (go_at_call 67; refine (cS _ P1).mono ?_; rintro en W2 ⟨rfl, hW⟩; replace hW := hW.symm; subst hW; clear cS))
    go_ret
    exact ⟨rfl, P1, B1⟩
set_option maxRecDepth 100000 in
set_option maxHeartbeats 4000000 in
theorem rrun1_up (hn : Few gs) (f : Nat) (hR : ∀ g, g ≤ f → RunR gs a cap base br k0 g 1) : RunR gs a cap base br k0 (f + 1) (1 + 1) := by
  intro σ w hP hpre
  rcases F_or σ with hF | ⟨y, u⟩
  · obtain ⟨hd0, hd64, hf⟩ := hpre hF
    show Calls Tryz.prog 42 _ w _
    have eG : goC gs (f + 1) none (1 + 1) σ = goC gs f (some (goC gs f none 1 σ).1) 1 (goC gs f none 1 σ).2 := by conv => lhs; unfold goC
    rw [eG]
    clear eG
    have hfrom := hP.from'
    have hf0 : need gs none 1 σ ≤ f := by unfold need at *; dsimp only at *; omega
    have c1 := hR f (Nat.le_refl _) σ w hP (fun _ => ⟨hd0, hd64, hf0⟩)
    have on1 := on_go gs f none 1 σ
    have kp1 := kp_go gs f none 1 σ
    have more1 : (goC gs f none 1 σ).2.F = none → σ.k < (goC gs f none 1 σ).2.k := fun h => go_more gs f 1 σ (by unfold need at hf0; dsimp only at hf0; omega) h
    generalize hr : goC gs f none 1 σ = r at *
    obtain ⟨a0, σ1⟩ := r
    dsimp only at *
    have hc1 : Calls Tryz.prog 66 #[.pointer (some ⟨br, 0, none⟩)] w fun en w' => OutR gs a cap base br k0 w σ1 (.int .i64 a0) en w' := c1
    clear c1 hr
    have hnd1 : Hid (need gs (some a0) 1 σ1 ≤ f) := (by show need gs (some a0) 1 σ1 ≤ f; unfold need at hf0 ⊢; dsimp only at hf0 ⊢; have := on1.k; omega)
    have hg1 : Hid (σ1.F = none → k0 < σ1.k ∧ 0 ≤ σ1.deep ∧ σ1.deep ≤ 64) := (fun g => by have := more1 g; have := kp1.deep g; refine ⟨?_, ?_, ?_⟩ <;> omega)
    generalize hfin : goC gs f (some a0) 1 σ1 = res at *
    obtain ⟨ra, rσ⟩ := res
    dsimp only
    have HF : Hid (goC gs f (some a0) 1 σ1 = (ra, rσ)) := hfin
    clear hfin hf hf0 on1 more1 kp1 hF hpre
    go_enter Tryz.func42, Tryz.ntmps42
    go_wp2_with (first
      | (go_at_call 66; refine hc1.mono ?_; rintro en W1 ⟨rfl, P1, B1⟩; clear hc1))
    go_loopg [3, 4] f (fun g av _ wr => ∃ (i : Int) (τ : CS) (q : Nat), Hid (q = g) ∧ av = .int .i64 i ∧ Hid (goC gs q (some i) 1 τ = (ra, rσ)) ∧ Hid (need gs (some i) 1 τ ≤ q) ∧ q ≤ f ∧ Hid (τ.F = none → k0 < τ.k ∧ 0 ≤ τ.deep ∧ τ.deep ≤ 64) ∧ RC gs a cap base br k0 wr τ ∧ Hid (Below base w wr))
    case atStart => exact ⟨a0, σ1, f, rfl, rfl, HF, hnd1, Nat.le_refl _, hg1, P1, B1⟩
    case round =>
      obtain ⟨i, τ, q, HQ, rfl, HG, HN, hgf, HK, PT, BT⟩ := hrel
      clear HF P1 B1 hnd1 hg1
      obtain ⟨g', rfl⟩ : ∃ g', q = g' + 1 := ⟨q - 1, (by have := HN.out; unfold need at this; dsimp only at this; omega)⟩
      have cS := fun W hP => ris_any (gs := gs) (a := a) (cap := cap) (base := base) (br := br) (k0 := k0) hn τ 0 (by omega) 4 ⟨#[92, 47]⟩ W hP
      cases hB : isT gs τ 0 4 (sgnOf 1) with
      | false =>
        rw [show isT gs τ 0 4 (ByteArray.data ⟨#[92, 47]⟩).toList = false from hB] at cS
        have he := HG.out
        rw [go_stop hB] at he
        have e1 : i = ra := congrArg Prod.fst he
        have e2 : τ = rσ := congrArg Prod.snd he
        subst e1
        subst e2
        clear he HG hB HN
        go_wp2_with (first
          | (go_at_call 67; refine (cS _ PT).mono ?_; rintro en W2 ⟨rfl, hW⟩; replace hW := hW.symm; subst hW; clear cS))
        go_ret
        exact ⟨rfl, PT, BT.out⟩
      | true =>
        rw [show isT gs τ 0 4 (ByteArray.data ⟨#[92, 47]⟩).toList = true from hB] at cS
        have hlt : τ.k < gs.length := (isT_lt hB).2
        have hFt : τ.F = none := (by rcases F_or τ with g | ⟨y, u⟩; exact g; rw [isT_none u] at hB; cases hB)
        obtain ⟨hkt, hdt0, hdt⟩ := HK.out hFt
        have cT := fun W hP => rtake_any (gs := gs) (a := a) (cap := cap) (base := base) (br := br) (k0 := k0) hn τ W hP
        have et := take_more (gs := gs) hFt hlt
        have hG := HG.out
        rw [go_some hB, et] at hG
        rw [et] at cT
        have hn2 : need gs none 1 (CS.mk (CS.k τ + 1) (CS.deep τ) (CS.nodes τ) none) ≤ g' := (by have := HN.out; unfold need at this ⊢; dsimp only at this ⊢; omega)
        have cP := fun W hP => hR g' (by omega) (CS.mk (CS.k τ + 1) (CS.deep τ) (CS.nodes τ) none) W hP (fun _ => ⟨hdt0, hdt, hn2⟩)
        have on2 := on_go gs g' none 1 (CS.mk (CS.k τ + 1) (CS.deep τ) (CS.nodes τ) none)
        have kp2 := kp_go gs g' none 1 (CS.mk (CS.k τ + 1) (CS.deep τ) (CS.nodes τ) none)
        generalize hr2 : goC gs g' none 1 (CS.mk (CS.k τ + 1) (CS.deep τ) (CS.nodes τ) none) = r2 at *
        obtain ⟨b0, τ2⟩ := r2
        dsimp only at *
        have hcP : ∀ W, RC gs a cap base br k0 W (CS.mk (CS.k τ + 1) (CS.deep τ) (CS.nodes τ) none) → Calls Tryz.prog 66 #[.pointer (some ⟨br, 0, none⟩)] W fun en w' => OutR gs a cap base br k0 W τ2 (.int .i64 b0) en w' := fun W h => cP W h
        have HG2 : Hid (goC gs g' (some (nodeI τ2)) 1 (nodeC gs τ2 (nd2 5 i b0)) = (ra, rσ)) := hG
        have hk2 : τ.k + 1 ≤ τ2.k := on2.k
        have cA := fun W hP => rnode_any (gs := gs) (a := a) (cap := cap) (base := base) (br := br) (k0 := k0) τ2 (nd2 5 i b0) (fun _ => by omega) W hP
        have HN3 : Hid (need gs (some (nodeI τ2)) 1 (nodeC gs τ2 (nd2 5 i b0)) ≤ g') := (by show need gs (some (nodeI τ2)) 1 (nodeC gs τ2 (nd2 5 i b0)) ≤ g'; have h1 := HN.out; have h3 := (on_node gs τ2 (nd2 5 i b0)).k; unfold need at h1 ⊢; dsimp only at h1 ⊢; omega)
        have HK3 : Hid ((nodeC gs τ2 (nd2 5 i b0)).F = none → k0 < (nodeC gs τ2 (nd2 5 i b0)).k ∧ 0 ≤ (nodeC gs τ2 (nd2 5 i b0)).deep ∧ (nodeC gs τ2 (nd2 5 i b0)).deep ≤ 64) := (fun g => by
          have h3 := (on_node gs τ2 (nd2 5 i b0)).k
          have g2 : τ2.F = none := (by rcases F_or τ2 with g2 | ⟨y, u⟩; exact g2; rw [node_stay gs u, u] at g; cases g)
          have h4 : τ2.deep = τ.deep := kp2.deep g2
          rw [node_dp]
          refine ⟨?_, ?_, ?_⟩ <;> omega)
        clear cP hr2 hG HG et hB kp2 on2 hFt HN HK
        generalize hno : nodeC gs τ2 (nd2 5 i b0) = τ3 at *
        clear hno
        dsimp only [nd2] at cA
        generalize takeX gs τ = tx at *
        go_wp2_with (first
          | (go_at_call 67; refine (cS _ PT).mono ?_; rintro en W2 ⟨rfl, hW⟩; replace hW := hW.symm; subst hW; clear cS)
          | (go_at_call 68; refine (cT _ PT).mono ?_; rintro en W3 ⟨rfl, P3, B3x, _⟩; have B3 := BT.out.trans B3x; clear cT B3x PT BT)
          | (go_at_call 66; refine (hcP _ P3).mono ?_; rintro en W4 ⟨rfl, P4, B4x⟩; have B4 := B3.trans B4x; clear hcP P3 B3 B4x)
          | (go_at_call 69; refine (cA _ P4).mono ?_; rintro en W5 ⟨rfl, P5, B5x⟩; have B5 : Hid (Below base w W5) := B4.trans B5x; clear cA P4 B4 B5x))
        go_roundg g'
        case measure => exact (by have := HQ.out; omega)
        case rel => exact ⟨nodeI τ2, τ3, g', rfl, rfl, HG2, HN3, by omega, HK3, P5, B5⟩
  · exact rstay2 hn (f + 1) σ y u w hP
/-- All levels, whatever the fuel. -/
theorem rrun_all (hn : Few gs) : ∀ f, ∀ g, g ≤ f → ∀ lvl, lvl ≤ 2 → RunR gs a cap base br k0 g lvl
  | 0, g, hg, lvl, hl => by
    intro σ w hP hpre
    rcases F_or σ with hF | ⟨y, u⟩
    · exfalso
      have := (hpre hF).2.2
      unfold need at this
      dsimp only at this
      omega
    · rcases lvl with _ | _ | _ | lvl
      · exact rstay0 g σ y u w hP
      · exact rstay1 hn g σ y u w hP
      · exact rstay2 hn g σ y u w hP
      · omega
  | f + 1, g, hg, lvl, hl => by
    rcases Nat.lt_or_ge g (f + 1) with h | h
    · exact rrun_all hn f g (by omega) lvl hl
    · have : g = f + 1 := by omega
      subst this
      have ih := rrun_all hn f
      rcases lvl with _ | _ | _ | lvl
      · exact rpart_up hn f (ih f (Nat.le_refl _) 0 (by omega)) (ih f (Nat.le_refl _) 2 (by omega))
      · exact rrun0_up hn f (fun g hg => ih g hg 0 (by omega))
      · exact rrun1_up hn f (fun g hg => ih g hg 1 (by omega))
      · omega
end
end Go.Proofs.YtjnbhcakfenbhaaGreatDoor

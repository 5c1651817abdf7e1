/- The reference's reader of conditions: not. -/
import Derived.Test.YtjnbhcakfenbhaaDoorWA
namespace Go.Proofs.YtjnbhcakfenbhaaDoor
open Go.RowKit Go.Shelf M
set_option linter.unusedSimpArgs false
set_option linter.unusedVariables false

def fnR (lvl : Nat) : Nat := if lvl = 0 then 67 else if lvl = 1 then 50 else 34
theorem go_val (gs : List GT) {σ : CS} {y : Int × Int × Int} (h : σ.F = some y) : ∀ (f : Nat) (lvl : Nat), goC gs f none lvl σ = (0, σ)
  | 0, _ => rfl
  | f + 1, lvl + 1 => by
    have e : goC gs (f + 1) none (lvl + 1) σ = goC gs f (some (goC gs f none lvl σ).1) lvl (goC gs f none lvl σ).2 := by conv => lhs; unfold goC
    rw [e, go_val gs h f lvl]
    cases f with
    | zero => rfl
    | succ f => unfold goC; rw [if_neg (by rw [isT_none h]; simp)]
  | f + 1, 0 => by unfold goC; rw [if_pos (by rw [h]; rfl)]
/-- With so much fuel a level's parts are read as the plain reader reads them. -/
def RunR (gs : List GT) (a : Option Addr) (cap base br k0 f lvl : Nat) : Prop :=
  ∀ (σ : CS) (w : World), RC gs a cap base br k0 w σ → (σ.F = none → 0 ≤ σ.deep ∧ σ.deep ≤ 64 ∧ need gs none lvl σ ≤ f) →
    Calls Tryd.prog (fnR lvl) #[.pointer (some ⟨br, 0, none⟩)] w fun en w' => OutR gs a cap base br k0 w (goC gs f none lvl σ).2 (.int .i64 (goC gs f none lvl σ).1) en w'
section
variable {gs : List GT} {a : Option Addr} {cap base br k0 : Nat}
set_option maxRecDepth 100000 in
set_option maxHeartbeats 4000000 in
theorem rstay0 (f : Nat) (σ : CS) (y : Int × Int × Int) (h : σ.F = some y) (w : World) (hP : RC gs a cap base br k0 w σ) :
    Calls Tryd.prog (fnR 0) #[.pointer (some ⟨br, 0, none⟩)] w fun en w' => OutR gs a cap base br k0 w (goC gs f none 0 σ).2 (.int .i64 (goC gs f none 0 σ).1) en w' := by
  show Calls Tryd.prog 67 _ w _
  rw [go_val gs h f 0]
  have cB := rbad_any σ w hP
  rw [h] at cB
  go_enter Tryd.func67, Tryd.ntmps67
  go_wp2_with (first
    | (go_at_call 35; refine cB.mono ?_; rintro en W1 ⟨rfl, hW⟩; replace hW := hW.symm; subst hW; clear cB))
  go_ret
  exact ⟨rfl, hP, Below.refl _ _⟩
set_option maxRecDepth 100000 in
set_option maxHeartbeats 4000000 in
theorem rpart_up (hn : Few gs) (f : Nat) (h0 : RunR gs a cap base br k0 f 0) (h2 : RunR gs a cap base br k0 f 2) : RunR gs a cap base br k0 (f + 1) 0 := by
  intro σ w hP hpre
  rcases F_or σ with hF | ⟨y, u⟩
  · obtain ⟨hd0, hd64, hf⟩ := hpre hF
    show Calls Tryd.prog 67 _ w _
    rw [go_zero hF]
    have hbb := hP.bb
    have hsz := hP.sz
    have hfrom := hP.from'
    have cB := rbad_any σ w hP
    rw [hF] at cB
    have cS1 := ris_any hn σ 0 (by omega) 4 ⟨#[126]⟩ w hP
    have cS2 := ris_any hn σ 0 (by omega) 4 ⟨#[40]⟩ w hP
    have cS3 := ris_any hn σ 0 (by omega) 1 ⟨#[116, 114, 117, 101]⟩ w hP
    have cS4 := ris_any hn σ 1 (by omega) 4 ⟨#[61]⟩ w hP
    cases hB1 : isT gs σ 0 4 [126] with
    | true =>
      rw [show isT gs σ 0 4 (ByteArray.data ⟨#[126]⟩).toList = true from hB1] at cS1
      have hlt : σ.k < gs.length := (isT_lt hB1).2
      rw [if_pos rfl]
      dsimp only
      have cO := ropens_any hn σ hF hlt hd0 w hP
      have ho := open_cases gs hF
      have hdp := go_dp gs f none 0 (openC gs σ)
      have on1 := on_go gs f none 0 (openC gs σ)
      have hpre1 : (openC gs σ).F = none → 0 ≤ (openC gs σ).deep ∧ (openC gs σ).deep ≤ 64 ∧ need gs none 0 (openC gs σ) ≤ f := fun g => by
        rcases ho with ⟨_, _, y, u⟩ | ⟨l, e⟩
        · rw [u] at g; cases g
        · refine ⟨by omega, by omega, ?_⟩
          unfold need at hf ⊢; dsimp only at hf ⊢; rw [open_k hF hlt g]; omega
      have cP := fun W hP => h0 (openC gs σ) W hP hpre1
      have hk3 : (outC (goC gs f none 0 (openC gs σ)).2).F = none → k0 < (outC (goC gs f none 0 (openC gs σ)).2).k := fun g => by
        have g1 : (openC gs σ).F = none := (kp_go gs f none 0 (openC gs σ)).F g
        have := open_k hF hlt g1
        have := on1.k
        show k0 < (goC gs f none 0 (openC gs σ)).2.k
        omega
      have cA := fun W hP => rnode_any (gs := gs) (a := a) (cap := cap) (base := base) (br := br) (k0 := k0) _ (nd2 3 (goC gs f none 0 (openC gs σ)).1 0) hk3 W hP
      have hb1 : -2 ≤ (goC gs f none 0 (openC gs σ)).2.deep ∧ (goC gs f none 0 (openC gs σ)).2.deep ≤ 65 := by rcases ho with ⟨_, e, _⟩ | ⟨_, e⟩ <;> rw [e] at hdp <;> omega
      clear hdp ho hk3 hpre1 on1 hB1 cS2 cS3 cS4 h0 h2
      generalize openC gs σ = σ1 at *
      generalize goC gs f none 0 σ1 = r at *
      obtain ⟨a0, σ2⟩ := r
      dsimp only at *
      have hcP : ∀ W, RC gs a cap base br k0 W σ1 → Calls Tryd.prog 67 #[.pointer (some ⟨br, 0, none⟩)] W fun en w' => OutR gs a cap base br k0 W σ2 (.int .i64 a0) en w' := fun W h => cP W h
      clear cP
      dsimp only [nd2] at cA
      go_enter Tryd.func67, Tryd.ntmps67
      go_wp2_with (first
        | (go_at_call 35; refine cB.mono ?_; rintro en W1 ⟨rfl, hW⟩; replace hW := hW.symm; subst hW; clear cB)
        | (go_at_call 51; refine cS1.mono ?_; rintro en W1 ⟨rfl, hW⟩; replace hW := hW.symm; subst hW; clear cS1)
        | (go_at_call 86; refine cO.mono ?_; rintro en W2 ⟨rfl, P2, B2, _⟩; clear cO)
        | (go_at_call 67; refine (hcP _ P2).mono ?_; rintro en W3 ⟨rfl, P3, B3x⟩; have B3 := B2.trans B3x; obtain ⟨v3, t3, R3, O3, L3⟩ := P3.ex; have c9 : W3.cell? ⟨br, 9, none⟩ = some (.int .i64 (CS.deep σ2)) := R3.cell 9; have hlo := hb1.1; have hup := hb1.2; clear hcP B3x P2 B2 hb1)
        | (refine wpList_store1 rfl 3 _ _ rfl rfl (.int .i64 (CS.deep σ2 - 1)) rfl R3 (by rw [rrL_len]; omega) info3 rfl ?_; intro W4 U4 R4x; have P4 : RC gs a cap base br k0 W4 (outC σ2) := P3.turn (σ' := outC σ2) (Turn.of_upd U4) R3 rfl P3.from' P3.k P3.code L3 R4x; have B4 := U4.trans B3 hbb; clear U4 R4x R3 c9 P3 B3)
        | (go_at_call 53; refine (cA _ P4).mono ?_; rintro en W5 ⟨rfl, P5, B5x⟩; have B5 := B4.trans B5x; clear cA B5x))
      go_ret
      exact ⟨rfl, P5, B5⟩
    | false =>
      rw [show isT gs σ 0 4 (ByteArray.data ⟨#[126]⟩).toList = false from hB1] at cS1
      rw [if_neg (by simp)]
      cases hB2 : isT gs σ 0 4 [40] with
      | true =>
        rw [show isT gs σ 0 4 (ByteArray.data ⟨#[40]⟩).toList = true from hB2] at cS2
        have hlt : σ.k < gs.length := (isT_lt hB2).2
        rw [if_pos rfl]
        dsimp only
        have cO := ropens_any hn σ hF hlt hd0 w hP
        have ho := open_cases gs hF
        have hdp := go_dp gs f none 2 (openC gs σ)
        have hpre1 : (openC gs σ).F = none → 0 ≤ (openC gs σ).deep ∧ (openC gs σ).deep ≤ 64 ∧ need gs none 2 (openC gs σ) ≤ f := fun g => by
          rcases ho with ⟨_, _, y, u⟩ | ⟨l, e⟩
          · rw [u] at g; cases g
          · refine ⟨by omega, by omega, ?_⟩
            unfold need at hf ⊢; dsimp only at hf ⊢; rw [open_k hF hlt g]; omega
        have cP := fun W hP => h2 (openC gs σ) W hP hpre1
        have cG := fun W hP => rsign_any (gs := gs) (a := a) (cap := cap) (base := base) (br := br) (k0 := k0) hn (goC gs f none 2 (openC gs σ)).2 ⟨#[41]⟩ W hP
        rw [show signC gs (goC gs f none 2 (openC gs σ)).2 (ByteArray.data ⟨#[41]⟩).toList = signC gs (goC gs f none 2 (openC gs σ)).2 [41] from rfl] at cG
        have hb1 : -2 ≤ (signC gs (goC gs f none 2 (openC gs σ)).2 [41]).deep ∧ (signC gs (goC gs f none 2 (openC gs σ)).2 [41]).deep ≤ 65 := by rw [sign_dp]; rcases ho with ⟨_, e, _⟩ | ⟨_, e⟩ <;> rw [e] at hdp <;> omega
        clear hdp ho hpre1 hB1 hB2 cS3 cS4 h0 h2
        generalize openC gs σ = σ1 at *
        generalize goC gs f none 2 σ1 = r at *
        obtain ⟨a0, σ0⟩ := r
        dsimp only at *
        generalize signC gs σ0 [41] = σ2 at *
        have hcP : ∀ W, RC gs a cap base br k0 W σ1 → Calls Tryd.prog 34 #[.pointer (some ⟨br, 0, none⟩)] W fun en w' => OutR gs a cap base br k0 W σ0 (.int .i64 a0) en w' := fun W h => cP W h
        clear cP
        go_enter Tryd.func67, Tryd.ntmps67
        go_wp2_with (first
          | (go_at_call 35; refine cB.mono ?_; rintro en W1 ⟨rfl, hW⟩; replace hW := hW.symm; subst hW; clear cB)
          | (go_at_call 51; refine cS1.mono ?_; rintro en W1 ⟨rfl, hW⟩; replace hW := hW.symm; subst hW; clear cS1)
          | (go_at_call 51; refine cS2.mono ?_; rintro en W1 ⟨rfl, hW⟩; replace hW := hW.symm; subst hW; clear cS2)
          | (go_at_call 86; refine cO.mono ?_; rintro en W2 ⟨rfl, P2, B2, _⟩; clear cO)
          | (go_at_call 34; refine (hcP _ P2).mono ?_; rintro en W2b ⟨rfl, P2b, B2x⟩; have B2b := B2.trans B2x; clear hcP B2x P2 B2)
          | (go_at_call 87; refine (cG _ P2b).mono ?_; rintro en W3 ⟨rfl, P3, B3x, _⟩; have B3 := B2b.trans B3x; obtain ⟨v3, t3, R3, O3, L3⟩ := P3.ex; have c9 : W3.cell? ⟨br, 9, none⟩ = some (.int .i64 (CS.deep σ2)) := R3.cell 9; have hlo := hb1.1; have hup := hb1.2; clear cG B3x P2b B2b hb1)
          | (refine wpList_store1 rfl 3 _ _ rfl rfl (.int .i64 (CS.deep σ2 - 1)) rfl R3 (by rw [rrL_len]; omega) info3 rfl ?_; intro W4 U4 R4x; have P4 : RC gs a cap base br k0 W4 (outC σ2) := P3.turn (σ' := outC σ2) (Turn.of_upd U4) R3 rfl P3.from' P3.k P3.code L3 R4x; have B4 := U4.trans B3 hbb; clear U4 R4x R3 c9 P3 B3))
        go_ret
        exact ⟨rfl, P4, B4⟩
      | false =>
        rw [show isT gs σ 0 4 (ByteArray.data ⟨#[40]⟩).toList = false from hB2] at cS2
        rw [if_neg (by simp)]
        rw [show isT gs σ 0 1 (ByteArray.data ⟨#[116, 114, 117, 101]⟩).toList = isT gs σ 0 1 wTrue from rfl] at cS3
        rw [show isT gs σ 1 4 (ByteArray.data ⟨#[61]⟩).toList = isT gs σ 1 4 [61] from rfl] at cS4
        cases hB3 : isT gs σ 0 1 wTrue with
        | true =>
          rw [hB3] at cS3
          cases hB4 : isT gs σ 1 4 [61] with
          | false =>
            rw [hB4] at cS4
            rw [if_pos (by simp)]
            dsimp only
            have hlt : σ.k < gs.length := (isT_lt hB3).2
            have cT := rtake_any hn σ w hP
            have et := take_more (gs := gs) hF hlt
            have hk3 : (takeC gs σ).F = none → k0 < (takeC gs σ).k := fun _ => by rw [et]; show k0 < σ.k + 1; omega
            have cA := fun W hP => rnode_any (gs := gs) (a := a) (cap := cap) (base := base) (br := br) (k0 := k0) _ (nd2 1 0 0) hk3 W hP
            dsimp only [nd2] at cA ⊢
            clear hB1 hB2 hB3 hB4 hk3 et h0 h2
            generalize takeX gs σ = tx at *
            generalize takeC gs σ = σ1 at *
            go_enter Tryd.func67, Tryd.ntmps67
            go_wp2_with (first
              | (go_at_call 35; refine cB.mono ?_; rintro en W1 ⟨rfl, hW⟩; replace hW := hW.symm; subst hW; clear cB)
              | (go_at_call 51; refine cS1.mono ?_; rintro en W1 ⟨rfl, hW⟩; replace hW := hW.symm; subst hW; clear cS1)
              | (go_at_call 51; refine cS2.mono ?_; rintro en W1 ⟨rfl, hW⟩; replace hW := hW.symm; subst hW; clear cS2)
              | (go_at_call 51; refine cS3.mono ?_; rintro en W1 ⟨rfl, hW⟩; replace hW := hW.symm; subst hW; clear cS3)
              | (go_at_call 51; refine cS4.mono ?_; rintro en W1 ⟨rfl, hW⟩; replace hW := hW.symm; subst hW; clear cS4)
              | (go_at_call 52; refine cT.mono ?_; rintro en W4 ⟨rfl, P4, B4, _⟩; clear cT)
              | (go_at_call 53; refine (cA _ P4).mono ?_; rintro en W5 ⟨rfl, P5, B5x⟩; have B5 := B4.trans B5x; clear cA B5x))
            go_ret
            exact ⟨rfl, P5, B5⟩
          | true =>
            rw [hB4] at cS4
            rw [if_neg (by simp)]
            dsimp only
            have cE := requation_any hn σ hF w hP
            clear hB1 hB2 hB3 hB4 h0 h2
            go_enter Tryd.func67, Tryd.ntmps67
            go_wp2_with (first
              | (go_at_call 35; refine cB.mono ?_; rintro en W1 ⟨rfl, hW⟩; replace hW := hW.symm; subst hW; clear cB)
              | (go_at_call 51; refine cS1.mono ?_; rintro en W1 ⟨rfl, hW⟩; replace hW := hW.symm; subst hW; clear cS1)
              | (go_at_call 51; refine cS2.mono ?_; rintro en W1 ⟨rfl, hW⟩; replace hW := hW.symm; subst hW; clear cS2)
              | (go_at_call 51; refine cS3.mono ?_; rintro en W1 ⟨rfl, hW⟩; replace hW := hW.symm; subst hW; clear cS3)
              | (go_at_call 51; refine cS4.mono ?_; rintro en W1 ⟨rfl, hW⟩; replace hW := hW.symm; subst hW; clear cS4)
              | (go_at_call 88; refine cE.mono ?_; rintro en W5 ⟨rfl, P5, B5⟩; clear cE))
            go_ret
            exact ⟨rfl, P5, B5⟩
        | false =>
          rw [hB3] at cS3
          rw [if_neg (by simp)]
          dsimp only
          have cE := requation_any hn σ hF w hP
          clear hB1 hB2 hB3 h0 h2 cS4
          go_enter Tryd.func67, Tryd.ntmps67
          go_wp2_with (first
            | (go_at_call 35; refine cB.mono ?_; rintro en W1 ⟨rfl, hW⟩; replace hW := hW.symm; subst hW; clear cB)
            | (go_at_call 51; refine cS1.mono ?_; rintro en W1 ⟨rfl, hW⟩; replace hW := hW.symm; subst hW; clear cS1)
            | (go_at_call 51; refine cS2.mono ?_; rintro en W1 ⟨rfl, hW⟩; replace hW := hW.symm; subst hW; clear cS2)
            | (go_at_call 51; refine cS3.mono ?_; rintro en W1 ⟨rfl, hW⟩; replace hW := hW.symm; subst hW; clear cS3)
            | (go_at_call 88; refine cE.mono ?_; rintro en W5 ⟨rfl, P5, B5⟩; clear cE))
          go_ret
          exact ⟨rfl, P5, B5⟩
  · exact rstay0 (f + 1) σ y u w hP
end
end Go.Proofs.YtjnbhcakfenbhaaDoor

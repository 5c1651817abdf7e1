/- The reference's reader of conditions: opens. -/
import Derived.Test.YtjnbhcakfenbhaaDoorWU
namespace Go.Proofs.YtjnbhcakfenbhaaDoor
open Go.RowKit Go.Shelf M
set_option linter.unusedSimpArgs false
set_option linter.unusedVariables false

section
variable {gs : List GT} {a : Option Addr} {cap base br k0 : Nat}
set_option maxRecDepth 100000 in
set_option maxHeartbeats 2000000 in
theorem ropens_any (hn : Few gs) (σ : CS) (hF : σ.F = none) (hlt : σ.k < gs.length) (hd0 : 0 ≤ σ.deep) (w : World) (hP : RC gs a cap base br k0 w σ) :
    Calls Tryd.prog 86 #[.pointer (some ⟨br, 0, none⟩)] w fun en w' => OutT gs a cap base br k0 w (openC gs σ) (.tuple #[]) en w' := by
  have hsz := hP.sz
  have hbb := hP.bb
  obtain ⟨v, t, R, _, hl⟩ := hP.ex
  have c9 : w.cell? ⟨br, 9, none⟩ = some (.int .i64 (CS.deep σ)) := R.cell 9
  by_cases hdd : 64 ≤ σ.deep
  · have e1 : openC gs σ = failC σ (gAt gs σ.k) 2 := if_pos hdd
    rw [e1]
    have cF := fun W hP => rfail_any (gs := gs) (a := a) (cap := cap) (base := base) (br := br) (k0 := k0) σ (gAt gs σ.k) 2 (by decide) W hP
    have HP : Hid (∀ W, Below w.heap.size w W → RC gs a cap base br k0 W σ) := fun W B => hP.grown B
    have c0 : w.cell? ⟨br, 0, none⟩ = some (.slice a gs.length cap) := R.cell 0
    have c1 : w.cell? ⟨br, 1, none⟩ = some (.int .i64 (σ.k : Int)) := R.cell 1
    have hT := hP.toks
    obtain ⟨b, o, ea, hb4, hr4⟩ := hT _ _ (gAt_lt hlt)
    subst ea
    have hix : (CS.k σ : Int) < gs.length := by omega
    have hge : 64 ≤ CS.deep σ := hdd
    clear hT hP R hl e1 hdd hlt
    generalize gAt gs (CS.k σ) = g at *
    generalize hrr : failC σ g 2 = σ' at *
    clear hrr hF
    generalize hkk : CS.k σ = k at *
    generalize gs.length = n at *
    generalize CS.deep σ = d at *
    go_enter Tryd.func86, Tryd.ntmps86
    go_wp2_with fail
    refine grow_tailW 11 (by kernel_rfl) (by kernel_rfl) ?_
    simp only [List.take_succ_cons, List.take_zero, List.drop_succ_cons, List.drop_zero]
    refine WG.put rfl (v := .pointer (some ⟨br, 0, none⟩)) (fun w => by first | rfl | (go_simp; done) | (simp [go_sem]; done)) ?_
    simp only [Act.put, List.setIfInBounds_toArray, List.set_cons_succ, List.set_cons_zero]
    refine WG.put rfl (v := .pointer (some ⟨br, 0, none⟩)) (fun w => by first | rfl | (go_simp; done) | (simp [go_sem]; done)) ?_
    simp only [Act.put, List.setIfInBounds_toArray, List.set_cons_succ, List.set_cons_zero]
    refine WG.put rfl (v := .pointer (some ⟨br, 0, none⟩)) (fun w => by first | rfl | (go_simp; done) | (simp [go_sem]; done)) ?_
    simp only [Act.put, List.setIfInBounds_toArray, List.set_cons_succ, List.set_cons_zero]
    refine WG.put rfl (v := .pointer (some ⟨br, 0, none⟩)) (fun w => by first | rfl | (go_simp; done) | (simp [go_sem]; done)) ?_
    simp only [Act.put, List.setIfInBounds_toArray, List.set_cons_succ, List.set_cons_zero]
    refine WG.cell rfl 35 _ rfl rfl c0 ldTk ?_
    simp only [Act.put, List.setIfInBounds_toArray, List.set_cons_succ, List.set_cons_zero]
    refine WG.put rfl (v := .pointer (some ⟨br, 0, none⟩)) (fun w => by first | rfl | (go_simp; done) | (simp [go_sem]; done)) ?_
    simp only [Act.put, List.setIfInBounds_toArray, List.set_cons_succ, List.set_cons_zero]
    refine WG.put rfl (v := .pointer (some ⟨br, 0, none⟩)) (fun w => by first | rfl | (go_simp; done) | (simp [go_sem]; done)) ?_
    simp only [Act.put, List.setIfInBounds_toArray, List.set_cons_succ, List.set_cons_zero]
    refine WG.put rfl (v := .pointer (some ⟨br, 1, none⟩)) (fun w => by first | rfl | (go_simp; done) | (simp [go_sem]; done)) ?_
    simp only [Act.put, List.setIfInBounds_toArray, List.set_cons_succ, List.set_cons_zero]
    refine WG.cell rfl 3 _ rfl rfl c1 ld3 ?_
    simp only [Act.put, List.setIfInBounds_toArray, List.set_cons_succ, List.set_cons_zero]
    refine WG.put rfl (v := .pointer (some ⟨b, o + k * 7, none⟩)) (fun w => by first | rfl | (go_simp; done) | (simp [go_sem, hix]; done)) ?_
    simp only [Act.put, List.setIfInBounds_toArray, List.set_cons_succ, List.set_cons_zero]
    refine WG.range rfl 37 _ rfl rfl (gtL g) hb4 hr4 _ Tryd.underlying37 rfl infoTok ?_
    simp only [Act.put, List.setIfInBounds_toArray, List.set_cons_succ, List.set_cons_zero]
    refine WG.nil ?_
    intro W2 B2
    go_wp2_with (first
      | (go_at_call 68; refine (cF _ (HP.out _ B2)).mono ?_; rintro en W3 ⟨rfl, P3, B3, T3⟩))
    exact ⟨rfl, .tuple #[], (by simp [results, Tryd.results86, go_sem]), rfl, P3, (below_lower B2 hsz).trans B3, (Turn.of_below B2 br).trans T3⟩
  · have e1 : openC gs σ = takeC gs (CS.mk (CS.k σ) (CS.deep σ + 1) (CS.nodes σ) (CS.F σ)) := if_neg hdd
    rw [e1]
    have cT := fun W hP => rtake_any (gs := gs) (a := a) (cap := cap) (base := base) (br := br) (k0 := k0) hn (CS.mk (CS.k σ) (CS.deep σ + 1) (CS.nodes σ) (CS.F σ)) W hP
    have hge : ¬ (64 ≤ CS.deep σ) := hdd
    have hup : CS.deep σ < 64 := by omega
    clear e1 hdd
    go_enter Tryd.func86, Tryd.ntmps86
    go_wp2_with (first
      | (refine wpList_store1 rfl 3 _ _ rfl rfl (.int .i64 (CS.deep σ + 1)) rfl R (by rw [rrL_len]; omega) info3 rfl ?_; intro W2 U2 R2x; have P2 : RC gs a cap base br k0 W2 (CS.mk (CS.k σ) (CS.deep σ + 1) (CS.nodes σ) (CS.F σ)) := hP.turn (σ' := CS.mk (CS.k σ) (CS.deep σ + 1) (CS.nodes σ) (CS.F σ)) (Turn.of_upd U2) R rfl hP.from' hP.k hP.code hl R2x; have B2 := U2.trans (Below.refl base w) hbb; clear R2x)
      | (go_at_call 52; refine (cT _ P2).mono ?_; rintro en W3 ⟨rfl, P3, B3, T3⟩; clear cT))
    exact ⟨rfl, .tuple #[], (by simp [results, Tryd.results86, go_sem]), rfl, P3, B2.trans B3, (Turn.of_upd U2).trans T3⟩
end
end Go.Proofs.YtjnbhcakfenbhaaDoor

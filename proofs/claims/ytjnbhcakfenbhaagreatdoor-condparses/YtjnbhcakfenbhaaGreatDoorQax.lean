/- Several texts in one: W5, W6. -/
import Derived.Test.YtjnbhcakfenbhaaGreatDoorQaw
/- The reference's reader of conditions: name. -/
namespace Go.Proofs.YtjnbhcakfenbhaaGreatDoor
open Go.RowKit Go.Shelf M
set_option linter.unusedSimpArgs false
set_option linter.unusedVariables false

section
variable {gs : List GT} {a : Option Addr} {cap base br k0 : Nat}
set_option maxRecDepth 100000 in
set_option maxHeartbeats 4000000 in
theorem rrname_any (hn : Few gs) (σ : CS) (w : World) (hP : RC gs a cap base br k0 w σ) :
    Calls Tryz.prog 142 #[.pointer (some ⟨br, 0, none⟩)] w fun en w' => OutT gs a cap base br k0 w (nameC gs σ) (.string (nameX gs σ)) en w' := by
  have cB := fun W hP => rbad_any (gs := gs) (a := a) (cap := cap) (base := base) (br := br) (k0 := k0) σ W hP
  have cS := fun W hP => rsyntax_any (gs := gs) (a := a) (cap := cap) (base := base) (br := br) (k0 := k0) hn σ W hP
  have cT := fun W hP => rtake_any (gs := gs) (a := a) (cap := cap) (base := base) (br := br) (k0 := k0) hn σ W hP
  have hsz := hP.sz
  have HP : Hid (∀ W, Below w.heap.size w W → RC gs a cap base br k0 W σ) := fun W B => hP.grown B
  obtain ⟨v, t, R, _, hl⟩ := hP.ex
  have c0 : w.cell? ⟨br, 0, none⟩ = some (.slice a gs.length cap) := R.cell 0
  have c1 : w.cell? ⟨br, 1, none⟩ = some (.int .i64 (σ.k : Int)) := R.cell 1
  have hT := hP.toks
  clear hP R hl
  have no : nameQ gs σ = false → nameC gs σ = synC gs σ ∧ nameX gs σ = noName := fun h => ⟨if_neg (by rw [h]; simp), if_neg (by rw [h]; simp)⟩
  cases hF : σ.F with
  | some y =>
    obtain ⟨e1, e2⟩ := no (by unfold nameQ; rw [hF]; rfl)
    rw [e1, e2]
    rw [hF] at cB
    clear e1 e2 no hT hF cT
    generalize hs : synC gs σ = σ' at *
    clear hs
    generalize hkk : σ.k = k at *
    generalize gs.length = n at *
    go_enter Tryz.func142, Tryz.ntmps142
    go_wp2_with fail
    refine grow_tailW 42 (by kernel_rfl) (by kernel_rfl) ?_
    simp only [List.take_succ_cons, List.take_zero, List.drop_succ_cons, List.drop_zero]
    refine WG.put rfl (v := .pointer (some ⟨br, 0, none⟩)) (fun w => by first | rfl | (go_simp; done) | (simp [go_sem]; done)) ?_
    simp only [Act.put, List.setIfInBounds_toArray, List.set_cons_succ, List.set_cons_zero]
    refine WG.call rfl (f := 43) (args := #[.pointer (some ⟨br, 0, none⟩)]) (v := .bool true) (fun w' hB' => (cB w' (HP.out _ hB')).mono (by rintro en w'' ⟨rfl, e⟩; rw [e]; exact ⟨rfl, Below.refl _ _⟩)) (fun w => by first | rfl | (go_simp; done) | (simp [go_sem]; done)) ?_
    simp only [Act.put, List.setIfInBounds_toArray, List.set_cons_succ, List.set_cons_zero]
    refine WG.put rfl (v := .bool true) (fun w => by first | rfl | (go_simp; done) | (simp [go_sem]; done)) ?_
    simp only [Act.put, List.setIfInBounds_toArray, List.set_cons_succ, List.set_cons_zero]
    refine WG.skip rfl ?_
    simp only [Act.put, List.setIfInBounds_toArray, List.set_cons_succ, List.set_cons_zero]
    refine WG.skip rfl ?_
    simp only [Act.put, List.setIfInBounds_toArray, List.set_cons_succ, List.set_cons_zero]
    refine WG.skip rfl ?_
    simp only [Act.put, List.setIfInBounds_toArray, List.set_cons_succ, List.set_cons_zero]
    refine WG.skip rfl ?_
    simp only [Act.put, List.setIfInBounds_toArray, List.set_cons_succ, List.set_cons_zero]
    refine WG.skip rfl ?_
    simp only [Act.put, List.setIfInBounds_toArray, List.set_cons_succ, List.set_cons_zero]
    refine WG.skip rfl ?_
    simp only [Act.put, List.setIfInBounds_toArray, List.set_cons_succ, List.set_cons_zero]
    refine WG.skip rfl ?_
    simp only [Act.put, List.setIfInBounds_toArray, List.set_cons_succ, List.set_cons_zero]
    refine WG.skip rfl ?_
    simp only [Act.put, List.setIfInBounds_toArray, List.set_cons_succ, List.set_cons_zero]
    refine WG.skip rfl ?_
    simp only [Act.put, List.setIfInBounds_toArray, List.set_cons_succ, List.set_cons_zero]
    refine WG.skip rfl ?_
    simp only [Act.put, List.setIfInBounds_toArray, List.set_cons_succ, List.set_cons_zero]
    refine WG.put rfl (v := .bool true) (fun w => by first | rfl | (go_simp; done) | (simp [go_sem]; done)) ?_
    simp only [Act.put, List.setIfInBounds_toArray, List.set_cons_succ, List.set_cons_zero]
    refine WG.put rfl (v := .bool true) (fun w => by first | rfl | (go_simp; done) | (simp [go_sem]; done)) ?_
    simp only [Act.put, List.setIfInBounds_toArray, List.set_cons_succ, List.set_cons_zero]
    refine WG.skip rfl ?_
    simp only [Act.put, List.setIfInBounds_toArray, List.set_cons_succ, List.set_cons_zero]
    refine WG.skip rfl ?_
    simp only [Act.put, List.setIfInBounds_toArray, List.set_cons_succ, List.set_cons_zero]
    refine WG.skip rfl ?_
    simp only [Act.put, List.setIfInBounds_toArray, List.set_cons_succ, List.set_cons_zero]
    refine WG.skip rfl ?_
    simp only [Act.put, List.setIfInBounds_toArray, List.set_cons_succ, List.set_cons_zero]
    refine WG.skip rfl ?_
    simp only [Act.put, List.setIfInBounds_toArray, List.set_cons_succ, List.set_cons_zero]
    refine WG.skip rfl ?_
    simp only [Act.put, List.setIfInBounds_toArray, List.set_cons_succ, List.set_cons_zero]
    refine WG.skip rfl ?_
    simp only [Act.put, List.setIfInBounds_toArray, List.set_cons_succ, List.set_cons_zero]
    refine WG.skip rfl ?_
    simp only [Act.put, List.setIfInBounds_toArray, List.set_cons_succ, List.set_cons_zero]
    refine WG.skip rfl ?_
    simp only [Act.put, List.setIfInBounds_toArray, List.set_cons_succ, List.set_cons_zero]
    refine WG.skip rfl ?_
    simp only [Act.put, List.setIfInBounds_toArray, List.set_cons_succ, List.set_cons_zero]
    refine WG.skip rfl ?_
    simp only [Act.put, List.setIfInBounds_toArray, List.set_cons_succ, List.set_cons_zero]
    refine WG.skip rfl ?_
    simp only [Act.put, List.setIfInBounds_toArray, List.set_cons_succ, List.set_cons_zero]
    refine WG.put rfl (v := .bool true) (fun w => by first | rfl | (go_simp; done) | (simp [go_sem]; done)) ?_
    simp only [Act.put, List.setIfInBounds_toArray, List.set_cons_succ, List.set_cons_zero]
    refine WG.put rfl (v := .bool true) (fun w => by first | rfl | (go_simp; done) | (simp [go_sem]; done)) ?_
    simp only [Act.put, List.setIfInBounds_toArray, List.set_cons_succ, List.set_cons_zero]
    refine WG.skip rfl ?_
    simp only [Act.put, List.setIfInBounds_toArray, List.set_cons_succ, List.set_cons_zero]
    refine WG.skip rfl ?_
    simp only [Act.put, List.setIfInBounds_toArray, List.set_cons_succ, List.set_cons_zero]
    refine WG.skip rfl ?_
    simp only [Act.put, List.setIfInBounds_toArray, List.set_cons_succ, List.set_cons_zero]
    refine WG.skip rfl ?_
    simp only [Act.put, List.setIfInBounds_toArray, List.set_cons_succ, List.set_cons_zero]
    refine WG.skip rfl ?_
    simp only [Act.put, List.setIfInBounds_toArray, List.set_cons_succ, List.set_cons_zero]
    refine WG.skip rfl ?_
    simp only [Act.put, List.setIfInBounds_toArray, List.set_cons_succ, List.set_cons_zero]
    refine WG.skip rfl ?_
    simp only [Act.put, List.setIfInBounds_toArray, List.set_cons_succ, List.set_cons_zero]
    refine WG.skip rfl ?_
    simp only [Act.put, List.setIfInBounds_toArray, List.set_cons_succ, List.set_cons_zero]
    refine WG.skip rfl ?_
    simp only [Act.put, List.setIfInBounds_toArray, List.set_cons_succ, List.set_cons_zero]
    refine WG.skip rfl ?_
    simp only [Act.put, List.setIfInBounds_toArray, List.set_cons_succ, List.set_cons_zero]
    refine WG.skip rfl ?_
    simp only [Act.put, List.setIfInBounds_toArray, List.set_cons_succ, List.set_cons_zero]
    refine WG.skip rfl ?_
    simp only [Act.put, List.setIfInBounds_toArray, List.set_cons_succ, List.set_cons_zero]
    refine WG.skip rfl ?_
    simp only [Act.put, List.setIfInBounds_toArray, List.set_cons_succ, List.set_cons_zero]
    refine WG.nil ?_
    intro W2 B2
    go_wp2_with (first
      | (go_at_call 141; refine (cS _ (HP.out _ B2)).mono ?_; rintro en W3 ⟨rfl, P3, B3, T3⟩))
    go_ret
    exact ⟨rfl, P3, (below_lower B2 hsz).trans B3, (Turn.of_below B2 br).trans T3⟩
  | none =>
    rw [hF] at cB
    by_cases hlt : σ.k < gs.length
    · obtain ⟨b, o, ea, _, hr⟩ := hT _ _ (gAt_lt hlt)
      subst ea
      have d0 : w.cell? ⟨b, o + CS.k σ * 7, none⟩ = some (.int .i64 (gAt gs (CS.k σ)).kind) := hr 0 _ rfl
      have d1 : w.cell? ⟨b, o + CS.k σ * 7 + 1, none⟩ = some (.string (gAt gs (CS.k σ)).text) := hr 1 _ rfl
      have hix : (CS.k σ : Int) < gs.length := by omega
      have hge : ¬ ((gs.length : Int) ≤ (CS.k σ : Int)) := by omega
      by_cases hk2 : (gAt gs σ.k).kind = 1
      · have hsz2 : (gAt gs (CS.k σ)).text.size ≤ maxLen := hn.2 _ (List.mem_of_getElem? (gAt_lt hlt))
        have cNm : ∀ w : World, Calls Tryz.prog 156 #[.string (gAt gs (CS.k σ)).text] w fun e w' => e = .returned (.bool (nameB (gAt gs (CS.k σ)).text.data.toList)) ∧ Below w.heap.size w w' := fun w => (rName_any _ hsz2 w).mono (by rintro e w' ⟨rfl, rfl⟩; exact ⟨rfl, Below.refl _ _⟩)
        have hkd : ((1 : Int) == 1) = true := rfl
        cases hnm : nameB (gAt gs (CS.k σ)).text.data.toList with
        | true =>
          have q : nameQ gs σ = true := by unfold nameQ; rw [hF]; simp [hlt, hk2, hnm]
          have e1 : nameC gs σ = takeC gs σ := if_pos q
          have e2 : nameX gs σ = (gAt gs σ.k).text := if_pos q
          have e3 : takeX gs σ = gAt gs σ.k := if_neg (by rw [hF]; simp; omega)
          rw [e1, e2]
          rw [e3] at cT
          rw [hnm] at cNm
          clear e1 e2 e3 q no hT hF cS hr hsz2 hnm
          generalize gAt gs (CS.k σ) = g at *
          obtain ⟨q1, gt, q3, q4, q5, q6, q7⟩ := g
          dsimp only [gtL] at cT ⊢
          dsimp only at cNm d0 d1
          have hfd : ∀ (w : World), (Instr.field 49 (.agg #[.int .i64 q1, .string gt, .int .i64 q3, .int .i64 q4, .int .i64 q5, .int .i64 q6, .int .i64 q7]) 1).run Tryz.prog w = .ok (.string gt) w := fun w => fld1 _ _ _ _ _ _ _ w
          dsimp only at hk2
          subst hk2
          generalize takeC gs σ = σ' at *
          generalize hkk : CS.k σ = k at *
          generalize gs.length = n at *
          go_enter Tryz.func142, Tryz.ntmps142
          go_wp2_with fail
          refine grow_tailW 42 (by kernel_rfl) (by kernel_rfl) ?_
          simp only [List.take_succ_cons, List.take_zero, List.drop_succ_cons, List.drop_zero]
          refine WG.put rfl (v := .pointer (some ⟨br, 0, none⟩)) (fun w => by first | rfl | (go_simp; done) | (simp [go_sem]; done)) ?_
          simp only [Act.put, List.setIfInBounds_toArray, List.set_cons_succ, List.set_cons_zero]
          refine WG.call rfl (f := 43) (args := #[.pointer (some ⟨br, 0, none⟩)]) (v := .bool false) (fun w' hB' => (cB w' (HP.out _ hB')).mono (by rintro en w'' ⟨rfl, e⟩; rw [e]; exact ⟨rfl, Below.refl _ _⟩)) (fun w => by first | rfl | (go_simp; done) | (simp [go_sem]; done)) ?_
          simp only [Act.put, List.setIfInBounds_toArray, List.set_cons_succ, List.set_cons_zero]
          refine WG.put rfl (v := .bool false) (fun w => by first | rfl | (go_simp; done) | (simp [go_sem]; done)) ?_
          simp only [Act.put, List.setIfInBounds_toArray, List.set_cons_succ, List.set_cons_zero]
          refine WG.put rfl (v := .pointer (some ⟨br, 0, none⟩)) (fun w => by first | rfl | (go_simp; done) | (simp [go_sem]; done)) ?_
          simp only [Act.put, List.setIfInBounds_toArray, List.set_cons_succ, List.set_cons_zero]
          refine WG.put rfl (v := .pointer (some ⟨br, 0, none⟩)) (fun w => by first | rfl | (go_simp; done) | (simp [go_sem]; done)) ?_
          simp only [Act.put, List.setIfInBounds_toArray, List.set_cons_succ, List.set_cons_zero]
          refine WG.put rfl (v := .pointer (some ⟨br, 1, none⟩)) (fun w => by first | rfl | (go_simp; done) | (simp [go_sem]; done)) ?_
          simp only [Act.put, List.setIfInBounds_toArray, List.set_cons_succ, List.set_cons_zero]
          refine WG.cell rfl 3 _ rfl rfl c1 ld3 ?_
          simp only [Act.put, List.setIfInBounds_toArray, List.set_cons_succ, List.set_cons_zero]
          refine WG.put rfl (v := .pointer (some ⟨br, 0, none⟩)) (fun w => by first | rfl | (go_simp; done) | (simp [go_sem]; done)) ?_
          simp only [Act.put, List.setIfInBounds_toArray, List.set_cons_succ, List.set_cons_zero]
          refine WG.put rfl (v := .pointer (some ⟨br, 0, none⟩)) (fun w => by first | rfl | (go_simp; done) | (simp [go_sem]; done)) ?_
          simp only [Act.put, List.setIfInBounds_toArray, List.set_cons_succ, List.set_cons_zero]
          refine WG.put rfl (v := .pointer (some ⟨br, 0, none⟩)) (fun w => by first | rfl | (go_simp; done) | (simp [go_sem]; done)) ?_
          simp only [Act.put, List.setIfInBounds_toArray, List.set_cons_succ, List.set_cons_zero]
          refine WG.cell rfl 43 _ rfl rfl c0 ldTk ?_
          simp only [Act.put, List.setIfInBounds_toArray, List.set_cons_succ, List.set_cons_zero]
          refine WG.put rfl (v := .int .i64 (n : Int)) (fun w => by first | rfl | (go_simp; done) | (simp [go_sem]; done)) ?_
          simp only [Act.put, List.setIfInBounds_toArray, List.set_cons_succ, List.set_cons_zero]
          refine WG.put rfl (v := .bool false) (fun w => by first | rfl | (go_simp; done) | (simp [go_sem, hge, hlt]; done)) ?_
          simp only [Act.put, List.setIfInBounds_toArray, List.set_cons_succ, List.set_cons_zero]
          refine WG.put rfl (v := .bool false) (fun w => by first | rfl | (go_simp; done) | (simp [go_sem]; done)) ?_
          simp only [Act.put, List.setIfInBounds_toArray, List.set_cons_succ, List.set_cons_zero]
          refine WG.put rfl (v := .bool false) (fun w => by first | rfl | (go_simp; done) | (simp [go_sem]; done)) ?_
          simp only [Act.put, List.setIfInBounds_toArray, List.set_cons_succ, List.set_cons_zero]
          refine WG.put rfl (v := .pointer (some ⟨br, 0, none⟩)) (fun w => by first | rfl | (go_simp; done) | (simp [go_sem]; done)) ?_
          simp only [Act.put, List.setIfInBounds_toArray, List.set_cons_succ, List.set_cons_zero]
          refine WG.put rfl (v := .pointer (some ⟨br, 0, none⟩)) (fun w => by first | rfl | (go_simp; done) | (simp [go_sem]; done)) ?_
          simp only [Act.put, List.setIfInBounds_toArray, List.set_cons_succ, List.set_cons_zero]
          refine WG.put rfl (v := .pointer (some ⟨br, 0, none⟩)) (fun w => by first | rfl | (go_simp; done) | (simp [go_sem]; done)) ?_
          simp only [Act.put, List.setIfInBounds_toArray, List.set_cons_succ, List.set_cons_zero]
          refine WG.cell rfl 43 _ rfl rfl c0 ldTk ?_
          simp only [Act.put, List.setIfInBounds_toArray, List.set_cons_succ, List.set_cons_zero]
          refine WG.put rfl (v := .pointer (some ⟨br, 0, none⟩)) (fun w => by first | rfl | (go_simp; done) | (simp [go_sem]; done)) ?_
          simp only [Act.put, List.setIfInBounds_toArray, List.set_cons_succ, List.set_cons_zero]
          refine WG.put rfl (v := .pointer (some ⟨br, 0, none⟩)) (fun w => by first | rfl | (go_simp; done) | (simp [go_sem]; done)) ?_
          simp only [Act.put, List.setIfInBounds_toArray, List.set_cons_succ, List.set_cons_zero]
          refine WG.put rfl (v := .pointer (some ⟨br, 1, none⟩)) (fun w => by first | rfl | (go_simp; done) | (simp [go_sem]; done)) ?_
          simp only [Act.put, List.setIfInBounds_toArray, List.set_cons_succ, List.set_cons_zero]
          refine WG.cell rfl 3 _ rfl rfl c1 ld3 ?_
          simp only [Act.put, List.setIfInBounds_toArray, List.set_cons_succ, List.set_cons_zero]
          refine WG.put rfl (v := .pointer (some ⟨b, o + k * 7, none⟩)) (fun w => by first | rfl | (go_simp; done) | (simp [go_sem, hix]; done)) ?_
          simp only [Act.put, List.setIfInBounds_toArray, List.set_cons_succ, List.set_cons_zero]
          refine WG.put rfl (v := .pointer (some ⟨b, o + k * 7, none⟩)) (fun w => by first | rfl | (go_simp; done) | (simp [go_sem]; done)) ?_
          simp only [Act.put, List.setIfInBounds_toArray, List.set_cons_succ, List.set_cons_zero]
          refine WG.cell rfl 3 _ rfl rfl d0 ld3 ?_
          simp only [Act.put, List.setIfInBounds_toArray, List.set_cons_succ, List.set_cons_zero]
          refine WG.put rfl (v := .bool false) (fun w => by first | rfl | (go_simp; done) | (simp [go_sem, hkd]; done)) ?_
          simp only [Act.put, List.setIfInBounds_toArray, List.set_cons_succ, List.set_cons_zero]
          refine WG.put rfl (v := .bool false) (fun w => by first | rfl | (go_simp; done) | (simp [go_sem]; done)) ?_
          simp only [Act.put, List.setIfInBounds_toArray, List.set_cons_succ, List.set_cons_zero]
          refine WG.put rfl (v := .bool false) (fun w => by first | rfl | (go_simp; done) | (simp [go_sem]; done)) ?_
          simp only [Act.put, List.setIfInBounds_toArray, List.set_cons_succ, List.set_cons_zero]
          refine WG.put rfl (v := .pointer (some ⟨br, 0, none⟩)) (fun w => by first | rfl | (go_simp; done) | (simp [go_sem]; done)) ?_
          simp only [Act.put, List.setIfInBounds_toArray, List.set_cons_succ, List.set_cons_zero]
          refine WG.put rfl (v := .pointer (some ⟨br, 0, none⟩)) (fun w => by first | rfl | (go_simp; done) | (simp [go_sem]; done)) ?_
          simp only [Act.put, List.setIfInBounds_toArray, List.set_cons_succ, List.set_cons_zero]
          refine WG.put rfl (v := .pointer (some ⟨br, 0, none⟩)) (fun w => by first | rfl | (go_simp; done) | (simp [go_sem]; done)) ?_
          simp only [Act.put, List.setIfInBounds_toArray, List.set_cons_succ, List.set_cons_zero]
          refine WG.cell rfl 43 _ rfl rfl c0 ldTk ?_
          simp only [Act.put, List.setIfInBounds_toArray, List.set_cons_succ, List.set_cons_zero]
          refine WG.put rfl (v := .pointer (some ⟨br, 0, none⟩)) (fun w => by first | rfl | (go_simp; done) | (simp [go_sem]; done)) ?_
          simp only [Act.put, List.setIfInBounds_toArray, List.set_cons_succ, List.set_cons_zero]
          refine WG.put rfl (v := .pointer (some ⟨br, 0, none⟩)) (fun w => by first | rfl | (go_simp; done) | (simp [go_sem]; done)) ?_
          simp only [Act.put, List.setIfInBounds_toArray, List.set_cons_succ, List.set_cons_zero]
          refine WG.put rfl (v := .pointer (some ⟨br, 1, none⟩)) (fun w => by first | rfl | (go_simp; done) | (simp [go_sem]; done)) ?_
          simp only [Act.put, List.setIfInBounds_toArray, List.set_cons_succ, List.set_cons_zero]
          refine WG.cell rfl 3 _ rfl rfl c1 ld3 ?_
          simp only [Act.put, List.setIfInBounds_toArray, List.set_cons_succ, List.set_cons_zero]
          refine WG.put rfl (v := .pointer (some ⟨b, o + k * 7, none⟩)) (fun w => by first | rfl | (go_simp; done) | (simp [go_sem, hix]; done)) ?_
          simp only [Act.put, List.setIfInBounds_toArray, List.set_cons_succ, List.set_cons_zero]
          refine WG.put rfl (v := .pointer (some ⟨b, o + k * 7 + 1, none⟩)) (fun w => by first | rfl | (go_simp; done) | (simp [go_sem]; done)) ?_
          simp only [Act.put, List.setIfInBounds_toArray, List.set_cons_succ, List.set_cons_zero]
          refine WG.cell rfl 9 _ rfl rfl d1 ld9 ?_
          simp only [Act.put, List.setIfInBounds_toArray, List.set_cons_succ, List.set_cons_zero]
          refine WG.call rfl (f := 156) (args := #[.string gt]) (v := .bool true) (fun w' hB' => cNm w') (fun w => by first | rfl | (go_simp; done) | (simp [go_sem]; done)) ?_
          simp only [Act.put, List.setIfInBounds_toArray, List.set_cons_succ, List.set_cons_zero]
          refine WG.put rfl (v := .bool false) (fun w => by first | rfl | (go_simp; done) | (simp [go_sem]; done)) ?_
          simp only [Act.put, List.setIfInBounds_toArray, List.set_cons_succ, List.set_cons_zero]
          refine WG.nil ?_
          intro W2 B2
          go_wp2_with (first
            | (go_at_call 68; refine (cT _ (HP.out _ B2)).mono ?_; rintro en W3 ⟨rfl, P3, B3, T3⟩))
          go_ret
          exact ⟨rfl, P3, (below_lower B2 hsz).trans B3, (Turn.of_below B2 br).trans T3⟩
        | false =>
          obtain ⟨e1, e2⟩ := no (by unfold nameQ; simp [hnm])
          rw [e1, e2]
          rw [hnm] at cNm
          clear e1 e2 no hT hF cT hr hsz2 hnm
          rw [hk2] at d0
          generalize hs : synC gs σ = σ' at *
          clear hs hk2
          generalize (gAt gs (CS.k σ)).text = gt at *
          generalize hkk : CS.k σ = k at *
          generalize gs.length = n at *
          go_enter Tryz.func142, Tryz.ntmps142
          go_wp2_with fail
          refine grow_tailW 42 (by kernel_rfl) (by kernel_rfl) ?_
          simp only [List.take_succ_cons, List.take_zero, List.drop_succ_cons, List.drop_zero]
          refine WG.put rfl (v := .pointer (some ⟨br, 0, none⟩)) (fun w => by first | rfl | (go_simp; done) | (simp [go_sem]; done)) ?_
          simp only [Act.put, List.setIfInBounds_toArray, List.set_cons_succ, List.set_cons_zero]
          refine WG.call rfl (f := 43) (args := #[.pointer (some ⟨br, 0, none⟩)]) (v := .bool false) (fun w' hB' => (cB w' (HP.out _ hB')).mono (by rintro en w'' ⟨rfl, e⟩; rw [e]; exact ⟨rfl, Below.refl _ _⟩)) (fun w => by first | rfl | (go_simp; done) | (simp [go_sem]; done)) ?_
          simp only [Act.put, List.setIfInBounds_toArray, List.set_cons_succ, List.set_cons_zero]
          refine WG.put rfl (v := .bool false) (fun w => by first | rfl | (go_simp; done) | (simp [go_sem]; done)) ?_
          simp only [Act.put, List.setIfInBounds_toArray, List.set_cons_succ, List.set_cons_zero]
          refine WG.put rfl (v := .pointer (some ⟨br, 0, none⟩)) (fun w => by first | rfl | (go_simp; done) | (simp [go_sem]; done)) ?_
          simp only [Act.put, List.setIfInBounds_toArray, List.set_cons_succ, List.set_cons_zero]
          refine WG.put rfl (v := .pointer (some ⟨br, 0, none⟩)) (fun w => by first | rfl | (go_simp; done) | (simp [go_sem]; done)) ?_
          simp only [Act.put, List.setIfInBounds_toArray, List.set_cons_succ, List.set_cons_zero]
          refine WG.put rfl (v := .pointer (some ⟨br, 1, none⟩)) (fun w => by first | rfl | (go_simp; done) | (simp [go_sem]; done)) ?_
          simp only [Act.put, List.setIfInBounds_toArray, List.set_cons_succ, List.set_cons_zero]
          refine WG.cell rfl 3 _ rfl rfl c1 ld3 ?_
          simp only [Act.put, List.setIfInBounds_toArray, List.set_cons_succ, List.set_cons_zero]
          refine WG.put rfl (v := .pointer (some ⟨br, 0, none⟩)) (fun w => by first | rfl | (go_simp; done) | (simp [go_sem]; done)) ?_
          simp only [Act.put, List.setIfInBounds_toArray, List.set_cons_succ, List.set_cons_zero]
          refine WG.put rfl (v := .pointer (some ⟨br, 0, none⟩)) (fun w => by first | rfl | (go_simp; done) | (simp [go_sem]; done)) ?_
          simp only [Act.put, List.setIfInBounds_toArray, List.set_cons_succ, List.set_cons_zero]
          refine WG.put rfl (v := .pointer (some ⟨br, 0, none⟩)) (fun w => by first | rfl | (go_simp; done) | (simp [go_sem]; done)) ?_
          simp only [Act.put, List.setIfInBounds_toArray, List.set_cons_succ, List.set_cons_zero]
          refine WG.cell rfl 43 _ rfl rfl c0 ldTk ?_
          simp only [Act.put, List.setIfInBounds_toArray, List.set_cons_succ, List.set_cons_zero]
          refine WG.put rfl (v := .int .i64 (n : Int)) (fun w => by first | rfl | (go_simp; done) | (simp [go_sem]; done)) ?_
          simp only [Act.put, List.setIfInBounds_toArray, List.set_cons_succ, List.set_cons_zero]
          refine WG.put rfl (v := .bool false) (fun w => by first | rfl | (go_simp; done) | (simp [go_sem, hge, hlt]; done)) ?_
          simp only [Act.put, List.setIfInBounds_toArray, List.set_cons_succ, List.set_cons_zero]
          refine WG.put rfl (v := .bool false) (fun w => by first | rfl | (go_simp; done) | (simp [go_sem]; done)) ?_
          simp only [Act.put, List.setIfInBounds_toArray, List.set_cons_succ, List.set_cons_zero]
          refine WG.put rfl (v := .bool false) (fun w => by first | rfl | (go_simp; done) | (simp [go_sem]; done)) ?_
          simp only [Act.put, List.setIfInBounds_toArray, List.set_cons_succ, List.set_cons_zero]
          refine WG.put rfl (v := .pointer (some ⟨br, 0, none⟩)) (fun w => by first | rfl | (go_simp; done) | (simp [go_sem]; done)) ?_
          simp only [Act.put, List.setIfInBounds_toArray, List.set_cons_succ, List.set_cons_zero]
          refine WG.put rfl (v := .pointer (some ⟨br, 0, none⟩)) (fun w => by first | rfl | (go_simp; done) | (simp [go_sem]; done)) ?_
          simp only [Act.put, List.setIfInBounds_toArray, List.set_cons_succ, List.set_cons_zero]
          refine WG.put rfl (v := .pointer (some ⟨br, 0, none⟩)) (fun w => by first | rfl | (go_simp; done) | (simp [go_sem]; done)) ?_
          simp only [Act.put, List.setIfInBounds_toArray, List.set_cons_succ, List.set_cons_zero]
          refine WG.cell rfl 43 _ rfl rfl c0 ldTk ?_
          simp only [Act.put, List.setIfInBounds_toArray, List.set_cons_succ, List.set_cons_zero]
          refine WG.put rfl (v := .pointer (some ⟨br, 0, none⟩)) (fun w => by first | rfl | (go_simp; done) | (simp [go_sem]; done)) ?_
          simp only [Act.put, List.setIfInBounds_toArray, List.set_cons_succ, List.set_cons_zero]
          refine WG.put rfl (v := .pointer (some ⟨br, 0, none⟩)) (fun w => by first | rfl | (go_simp; done) | (simp [go_sem]; done)) ?_
          simp only [Act.put, List.setIfInBounds_toArray, List.set_cons_succ, List.set_cons_zero]
          refine WG.put rfl (v := .pointer (some ⟨br, 1, none⟩)) (fun w => by first | rfl | (go_simp; done) | (simp [go_sem]; done)) ?_
          simp only [Act.put, List.setIfInBounds_toArray, List.set_cons_succ, List.set_cons_zero]
          refine WG.cell rfl 3 _ rfl rfl c1 ld3 ?_
          simp only [Act.put, List.setIfInBounds_toArray, List.set_cons_succ, List.set_cons_zero]
          refine WG.put rfl (v := .pointer (some ⟨b, o + k * 7, none⟩)) (fun w => by first | rfl | (go_simp; done) | (simp [go_sem, hix]; done)) ?_
          simp only [Act.put, List.setIfInBounds_toArray, List.set_cons_succ, List.set_cons_zero]
          refine WG.put rfl (v := .pointer (some ⟨b, o + k * 7, none⟩)) (fun w => by first | rfl | (go_simp; done) | (simp [go_sem]; done)) ?_
          simp only [Act.put, List.setIfInBounds_toArray, List.set_cons_succ, List.set_cons_zero]
          refine WG.cell rfl 3 _ rfl rfl d0 ld3 ?_
          simp only [Act.put, List.setIfInBounds_toArray, List.set_cons_succ, List.set_cons_zero]
          refine WG.put rfl (v := .bool false) (fun w => by first | rfl | (go_simp; done) | (simp [go_sem, hkd]; done)) ?_
          simp only [Act.put, List.setIfInBounds_toArray, List.set_cons_succ, List.set_cons_zero]
          refine WG.put rfl (v := .bool false) (fun w => by first | rfl | (go_simp; done) | (simp [go_sem]; done)) ?_
          simp only [Act.put, List.setIfInBounds_toArray, List.set_cons_succ, List.set_cons_zero]
          refine WG.put rfl (v := .bool false) (fun w => by first | rfl | (go_simp; done) | (simp [go_sem]; done)) ?_
          simp only [Act.put, List.setIfInBounds_toArray, List.set_cons_succ, List.set_cons_zero]
          refine WG.put rfl (v := .pointer (some ⟨br, 0, none⟩)) (fun w => by first | rfl | (go_simp; done) | (simp [go_sem]; done)) ?_
          simp only [Act.put, List.setIfInBounds_toArray, List.set_cons_succ, List.set_cons_zero]
          refine WG.put rfl (v := .pointer (some ⟨br, 0, none⟩)) (fun w => by first | rfl | (go_simp; done) | (simp [go_sem]; done)) ?_
          simp only [Act.put, List.setIfInBounds_toArray, List.set_cons_succ, List.set_cons_zero]
          refine WG.put rfl (v := .pointer (some ⟨br, 0, none⟩)) (fun w => by first | rfl | (go_simp; done) | (simp [go_sem]; done)) ?_
          simp only [Act.put, List.setIfInBounds_toArray, List.set_cons_succ, List.set_cons_zero]
          refine WG.cell rfl 43 _ rfl rfl c0 ldTk ?_
          simp only [Act.put, List.setIfInBounds_toArray, List.set_cons_succ, List.set_cons_zero]
          refine WG.put rfl (v := .pointer (some ⟨br, 0, none⟩)) (fun w => by first | rfl | (go_simp; done) | (simp [go_sem]; done)) ?_
          simp only [Act.put, List.setIfInBounds_toArray, List.set_cons_succ, List.set_cons_zero]
          refine WG.put rfl (v := .pointer (some ⟨br, 0, none⟩)) (fun w => by first | rfl | (go_simp; done) | (simp [go_sem]; done)) ?_
          simp only [Act.put, List.setIfInBounds_toArray, List.set_cons_succ, List.set_cons_zero]
          refine WG.put rfl (v := .pointer (some ⟨br, 1, none⟩)) (fun w => by first | rfl | (go_simp; done) | (simp [go_sem]; done)) ?_
          simp only [Act.put, List.setIfInBounds_toArray, List.set_cons_succ, List.set_cons_zero]
          refine WG.cell rfl 3 _ rfl rfl c1 ld3 ?_
          simp only [Act.put, List.setIfInBounds_toArray, List.set_cons_succ, List.set_cons_zero]
          refine WG.put rfl (v := .pointer (some ⟨b, o + k * 7, none⟩)) (fun w => by first | rfl | (go_simp; done) | (simp [go_sem, hix]; done)) ?_
          simp only [Act.put, List.setIfInBounds_toArray, List.set_cons_succ, List.set_cons_zero]
          refine WG.put rfl (v := .pointer (some ⟨b, o + k * 7 + 1, none⟩)) (fun w => by first | rfl | (go_simp; done) | (simp [go_sem]; done)) ?_
          simp only [Act.put, List.setIfInBounds_toArray, List.set_cons_succ, List.set_cons_zero]
          refine WG.cell rfl 9 _ rfl rfl d1 ld9 ?_
          simp only [Act.put, List.setIfInBounds_toArray, List.set_cons_succ, List.set_cons_zero]
          refine WG.call rfl (f := 156) (args := #[.string gt]) (v := .bool false) (fun w' hB' => cNm w') (fun w => by first | rfl | (go_simp; done) | (simp [go_sem]; done)) ?_
          simp only [Act.put, List.setIfInBounds_toArray, List.set_cons_succ, List.set_cons_zero]
          refine WG.put rfl (v := .bool true) (fun w => by first | rfl | (go_simp; done) | (simp [go_sem]; done)) ?_
          simp only [Act.put, List.setIfInBounds_toArray, List.set_cons_succ, List.set_cons_zero]
          refine WG.nil ?_
          intro W2 B2
          go_wp2_with (first
            | (go_at_call 141; refine (cS _ (HP.out _ B2)).mono ?_; rintro en W3 ⟨rfl, P3, B3, T3⟩))
          go_ret
          exact ⟨rfl, P3, (below_lower B2 hsz).trans B3, (Turn.of_below B2 br).trans T3⟩
      · obtain ⟨e1, e2⟩ := no (by unfold nameQ; simp [hk2])
        rw [e1, e2]
        have hkd : ((gAt gs (CS.k σ)).kind == 1) = false := by simpa using hk2
        have hkd2 : ¬ ((gAt gs (CS.k σ)).kind = 1) := hk2
        clear e1 e2 no hT hF cT hk2 hr d1
        generalize hs : synC gs σ = σ' at *
        clear hs
        generalize (gAt gs (CS.k σ)).kind = gk at *
        generalize hkk : CS.k σ = k at *
        generalize gs.length = n at *
        go_enter Tryz.func142, Tryz.ntmps142
        go_wp2_with fail
        refine grow_tailW 42 (by kernel_rfl) (by kernel_rfl) ?_
        simp only [List.take_succ_cons, List.take_zero, List.drop_succ_cons, List.drop_zero]
        refine WG.put rfl (v := .pointer (some ⟨br, 0, none⟩)) (fun w => by first | rfl | (go_simp; done) | (simp [go_sem]; done)) ?_
        simp only [Act.put, List.setIfInBounds_toArray, List.set_cons_succ, List.set_cons_zero]
        refine WG.call rfl (f := 43) (args := #[.pointer (some ⟨br, 0, none⟩)]) (v := .bool false) (fun w' hB' => (cB w' (HP.out _ hB')).mono (by rintro en w'' ⟨rfl, e⟩; rw [e]; exact ⟨rfl, Below.refl _ _⟩)) (fun w => by first | rfl | (go_simp; done) | (simp [go_sem]; done)) ?_
        simp only [Act.put, List.setIfInBounds_toArray, List.set_cons_succ, List.set_cons_zero]
        refine WG.put rfl (v := .bool false) (fun w => by first | rfl | (go_simp; done) | (simp [go_sem]; done)) ?_
        simp only [Act.put, List.setIfInBounds_toArray, List.set_cons_succ, List.set_cons_zero]
        refine WG.put rfl (v := .pointer (some ⟨br, 0, none⟩)) (fun w => by first | rfl | (go_simp; done) | (simp [go_sem]; done)) ?_
        simp only [Act.put, List.setIfInBounds_toArray, List.set_cons_succ, List.set_cons_zero]
        refine WG.put rfl (v := .pointer (some ⟨br, 0, none⟩)) (fun w => by first | rfl | (go_simp; done) | (simp [go_sem]; done)) ?_
        simp only [Act.put, List.setIfInBounds_toArray, List.set_cons_succ, List.set_cons_zero]
        refine WG.put rfl (v := .pointer (some ⟨br, 1, none⟩)) (fun w => by first | rfl | (go_simp; done) | (simp [go_sem]; done)) ?_
        simp only [Act.put, List.setIfInBounds_toArray, List.set_cons_succ, List.set_cons_zero]
        refine WG.cell rfl 3 _ rfl rfl c1 ld3 ?_
        simp only [Act.put, List.setIfInBounds_toArray, List.set_cons_succ, List.set_cons_zero]
        refine WG.put rfl (v := .pointer (some ⟨br, 0, none⟩)) (fun w => by first | rfl | (go_simp; done) | (simp [go_sem]; done)) ?_
        simp only [Act.put, List.setIfInBounds_toArray, List.set_cons_succ, List.set_cons_zero]
        refine WG.put rfl (v := .pointer (some ⟨br, 0, none⟩)) (fun w => by first | rfl | (go_simp; done) | (simp [go_sem]; done)) ?_
        simp only [Act.put, List.setIfInBounds_toArray, List.set_cons_succ, List.set_cons_zero]
        refine WG.put rfl (v := .pointer (some ⟨br, 0, none⟩)) (fun w => by first | rfl | (go_simp; done) | (simp [go_sem]; done)) ?_
        simp only [Act.put, List.setIfInBounds_toArray, List.set_cons_succ, List.set_cons_zero]
        refine WG.cell rfl 43 _ rfl rfl c0 ldTk ?_
        simp only [Act.put, List.setIfInBounds_toArray, List.set_cons_succ, List.set_cons_zero]
        refine WG.put rfl (v := .int .i64 (n : Int)) (fun w => by first | rfl | (go_simp; done) | (simp [go_sem]; done)) ?_
        simp only [Act.put, List.setIfInBounds_toArray, List.set_cons_succ, List.set_cons_zero]
        refine WG.put rfl (v := .bool false) (fun w => by first | rfl | (go_simp; done) | (simp [go_sem, hge, hlt]; done)) ?_
        simp only [Act.put, List.setIfInBounds_toArray, List.set_cons_succ, List.set_cons_zero]
        refine WG.put rfl (v := .bool false) (fun w => by first | rfl | (go_simp; done) | (simp [go_sem]; done)) ?_
        simp only [Act.put, List.setIfInBounds_toArray, List.set_cons_succ, List.set_cons_zero]
        refine WG.put rfl (v := .bool false) (fun w => by first | rfl | (go_simp; done) | (simp [go_sem]; done)) ?_
        simp only [Act.put, List.setIfInBounds_toArray, List.set_cons_succ, List.set_cons_zero]
        refine WG.put rfl (v := .pointer (some ⟨br, 0, none⟩)) (fun w => by first | rfl | (go_simp; done) | (simp [go_sem]; done)) ?_
        simp only [Act.put, List.setIfInBounds_toArray, List.set_cons_succ, List.set_cons_zero]
        refine WG.put rfl (v := .pointer (some ⟨br, 0, none⟩)) (fun w => by first | rfl | (go_simp; done) | (simp [go_sem]; done)) ?_
        simp only [Act.put, List.setIfInBounds_toArray, List.set_cons_succ, List.set_cons_zero]
        refine WG.put rfl (v := .pointer (some ⟨br, 0, none⟩)) (fun w => by first | rfl | (go_simp; done) | (simp [go_sem]; done)) ?_
        simp only [Act.put, List.setIfInBounds_toArray, List.set_cons_succ, List.set_cons_zero]
        refine WG.cell rfl 43 _ rfl rfl c0 ldTk ?_
        simp only [Act.put, List.setIfInBounds_toArray, List.set_cons_succ, List.set_cons_zero]
        refine WG.put rfl (v := .pointer (some ⟨br, 0, none⟩)) (fun w => by first | rfl | (go_simp; done) | (simp [go_sem]; done)) ?_
        simp only [Act.put, List.setIfInBounds_toArray, List.set_cons_succ, List.set_cons_zero]
        refine WG.put rfl (v := .pointer (some ⟨br, 0, none⟩)) (fun w => by first | rfl | (go_simp; done) | (simp [go_sem]; done)) ?_
        simp only [Act.put, List.setIfInBounds_toArray, List.set_cons_succ, List.set_cons_zero]
        refine WG.put rfl (v := .pointer (some ⟨br, 1, none⟩)) (fun w => by first | rfl | (go_simp; done) | (simp [go_sem]; done)) ?_
        simp only [Act.put, List.setIfInBounds_toArray, List.set_cons_succ, List.set_cons_zero]
        refine WG.cell rfl 3 _ rfl rfl c1 ld3 ?_
        simp only [Act.put, List.setIfInBounds_toArray, List.set_cons_succ, List.set_cons_zero]
        refine WG.put rfl (v := .pointer (some ⟨b, o + k * 7, none⟩)) (fun w => by first | rfl | (go_simp; done) | (simp [go_sem, hix]; done)) ?_
        simp only [Act.put, List.setIfInBounds_toArray, List.set_cons_succ, List.set_cons_zero]
        refine WG.put rfl (v := .pointer (some ⟨b, o + k * 7, none⟩)) (fun w => by first | rfl | (go_simp; done) | (simp [go_sem]; done)) ?_
        simp only [Act.put, List.setIfInBounds_toArray, List.set_cons_succ, List.set_cons_zero]
        refine WG.cell rfl 3 _ rfl rfl d0 ld3 ?_
        simp only [Act.put, List.setIfInBounds_toArray, List.set_cons_succ, List.set_cons_zero]
        refine WG.put rfl (v := .bool true) (fun w => by first | rfl | (go_simp; done) | (simp [go_sem, hkd, hkd2, bne]; done)) ?_
        simp only [Act.put, List.setIfInBounds_toArray, List.set_cons_succ, List.set_cons_zero]
        refine WG.put rfl (v := .bool true) (fun w => by first | rfl | (go_simp; done) | (simp [go_sem]; done)) ?_
        simp only [Act.put, List.setIfInBounds_toArray, List.set_cons_succ, List.set_cons_zero]
        refine WG.put rfl (v := .bool true) (fun w => by first | rfl | (go_simp; done) | (simp [go_sem]; done)) ?_
        simp only [Act.put, List.setIfInBounds_toArray, List.set_cons_succ, List.set_cons_zero]
        refine WG.skip rfl ?_
        simp only [Act.put, List.setIfInBounds_toArray, List.set_cons_succ, List.set_cons_zero]
        refine WG.skip rfl ?_
        simp only [Act.put, List.setIfInBounds_toArray, List.set_cons_succ, List.set_cons_zero]
        refine WG.skip rfl ?_
        simp only [Act.put, List.setIfInBounds_toArray, List.set_cons_succ, List.set_cons_zero]
        refine WG.skip rfl ?_
        simp only [Act.put, List.setIfInBounds_toArray, List.set_cons_succ, List.set_cons_zero]
        refine WG.skip rfl ?_
        simp only [Act.put, List.setIfInBounds_toArray, List.set_cons_succ, List.set_cons_zero]
        refine WG.skip rfl ?_
        simp only [Act.put, List.setIfInBounds_toArray, List.set_cons_succ, List.set_cons_zero]
        refine WG.skip rfl ?_
        simp only [Act.put, List.setIfInBounds_toArray, List.set_cons_succ, List.set_cons_zero]
        refine WG.skip rfl ?_
        simp only [Act.put, List.setIfInBounds_toArray, List.set_cons_succ, List.set_cons_zero]
        refine WG.skip rfl ?_
        simp only [Act.put, List.setIfInBounds_toArray, List.set_cons_succ, List.set_cons_zero]
        refine WG.skip rfl ?_
        simp only [Act.put, List.setIfInBounds_toArray, List.set_cons_succ, List.set_cons_zero]
        refine WG.skip rfl ?_
        simp only [Act.put, List.setIfInBounds_toArray, List.set_cons_succ, List.set_cons_zero]
        refine WG.skip rfl ?_
        simp only [Act.put, List.setIfInBounds_toArray, List.set_cons_succ, List.set_cons_zero]
        refine WG.skip rfl ?_
        simp only [Act.put, List.setIfInBounds_toArray, List.set_cons_succ, List.set_cons_zero]
        refine WG.nil ?_
        intro W2 B2
        go_wp2_with (first
          | (go_at_call 141; refine (cS _ (HP.out _ B2)).mono ?_; rintro en W3 ⟨rfl, P3, B3, T3⟩))
        go_ret
        exact ⟨rfl, P3, (below_lower B2 hsz).trans B3, (Turn.of_below B2 br).trans T3⟩
    · obtain ⟨e1, e2⟩ := no (by unfold nameQ; simp [hlt])
      rw [e1, e2]
      have hge : (gs.length : Int) ≤ (CS.k σ : Int) := by omega
      clear e1 e2 no hT hF cT hlt
      generalize hs : synC gs σ = σ' at *
      clear hs
      generalize hkk : σ.k = k at *
      generalize gs.length = n at *
      go_enter Tryz.func142, Tryz.ntmps142
      go_wp2_with fail
      refine grow_tailW 42 (by kernel_rfl) (by kernel_rfl) ?_
      simp only [List.take_succ_cons, List.take_zero, List.drop_succ_cons, List.drop_zero]
      refine WG.put rfl (v := .pointer (some ⟨br, 0, none⟩)) (fun w => by first | rfl | (go_simp; done) | (simp [go_sem]; done)) ?_
      simp only [Act.put, List.setIfInBounds_toArray, List.set_cons_succ, List.set_cons_zero]
      refine WG.call rfl (f := 43) (args := #[.pointer (some ⟨br, 0, none⟩)]) (v := .bool false) (fun w' hB' => (cB w' (HP.out _ hB')).mono (by rintro en w'' ⟨rfl, e⟩; rw [e]; exact ⟨rfl, Below.refl _ _⟩)) (fun w => by first | rfl | (go_simp; done) | (simp [go_sem]; done)) ?_
      simp only [Act.put, List.setIfInBounds_toArray, List.set_cons_succ, List.set_cons_zero]
      refine WG.put rfl (v := .bool false) (fun w => by first | rfl | (go_simp; done) | (simp [go_sem]; done)) ?_
      simp only [Act.put, List.setIfInBounds_toArray, List.set_cons_succ, List.set_cons_zero]
      refine WG.put rfl (v := .pointer (some ⟨br, 0, none⟩)) (fun w => by first | rfl | (go_simp; done) | (simp [go_sem]; done)) ?_
      simp only [Act.put, List.setIfInBounds_toArray, List.set_cons_succ, List.set_cons_zero]
      refine WG.put rfl (v := .pointer (some ⟨br, 0, none⟩)) (fun w => by first | rfl | (go_simp; done) | (simp [go_sem]; done)) ?_
      simp only [Act.put, List.setIfInBounds_toArray, List.set_cons_succ, List.set_cons_zero]
      refine WG.put rfl (v := .pointer (some ⟨br, 1, none⟩)) (fun w => by first | rfl | (go_simp; done) | (simp [go_sem]; done)) ?_
      simp only [Act.put, List.setIfInBounds_toArray, List.set_cons_succ, List.set_cons_zero]
      refine WG.cell rfl 3 _ rfl rfl c1 ld3 ?_
      simp only [Act.put, List.setIfInBounds_toArray, List.set_cons_succ, List.set_cons_zero]
      refine WG.put rfl (v := .pointer (some ⟨br, 0, none⟩)) (fun w => by first | rfl | (go_simp; done) | (simp [go_sem]; done)) ?_
      simp only [Act.put, List.setIfInBounds_toArray, List.set_cons_succ, List.set_cons_zero]
      refine WG.put rfl (v := .pointer (some ⟨br, 0, none⟩)) (fun w => by first | rfl | (go_simp; done) | (simp [go_sem]; done)) ?_
      simp only [Act.put, List.setIfInBounds_toArray, List.set_cons_succ, List.set_cons_zero]
      refine WG.put rfl (v := .pointer (some ⟨br, 0, none⟩)) (fun w => by first | rfl | (go_simp; done) | (simp [go_sem]; done)) ?_
      simp only [Act.put, List.setIfInBounds_toArray, List.set_cons_succ, List.set_cons_zero]
      refine WG.cell rfl 43 _ rfl rfl c0 ldTk ?_
      simp only [Act.put, List.setIfInBounds_toArray, List.set_cons_succ, List.set_cons_zero]
      refine WG.put rfl (v := .int .i64 (n : Int)) (fun w => by first | rfl | (go_simp; done) | (simp [go_sem]; done)) ?_
      simp only [Act.put, List.setIfInBounds_toArray, List.set_cons_succ, List.set_cons_zero]
      refine WG.put rfl (v := .bool true) (fun w => by first | rfl | (go_simp; done) | (simp [go_sem, hge]; done)) ?_
      simp only [Act.put, List.setIfInBounds_toArray, List.set_cons_succ, List.set_cons_zero]
      refine WG.put rfl (v := .bool true) (fun w => by first | rfl | (go_simp; done) | (simp [go_sem]; done)) ?_
      simp only [Act.put, List.setIfInBounds_toArray, List.set_cons_succ, List.set_cons_zero]
      refine WG.put rfl (v := .bool true) (fun w => by first | rfl | (go_simp; done) | (simp [go_sem]; done)) ?_
      simp only [Act.put, List.setIfInBounds_toArray, List.set_cons_succ, List.set_cons_zero]
      refine WG.skip rfl ?_
      simp only [Act.put, List.setIfInBounds_toArray, List.set_cons_succ, List.set_cons_zero]
      refine WG.skip rfl ?_
      simp only [Act.put, List.setIfInBounds_toArray, List.set_cons_succ, List.set_cons_zero]
      refine WG.skip rfl ?_
      simp only [Act.put, List.setIfInBounds_toArray, List.set_cons_succ, List.set_cons_zero]
      refine WG.skip rfl ?_
      simp only [Act.put, List.setIfInBounds_toArray, List.set_cons_succ, List.set_cons_zero]
      refine WG.skip rfl ?_
      simp only [Act.put, List.setIfInBounds_toArray, List.set_cons_succ, List.set_cons_zero]
      refine WG.skip rfl ?_
      simp only [Act.put, List.setIfInBounds_toArray, List.set_cons_succ, List.set_cons_zero]
      refine WG.skip rfl ?_
      simp only [Act.put, List.setIfInBounds_toArray, List.set_cons_succ, List.set_cons_zero]
      refine WG.skip rfl ?_
      simp only [Act.put, List.setIfInBounds_toArray, List.set_cons_succ, List.set_cons_zero]
      refine WG.skip rfl ?_
      simp only [Act.put, List.setIfInBounds_toArray, List.set_cons_succ, List.set_cons_zero]
      refine WG.skip rfl ?_
      simp only [Act.put, List.setIfInBounds_toArray, List.set_cons_succ, List.set_cons_zero]
      refine WG.skip rfl ?_
      simp only [Act.put, List.setIfInBounds_toArray, List.set_cons_succ, List.set_cons_zero]
      refine WG.skip rfl ?_
      simp only [Act.put, List.setIfInBounds_toArray, List.set_cons_succ, List.set_cons_zero]
      refine WG.put rfl (v := .bool true) (fun w => by first | rfl | (go_simp; done) | (simp [go_sem]; done)) ?_
      simp only [Act.put, List.setIfInBounds_toArray, List.set_cons_succ, List.set_cons_zero]
      refine WG.put rfl (v := .bool true) (fun w => by first | rfl | (go_simp; done) | (simp [go_sem]; done)) ?_
      simp only [Act.put, List.setIfInBounds_toArray, List.set_cons_succ, List.set_cons_zero]
      refine WG.skip rfl ?_
      simp only [Act.put, List.setIfInBounds_toArray, List.set_cons_succ, List.set_cons_zero]
      refine WG.skip rfl ?_
      simp only [Act.put, List.setIfInBounds_toArray, List.set_cons_succ, List.set_cons_zero]
      refine WG.skip rfl ?_
      simp only [Act.put, List.setIfInBounds_toArray, List.set_cons_succ, List.set_cons_zero]
      refine WG.skip rfl ?_
      simp only [Act.put, List.setIfInBounds_toArray, List.set_cons_succ, List.set_cons_zero]
      refine WG.skip rfl ?_
      simp only [Act.put, List.setIfInBounds_toArray, List.set_cons_succ, List.set_cons_zero]
      refine WG.skip rfl ?_
      simp only [Act.put, List.setIfInBounds_toArray, List.set_cons_succ, List.set_cons_zero]
      refine WG.skip rfl ?_
      simp only [Act.put, List.setIfInBounds_toArray, List.set_cons_succ, List.set_cons_zero]
      refine WG.skip rfl ?_
      simp only [Act.put, List.setIfInBounds_toArray, List.set_cons_succ, List.set_cons_zero]
      refine WG.skip rfl ?_
      simp only [Act.put, List.setIfInBounds_toArray, List.set_cons_succ, List.set_cons_zero]
      refine WG.skip rfl ?_
      simp only [Act.put, List.setIfInBounds_toArray, List.set_cons_succ, List.set_cons_zero]
      refine WG.skip rfl ?_
      simp only [Act.put, List.setIfInBounds_toArray, List.set_cons_succ, List.set_cons_zero]
      refine WG.skip rfl ?_
      simp only [Act.put, List.setIfInBounds_toArray, List.set_cons_succ, List.set_cons_zero]
      refine WG.skip rfl ?_
      simp only [Act.put, List.setIfInBounds_toArray, List.set_cons_succ, List.set_cons_zero]
      refine WG.nil ?_
      intro W2 B2
      go_wp2_with (first
        | (go_at_call 141; refine (cS _ (HP.out _ B2)).mono ?_; rintro en W3 ⟨rfl, P3, B3, T3⟩))
      go_ret
      exact ⟨rfl, P3, (below_lower B2 hsz).trans B3, (Turn.of_below B2 br).trans T3⟩
end
end Go.Proofs.YtjnbhcakfenbhaaGreatDoor
/- The reference's reader of conditions: opens. -/
namespace Go.Proofs.YtjnbhcakfenbhaaGreatDoor
open Go.RowKit Go.Shelf M
set_option linter.unusedSimpArgs false
set_option linter.unusedVariables false

section
variable {gs : List GT} {a : Option Addr} {cap base br k0 : Nat}
set_option maxRecDepth 100000 in
set_option maxHeartbeats 2000000 in
theorem ropens_any (hn : Few gs) (σ : CS) (hF : σ.F = none) (hlt : σ.k < gs.length) (hd0 : 0 ≤ σ.deep) (w : World) (hP : RC gs a cap base br k0 w σ) :
    Calls Tryz.prog 118 #[.pointer (some ⟨br, 0, none⟩)] w fun en w' => OutT gs a cap base br k0 w (openC gs σ) (.tuple #[]) en w' := by
  have hsz := hP.sz
  have hbb := hP.bb
  obtain ⟨v, t, R, _, hl⟩ := hP.ex
  have c9 : w.cell? ⟨br, 9, none⟩ = some (.int .i64 (CS.deep σ)) := R.cell 9
  by_cases hdd : 64 ≤ σ.deep
  · have e1 : openC gs σ = failC σ (gAt gs σ.k) 2 := if_pos hdd
    rw [e1]
    have cF := fun W hP => rfail_any (gs := gs) (a := a) (cap := cap) (base := base) (br := br) (k0 := k0) σ (gAt gs σ.k) 2 (by decide) W hP
    have HP : Hid (∀ W, Below w.heap.size w W → RC gs a cap base br k0 W σ) := fun W B => hP.grown B
    have c0 : w.cell? ⟨br, 0, none⟩ = some (.slice a gs.length cap) := R.cell 0
    have c1 : w.cell? ⟨br, 1, none⟩ = some (.int .i64 (σ.k : Int)) := R.cell 1
    have hT := hP.toks
    obtain ⟨b, o, ea, hb4, hr4⟩ := hT _ _ (gAt_lt hlt)
    subst ea
    have hix : (CS.k σ : Int) < gs.length := by omega
    have hge : 64 ≤ CS.deep σ := hdd
    clear hT hP R hl e1 hdd hlt
    generalize gAt gs (CS.k σ) = g at *
    generalize hrr : failC σ g 2 = σ' at *
    clear hrr hF
    generalize hkk : CS.k σ = k at *
    generalize gs.length = n at *
    generalize CS.deep σ = d at *
    go_enter Tryz.func118, Tryz.ntmps118
    go_wp2_with fail
    refine grow_tailW 11 (by kernel_rfl) (by kernel_rfl) ?_
    simp only [List.take_succ_cons, List.take_zero, List.drop_succ_cons, List.drop_zero]
    refine WG.put rfl (v := .pointer (some ⟨br, 0, none⟩)) (fun w => by first | rfl | (go_simp; done) | (simp [go_sem]; done)) ?_
    simp only [Act.put, List.setIfInBounds_toArray, List.set_cons_succ, List.set_cons_zero]
    refine WG.put rfl (v := .pointer (some ⟨br, 0, none⟩)) (fun w => by first | rfl | (go_simp; done) | (simp [go_sem]; done)) ?_
    simp only [Act.put, List.setIfInBounds_toArray, List.set_cons_succ, List.set_cons_zero]
    refine WG.put rfl (v := .pointer (some ⟨br, 0, none⟩)) (fun w => by first | rfl | (go_simp; done) | (simp [go_sem]; done)) ?_
    simp only [Act.put, List.setIfInBounds_toArray, List.set_cons_succ, List.set_cons_zero]
    refine WG.put rfl (v := .pointer (some ⟨br, 0, none⟩)) (fun w => by first | rfl | (go_simp; done) | (simp [go_sem]; done)) ?_
    simp only [Act.put, List.setIfInBounds_toArray, List.set_cons_succ, List.set_cons_zero]
    refine WG.cell rfl 43 _ rfl rfl c0 ldTk ?_
    simp only [Act.put, List.setIfInBounds_toArray, List.set_cons_succ, List.set_cons_zero]
    refine WG.put rfl (v := .pointer (some ⟨br, 0, none⟩)) (fun w => by first | rfl | (go_simp; done) | (simp [go_sem]; done)) ?_
    simp only [Act.put, List.setIfInBounds_toArray, List.set_cons_succ, List.set_cons_zero]
    refine WG.put rfl (v := .pointer (some ⟨br, 0, none⟩)) (fun w => by first | rfl | (go_simp; done) | (simp [go_sem]; done)) ?_
    simp only [Act.put, List.setIfInBounds_toArray, List.set_cons_succ, List.set_cons_zero]
    refine WG.put rfl (v := .pointer (some ⟨br, 1, none⟩)) (fun w => by first | rfl | (go_simp; done) | (simp [go_sem]; done)) ?_
    simp only [Act.put, List.setIfInBounds_toArray, List.set_cons_succ, List.set_cons_zero]
    refine WG.cell rfl 3 _ rfl rfl c1 ld3 ?_
    simp only [Act.put, List.setIfInBounds_toArray, List.set_cons_succ, List.set_cons_zero]
    refine WG.put rfl (v := .pointer (some ⟨b, o + k * 7, none⟩)) (fun w => by first | rfl | (go_simp; done) | (simp [go_sem, hix]; done)) ?_
    simp only [Act.put, List.setIfInBounds_toArray, List.set_cons_succ, List.set_cons_zero]
    refine WG.range rfl 49 _ rfl rfl (gtL g) hb4 hr4 _ Tryz.underlying49 rfl infoTok ?_
    simp only [Act.put, List.setIfInBounds_toArray, List.set_cons_succ, List.set_cons_zero]
    refine WG.nil ?_
    intro W2 B2
    go_wp2_with (first
      | (go_at_call 94; refine (cF _ (HP.out _ B2)).mono ?_; rintro en W3 ⟨rfl, P3, B3, T3⟩))
    exact ⟨rfl, .tuple #[], (by simp [results, Tryz.results118, go_sem]), rfl, P3, (below_lower B2 hsz).trans B3, (Turn.of_below B2 br).trans T3⟩
  · have e1 : openC gs σ = takeC gs (CS.mk (CS.k σ) (CS.deep σ + 1) (CS.nodes σ) (CS.F σ)) := if_neg hdd
    rw [e1]
    have cT := fun W hP => rtake_any (gs := gs) (a := a) (cap := cap) (base := base) (br := br) (k0 := k0) hn (CS.mk (CS.k σ) (CS.deep σ + 1) (CS.nodes σ) (CS.F σ)) W hP
    have hge : ¬ (64 ≤ CS.deep σ) := hdd
    have hup : CS.deep σ < 64 := by omega
    clear e1 hdd
    go_enter Tryz.func118, Tryz.ntmps118
    go_wp2_with (first
      | (refine wpList_store1 rfl 3 _ _ rfl rfl (.int .i64 (CS.deep σ + 1)) rfl R (by rw [rrL_len]; omega) info3 rfl ?_; intro W2 U2 R2x; have P2 : RC gs a cap base br k0 W2 (CS.mk (CS.k σ) (CS.deep σ + 1) (CS.nodes σ) (CS.F σ)) := hP.turn (σ' := CS.mk (CS.k σ) (CS.deep σ + 1) (CS.nodes σ) (CS.F σ)) (Turn.of_upd U2) R rfl hP.from' hP.k hP.code hl R2x; have B2 := U2.trans (Below.refl base w) hbb; clear R2x)
      | (go_at_call 68; refine (cT _ P2).mono ?_; rintro en W3 ⟨rfl, P3, B3, T3⟩; clear cT))
    exact ⟨rfl, .tuple #[], (by simp [results, Tryz.results118, go_sem]), rfl, P3, B2.trans B3, (Turn.of_upd U2).trans T3⟩
end
end Go.Proofs.YtjnbhcakfenbhaaGreatDoor

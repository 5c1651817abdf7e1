/- Several texts in one: W3, W4. -/
import Derived.Test.YtjnbhcakfenbhaaGreatDoorQav
/- The reference's reader of conditions: take. -/
namespace Go.Proofs.YtjnbhcakfenbhaaGreatDoor
open Go.RowKit Go.Shelf M
set_option linter.unusedSimpArgs false
set_option linter.unusedVariables false

theorem Turn.aside {w W W' : World} {b b2 : Nat} (T : Turn w W b) (U : Upd W W' b2) (h : w.heap.size ≤ b2) : Turn w W' b :=
  ⟨U.os.trans T.os, U.tape.trans T.tape, U.output.trans T.output, by rw [U.size]; exact T.size, fun k hk hb => (U.block k (by omega)).trans (T.block k hk hb)⟩
def takeX (gs : List GT) (σ : CS) : GT := if (σ.F.isSome || decide (gs.length ≤ σ.k)) = true then noGT else gAt gs σ.k
section
variable {gs : List GT} {a : Option Addr} {cap base br k0 : Nat}
set_option maxRecDepth 100000 in
set_option maxHeartbeats 4000000 in
theorem rtake_any (hn : Few gs) (σ : CS) (w : World) (hP : RC gs a cap base br k0 w σ) :
    Calls Tryz.prog 68 #[.pointer (some ⟨br, 0, none⟩)] w fun en w' => OutT gs a cap base br k0 w (takeC gs σ) (.agg (gtL (takeX gs σ)).toArray) en w' := by
  have cB := fun W hP => rbad_any (gs := gs) (a := a) (cap := cap) (base := base) (br := br) (k0 := k0) σ W hP
  have hsz := hP.sz
  have hbb := hP.bb
  have hbr := hP.lt
  have hlen := hn.1
  have hk := hP.k
  have HP : Hid (∀ W, Below w.heap.size w W → RC gs a cap base br k0 W σ) := fun W B => hP.grown B
  obtain ⟨v, t, R, _, hl⟩ := hP.ex
  have hT := hP.toks
  cases hF : σ.F with
  | some y =>
    have e1 : takeC gs σ = σ := if_pos (by rw [hF]; rfl)
    have e2 : takeX gs σ = noGT := if_pos (by rw [hF]; rfl)
    rw [e1, e2]
    rw [hF] at cB R
    clear e1 e2 hT hP hF hl
    generalize hkk : σ.k = k at *
    generalize gs.length = n at *
    go_enter Tryz.func68, Tryz.ntmps68
    go_wp2_with (first
      | (refine wpList_allocS rfl 49 rfl (gtL noGT) Tryz.zeroValue49 ?_; intro W1 b2 F1 M1; have B1 := F1.trans (Below.refl _ w) (Nat.le_refl _); have h2 : w.heap.size ≤ b2 := Nat.le_of_eq F1.at'.symm; have R1 := R.fresh F1; have c0 : W1.cell? ⟨br, 0, none⟩ = some (.slice a n cap) := R1.cell 0; have c1 : W1.cell? ⟨br, 1, none⟩ = some (.int .i64 (k : Int)) := R1.cell 1; clear F1))
    refine grow_tailW 13 (by kernel_rfl) (by kernel_rfl) ?_
    simp only [List.take_succ_cons, List.take_zero, List.drop_succ_cons, List.drop_zero]
    refine WG.put rfl (v := .pointer (some ⟨br, 0, none⟩)) (fun w => by first | rfl | (go_simp; done) | (simp [go_sem]; done)) ?_
    simp only [Act.put, List.setIfInBounds_toArray, List.set_cons_succ, List.set_cons_zero]
    refine WG.call rfl (f := 43) (args := #[.pointer (some ⟨br, 0, none⟩)]) (v := .bool true) (fun w' hB' => (cB w' (HP.out _ (B1.trans (hB'.mono B1.size)))).mono (by rintro en w'' ⟨rfl, e⟩; rw [e]; exact ⟨rfl, Below.refl _ _⟩)) (fun w => by first | rfl | (go_simp; done) | (simp [go_sem]; done)) ?_
    simp only [Act.put, List.setIfInBounds_toArray, List.set_cons_succ, List.set_cons_zero]
    refine WG.put rfl (v := .bool true) (fun w => by first | rfl | (go_simp; done) | (simp [go_sem]; done)) ?_
    simp only [Act.put, List.setIfInBounds_toArray, List.set_cons_succ, List.set_cons_zero]
    refine WG.skip rfl ?_
    simp only [Act.put, List.setIfInBounds_toArray, List.set_cons_succ, List.set_cons_zero]
    refine WG.skip rfl ?_
    simp only [Act.put, List.setIfInBounds_toArray, List.set_cons_succ, List.set_cons_zero]
    refine WG.skip rfl ?_
    simp only [Act.put, List.setIfInBounds_toArray, List.set_cons_succ, List.set_cons_zero]
    refine WG.skip rfl ?_
    simp only [Act.put, List.setIfInBounds_toArray, List.set_cons_succ, List.set_cons_zero]
    refine WG.skip rfl ?_
    simp only [Act.put, List.setIfInBounds_toArray, List.set_cons_succ, List.set_cons_zero]
    refine WG.skip rfl ?_
    simp only [Act.put, List.setIfInBounds_toArray, List.set_cons_succ, List.set_cons_zero]
    refine WG.skip rfl ?_
    simp only [Act.put, List.setIfInBounds_toArray, List.set_cons_succ, List.set_cons_zero]
    refine WG.skip rfl ?_
    simp only [Act.put, List.setIfInBounds_toArray, List.set_cons_succ, List.set_cons_zero]
    refine WG.skip rfl ?_
    simp only [Act.put, List.setIfInBounds_toArray, List.set_cons_succ, List.set_cons_zero]
    refine WG.skip rfl ?_
    simp only [Act.put, List.setIfInBounds_toArray, List.set_cons_succ, List.set_cons_zero]
    refine WG.nil ?_
    intro W2 B2x
    have M2 := M1.grown B2x
    have R2 := R1.grown B2x
    have B2 := B1.trans (B2x.mono B1.size)
    clear c0 c1 M1 B1 R1 B2x cB
    go_wp2_with (first
      | (refine wpList_storeS rfl 49 _ _ rfl rfl (gtL noGT) rfl M2 (by simp [gtL, noGT]) infoTok (gt_one _) ?_; intro W3 U3 M3x; have M3 : IsS W3 b2 49 (gtL noGT) := M3x; have B3 := U3.trans B2 h2))
    exact ret_S (cs := gtL noGT) rfl rfl rfl M3 _ Tryz.underlying49 rfl infoTok ⟨rfl, HP.out _ B3, below_lower B3 hsz, Turn.of_below B3 br⟩
  | none =>
    rw [hF] at cB R
    by_cases hlt : σ.k < gs.length
    · have e1 : takeC gs σ = CS.mk (CS.k σ + 1) (CS.deep σ) (CS.nodes σ) none := take_more hF hlt
      have e2 : takeX gs σ = gAt gs σ.k := if_neg (by rw [hF]; simp; omega)
      rw [e1, e2]
      obtain ⟨b, o, ea, _, _⟩ := hT _ _ (gAt_lt hlt)
      subst ea
      have HK : Hid (∀ W, Below w.heap.size w W → b < W.heap.size ∧ W.rangeAt b (o + CS.k σ * 7) (gtL (gAt gs (CS.k σ)))) := fun W hB => by
        obtain ⟨b', o', e, h2, h3⟩ := hT.below hB _ _ (gAt_lt hlt)
        cases e
        exact ⟨h2, h3⟩
      have HQ : Hid (∀ W, Turn w W br → IsS W br 102 (rrL (some ⟨b, o, none⟩) gs.length cap (CS.k σ + 1) (gAt gs (CS.k σ)) (CS.deep σ) v none) → RC gs (some ⟨b, o, none⟩) cap base br k0 W (CS.mk (CS.k σ + 1) (CS.deep σ) (CS.nodes σ) none)) := fun W T h =>
        hP.turn (σ' := CS.mk (CS.k σ + 1) (CS.deep σ) (CS.nodes σ) none) T (by rw [hF]; exact R) rfl (by have := hP.from'; show k0 ≤ σ.k + 1; omega) (by show σ.k + 1 ≤ _; omega) (fun x hx => by cases hx) (fun _ => rfl) h
      have hix : (CS.k σ : Int) < gs.length := by omega
      have hge : ¬ ((gs.length : Int) ≤ (CS.k σ : Int)) := by omega
      clear e1 e2 hT hP hF hl
      generalize gAt gs (CS.k σ) = g at *
      generalize hkk : CS.k σ = k at *
      generalize gs.length = n at *
      go_enter Tryz.func68, Tryz.ntmps68
      go_wp2_with (first
        | (refine wpList_allocS rfl 49 rfl (gtL noGT) Tryz.zeroValue49 ?_; intro W1 b2 F1 M1; have B1 := F1.trans (Below.refl _ w) (Nat.le_refl _); have h2 : w.heap.size ≤ b2 := Nat.le_of_eq F1.at'.symm; have R1 := R.fresh F1; have c0 : W1.cell? ⟨br, 0, none⟩ = some (.slice (some ⟨b, o, none⟩) n cap) := R1.cell 0; have c1 : W1.cell? ⟨br, 1, none⟩ = some (.int .i64 (k : Int)) := R1.cell 1; clear F1))
      refine grow_tailW 13 (by kernel_rfl) (by kernel_rfl) ?_
      simp only [List.take_succ_cons, List.take_zero, List.drop_succ_cons, List.drop_zero]
      refine WG.put rfl (v := .pointer (some ⟨br, 0, none⟩)) (fun w => by first | rfl | (go_simp; done) | (simp [go_sem]; done)) ?_
      simp only [Act.put, List.setIfInBounds_toArray, List.set_cons_succ, List.set_cons_zero]
      refine WG.call rfl (f := 43) (args := #[.pointer (some ⟨br, 0, none⟩)]) (v := .bool false) (fun w' hB' => (cB w' (HP.out _ (B1.trans (hB'.mono B1.size)))).mono (by rintro en w'' ⟨rfl, e⟩; rw [e]; exact ⟨rfl, Below.refl _ _⟩)) (fun w => by first | rfl | (go_simp; done) | (simp [go_sem]; done)) ?_
      simp only [Act.put, List.setIfInBounds_toArray, List.set_cons_succ, List.set_cons_zero]
      refine WG.put rfl (v := .bool false) (fun w => by first | rfl | (go_simp; done) | (simp [go_sem]; done)) ?_
      simp only [Act.put, List.setIfInBounds_toArray, List.set_cons_succ, List.set_cons_zero]
      refine WG.put rfl (v := .pointer (some ⟨br, 0, none⟩)) (fun w => by first | rfl | (go_simp; done) | (simp [go_sem]; done)) ?_
      simp only [Act.put, List.setIfInBounds_toArray, List.set_cons_succ, List.set_cons_zero]
      refine WG.put rfl (v := .pointer (some ⟨br, 0, none⟩)) (fun w => by first | rfl | (go_simp; done) | (simp [go_sem]; done)) ?_
      simp only [Act.put, List.setIfInBounds_toArray, List.set_cons_succ, List.set_cons_zero]
      refine WG.put rfl (v := .pointer (some ⟨br, 1, none⟩)) (fun w => by first | rfl | (go_simp; done) | (simp [go_sem]; done)) ?_
      simp only [Act.put, List.setIfInBounds_toArray, List.set_cons_succ, List.set_cons_zero]
      refine WG.cell rfl 3 _ rfl rfl c1 ld3 ?_
      simp only [Act.put, List.setIfInBounds_toArray, List.set_cons_succ, List.set_cons_zero]
      refine WG.put rfl (v := .pointer (some ⟨br, 0, none⟩)) (fun w => by first | rfl | (go_simp; done) | (simp [go_sem]; done)) ?_
      simp only [Act.put, List.setIfInBounds_toArray, List.set_cons_succ, List.set_cons_zero]
      refine WG.put rfl (v := .pointer (some ⟨br, 0, none⟩)) (fun w => by first | rfl | (go_simp; done) | (simp [go_sem]; done)) ?_
      simp only [Act.put, List.setIfInBounds_toArray, List.set_cons_succ, List.set_cons_zero]
      refine WG.put rfl (v := .pointer (some ⟨br, 0, none⟩)) (fun w => by first | rfl | (go_simp; done) | (simp [go_sem]; done)) ?_
      simp only [Act.put, List.setIfInBounds_toArray, List.set_cons_succ, List.set_cons_zero]
      refine WG.cell rfl 43 _ rfl rfl c0 ldTk ?_
      simp only [Act.put, List.setIfInBounds_toArray, List.set_cons_succ, List.set_cons_zero]
      refine WG.put rfl (v := .int .i64 (n : Int)) (fun w => by first | rfl | (go_simp; done) | (simp [go_sem]; done)) ?_
      simp only [Act.put, List.setIfInBounds_toArray, List.set_cons_succ, List.set_cons_zero]
      refine WG.put rfl (v := .bool false) (fun w => by first | rfl | (go_simp; done) | (simp [go_sem, hge, hlt]; done)) ?_
      simp only [Act.put, List.setIfInBounds_toArray, List.set_cons_succ, List.set_cons_zero]
      refine WG.nil ?_
      intro W2 B2x
      have M2 := M1.grown B2x
      have R2 := R1.grown B2x
      have B2 := B1.trans (B2x.mono B1.size)
      clear c0 c1 M1 B1 R1 B2x cB
      have c0 : W2.cell? ⟨br, 0, none⟩ = some (.slice (some ⟨b, o, none⟩) n cap) := R2.cell 0
      have c1 : W2.cell? ⟨br, 1, none⟩ = some (.int .i64 (k : Int)) := R2.cell 1
      go_wp2_with fail
      obtain ⟨hb4, hr4⟩ := HK.out W2 B2
      refine grow_tailW 13 (by kernel_rfl) (by kernel_rfl) ?_
      simp only [List.take_succ_cons, List.take_zero, List.drop_succ_cons, List.drop_zero]
      refine WG.put rfl (v := .pointer (some ⟨br, 0, none⟩)) (fun w => by first | rfl | (go_simp; done) | (simp [go_sem]; done)) ?_
      simp only [Act.put, List.setIfInBounds_toArray, List.set_cons_succ, List.set_cons_zero]
      refine WG.put rfl (v := .pointer (some ⟨br, 0, none⟩)) (fun w => by first | rfl | (go_simp; done) | (simp [go_sem]; done)) ?_
      simp only [Act.put, List.setIfInBounds_toArray, List.set_cons_succ, List.set_cons_zero]
      refine WG.put rfl (v := .pointer (some ⟨br, 0, none⟩)) (fun w => by first | rfl | (go_simp; done) | (simp [go_sem]; done)) ?_
      simp only [Act.put, List.setIfInBounds_toArray, List.set_cons_succ, List.set_cons_zero]
      refine WG.put rfl (v := .pointer (some ⟨br, 0, none⟩)) (fun w => by first | rfl | (go_simp; done) | (simp [go_sem]; done)) ?_
      simp only [Act.put, List.setIfInBounds_toArray, List.set_cons_succ, List.set_cons_zero]
      refine WG.cell rfl 43 _ rfl rfl c0 ldTk ?_
      simp only [Act.put, List.setIfInBounds_toArray, List.set_cons_succ, List.set_cons_zero]
      refine WG.put rfl (v := .pointer (some ⟨br, 0, none⟩)) (fun w => by first | rfl | (go_simp; done) | (simp [go_sem]; done)) ?_
      simp only [Act.put, List.setIfInBounds_toArray, List.set_cons_succ, List.set_cons_zero]
      refine WG.put rfl (v := .pointer (some ⟨br, 0, none⟩)) (fun w => by first | rfl | (go_simp; done) | (simp [go_sem]; done)) ?_
      simp only [Act.put, List.setIfInBounds_toArray, List.set_cons_succ, List.set_cons_zero]
      refine WG.put rfl (v := .pointer (some ⟨br, 1, none⟩)) (fun w => by first | rfl | (go_simp; done) | (simp [go_sem]; done)) ?_
      simp only [Act.put, List.setIfInBounds_toArray, List.set_cons_succ, List.set_cons_zero]
      refine WG.cell rfl 3 _ rfl rfl c1 ld3 ?_
      simp only [Act.put, List.setIfInBounds_toArray, List.set_cons_succ, List.set_cons_zero]
      refine WG.put rfl (v := .pointer (some ⟨b, o + k * 7, none⟩)) (fun w => by first | rfl | (go_simp; done) | (simp [go_sem, hix]; done)) ?_
      simp only [Act.put, List.setIfInBounds_toArray, List.set_cons_succ, List.set_cons_zero]
      refine WG.range rfl 49 _ rfl rfl (gtL g) hb4 hr4 _ Tryz.underlying49 rfl infoTok ?_
      simp only [Act.put, List.setIfInBounds_toArray, List.set_cons_succ, List.set_cons_zero]
      refine WG.put rfl (v := .pointer (some ⟨br, 0, none⟩)) (fun w => by first | rfl | (go_simp; done) | (simp [go_sem]; done)) ?_
      simp only [Act.put, List.setIfInBounds_toArray, List.set_cons_succ, List.set_cons_zero]
      refine WG.put rfl (v := .pointer (some ⟨br, 2, none⟩)) (fun w => by first | rfl | (go_simp; done) | (simp [go_sem]; done)) ?_
      simp only [Act.put, List.setIfInBounds_toArray, List.set_cons_succ, List.set_cons_zero]
      refine WG.nil ?_
      intro W3 B3x
      have M3 := M2.grown B3x
      have R3 := R2.grown B3x
      have B3 := B2.trans (B3x.mono B2.size)
      have T3 := Turn.of_below B3 br
      clear c0 c1 M2 R2 B2 B3x B3
      go_wp2_with (first
        | (refine wpList_storeS rfl 49 _ _ rfl rfl (gtL g) rfl R3 (by rw [rrL_len]; simp [gtL]) infoTok (gt_one _) ?_; intro W4 U4 R4x; have R4 : IsS W4 br 102 (rrL (some ⟨b, o, none⟩) n cap k g (CS.deep σ) v none) := R4x; have M4 := M3.upd U4 (by omega); have T4 := T3.trans (Turn.of_upd U4); have c1 : W4.cell? ⟨br, 1, none⟩ = some (.int .i64 (k : Int)) := R4.cell 1; clear R4x R3 M3 U4 T3)
        | (refine wpList_store1 rfl 3 _ _ rfl rfl (.int .i64 ((k : Int) + 1)) rfl R4 (by rw [rrL_len]; omega) info3 rfl ?_; intro W5 U5 R5x; have R5 : IsS W5 br 102 (rrL (some ⟨b, o, none⟩) n cap (k + 1) g (CS.deep σ) v none) := R5x; have M5 := M4.upd U5 (by omega); have T5 := T4.trans (Turn.of_upd U5); clear R5x R4 M4 U5 T4 c1)
        | (refine wpList_loadP rfl 49 _ rfl rfl R5 7 (gtL g) rfl _ Tryz.underlying49 rfl infoTok ?_)
        | (refine wpList_storeS rfl 49 _ _ rfl rfl (gtL g) rfl M5 (by simp [gtL]) infoTok (gt_one _) ?_; intro W6 U6 M6x; have M6 : IsS W6 b2 49 (gtL g) := M6x; have R6 := R5.upd U6 (by omega); have T6 := T5.aside U6 h2; clear M6x R5 M5 U6 T5))
      exact ret_S (cs := gtL g) rfl rfl rfl M6 _ Tryz.underlying49 rfl infoTok ⟨rfl, HQ.out _ T6 R6, Turn.below (Below.refl _ _) hbb hsz T6, T6⟩
    · have e1 : takeC gs σ = σ := if_pos (by rw [hF]; simp; omega)
      have e2 : takeX gs σ = noGT := if_pos (by rw [hF]; simp; omega)
      rw [e1, e2]
      have hge : (gs.length : Int) ≤ (CS.k σ : Int) := by omega
      clear e1 e2 hT hP hF hl hlt
      generalize hkk : σ.k = k at *
      generalize gs.length = n at *
      go_enter Tryz.func68, Tryz.ntmps68
      go_wp2_with (first
        | (refine wpList_allocS rfl 49 rfl (gtL noGT) Tryz.zeroValue49 ?_; intro W1 b2 F1 M1; have B1 := F1.trans (Below.refl _ w) (Nat.le_refl _); have h2 : w.heap.size ≤ b2 := Nat.le_of_eq F1.at'.symm; have R1 := R.fresh F1; have c0 : W1.cell? ⟨br, 0, none⟩ = some (.slice a n cap) := R1.cell 0; have c1 : W1.cell? ⟨br, 1, none⟩ = some (.int .i64 (k : Int)) := R1.cell 1; clear F1))
      refine grow_tailW 13 (by kernel_rfl) (by kernel_rfl) ?_
      simp only [List.take_succ_cons, List.take_zero, List.drop_succ_cons, List.drop_zero]
      refine WG.put rfl (v := .pointer (some ⟨br, 0, none⟩)) (fun w => by first | rfl | (go_simp; done) | (simp [go_sem]; done)) ?_
      simp only [Act.put, List.setIfInBounds_toArray, List.set_cons_succ, List.set_cons_zero]
      refine WG.call rfl (f := 43) (args := #[.pointer (some ⟨br, 0, none⟩)]) (v := .bool false) (fun w' hB' => (cB w' (HP.out _ (B1.trans (hB'.mono B1.size)))).mono (by rintro en w'' ⟨rfl, e⟩; rw [e]; exact ⟨rfl, Below.refl _ _⟩)) (fun w => by first | rfl | (go_simp; done) | (simp [go_sem]; done)) ?_
      simp only [Act.put, List.setIfInBounds_toArray, List.set_cons_succ, List.set_cons_zero]
      refine WG.put rfl (v := .bool false) (fun w => by first | rfl | (go_simp; done) | (simp [go_sem]; done)) ?_
      simp only [Act.put, List.setIfInBounds_toArray, List.set_cons_succ, List.set_cons_zero]
      refine WG.put rfl (v := .pointer (some ⟨br, 0, none⟩)) (fun w => by first | rfl | (go_simp; done) | (simp [go_sem]; done)) ?_
      simp only [Act.put, List.setIfInBounds_toArray, List.set_cons_succ, List.set_cons_zero]
      refine WG.put rfl (v := .pointer (some ⟨br, 0, none⟩)) (fun w => by first | rfl | (go_simp; done) | (simp [go_sem]; done)) ?_
      simp only [Act.put, List.setIfInBounds_toArray, List.set_cons_succ, List.set_cons_zero]
      refine WG.put rfl (v := .pointer (some ⟨br, 1, none⟩)) (fun w => by first | rfl | (go_simp; done) | (simp [go_sem]; done)) ?_
      simp only [Act.put, List.setIfInBounds_toArray, List.set_cons_succ, List.set_cons_zero]
      refine WG.cell rfl 3 _ rfl rfl c1 ld3 ?_
      simp only [Act.put, List.setIfInBounds_toArray, List.set_cons_succ, List.set_cons_zero]
      refine WG.put rfl (v := .pointer (some ⟨br, 0, none⟩)) (fun w => by first | rfl | (go_simp; done) | (simp [go_sem]; done)) ?_
      simp only [Act.put, List.setIfInBounds_toArray, List.set_cons_succ, List.set_cons_zero]
      refine WG.put rfl (v := .pointer (some ⟨br, 0, none⟩)) (fun w => by first | rfl | (go_simp; done) | (simp [go_sem]; done)) ?_
      simp only [Act.put, List.setIfInBounds_toArray, List.set_cons_succ, List.set_cons_zero]
      refine WG.put rfl (v := .pointer (some ⟨br, 0, none⟩)) (fun w => by first | rfl | (go_simp; done) | (simp [go_sem]; done)) ?_
      simp only [Act.put, List.setIfInBounds_toArray, List.set_cons_succ, List.set_cons_zero]
      refine WG.cell rfl 43 _ rfl rfl c0 ldTk ?_
      simp only [Act.put, List.setIfInBounds_toArray, List.set_cons_succ, List.set_cons_zero]
      refine WG.put rfl (v := .int .i64 (n : Int)) (fun w => by first | rfl | (go_simp; done) | (simp [go_sem]; done)) ?_
      simp only [Act.put, List.setIfInBounds_toArray, List.set_cons_succ, List.set_cons_zero]
      refine WG.put rfl (v := .bool true) (fun w => by first | rfl | (go_simp; done) | (simp [go_sem, hge]; done)) ?_
      simp only [Act.put, List.setIfInBounds_toArray, List.set_cons_succ, List.set_cons_zero]
      refine WG.nil ?_
      intro W2 B2x
      have M2 := M1.grown B2x
      have R2 := R1.grown B2x
      have B2 := B1.trans (B2x.mono B1.size)
      clear c0 c1 M1 B1 R1 B2x cB
      go_wp2_with (first
        | (refine wpList_storeS rfl 49 _ _ rfl rfl (gtL noGT) rfl M2 (by simp [gtL, noGT]) infoTok (gt_one _) ?_; intro W3 U3 M3x; have M3 : IsS W3 b2 49 (gtL noGT) := M3x; have B3 := U3.trans B2 h2))
      exact ret_S (cs := gtL noGT) rfl rfl rfl M3 _ Tryz.underlying49 rfl infoTok ⟨rfl, HP.out _ B3, below_lower B3 hsz, Turn.of_below B3 br⟩
end
end Go.Proofs.YtjnbhcakfenbhaaGreatDoor
/- The reference's reader of conditions: sign, number. -/
namespace Go.Proofs.YtjnbhcakfenbhaaGreatDoor
open Go.RowKit Go.Shelf M
set_option linter.unusedSimpArgs false
set_option linter.unusedVariables false

theorem fld2 (x1 x3 x4 x5 x6 x7 : Int) (x2 : ByteArray) (w : World) : (Instr.field 49 (.agg #[.int .i64 x1, .string x2, .int .i64 x3, .int .i64 x4, .int .i64 x5, .int .i64 x6, .int .i64 x7]) 2).run Tryz.prog w = .ok (.int .i64 x3) w := by first | kernel_rfl | simp [go_sem]
theorem fld1 (x1 x3 x4 x5 x6 x7 : Int) (x2 : ByteArray) (w : World) : (Instr.field 49 (.agg #[.int .i64 x1, .string x2, .int .i64 x3, .int .i64 x4, .int .i64 x5, .int .i64 x6, .int .i64 x7]) 1).run Tryz.prog w = .ok (.string x2) w := by first | kernel_rfl | simp [go_sem]
section
variable {gs : List GT} {a : Option Addr} {cap base br k0 : Nat}
set_option maxRecDepth 100000 in
set_option maxHeartbeats 2000000 in
theorem rsign_any (hn : Few gs) (σ : CS) (x : ByteArray) (w : World) (hP : RC gs a cap base br k0 w σ) :
    Calls Tryz.prog 119 #[.pointer (some ⟨br, 0, none⟩), .string x] w fun en w' => OutT gs a cap base br k0 w (signC gs σ x.data.toList) (.tuple #[]) en w' := by
  have cI := ris_any (a := a) (cap := cap) (base := base) (br := br) (k0 := k0) hn σ 0 (by omega) 4 x w hP
  have cS := rsyntax_any (a := a) (cap := cap) (base := base) (br := br) (k0 := k0) hn σ w hP
  have cT := rtake_any (a := a) (cap := cap) (base := base) (br := br) (k0 := k0) hn σ w hP
  unfold signC
  cases hB : isT gs σ 0 4 x.data.toList with
  | true =>
    rw [if_pos rfl]
    rw [hB] at cI
    clear hB cS
    go_enter Tryz.func119, Tryz.ntmps119
    go_wp2_with (first
      | (go_at_call 67; refine cI.mono ?_; rintro en W1 ⟨rfl, hW⟩; replace hW := hW.symm; subst hW; clear cI)
      | (go_at_call 68; refine cT.mono ?_; rintro en W3 ⟨rfl, P3, B3, T3⟩; clear cT))
    exact ⟨rfl, .tuple #[], (by simp [results, Tryz.results119, go_sem]), rfl, P3, B3, T3⟩
  | false =>
    rw [if_neg (by simp)]
    rw [hB] at cI
    clear hB cT
    go_enter Tryz.func119, Tryz.ntmps119
    go_wp2_with (first
      | (go_at_call 67; refine cI.mono ?_; rintro en W1 ⟨rfl, hW⟩; replace hW := hW.symm; subst hW; clear cI)
      | (go_at_call 141; refine cS.mono ?_; rintro en W3 ⟨rfl, P3, B3, T3⟩; clear cS))
    exact ⟨rfl, .tuple #[], (by simp [results, Tryz.results119, go_sem]), rfl, P3, B3, T3⟩
set_option maxRecDepth 100000 in
set_option maxHeartbeats 4000000 in
theorem rnumber_any (hn : Few gs) (σ : CS) (w : World) (hP : RC gs a cap base br k0 w σ) :
    Calls Tryz.prog 144 #[.pointer (some ⟨br, 0, none⟩)] w fun en w' => OutT gs a cap base br k0 w (nbrC gs σ) (.int .i64 (nbrX gs σ)) en w' := by
  have cB := fun W hP => rbad_any (gs := gs) (a := a) (cap := cap) (base := base) (br := br) (k0 := k0) σ W hP
  have cS := fun W hP => rsyntax_any (gs := gs) (a := a) (cap := cap) (base := base) (br := br) (k0 := k0) hn σ W hP
  have cT := fun W hP => rtake_any (gs := gs) (a := a) (cap := cap) (base := base) (br := br) (k0 := k0) hn σ W hP
  have hsz := hP.sz
  have HP : Hid (∀ W, Below w.heap.size w W → RC gs a cap base br k0 W σ) := fun W B => hP.grown B
  obtain ⟨v, t, R, _, hl⟩ := hP.ex
  have c0 : w.cell? ⟨br, 0, none⟩ = some (.slice a gs.length cap) := R.cell 0
  have c1 : w.cell? ⟨br, 1, none⟩ = some (.int .i64 (σ.k : Int)) := R.cell 1
  have hT := hP.toks
  clear hP R hl
  have no : nbrQ gs σ = false → nbrC gs σ = synC gs σ ∧ nbrX gs σ = 0 := fun h => ⟨if_neg (by rw [h]; simp), if_neg (by rw [h]; simp)⟩
  cases hF : σ.F with
  | some y =>
    obtain ⟨e1, e2⟩ := no (by unfold nbrQ; rw [hF]; rfl)
    rw [e1, e2]
    rw [hF] at cB
    clear e1 e2 no hT hF cT
    generalize hs : synC gs σ = σ' at *
    clear hs
    generalize hkk : σ.k = k at *
    generalize gs.length = n at *
    go_enter Tryz.func144, Tryz.ntmps144
    go_wp2_with fail
    refine grow_tailW 27 (by kernel_rfl) (by kernel_rfl) ?_
    simp only [List.take_succ_cons, List.take_zero, List.drop_succ_cons, List.drop_zero]
    refine WG.put rfl (v := .pointer (some ⟨br, 0, none⟩)) (fun w => by first | rfl | (go_simp; done) | (simp [go_sem]; done)) ?_
    simp only [Act.put, List.setIfInBounds_toArray, List.set_cons_succ, List.set_cons_zero]
    refine WG.call rfl (f := 43) (args := #[.pointer (some ⟨br, 0, none⟩)]) (v := .bool true) (fun w' hB' => (cB w' (HP.out _ hB')).mono (by rintro en w'' ⟨rfl, e⟩; rw [e]; exact ⟨rfl, Below.refl _ _⟩)) (fun w => by first | rfl | (go_simp; done) | (simp [go_sem]; done)) ?_
    simp only [Act.put, List.setIfInBounds_toArray, List.set_cons_succ, List.set_cons_zero]
    refine WG.put rfl (v := .bool true) (fun w => by first | rfl | (go_simp; done) | (simp [go_sem]; done)) ?_
    simp only [Act.put, List.setIfInBounds_toArray, List.set_cons_succ, List.set_cons_zero]
    refine WG.skip rfl ?_
    simp only [Act.put, List.setIfInBounds_toArray, List.set_cons_succ, List.set_cons_zero]
    refine WG.skip rfl ?_
    simp only [Act.put, List.setIfInBounds_toArray, List.set_cons_succ, List.set_cons_zero]
    refine WG.skip rfl ?_
    simp only [Act.put, List.setIfInBounds_toArray, List.set_cons_succ, List.set_cons_zero]
    refine WG.skip rfl ?_
    simp only [Act.put, List.setIfInBounds_toArray, List.set_cons_succ, List.set_cons_zero]
    refine WG.skip rfl ?_
    simp only [Act.put, List.setIfInBounds_toArray, List.set_cons_succ, List.set_cons_zero]
    refine WG.skip rfl ?_
    simp only [Act.put, List.setIfInBounds_toArray, List.set_cons_succ, List.set_cons_zero]
    refine WG.skip rfl ?_
    simp only [Act.put, List.setIfInBounds_toArray, List.set_cons_succ, List.set_cons_zero]
    refine WG.skip rfl ?_
    simp only [Act.put, List.setIfInBounds_toArray, List.set_cons_succ, List.set_cons_zero]
    refine WG.skip rfl ?_
    simp only [Act.put, List.setIfInBounds_toArray, List.set_cons_succ, List.set_cons_zero]
    refine WG.skip rfl ?_
    simp only [Act.put, List.setIfInBounds_toArray, List.set_cons_succ, List.set_cons_zero]
    refine WG.put rfl (v := .bool true) (fun w => by first | rfl | (go_simp; done) | (simp [go_sem]; done)) ?_
    simp only [Act.put, List.setIfInBounds_toArray, List.set_cons_succ, List.set_cons_zero]
    refine WG.put rfl (v := .bool true) (fun w => by first | rfl | (go_simp; done) | (simp [go_sem]; done)) ?_
    simp only [Act.put, List.setIfInBounds_toArray, List.set_cons_succ, List.set_cons_zero]
    refine WG.skip rfl ?_
    simp only [Act.put, List.setIfInBounds_toArray, List.set_cons_succ, List.set_cons_zero]
    refine WG.skip rfl ?_
    simp only [Act.put, List.setIfInBounds_toArray, List.set_cons_succ, List.set_cons_zero]
    refine WG.skip rfl ?_
    simp only [Act.put, List.setIfInBounds_toArray, List.set_cons_succ, List.set_cons_zero]
    refine WG.skip rfl ?_
    simp only [Act.put, List.setIfInBounds_toArray, List.set_cons_succ, List.set_cons_zero]
    refine WG.skip rfl ?_
    simp only [Act.put, List.setIfInBounds_toArray, List.set_cons_succ, List.set_cons_zero]
    refine WG.skip rfl ?_
    simp only [Act.put, List.setIfInBounds_toArray, List.set_cons_succ, List.set_cons_zero]
    refine WG.skip rfl ?_
    simp only [Act.put, List.setIfInBounds_toArray, List.set_cons_succ, List.set_cons_zero]
    refine WG.skip rfl ?_
    simp only [Act.put, List.setIfInBounds_toArray, List.set_cons_succ, List.set_cons_zero]
    refine WG.skip rfl ?_
    simp only [Act.put, List.setIfInBounds_toArray, List.set_cons_succ, List.set_cons_zero]
    refine WG.skip rfl ?_
    simp only [Act.put, List.setIfInBounds_toArray, List.set_cons_succ, List.set_cons_zero]
    refine WG.skip rfl ?_
    simp only [Act.put, List.setIfInBounds_toArray, List.set_cons_succ, List.set_cons_zero]
    refine WG.skip rfl ?_
    simp only [Act.put, List.setIfInBounds_toArray, List.set_cons_succ, List.set_cons_zero]
    refine WG.nil ?_
    intro W2 B2
    go_wp2_with (first
      | (go_at_call 141; refine (cS _ (HP.out _ B2)).mono ?_; rintro en W3 ⟨rfl, P3, B3, T3⟩))
    go_ret
    exact ⟨rfl, P3, (below_lower B2 hsz).trans B3, (Turn.of_below B2 br).trans T3⟩
  | none =>
    rw [hF] at cB
    by_cases hlt : σ.k < gs.length
    · obtain ⟨b, o, ea, _, hr⟩ := hT _ _ (gAt_lt hlt)
      subst ea
      have d0 : w.cell? ⟨b, o + CS.k σ * 7, none⟩ = some (.int .i64 (gAt gs (CS.k σ)).kind) := hr 0 _ rfl
      have d1 : w.cell? ⟨b, o + CS.k σ * 7 + 1, none⟩ = some (.string (gAt gs (CS.k σ)).text) := hr 1 _ rfl
      have hix : (CS.k σ : Int) < gs.length := by omega
      have hge : ¬ ((gs.length : Int) ≤ (CS.k σ : Int)) := by omega
      by_cases hk2 : (gAt gs σ.k).kind = 2
      · have q : nbrQ gs σ = true := by unfold nbrQ; rw [hF]; simp [hlt, hk2]
        have e1 : nbrC gs σ = takeC gs σ := if_pos q
        have e2 : nbrX gs σ = (gAt gs σ.k).value := if_pos q
        have e3 : takeX gs σ = gAt gs σ.k := if_neg (by rw [hF]; simp; omega)
        rw [e1, e2]
        rw [e3] at cT
        clear e1 e2 e3 q no hT hF cS d1 hr
        have hkd : ((2 : Int) == 2) = true := rfl
        generalize gAt gs (CS.k σ) = g at *
        obtain ⟨q1, q2, q3, q4, q5, q6, q7⟩ := g
        dsimp only [gtL] at cT ⊢
        have hfd : ∀ (w : World), (Instr.field 49 (.agg #[.int .i64 q1, .string q2, .int .i64 q3, .int .i64 q4, .int .i64 q5, .int .i64 q6, .int .i64 q7]) 2).run Tryz.prog w = .ok (.int .i64 q3) w := fun w => fld2 _ _ _ _ _ _ _ w
        dsimp only at hk2
        subst hk2
        generalize takeC gs σ = σ' at *
        generalize hkk : CS.k σ = k at *
        generalize gs.length = n at *
        go_enter Tryz.func144, Tryz.ntmps144
        go_wp2_with fail
        refine grow_tailW 27 (by kernel_rfl) (by kernel_rfl) ?_
        simp only [List.take_succ_cons, List.take_zero, List.drop_succ_cons, List.drop_zero]
        refine WG.put rfl (v := .pointer (some ⟨br, 0, none⟩)) (fun w => by first | rfl | (go_simp; done) | (simp [go_sem]; done)) ?_
        simp only [Act.put, List.setIfInBounds_toArray, List.set_cons_succ, List.set_cons_zero]
        refine WG.call rfl (f := 43) (args := #[.pointer (some ⟨br, 0, none⟩)]) (v := .bool false) (fun w' hB' => (cB w' (HP.out _ hB')).mono (by rintro en w'' ⟨rfl, e⟩; rw [e]; exact ⟨rfl, Below.refl _ _⟩)) (fun w => by first | rfl | (go_simp; done) | (simp [go_sem]; done)) ?_
        simp only [Act.put, List.setIfInBounds_toArray, List.set_cons_succ, List.set_cons_zero]
        refine WG.put rfl (v := .bool false) (fun w => by first | rfl | (go_simp; done) | (simp [go_sem]; done)) ?_
        simp only [Act.put, List.setIfInBounds_toArray, List.set_cons_succ, List.set_cons_zero]
        refine WG.put rfl (v := .pointer (some ⟨br, 0, none⟩)) (fun w => by first | rfl | (go_simp; done) | (simp [go_sem]; done)) ?_
        simp only [Act.put, List.setIfInBounds_toArray, List.set_cons_succ, List.set_cons_zero]
        refine WG.put rfl (v := .pointer (some ⟨br, 0, none⟩)) (fun w => by first | rfl | (go_simp; done) | (simp [go_sem]; done)) ?_
        simp only [Act.put, List.setIfInBounds_toArray, List.set_cons_succ, List.set_cons_zero]
        refine WG.put rfl (v := .pointer (some ⟨br, 1, none⟩)) (fun w => by first | rfl | (go_simp; done) | (simp [go_sem]; done)) ?_
        simp only [Act.put, List.setIfInBounds_toArray, List.set_cons_succ, List.set_cons_zero]
        refine WG.cell rfl 3 _ rfl rfl c1 ld3 ?_
        simp only [Act.put, List.setIfInBounds_toArray, List.set_cons_succ, List.set_cons_zero]
        refine WG.put rfl (v := .pointer (some ⟨br, 0, none⟩)) (fun w => by first | rfl | (go_simp; done) | (simp [go_sem]; done)) ?_
        simp only [Act.put, List.setIfInBounds_toArray, List.set_cons_succ, List.set_cons_zero]
        refine WG.put rfl (v := .pointer (some ⟨br, 0, none⟩)) (fun w => by first | rfl | (go_simp; done) | (simp [go_sem]; done)) ?_
        simp only [Act.put, List.setIfInBounds_toArray, List.set_cons_succ, List.set_cons_zero]
        refine WG.put rfl (v := .pointer (some ⟨br, 0, none⟩)) (fun w => by first | rfl | (go_simp; done) | (simp [go_sem]; done)) ?_
        simp only [Act.put, List.setIfInBounds_toArray, List.set_cons_succ, List.set_cons_zero]
        refine WG.cell rfl 43 _ rfl rfl c0 ldTk ?_
        simp only [Act.put, List.setIfInBounds_toArray, List.set_cons_succ, List.set_cons_zero]
        refine WG.put rfl (v := .int .i64 (n : Int)) (fun w => by first | rfl | (go_simp; done) | (simp [go_sem]; done)) ?_
        simp only [Act.put, List.setIfInBounds_toArray, List.set_cons_succ, List.set_cons_zero]
        refine WG.put rfl (v := .bool false) (fun w => by first | rfl | (go_simp; done) | (simp [go_sem, hge, hlt]; done)) ?_
        simp only [Act.put, List.setIfInBounds_toArray, List.set_cons_succ, List.set_cons_zero]
        refine WG.put rfl (v := .bool false) (fun w => by first | rfl | (go_simp; done) | (simp [go_sem]; done)) ?_
        simp only [Act.put, List.setIfInBounds_toArray, List.set_cons_succ, List.set_cons_zero]
        refine WG.put rfl (v := .bool false) (fun w => by first | rfl | (go_simp; done) | (simp [go_sem]; done)) ?_
        simp only [Act.put, List.setIfInBounds_toArray, List.set_cons_succ, List.set_cons_zero]
        refine WG.put rfl (v := .pointer (some ⟨br, 0, none⟩)) (fun w => by first | rfl | (go_simp; done) | (simp [go_sem]; done)) ?_
        simp only [Act.put, List.setIfInBounds_toArray, List.set_cons_succ, List.set_cons_zero]
        refine WG.put rfl (v := .pointer (some ⟨br, 0, none⟩)) (fun w => by first | rfl | (go_simp; done) | (simp [go_sem]; done)) ?_
        simp only [Act.put, List.setIfInBounds_toArray, List.set_cons_succ, List.set_cons_zero]
        refine WG.put rfl (v := .pointer (some ⟨br, 0, none⟩)) (fun w => by first | rfl | (go_simp; done) | (simp [go_sem]; done)) ?_
        simp only [Act.put, List.setIfInBounds_toArray, List.set_cons_succ, List.set_cons_zero]
        refine WG.cell rfl 43 _ rfl rfl c0 ldTk ?_
        simp only [Act.put, List.setIfInBounds_toArray, List.set_cons_succ, List.set_cons_zero]
        refine WG.put rfl (v := .pointer (some ⟨br, 0, none⟩)) (fun w => by first | rfl | (go_simp; done) | (simp [go_sem]; done)) ?_
        simp only [Act.put, List.setIfInBounds_toArray, List.set_cons_succ, List.set_cons_zero]
        refine WG.put rfl (v := .pointer (some ⟨br, 0, none⟩)) (fun w => by first | rfl | (go_simp; done) | (simp [go_sem]; done)) ?_
        simp only [Act.put, List.setIfInBounds_toArray, List.set_cons_succ, List.set_cons_zero]
        refine WG.put rfl (v := .pointer (some ⟨br, 1, none⟩)) (fun w => by first | rfl | (go_simp; done) | (simp [go_sem]; done)) ?_
        simp only [Act.put, List.setIfInBounds_toArray, List.set_cons_succ, List.set_cons_zero]
        refine WG.cell rfl 3 _ rfl rfl c1 ld3 ?_
        simp only [Act.put, List.setIfInBounds_toArray, List.set_cons_succ, List.set_cons_zero]
        refine WG.put rfl (v := .pointer (some ⟨b, o + k * 7, none⟩)) (fun w => by first | rfl | (go_simp; done) | (simp [go_sem, hix]; done)) ?_
        simp only [Act.put, List.setIfInBounds_toArray, List.set_cons_succ, List.set_cons_zero]
        refine WG.put rfl (v := .pointer (some ⟨b, o + k * 7, none⟩)) (fun w => by first | rfl | (go_simp; done) | (simp [go_sem]; done)) ?_
        simp only [Act.put, List.setIfInBounds_toArray, List.set_cons_succ, List.set_cons_zero]
        refine WG.cell rfl 3 _ rfl rfl d0 ld3 ?_
        simp only [Act.put, List.setIfInBounds_toArray, List.set_cons_succ, List.set_cons_zero]
        refine WG.put rfl (v := .bool false) (fun w => by first | rfl | (go_simp; done) | (simp [go_sem, hkd]; done)) ?_
        simp only [Act.put, List.setIfInBounds_toArray, List.set_cons_succ, List.set_cons_zero]
        refine WG.nil ?_
        intro W2 B2
        go_wp2_with (first
          | (go_at_call 68; refine (cT _ (HP.out _ B2)).mono ?_; rintro en W3 ⟨rfl, P3, B3, T3⟩))
        go_ret
        exact ⟨rfl, P3, (below_lower B2 hsz).trans B3, (Turn.of_below B2 br).trans T3⟩
      · obtain ⟨e1, e2⟩ := no (by unfold nbrQ; simp [hk2])
        rw [e1, e2]
        have hkd : ((gAt gs (CS.k σ)).kind == 2) = false := by simpa using hk2
        have hkd2 : ¬ ((gAt gs (CS.k σ)).kind = 2) := hk2
        clear e1 e2 no hT hF cT hk2 hr d1
        generalize hs : synC gs σ = σ' at *
        clear hs
        generalize (gAt gs (CS.k σ)).kind = gk at *
        generalize hkk : CS.k σ = k at *
        generalize gs.length = n at *
        go_enter Tryz.func144, Tryz.ntmps144
        go_wp2_with fail
        refine grow_tailW 27 (by kernel_rfl) (by kernel_rfl) ?_
        simp only [List.take_succ_cons, List.take_zero, List.drop_succ_cons, List.drop_zero]
        refine WG.put rfl (v := .pointer (some ⟨br, 0, none⟩)) (fun w => by first | rfl | (go_simp; done) | (simp [go_sem]; done)) ?_
        simp only [Act.put, List.setIfInBounds_toArray, List.set_cons_succ, List.set_cons_zero]
        refine WG.call rfl (f := 43) (args := #[.pointer (some ⟨br, 0, none⟩)]) (v := .bool false) (fun w' hB' => (cB w' (HP.out _ hB')).mono (by rintro en w'' ⟨rfl, e⟩; rw [e]; exact ⟨rfl, Below.refl _ _⟩)) (fun w => by first | rfl | (go_simp; done) | (simp [go_sem]; done)) ?_
        simp only [Act.put, List.setIfInBounds_toArray, List.set_cons_succ, List.set_cons_zero]
        refine WG.put rfl (v := .bool false) (fun w => by first | rfl | (go_simp; done) | (simp [go_sem]; done)) ?_
        simp only [Act.put, List.setIfInBounds_toArray, List.set_cons_succ, List.set_cons_zero]
        refine WG.put rfl (v := .pointer (some ⟨br, 0, none⟩)) (fun w => by first | rfl | (go_simp; done) | (simp [go_sem]; done)) ?_
        simp only [Act.put, List.setIfInBounds_toArray, List.set_cons_succ, List.set_cons_zero]
        refine WG.put rfl (v := .pointer (some ⟨br, 0, none⟩)) (fun w => by first | rfl | (go_simp; done) | (simp [go_sem]; done)) ?_
        simp only [Act.put, List.setIfInBounds_toArray, List.set_cons_succ, List.set_cons_zero]
        refine WG.put rfl (v := .pointer (some ⟨br, 1, none⟩)) (fun w => by first | rfl | (go_simp; done) | (simp [go_sem]; done)) ?_
        simp only [Act.put, List.setIfInBounds_toArray, List.set_cons_succ, List.set_cons_zero]
        refine WG.cell rfl 3 _ rfl rfl c1 ld3 ?_
        simp only [Act.put, List.setIfInBounds_toArray, List.set_cons_succ, List.set_cons_zero]
        refine WG.put rfl (v := .pointer (some ⟨br, 0, none⟩)) (fun w => by first | rfl | (go_simp; done) | (simp [go_sem]; done)) ?_
        simp only [Act.put, List.setIfInBounds_toArray, List.set_cons_succ, List.set_cons_zero]
        refine WG.put rfl (v := .pointer (some ⟨br, 0, none⟩)) (fun w => by first | rfl | (go_simp; done) | (simp [go_sem]; done)) ?_
        simp only [Act.put, List.setIfInBounds_toArray, List.set_cons_succ, List.set_cons_zero]
        refine WG.put rfl (v := .pointer (some ⟨br, 0, none⟩)) (fun w => by first | rfl | (go_simp; done) | (simp [go_sem]; done)) ?_
        simp only [Act.put, List.setIfInBounds_toArray, List.set_cons_succ, List.set_cons_zero]
        refine WG.cell rfl 43 _ rfl rfl c0 ldTk ?_
        simp only [Act.put, List.setIfInBounds_toArray, List.set_cons_succ, List.set_cons_zero]
        refine WG.put rfl (v := .int .i64 (n : Int)) (fun w => by first | rfl | (go_simp; done) | (simp [go_sem]; done)) ?_
        simp only [Act.put, List.setIfInBounds_toArray, List.set_cons_succ, List.set_cons_zero]
        refine WG.put rfl (v := .bool false) (fun w => by first | rfl | (go_simp; done) | (simp [go_sem, hge, hlt]; done)) ?_
        simp only [Act.put, List.setIfInBounds_toArray, List.set_cons_succ, List.set_cons_zero]
        refine WG.put rfl (v := .bool false) (fun w => by first | rfl | (go_simp; done) | (simp [go_sem]; done)) ?_
        simp only [Act.put, List.setIfInBounds_toArray, List.set_cons_succ, List.set_cons_zero]
        refine WG.put rfl (v := .bool false) (fun w => by first | rfl | (go_simp; done) | (simp [go_sem]; done)) ?_
        simp only [Act.put, List.setIfInBounds_toArray, List.set_cons_succ, List.set_cons_zero]
        refine WG.put rfl (v := .pointer (some ⟨br, 0, none⟩)) (fun w => by first | rfl | (go_simp; done) | (simp [go_sem]; done)) ?_
        simp only [Act.put, List.setIfInBounds_toArray, List.set_cons_succ, List.set_cons_zero]
        refine WG.put rfl (v := .pointer (some ⟨br, 0, none⟩)) (fun w => by first | rfl | (go_simp; done) | (simp [go_sem]; done)) ?_
        simp only [Act.put, List.setIfInBounds_toArray, List.set_cons_succ, List.set_cons_zero]
        refine WG.put rfl (v := .pointer (some ⟨br, 0, none⟩)) (fun w => by first | rfl | (go_simp; done) | (simp [go_sem]; done)) ?_
        simp only [Act.put, List.setIfInBounds_toArray, List.set_cons_succ, List.set_cons_zero]
        refine WG.cell rfl 43 _ rfl rfl c0 ldTk ?_
        simp only [Act.put, List.setIfInBounds_toArray, List.set_cons_succ, List.set_cons_zero]
        refine WG.put rfl (v := .pointer (some ⟨br, 0, none⟩)) (fun w => by first | rfl | (go_simp; done) | (simp [go_sem]; done)) ?_
        simp only [Act.put, List.setIfInBounds_toArray, List.set_cons_succ, List.set_cons_zero]
        refine WG.put rfl (v := .pointer (some ⟨br, 0, none⟩)) (fun w => by first | rfl | (go_simp; done) | (simp [go_sem]; done)) ?_
        simp only [Act.put, List.setIfInBounds_toArray, List.set_cons_succ, List.set_cons_zero]
        refine WG.put rfl (v := .pointer (some ⟨br, 1, none⟩)) (fun w => by first | rfl | (go_simp; done) | (simp [go_sem]; done)) ?_
        simp only [Act.put, List.setIfInBounds_toArray, List.set_cons_succ, List.set_cons_zero]
        refine WG.cell rfl 3 _ rfl rfl c1 ld3 ?_
        simp only [Act.put, List.setIfInBounds_toArray, List.set_cons_succ, List.set_cons_zero]
        refine WG.put rfl (v := .pointer (some ⟨b, o + k * 7, none⟩)) (fun w => by first | rfl | (go_simp; done) | (simp [go_sem, hix]; done)) ?_
        simp only [Act.put, List.setIfInBounds_toArray, List.set_cons_succ, List.set_cons_zero]
        refine WG.put rfl (v := .pointer (some ⟨b, o + k * 7, none⟩)) (fun w => by first | rfl | (go_simp; done) | (simp [go_sem]; done)) ?_
        simp only [Act.put, List.setIfInBounds_toArray, List.set_cons_succ, List.set_cons_zero]
        refine WG.cell rfl 3 _ rfl rfl d0 ld3 ?_
        simp only [Act.put, List.setIfInBounds_toArray, List.set_cons_succ, List.set_cons_zero]
        refine WG.put rfl (v := .bool true) (fun w => by first | rfl | (go_simp; done) | (simp [go_sem, hkd, hkd2, bne]; done)) ?_
        simp only [Act.put, List.setIfInBounds_toArray, List.set_cons_succ, List.set_cons_zero]
        refine WG.nil ?_
        intro W2 B2
        go_wp2_with (first
          | (go_at_call 141; refine (cS _ (HP.out _ B2)).mono ?_; rintro en W3 ⟨rfl, P3, B3, T3⟩))
        go_ret
        exact ⟨rfl, P3, (below_lower B2 hsz).trans B3, (Turn.of_below B2 br).trans T3⟩
    · obtain ⟨e1, e2⟩ := no (by unfold nbrQ; simp [hlt])
      rw [e1, e2]
      have hge : (gs.length : Int) ≤ (CS.k σ : Int) := by omega
      clear e1 e2 no hT hF cT hlt
      generalize hs : synC gs σ = σ' at *
      clear hs
      generalize hkk : σ.k = k at *
      generalize gs.length = n at *
      go_enter Tryz.func144, Tryz.ntmps144
      go_wp2_with fail
      refine grow_tailW 27 (by kernel_rfl) (by kernel_rfl) ?_
      simp only [List.take_succ_cons, List.take_zero, List.drop_succ_cons, List.drop_zero]
      refine WG.put rfl (v := .pointer (some ⟨br, 0, none⟩)) (fun w => by first | rfl | (go_simp; done) | (simp [go_sem]; done)) ?_
      simp only [Act.put, List.setIfInBounds_toArray, List.set_cons_succ, List.set_cons_zero]
      refine WG.call rfl (f := 43) (args := #[.pointer (some ⟨br, 0, none⟩)]) (v := .bool false) (fun w' hB' => (cB w' (HP.out _ hB')).mono (by rintro en w'' ⟨rfl, e⟩; rw [e]; exact ⟨rfl, Below.refl _ _⟩)) (fun w => by first | rfl | (go_simp; done) | (simp [go_sem]; done)) ?_
      simp only [Act.put, List.setIfInBounds_toArray, List.set_cons_succ, List.set_cons_zero]
      refine WG.put rfl (v := .bool false) (fun w => by first | rfl | (go_simp; done) | (simp [go_sem]; done)) ?_
      simp only [Act.put, List.setIfInBounds_toArray, List.set_cons_succ, List.set_cons_zero]
      refine WG.put rfl (v := .pointer (some ⟨br, 0, none⟩)) (fun w => by first | rfl | (go_simp; done) | (simp [go_sem]; done)) ?_
      simp only [Act.put, List.setIfInBounds_toArray, List.set_cons_succ, List.set_cons_zero]
      refine WG.put rfl (v := .pointer (some ⟨br, 0, none⟩)) (fun w => by first | rfl | (go_simp; done) | (simp [go_sem]; done)) ?_
      simp only [Act.put, List.setIfInBounds_toArray, List.set_cons_succ, List.set_cons_zero]
      refine WG.put rfl (v := .pointer (some ⟨br, 1, none⟩)) (fun w => by first | rfl | (go_simp; done) | (simp [go_sem]; done)) ?_
      simp only [Act.put, List.setIfInBounds_toArray, List.set_cons_succ, List.set_cons_zero]
      refine WG.cell rfl 3 _ rfl rfl c1 ld3 ?_
      simp only [Act.put, List.setIfInBounds_toArray, List.set_cons_succ, List.set_cons_zero]
      refine WG.put rfl (v := .pointer (some ⟨br, 0, none⟩)) (fun w => by first | rfl | (go_simp; done) | (simp [go_sem]; done)) ?_
      simp only [Act.put, List.setIfInBounds_toArray, List.set_cons_succ, List.set_cons_zero]
      refine WG.put rfl (v := .pointer (some ⟨br, 0, none⟩)) (fun w => by first | rfl | (go_simp; done) | (simp [go_sem]; done)) ?_
      simp only [Act.put, List.setIfInBounds_toArray, List.set_cons_succ, List.set_cons_zero]
      refine WG.put rfl (v := .pointer (some ⟨br, 0, none⟩)) (fun w => by first | rfl | (go_simp; done) | (simp [go_sem]; done)) ?_
      simp only [Act.put, List.setIfInBounds_toArray, List.set_cons_succ, List.set_cons_zero]
      refine WG.cell rfl 43 _ rfl rfl c0 ldTk ?_
      simp only [Act.put, List.setIfInBounds_toArray, List.set_cons_succ, List.set_cons_zero]
      refine WG.put rfl (v := .int .i64 (n : Int)) (fun w => by first | rfl | (go_simp; done) | (simp [go_sem]; done)) ?_
      simp only [Act.put, List.setIfInBounds_toArray, List.set_cons_succ, List.set_cons_zero]
      refine WG.put rfl (v := .bool true) (fun w => by first | rfl | (go_simp; done) | (simp [go_sem, hge]; done)) ?_
      simp only [Act.put, List.setIfInBounds_toArray, List.set_cons_succ, List.set_cons_zero]
      refine WG.put rfl (v := .bool true) (fun w => by first | rfl | (go_simp; done) | (simp [go_sem]; done)) ?_
      simp only [Act.put, List.setIfInBounds_toArray, List.set_cons_succ, List.set_cons_zero]
      refine WG.put rfl (v := .bool true) (fun w => by first | rfl | (go_simp; done) | (simp [go_sem]; done)) ?_
      simp only [Act.put, List.setIfInBounds_toArray, List.set_cons_succ, List.set_cons_zero]
      refine WG.skip rfl ?_
      simp only [Act.put, List.setIfInBounds_toArray, List.set_cons_succ, List.set_cons_zero]
      refine WG.skip rfl ?_
      simp only [Act.put, List.setIfInBounds_toArray, List.set_cons_succ, List.set_cons_zero]
      refine WG.skip rfl ?_
      simp only [Act.put, List.setIfInBounds_toArray, List.set_cons_succ, List.set_cons_zero]
      refine WG.skip rfl ?_
      simp only [Act.put, List.setIfInBounds_toArray, List.set_cons_succ, List.set_cons_zero]
      refine WG.skip rfl ?_
      simp only [Act.put, List.setIfInBounds_toArray, List.set_cons_succ, List.set_cons_zero]
      refine WG.skip rfl ?_
      simp only [Act.put, List.setIfInBounds_toArray, List.set_cons_succ, List.set_cons_zero]
      refine WG.skip rfl ?_
      simp only [Act.put, List.setIfInBounds_toArray, List.set_cons_succ, List.set_cons_zero]
      refine WG.skip rfl ?_
      simp only [Act.put, List.setIfInBounds_toArray, List.set_cons_succ, List.set_cons_zero]
      refine WG.skip rfl ?_
      simp only [Act.put, List.setIfInBounds_toArray, List.set_cons_succ, List.set_cons_zero]
      refine WG.skip rfl ?_
      simp only [Act.put, List.setIfInBounds_toArray, List.set_cons_succ, List.set_cons_zero]
      refine WG.skip rfl ?_
      simp only [Act.put, List.setIfInBounds_toArray, List.set_cons_succ, List.set_cons_zero]
      refine WG.skip rfl ?_
      simp only [Act.put, List.setIfInBounds_toArray, List.set_cons_succ, List.set_cons_zero]
      refine WG.nil ?_
      intro W2 B2
      go_wp2_with (first
        | (go_at_call 141; refine (cS _ (HP.out _ B2)).mono ?_; rintro en W3 ⟨rfl, P3, B3, T3⟩))
      go_ret
      exact ⟨rfl, P3, (below_lower B2 hsz).trans B3, (Turn.of_below B2 br).trans T3⟩
end
end Go.Proofs.YtjnbhcakfenbhaaGreatDoor

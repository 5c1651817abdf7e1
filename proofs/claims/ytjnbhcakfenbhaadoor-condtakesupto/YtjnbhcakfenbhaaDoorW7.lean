/- The reference's reader of conditions: node. -/
import Derived.Test.YtjnbhcakfenbhaaDoorW6
namespace Go.Proofs.YtjnbhcakfenbhaaDoor
open Go.RowKit Go.Shelf M
set_option linter.unusedSimpArgs false
set_option linter.unusedVariables false

section
variable {gs : List GT} {a : Option Addr} {cap base br k0 : Nat}
set_option maxRecDepth 100000 in
set_option maxHeartbeats 2000000 in
theorem rnode_more (σ : CS) (nd : Nd) (hF : σ.F = none) (hl : σ.nodes.length < 1024) (w : World) (hP : RC gs a cap base br k0 w σ) :
    Calls Tryd.prog 53 #[.pointer (some ⟨br, 0, none⟩), .agg (ndL nd).toArray] w fun en w' => OutR gs a cap base br k0 w (nodeC gs σ nd) (.int .i64 (nodeI σ)) en w' := by
    have cB := fun W hP => rbad_any (gs := gs) (a := a) (cap := cap) (base := base) (br := br) (k0 := k0) σ W hP
    rw [hF] at cB
    obtain ⟨v, t, h3, h4, hlast⟩ := hP.ex
    have hbr := hP.lt
    have e2 : nodeC gs σ nd = ⟨σ.k, σ.deep, σ.nodes ++ [nd], none⟩ := by unfold nodeC; rw [if_neg (by rw [hF]; simp), if_neg (by omega)]
    have e3 : nodeI σ = (σ.nodes.length : Int) := by unfold nodeI; rw [if_neg (by rw [hF]; simp; omega)]
    rw [e2, e3]
    obtain ⟨a0, c0, rfl⟩ := own_formN h4
    have hlen : ((σ.nodes.length : Int) == 1024) = false := (by simp; omega)
    have hl2 : σ.nodes.length ≤ 1024 := by omega
    rw [hF] at h3
    go_enter Tryd.func53, Tryd.ntmps53
    go_wp2_with (first
      | (refine wpList_boxS rfl 52 _ rfl (ndL nd) rfl ?_; intro W1 b3 F1 N1; have B1 := F1.trans (Below.refl _ w) (Nat.le_refl _); have P1 := hP.grown B1; have R1 := h3.fresh F1; have O1 := own_grN h4 B1; have hb3 : w.heap.size ≤ b3 := Nat.le_of_eq F1.at'.symm; have c3 : W1.cell? ⟨br, 10, none⟩ = some (.slice a0 σ.nodes.length c0) := R1.cell 10; have o3 : (Value.slice a0 σ.nodes.length c0).ownBlock ≠ some b3 := (fun hg => (by have := (h4.lt _ hg).2; omega)); clear F1)
      | (go_at_call 35; refine (cB _ P1).mono ?_; rintro en W2 ⟨rfl, hW⟩; replace hW := hW.symm; subst hW; clear cB P1))
    obtain ⟨X, hX⟩ : ∃ X : World, X = { W1 with drawn := W1.drawn + 1 } := ⟨_, rfl⟩
    have N2 : IsS X b3 52 (ndL nd) := (by rw [hX]; exact N1)
    have R2 : IsS X br 75 (rrL a gs.length cap σ.k t σ.deep (.slice a0 σ.nodes.length c0) none) := (by rw [hX]; exact R1)
    have B2 : Below w.heap.size w X := (by rw [hX]; exact ⟨B1.os, B1.tape, B1.output, B1.size, B1.block⟩)
    have O2 : X.ownsRow base 52 6 (.slice a0 σ.nodes.length c0) σ.nodes.length (cellsL σ.nodes) := (by rw [hX]; exact own_grN O1 ⟨rfl, rfl, rfl, Nat.le_refl _, fun _ _ => rfl⟩)
    clear N1 R1 O1 c3 h3 h4
    try dsimp only [Act.put]
    refine (wpIn_wide (n := 0)).1 ?_
    refine region_headC (fun w => IsS w br 75 (rrL a gs.length cap σ.k t σ.deep (.slice a0 σ.nodes.length c0) none) ∧ IsS w b3 52 (ndL nd)) 10 (by kernel_rfl) (by decide) ?_
    rw [← hX]
    clear hX B1
    refine atC_take (fun _ => trivial) (headed_of (by kernel_rfl)) 0 rfl (by kernel_rfl) (fun c a w h => h) (v := .pointer (some ⟨br, 0, none⟩)) (.inl ⟨rfl, fun w hc => ?y0⟩) ⟨R2, N2⟩ ?_
    case y0 =>
      first | rfl | simp [execOp, go_sem]
    simp only [Act.put, List.getElem_toArray, List.getElem_cons_zero, List.getElem_cons_succ, List.setIfInBounds_toArray, List.set_cons_succ, List.set_cons_zero]
    refine atC_take (fun _ => trivial) (headed_of (by kernel_rfl)) 1 rfl (by kernel_rfl) (fun c a w h => h) (v := .pointer (some ⟨br, 0, none⟩)) (.inl ⟨rfl, fun w hc => ?y1⟩) ⟨R2, N2⟩ ?_
    case y1 =>
      first | rfl | simp [execOp, go_sem]
    simp only [Act.put, List.getElem_toArray, List.getElem_cons_zero, List.getElem_cons_succ, List.setIfInBounds_toArray, List.set_cons_succ, List.set_cons_zero]
    refine atC_take (fun _ => trivial) (headed_of (by kernel_rfl)) 2 rfl (by kernel_rfl) (fun c a w h => h) (v := .pointer (some ⟨br, 0, none⟩)) (.inl ⟨rfl, fun w hc => ?y2⟩) ⟨R2, N2⟩ ?_
    case y2 =>
      first | rfl | simp [execOp, go_sem]
    simp only [Act.put, List.getElem_toArray, List.getElem_cons_zero, List.getElem_cons_succ, List.setIfInBounds_toArray, List.set_cons_succ, List.set_cons_zero]
    refine atC_take (fun _ => trivial) (headed_of (by kernel_rfl)) 3 rfl (by kernel_rfl) (fun c a w h => h) (v := .pointer (some ⟨br, 10, none⟩)) (.inl ⟨rfl, fun w hc => ?y3⟩) ⟨R2, N2⟩ ?_
    case y3 =>
      first | rfl | simp [execOp, go_sem]
    simp only [Act.put, List.getElem_toArray, List.getElem_cons_zero, List.getElem_cons_succ, List.setIfInBounds_toArray, List.set_cons_succ, List.set_cons_zero]
    refine atC_take (fun _ => trivial) (headed_of (by kernel_rfl)) 4 rfl (by kernel_rfl) (fun c a w h => h) (v := .slice a0 σ.nodes.length c0) (.inl ⟨rfl, fun w hc => ?y4⟩) ⟨R2, N2⟩ ?_
    case y4 =>
      exact run_load1 23 _ rfl rfl hc.1 rfl ldCd
    simp only [Act.put, List.getElem_toArray, List.getElem_cons_zero, List.getElem_cons_succ, List.setIfInBounds_toArray, List.set_cons_succ, List.set_cons_zero]
    refine atC_take (fun _ => trivial) (headed_of (by kernel_rfl)) 5 rfl (by kernel_rfl) (fun c a w h => h) (v := .agg (ndL nd).toArray) (.inl ⟨rfl, fun w hc => ?y5⟩) ⟨R2, N2⟩ ?_
    case y5 =>
      exact run_loadP 52 _ rfl rfl hc.2 6 (ndL nd) rfl _ Tryd.underlying52 rfl infoNd
    simp only [Act.put, List.getElem_toArray, List.getElem_cons_zero, List.getElem_cons_succ, List.setIfInBounds_toArray, List.set_cons_succ, List.set_cons_zero]
    refine atC_ex (fun _ => trivial) 6 rfl (by kernel_rfl) (by intro c h; cases h) rfl (run_buildNd (w := X) _ rfl nd rfl) ?_
    rintro _ Y ⟨b9, rfl, FY, NY⟩
    refine ⟨⟨R2.fresh FY, N2.fresh FY⟩, ?_⟩
    simp only [Act.put, List.getElem_toArray, List.getElem_cons_zero, List.getElem_cons_succ, List.setIfInBounds_toArray, List.set_cons_succ, List.set_cons_zero]
    have O3 := own_grN O2 (FY.trans (Below.refl _ _) (Nat.le_refl _))
    have B3 := FY.trans B2 B2.size
    have R3 := R2.fresh FY
    have N3 := N2.fresh FY
    clear R2 N2 O2 B2 FY
    refine atC_ex (fun _ => trivial) 7 rfl (by kernel_rfl) (by intro c h; cases h) rfl (run_appNd (w := Y) _ _ rfl base (.slice a0 σ.nodes.length c0) σ.nodes rfl O3 b9 nd rfl NY (by omega) (Nat.le_trans hP.sz B3.size)) ?_
    rintro v2 Z ⟨O4, S4⟩
    have nrow := own_neN O3 R3 (by decide)
    have R4 := R3.step S4 (by intro e; cases e) (Ne.symm nrow)
    have N4 := N3.step S4 (by intro e; cases e) (Ne.symm o3)
    refine ⟨⟨R4, N4⟩, ?_⟩
    simp only [Act.put, List.getElem_toArray, List.getElem_cons_zero, List.getElem_cons_succ, List.setIfInBounds_toArray, List.set_cons_succ, List.set_cons_zero]
    refine atC_take (fun _ => trivial) (headed_of (by kernel_rfl)) 8 rfl (by kernel_rfl) (fun c a w h => h) (v := .pointer (some ⟨br, 0, none⟩)) (.inl ⟨rfl, fun w hc => ?y8⟩) ⟨R4, N4⟩ ?_
    case y8 =>
      first | rfl | simp [execOp, go_sem]
    simp only [Act.put, List.getElem_toArray, List.getElem_cons_zero, List.getElem_cons_succ, List.setIfInBounds_toArray, List.set_cons_succ, List.set_cons_zero]
    refine atC_take (fun _ => trivial) (headed_of (by kernel_rfl)) 9 rfl (by kernel_rfl) (fun c a w h => h) (v := .pointer (some ⟨br, 10, none⟩)) (.inl ⟨rfl, fun w hc => ?y9⟩) ⟨R4, N4⟩ ?_
    case y9 =>
      first | rfl | simp [execOp, go_sem]
    simp only [Act.put, List.getElem_toArray, List.getElem_cons_zero, List.getElem_cons_succ, List.setIfInBounds_toArray, List.set_cons_succ, List.set_cons_zero]
    have B4 : Below base w Z := (below_lower B3 hP.sz).trans (S4.below (by intro b e; cases e) (fun b e => (O3.lt b e).1) (Nat.le_trans hP.sz B3.size))
    have nrow2 := own_neN O4 R4 (by decide)
    refine atC_end (by kernel_rfl) ?_
    simp only [List.drop_succ_cons, List.drop_zero]
    obtain ⟨m, hm⟩ : ∃ m, (σ.nodes ++ [nd]).length = m := ⟨_, rfl⟩
    have HM : Hid ((m : Int) - 1 = (σ.nodes.length : Int)) := (by show _ = _; rw [← hm]; simp)
    have HN : Hid ((σ.nodes ++ [nd]).length = m) := hm
    have hm2 : m ≤ 1024 := (by rw [← hm]; simp; omega)
    have hm1 : 1 ≤ m := (by rw [← hm]; simp)
    rw [hm] at O4
    clear hm
    obtain ⟨a5, c5, rfl⟩ := own_formN O4
    gi_wp2_with (first
      | (refine inStore1 rfl 23 _ _ rfl rfl (.slice a5 m c5) rfl R4 (by rw [rrL_len]; omega) infoCd rfl ?_; intro W9 U9 R9x; have R9 : IsS W9 br 75 (rrL a gs.length cap σ.k t σ.deep (.slice a5 m c5) none) := R9x; have O9 := own_updF O4 U9 nrow2; have B9 : Below base w W9 := U9.trans B4 hP.bb; have c9 : W9.cell? ⟨br, 10, none⟩ = some (.slice a5 m c5) := R9.cell 10))
    clear R4 N4 O3 S4 nrow nrow2 O4 B4 NY R3 N3
    go_wp2_with fail
    go_ret
    rw [HM.out]
    exact ⟨rfl, ⟨⟨_, t, R9, (by show W9.ownsRow base _ 6 _ (σ.nodes ++ [nd]).length _; rw [HN.out]; exact O9), hlast⟩, toks_low hP.toks hP.tb B9, hP.tb, hP.bb, Nat.le_trans hP.sz B9.size, (by show (σ.nodes ++ [nd]).length ≤ _; rw [HN.out]; exact hm2), hP.from', hP.k, fun x hx => (by cases hx)⟩, B9⟩
set_option maxRecDepth 100000 in
set_option maxHeartbeats 2000000 in
theorem rnode_any (σ : CS) (nd : Nd) (hk0 : σ.F = none → k0 < σ.k) (w : World) (hP : RC gs a cap base br k0 w σ) :
    Calls Tryd.prog 53 #[.pointer (some ⟨br, 0, none⟩), .agg (ndL nd).toArray] w fun en w' => OutR gs a cap base br k0 w (nodeC gs σ nd) (.int .i64 (nodeI σ)) en w' := by
  have cB := fun W hP => rbad_any (gs := gs) (a := a) (cap := cap) (base := base) (br := br) (k0 := k0) σ W hP
  have hsz := hP.sz
  have hbb := hP.bb
  have hbr := hP.lt
  have hlen := hP.len
  cases hF : σ.F with
  | some y =>
    rw [hF] at cB
    have e2 : nodeC gs σ nd = σ := if_pos (by rw [hF]; rfl)
    have e3 : nodeI σ = 0 := if_pos (by rw [hF]; rfl)
    rw [e2, e3]
    go_enter Tryd.func53, Tryd.ntmps53
    go_wp2_with (first
      | (refine wpList_boxS rfl 52 _ rfl (ndL nd) rfl ?_; intro W1 b3 F1 N1; have B1 := F1.trans (Below.refl _ w) (Nat.le_refl _); have P1 := hP.grown B1; clear F1)
      | (go_at_call 35; refine (cB _ P1).mono ?_; rintro en W2 ⟨rfl, hW⟩; replace hW := hW.symm; subst hW; clear cB))
    go_ret
    exact ⟨rfl, P1, below_lower B1 hsz⟩
  | none =>
    rw [hF] at cB
    obtain ⟨v, t, R, O, hl⟩ := hP.ex
    obtain ⟨a0, c0, rfl⟩ := own_formN O
    have ht := hl (hk0 hF)
    by_cases hl4 : σ.nodes.length = 1024
    · have e2 : nodeC gs σ nd = failC σ (gAt gs (σ.k - 1)) 1 := by unfold nodeC; rw [if_neg (by rw [hF]; simp), if_pos hl4]
      have e3 : nodeI σ = 0 := by unfold nodeI; rw [if_pos (by rw [hl4]; simp)]
      rw [e2, e3, ← ht]
      have cF := fun W hP => rfail_any (gs := gs) (a := a) (cap := cap) (base := base) (br := br) (k0 := k0) σ t 1 (by decide) W hP
      rw [hl4] at R
      clear e2 e3 hl ht O
      go_enter Tryd.func53, Tryd.ntmps53
      go_wp2_with (first
        | (refine wpList_boxS rfl 52 _ rfl (ndL nd) rfl ?_; intro W1 b3 F1 N1; have B1 := F1.trans (Below.refl _ w) (Nat.le_refl _); have P1 := hP.grown B1; have R1 := R.fresh F1; have c10 : W1.cell? ⟨br, 10, none⟩ = some (.slice a0 1024 c0) := R1.cell 10; clear F1)
        | (go_at_call 35; refine (cB _ P1).mono ?_; rintro en W2 ⟨rfl, hW⟩; replace hW := hW.symm; subst hW; clear cB)
        | (refine wpList_loadP rfl 37 _ rfl rfl R1 7 (gtL t) rfl _ Tryd.underlying37 rfl infoTok ?_)
        | (go_at_call 68; refine (cF _ P1).mono ?_; rintro en W3 ⟨rfl, P3, B3, _⟩; clear cF))
      go_ret
      exact ⟨rfl, P3, (below_lower B1 hsz).trans B3⟩
    · exact rnode_more σ nd hF (by omega) w hP
end
end Go.Proofs.YtjnbhcakfenbhaaDoor

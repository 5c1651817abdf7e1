/- Several texts in one: W7, W8. -/
import Derived.Test.YtjnbhcakfenbhaaGreatDoorQax
/- The reference's reader of conditions: node. -/
namespace Go.Proofs.YtjnbhcakfenbhaaGreatDoor
open Go.RowKit Go.Shelf M
set_option linter.unusedSimpArgs false
set_option linter.unusedVariables false

section
variable {gs : List GT} {a : Option Addr} {cap base br k0 : Nat}
set_option maxRecDepth 100000 in
set_option maxHeartbeats 2000000 in
theorem rnode_more (σ : CS) (nd : Nd) (hF : σ.F = none) (hl : σ.nodes.length < 1024) (w : World) (hP : RC gs a cap base br k0 w σ) :
    Calls Tryz.prog 69 #[.pointer (some ⟨br, 0, none⟩), .agg (ndL nd).toArray] w fun en w' => OutR gs a cap base br k0 w (nodeC gs σ nd) (.int .i64 (nodeI σ)) en w' := by
    have cB := fun W hP => rbad_any (gs := gs) (a := a) (cap := cap) (base := base) (br := br) (k0 := k0) σ W hP
    rw [hF] at cB
    obtain ⟨v, t, h3, h4, hlast⟩ := hP.ex
    have hbr := hP.lt
    have e2 : nodeC gs σ nd = ⟨σ.k, σ.deep, σ.nodes ++ [nd], none⟩ := by unfold nodeC; rw [if_neg (by rw [hF]; simp), if_neg (by omega)]
    have e3 : nodeI σ = (σ.nodes.length : Int) := by unfold nodeI; rw [if_neg (by rw [hF]; simp; omega)]
    rw [e2, e3]
    obtain ⟨a0, c0, rfl⟩ := own_formN h4
    have hlen : ((σ.nodes.length : Int) == 1024) = false := (by simp; omega)
    have hl2 : σ.nodes.length ≤ 1024 := by omega
    rw [hF] at h3
    go_enter Tryz.func69, Tryz.ntmps69
    go_wp2_with (first
      | (refine wpList_boxS rfl 62 _ rfl (ndL nd) rfl ?_; intro W1 b3 F1 N1; have B1 := F1.trans (Below.refl _ w) (Nat.le_refl _); have P1 := hP.grown B1; have R1 := h3.fresh F1; have O1 := own_grN h4 B1; have hb3 : w.heap.size ≤ b3 := Nat.le_of_eq F1.at'.symm; have c3 : W1.cell? ⟨br, 10, none⟩ = some (.slice a0 σ.nodes.length c0) := R1.cell 10; have o3 : (Value.slice a0 σ.nodes.length c0).ownBlock ≠ some b3 := (fun hg => (by have := (h4.lt _ hg).2; omega)); clear F1)
      | (go_at_call 43; refine (cB _ P1).mono ?_; rintro en W2 ⟨rfl, hW⟩; replace hW := hW.symm; subst hW; clear cB P1))
    obtain ⟨X, hX⟩ : ∃ X : World, X = { W1 with drawn := W1.drawn + 1 } := ⟨_, rfl⟩
    have N2 : IsS X b3 62 (ndL nd) := (by rw [hX]; exact N1)
    have R2 : IsS X br 102 (rrL a gs.length cap σ.k t σ.deep (.slice a0 σ.nodes.length c0) none) := (by rw [hX]; exact R1)
    have B2 : Below w.heap.size w X := (by rw [hX]; exact ⟨B1.os, B1.tape, B1.output, B1.size, B1.block⟩)
    have O2 : X.ownsRow base 62 6 (.slice a0 σ.nodes.length c0) σ.nodes.length (cellsL σ.nodes) := (by rw [hX]; exact own_grN O1 ⟨rfl, rfl, rfl, Nat.le_refl _, fun _ _ => rfl⟩)
    clear N1 R1 O1 c3 h3 h4
    try dsimp only [Act.put]
    refine (wpIn_wide (n := 0)).1 ?_
    refine region_headC (fun w => IsS w br 102 (rrL a gs.length cap σ.k t σ.deep (.slice a0 σ.nodes.length c0) none) ∧ IsS w b3 62 (ndL nd)) 10 (by kernel_rfl) (by decide) ?_
    rw [← hX]
    clear hX B1
    refine atC_take (fun _ => trivial) (headed_of (by kernel_rfl)) 0 rfl (by kernel_rfl) (fun c a w h => h) (v := .pointer (some ⟨br, 0, none⟩)) (.inl ⟨rfl, fun w hc => ?y0⟩) ⟨R2, N2⟩ ?_
    case y0 =>
      first | rfl | simp [execOp, go_sem]
    simp only [Act.put, List.getElem_toArray, List.getElem_cons_zero, List.getElem_cons_succ, List.setIfInBounds_toArray, List.set_cons_succ, List.set_cons_zero]
    refine atC_take (fun _ => trivial) (headed_of (by kernel_rfl)) 1 rfl (by kernel_rfl) (fun c a w h => h) (v := .pointer (some ⟨br, 0, none⟩)) (.inl ⟨rfl, fun w hc => ?y1⟩) ⟨R2, N2⟩ ?_
    case y1 =>
      first | rfl | simp [execOp, go_sem]
    simp only [Act.put, List.getElem_toArray, List.getElem_cons_zero, List.getElem_cons_succ, List.setIfInBounds_toArray, List.set_cons_succ, List.set_cons_zero]
    refine atC_take (fun _ => trivial) (headed_of (by kernel_rfl)) 2 rfl (by kernel_rfl) (fun c a w h => h) (v := .pointer (some ⟨br, 0, none⟩)) (.inl ⟨rfl, fun w hc => ?y2⟩) ⟨R2, N2⟩ ?_
    case y2 =>
      first | rfl | simp [execOp, go_sem]
    simp only [Act.put, List.getElem_toArray, List.getElem_cons_zero, List.getElem_cons_succ, List.setIfInBounds_toArray, List.set_cons_succ, List.set_cons_zero]
    refine atC_take (fun _ => trivial) (headed_of (by kernel_rfl)) 3 rfl (by kernel_rfl) (fun c a w h => h) (v := .pointer (some ⟨br, 10, none⟩)) (.inl ⟨rfl, fun w hc => ?y3⟩) ⟨R2, N2⟩ ?_
    case y3 =>
      first | rfl | simp [execOp, go_sem]
    simp only [Act.put, List.getElem_toArray, List.getElem_cons_zero, List.getElem_cons_succ, List.setIfInBounds_toArray, List.set_cons_succ, List.set_cons_zero]
    refine atC_take (fun _ => trivial) (headed_of (by kernel_rfl)) 4 rfl (by kernel_rfl) (fun c a w h => h) (v := .slice a0 σ.nodes.length c0) (.inl ⟨rfl, fun w hc => ?y4⟩) ⟨R2, N2⟩ ?_
    case y4 =>
      exact run_load1 23 _ rfl rfl hc.1 rfl ldCd
    simp only [Act.put, List.getElem_toArray, List.getElem_cons_zero, List.getElem_cons_succ, List.setIfInBounds_toArray, List.set_cons_succ, List.set_cons_zero]
    refine atC_take (fun _ => trivial) (headed_of (by kernel_rfl)) 5 rfl (by kernel_rfl) (fun c a w h => h) (v := .agg (ndL nd).toArray) (.inl ⟨rfl, fun w hc => ?y5⟩) ⟨R2, N2⟩ ?_
    case y5 =>
      exact run_loadP 62 _ rfl rfl hc.2 6 (ndL nd) rfl _ Tryz.underlying62 rfl infoNd
    simp only [Act.put, List.getElem_toArray, List.getElem_cons_zero, List.getElem_cons_succ, List.setIfInBounds_toArray, List.set_cons_succ, List.set_cons_zero]
    refine atC_ex (fun _ => trivial) 6 rfl (by kernel_rfl) (by intro c h; cases h) rfl (run_buildNd (w := X) _ rfl nd rfl) ?_
    rintro _ Y ⟨b9, rfl, FY, NY⟩
    refine ⟨⟨R2.fresh FY, N2.fresh FY⟩, ?_⟩
    simp only [Act.put, List.getElem_toArray, List.getElem_cons_zero, List.getElem_cons_succ, List.setIfInBounds_toArray, List.set_cons_succ, List.set_cons_zero]
    have O3 := own_grN O2 (FY.trans (Below.refl _ _) (Nat.le_refl _))
    have B3 := FY.trans B2 B2.size
    have R3 := R2.fresh FY
    have N3 := N2.fresh FY
    clear R2 N2 O2 B2 FY
    refine atC_ex (fun _ => trivial) 7 rfl (by kernel_rfl) (by intro c h; cases h) rfl (run_appNd (w := Y) _ _ rfl base (.slice a0 σ.nodes.length c0) σ.nodes rfl O3 b9 nd rfl NY (by omega) (Nat.le_trans hP.sz B3.size)) ?_
    rintro v2 Z ⟨O4, S4⟩
    have nrow := own_neN O3 R3 (by decide)
    have R4 := R3.step S4 (by intro e; cases e) (Ne.symm nrow)
    have N4 := N3.step S4 (by intro e; cases e) (Ne.symm o3)
    refine ⟨⟨R4, N4⟩, ?_⟩
    simp only [Act.put, List.getElem_toArray, List.getElem_cons_zero, List.getElem_cons_succ, List.setIfInBounds_toArray, List.set_cons_succ, List.set_cons_zero]
    refine atC_take (fun _ => trivial) (headed_of (by kernel_rfl)) 8 rfl (by kernel_rfl) (fun c a w h => h) (v := .pointer (some ⟨br, 0, none⟩)) (.inl ⟨rfl, fun w hc => ?y8⟩) ⟨R4, N4⟩ ?_
    case y8 =>
      first | rfl | simp [execOp, go_sem]
    simp only [Act.put, List.getElem_toArray, List.getElem_cons_zero, List.getElem_cons_succ, List.setIfInBounds_toArray, List.set_cons_succ, List.set_cons_zero]
    refine atC_take (fun _ => trivial) (headed_of (by kernel_rfl)) 9 rfl (by kernel_rfl) (fun c a w h => h) (v := .pointer (some ⟨br, 10, none⟩)) (.inl ⟨rfl, fun w hc => ?y9⟩) ⟨R4, N4⟩ ?_
    case y9 =>
      first | rfl | simp [execOp, go_sem]
    simp only [Act.put, List.getElem_toArray, List.getElem_cons_zero, List.getElem_cons_succ, List.setIfInBounds_toArray, List.set_cons_succ, List.set_cons_zero]
    have B4 : Below base w Z := (below_lower B3 hP.sz).trans (S4.below (by intro b e; cases e) (fun b e => (O3.lt b e).1) (Nat.le_trans hP.sz B3.size))
    have nrow2 := own_neN O4 R4 (by decide)
    refine atC_end (by kernel_rfl) ?_
    simp only [List.drop_succ_cons, List.drop_zero]
    obtain ⟨m, hm⟩ : ∃ m, (σ.nodes ++ [nd]).length = m := ⟨_, rfl⟩
    have HM : Hid ((m : Int) - 1 = (σ.nodes.length : Int)) := (by show _ = _; rw [← hm]; simp)
    have HN : Hid ((σ.nodes ++ [nd]).length = m) := hm
    have hm2 : m ≤ 1024 := (by rw [← hm]; simp; omega)
    have hm1 : 1 ≤ m := (by rw [← hm]; simp)
    rw [hm] at O4
    clear hm
    obtain ⟨a5, c5, rfl⟩ := own_formN O4
    gi_wp2_with (first
      | (refine inStore1 rfl 23 _ _ rfl rfl (.slice a5 m c5) rfl R4 (by rw [rrL_len]; omega) infoCd rfl ?_; intro W9 U9 R9x; have R9 : IsS W9 br 102 (rrL a gs.length cap σ.k t σ.deep (.slice a5 m c5) none) := R9x; have O9 := own_updF O4 U9 nrow2; have B9 : Below base w W9 := U9.trans B4 hP.bb; have c9 : W9.cell? ⟨br, 10, none⟩ = some (.slice a5 m c5) := R9.cell 10))
    clear R4 N4 O3 S4 nrow nrow2 O4 B4 NY R3 N3
    go_wp2_with fail
    go_ret
    rw [HM.out]
    exact ⟨rfl, ⟨⟨_, t, R9, (by show W9.ownsRow base _ 6 _ (σ.nodes ++ [nd]).length _; rw [HN.out]; exact O9), hlast⟩, toks_low hP.toks hP.tb B9, hP.tb, hP.bb, Nat.le_trans hP.sz B9.size, (by show (σ.nodes ++ [nd]).length ≤ _; rw [HN.out]; exact hm2), hP.from', hP.k, fun x hx => (by cases hx)⟩, B9⟩
set_option maxRecDepth 100000 in
set_option maxHeartbeats 2000000 in
theorem rnode_any (σ : CS) (nd : Nd) (hk0 : σ.F = none → k0 < σ.k) (w : World) (hP : RC gs a cap base br k0 w σ) :
    Calls Tryz.prog 69 #[.pointer (some ⟨br, 0, none⟩), .agg (ndL nd).toArray] w fun en w' => OutR gs a cap base br k0 w (nodeC gs σ nd) (.int .i64 (nodeI σ)) en w' := by
  have cB := fun W hP => rbad_any (gs := gs) (a := a) (cap := cap) (base := base) (br := br) (k0 := k0) σ W hP
  have hsz := hP.sz
  have hbb := hP.bb
  have hbr := hP.lt
  have hlen := hP.len
  cases hF : σ.F with
  | some y =>
    rw [hF] at cB
    have e2 : nodeC gs σ nd = σ := if_pos (by rw [hF]; rfl)
    have e3 : nodeI σ = 0 := if_pos (by rw [hF]; rfl)
    rw [e2, e3]
    go_enter Tryz.func69, Tryz.ntmps69
    go_wp2_with (first
      | (refine wpList_boxS rfl 62 _ rfl (ndL nd) rfl ?_; intro W1 b3 F1 N1; have B1 := F1.trans (Below.refl _ w) (Nat.le_refl _); have P1 := hP.grown B1; clear F1)
      | (go_at_call 43; refine (cB _ P1).mono ?_; rintro en W2 ⟨rfl, hW⟩; replace hW := hW.symm; subst hW; clear cB))
    go_ret
    exact ⟨rfl, P1, below_lower B1 hsz⟩
  | none =>
    rw [hF] at cB
    obtain ⟨v, t, R, O, hl⟩ := hP.ex
    obtain ⟨a0, c0, rfl⟩ := own_formN O
    have ht := hl (hk0 hF)
    by_cases hl4 : σ.nodes.length = 1024
    · have e2 : nodeC gs σ nd = failC σ (gAt gs (σ.k - 1)) 1 := by unfold nodeC; rw [if_neg (by rw [hF]; simp), if_pos hl4]
      have e3 : nodeI σ = 0 := by unfold nodeI; rw [if_pos (by rw [hl4]; simp)]
      rw [e2, e3, ← ht]
      have cF := fun W hP => rfail_any (gs := gs) (a := a) (cap := cap) (base := base) (br := br) (k0 := k0) σ t 1 (by decide) W hP
      rw [hl4] at R
      clear e2 e3 hl ht O
      go_enter Tryz.func69, Tryz.ntmps69
      go_wp2_with (first
        | (refine wpList_boxS rfl 62 _ rfl (ndL nd) rfl ?_; intro W1 b3 F1 N1; have B1 := F1.trans (Below.refl _ w) (Nat.le_refl _); have P1 := hP.grown B1; have R1 := R.fresh F1; have c10 : W1.cell? ⟨br, 10, none⟩ = some (.slice a0 1024 c0) := R1.cell 10; clear F1)
        | (go_at_call 43; refine (cB _ P1).mono ?_; rintro en W2 ⟨rfl, hW⟩; replace hW := hW.symm; subst hW; clear cB)
        | (refine wpList_loadP rfl 49 _ rfl rfl R1 7 (gtL t) rfl _ Tryz.underlying49 rfl infoTok ?_)
        | (go_at_call 94; refine (cF _ P1).mono ?_; rintro en W3 ⟨rfl, P3, B3, _⟩; clear cF))
      go_ret
      exact ⟨rfl, P3, (below_lower B1 hsz).trans B3⟩
    · exact rnode_more σ nd hF (by omega) w hP
end
end Go.Proofs.YtjnbhcakfenbhaaGreatDoor
/- The reference's reader of conditions: thread. -/
namespace Go.Proofs.YtjnbhcakfenbhaaGreatDoor
open Go.RowKit Go.Shelf M
set_option linter.unusedSimpArgs false
set_option linter.unusedVariables false

def thrI (s : ByteArray) : Int := match thrF s.data.toList with
  | some n => n
  | none => -1
theorem ret_thI {i j : Int} (h : i = j) : Ending.returned (.int .i64 i) = .returned (.int .i64 j) := by rw [h]
set_option maxRecDepth 100000 in
set_option maxHeartbeats 2000000 in
theorem rthread_any (s : ByteArray) (hs : s.size ≤ maxLen) (w : World) : Calls Tryz.prog 143 #[.string s] w fun en w' => en = .returned (.int .i64 (thrI s)) ∧ w' = w := by
  unfold maxLen at hs
  have hsz := sizeL s
  obtain ⟨R, hR⟩ : ∃ R, thrI s = R := ⟨_, rfl⟩
  rw [hR]
  have HR : Hid (R = thrI s) := hR.symm
  clear hR
  have HLong : Hid (4 < s.size → R = -1) := fun h => by rw [HR.out]; unfold thrI thrF; rw [if_pos (by rw [← hsz]; omega)]
  have HBad : Hid (digs s.data.toList 0 = none → R = -1) := (by
    intro h
    rw [HR.out]
    unfold thrI thrF
    by_cases h2 : s.data.toList.length = 0 ∨ 4 < s.data.toList.length
    · rw [if_pos h2]
    · rw [if_neg h2, h])
  have HNull : Hid (s.size = 0 → R = -1) := fun h => by rw [HR.out]; unfold thrI thrF; rw [if_pos (by rw [← hsz]; omega)]
  have HGood : Hid (∀ m : Nat, 1 ≤ s.size → s.size ≤ 4 → digs s.data.toList 0 = some m → R = m) := fun m h1 h2 h3 => by rw [HR.out]; unfold thrI thrF; rw [if_neg (by rw [← hsz]; omega), h3]
  clear HR hsz
  go_enter Tryz.func143, Tryz.ntmps143
  go_wp2_with fail
  go_loop [3, 4] (fun n i => ∃ j m : Nat, j ≤ s.size ∧ j ≤ 4 ∧ m < 10 ^ j ∧ i = .int .i64 (j : Int) ∧ n = .int .i64 (m : Int) ∧ Hid (digs s.data.toList 0 = digs (s.data.toList.drop j) m)) (fun _ i => s.size - (intOf i).toNat)
  case atStart => exact ⟨0, 0, Nat.zero_le _, by omega, by decide, rfl, rfl, rfl⟩
  case round =>
    obtain ⟨j, m, hj, hj4, hm, rfl, rfl, HD⟩ := hrel
    have hm2 : m < 10000 := Nat.lt_of_lt_of_le hm (by
      have := Nat.pow_le_pow_right (show 0 < 10 by decide) hj4
      simpa using this)
    by_cases hlt : j < s.size
    · have hi : (j : Int) < s.size := by omega
      have hd := digs_split (s.data.toList.drop j) m
      rw [drop_cons_at s j hlt] at hd
      dsimp only at hd
      have hd2 := HD.out
      rw [drop_cons_at s j hlt] at hd2
      rw [hd] at hd2
      have hb := s[j].toNat_lt
      by_cases hdg : 48 ≤ s[j].toNat ∧ s[j].toNat ≤ 57
      · rw [if_pos hdg] at hd2
        have q1 : ¬ ((s[j].toNat : Int) < 48) := by omega
        have q2 : ¬ ((57 : Int) < s[j].toNat) := by omega
        by_cases h4 : j = 4
        · have HN : Hid (R = -1) := HLong.out (by omega)
          have q3 : (3 : Int) < j := by omega
          clear hd hd2 HD HLong HBad HGood HNull h4
          go_wp2_with fail
          go_ret
          exact ⟨ret_thI HN.out.symm, rfl⟩
        · have q3 : ¬ ((3 : Int) < j) := by omega
          have HD2 : Hid (digs s.data.toList 0 = digs (s.data.toList.drop (j + 1)) (10 * m + (s[j].toNat - 48))) := hd2
          have hm3 : 10 * m + (s[j].toNat - 48) < 10 ^ (j + 1) := (by rw [Nat.pow_succ]; omega)
          have HZ : Hid ((10 : Int) * m + ((s[j].toNat : Int) - 48) = ((10 * m + (s[j].toNat - 48) : Nat) : Int)) := (by show _ = _; omega)
          clear hd hd2 HD hm
          go_wp2_with fail
          refine ⟨⟨j + 1, 10 * m + (s[j].toNat - 48), by omega, by omega, hm3, by go_num, by rw [HZ.out], HD2⟩, ?_⟩
          simp [intOf]; omega
      · rw [if_neg hdg] at hd2
        have HN : Hid (R = -1) := HBad.out hd2
        clear hd hd2 HD HLong HBad HGood HNull
        have hq : ((s[j].toNat : Int) < 48) ∨ (¬ ((s[j].toNat : Int) < 48) ∧ (57 : Int) < s[j].toNat) := by omega
        rcases hq with q1 | ⟨q1, q2⟩
        all_goals go_wp2_with fail
        all_goals go_ret
        all_goals exact ⟨ret_thI HN.out.symm, rfl⟩
    · have hje : j = s.size := by omega
      subst hje
      have hd2 := HD.out
      rw [List.drop_eq_nil_of_le (by rw [← sizeL]; exact Nat.le_refl _)] at hd2
      by_cases h0 : s.size = 0
      · have HN : Hid (R = -1) := HNull.out h0
        have q0 : ((s.size : Int) == 0) = true := by simp [h0]
        clear hd2 HD HLong HBad HGood HNull
        go_wp2_with fail
        go_ret
        exact ⟨ret_thI HN.out.symm, rfl⟩
      · have HN : Hid (R = (m : Int)) := HGood.out m (by omega) hj4 hd2
        have q0 : ((s.size : Int) == 0) = false := beq_eq_false_iff_ne.2 (by omega)
        clear hd2 HD HLong HBad HGood HNull
        go_wp2_with fail
        go_ret
        exact ⟨ret_thI HN.out.symm, rfl⟩
end Go.Proofs.YtjnbhcakfenbhaaGreatDoor

/- Several texts in one: W1, W2. -/
import Derived.Test.YtjnbhcakfenbhaaGreatDoorQau
/- The reference's reader of conditions: is. -/
namespace Go.Proofs.YtjnbhcakfenbhaaGreatDoor
open Go.RowKit Go.Shelf M
set_option linter.unusedSimpArgs false
set_option linter.unusedVariables false

section
variable {gs : List GT} {a : Option Addr} {cap base br k0 : Nat}
theorem gAt_lt {gs : List GT} {k : Nat} (h : k < gs.length) : gs[k]? = some (gAt gs k) := by unfold gAt; rw [List.getElem?_eq_getElem h]; rfl
set_option maxRecDepth 100000 in
set_option maxHeartbeats 2000000 in
theorem ris_any (hn : Few gs) (σ : CS) (on : Nat) (ho : on ≤ 1) (kd : Int) (x : ByteArray) (w : World) (hP : RC gs a cap base br k0 w σ) :
    Calls Tryz.prog 67 #[.pointer (some ⟨br, 0, none⟩), .int .i64 (on : Int), .int .i64 kd, .string x] w fun en w' => en = .returned (.bool (isT gs σ on kd x.data.toList)) ∧ w' = w := by
  have cB := fun W hP => rbad_any (gs := gs) (a := a) (cap := cap) (base := base) (br := br) (k0 := k0) σ W hP
  obtain ⟨v, t, R, _, _⟩ := hP.ex
  have c0 : w.cell? ⟨br, 0, none⟩ = some (.slice a gs.length cap) := R.cell 0
  have c1 : w.cell? ⟨br, 1, none⟩ = some (.int .i64 (σ.k : Int)) := R.cell 1
  have hlen := hn.1
  have hk := hP.k
  have hwa : IntKind.i64.wrap ((CS.k σ : Int) + on) = ((CS.k σ + on : Nat) : Int) := by rw [IntKind.wrap_i64]; omega
  have hT := hP.toks
  obtain ⟨V, hV⟩ : ∃ V, isT gs σ on kd x.data.toList = V := ⟨_, rfl⟩
  rw [hV]
  have HV : Hid (V = isT gs σ on kd x.data.toList) := hV.symm
  clear hV R
  cases hF : σ.F with
  | some y =>
    have eV : V = false := by rw [HV.out]; unfold isT; rw [hF]; rfl
    subst eV
    rw [hF] at cB
    clear HV hF hT
    go_enter Tryz.func67, Tryz.ntmps67
    go_wp2_with (first
      | (go_at_call 43; refine (cB _ hP).mono ?_; rintro en W2 ⟨rfl, hW⟩; replace hW := hW.symm; subst hW; clear cB))
    go_ret
    exact ⟨rfl, rfl⟩
  | none =>
    rw [hF] at cB
    by_cases hlt : σ.k + on < gs.length
    · obtain ⟨b, o, ea, hb, hr⟩ := hT _ _ (gAt_lt hlt)
      subst ea
      have eV : V = (decide ((gAt gs (σ.k + on)).kind = kd) && decide ((gAt gs (σ.k + on)).text.data.toList = x.data.toList)) := by
        rw [HV.out]; unfold isT; rw [hF, decide_eq_true hlt]; rw [Bool.eq_iff_iff]; simp
      generalize gAt gs (σ.k + on) = g at *
      have hix : ((CS.k σ + on : Nat) : Int) < gs.length := by omega
      have d0 : w.cell? ⟨b, o + (CS.k σ + on) * 7, none⟩ = some (.int .i64 g.kind) := hr 0 _ rfl
      have d1 : w.cell? ⟨b, o + (CS.k σ + on) * 7 + 1, none⟩ = some (.string g.text) := hr 1 _ rfl
      clear hr hT hF
      subst eV
      clear HV
      by_cases hk4 : g.kind = kd
      · have hk' : (g.kind == kd) = true := by simp [hk4]
        rw [decide_eq_true hk4, Bool.true_and]
        clear hk4
        generalize hi : CS.k σ + on = i at *
        go_enter Tryz.func67, Tryz.ntmps67
        go_wp2_with (first
          | (go_at_call 43; refine (cB _ hP).mono ?_; rintro en W2 ⟨rfl, hW⟩; replace hW := hW.symm; subst hW; clear cB))
        go_ret
        refine ⟨ret_bool ?_, rfl⟩
        rw [Bool.eq_iff_iff]; simp [toL]
      · have hk' : (g.kind == kd) = false := by simpa using hk4
        rw [decide_eq_false hk4, Bool.false_and]
        clear hk4
        generalize hi : CS.k σ + on = i at *
        go_enter Tryz.func67, Tryz.ntmps67
        go_wp2_with (first
          | (go_at_call 43; refine (cB _ hP).mono ?_; rintro en W2 ⟨rfl, hW⟩; replace hW := hW.symm; subst hW; clear cB))
        go_ret
        exact ⟨rfl, rfl⟩
    · have eV : V = false := by rw [HV.out]; unfold isT; rw [decide_eq_false hlt]; simp
      subst eV
      have hix : ¬ (((CS.k σ + on : Nat) : Int) < gs.length) := by omega
      clear HV hF hT hlt
      generalize hi : CS.k σ + on = i at *
      go_enter Tryz.func67, Tryz.ntmps67
      go_wp2_with (first
        | (go_at_call 43; refine (cB _ hP).mono ?_; rintro en W2 ⟨rfl, hW⟩; replace hW := hW.symm; subst hW; clear cB))
      go_ret
      exact ⟨rfl, rfl⟩
end
end Go.Proofs.YtjnbhcakfenbhaaGreatDoor
/- The reference's reader of conditions: syntax. -/
namespace Go.Proofs.YtjnbhcakfenbhaaGreatDoor
open Go.RowKit Go.Shelf M
set_option linter.unusedSimpArgs false
set_option linter.unusedVariables false

section
variable {gs : List GT} {a : Option Addr} {cap base br k0 : Nat}
set_option maxRecDepth 100000 in
set_option maxHeartbeats 4000000 in
theorem rsyntax_any (hn : Few gs) (σ : CS) (w : World) (hP : RC gs a cap base br k0 w σ) :
    Calls Tryz.prog 141 #[.pointer (some ⟨br, 0, none⟩)] w fun en w' => OutT gs a cap base br k0 w (synC gs σ) (.tuple #[]) en w' := by
  have cF := fun g W hP => rfail_any (gs := gs) (a := a) (cap := cap) (base := base) (br := br) (k0 := k0) σ g 70 (by decide) W hP
  have hsz := hP.sz
  have hlen := hn.1
  have hk := hP.k
  have HP : Hid (∀ W, Below w.heap.size w W → RC gs a cap base br k0 W σ) := fun W B => hP.grown B
  obtain ⟨v, t, R, _, _⟩ := hP.ex
  have HR0 : ∀ W, Below w.heap.size w W → W.cell? ⟨br, 0, none⟩ = some (.slice a gs.length cap) ∧ W.cell? ⟨br, 1, none⟩ = some (.int .i64 (σ.k : Int)) ∧ True := fun W B => ⟨(R.grown B).cell 0, (R.grown B).cell 1, trivial⟩
  clear R
  have hT := hP.toks
  clear hP
  have EQ0 : synC gs σ = failC σ (gEnd gs σ.k) 70 := rfl
  rw [EQ0]
  generalize hkk : σ.k = k at *
  clear hkk EQ0
  rcases Nat.eq_zero_or_pos gs.length with h0 | hpos
  · have EQ : failC σ noGT 70 = failC σ (gEnd gs k) 70 := by unfold gEnd; rw [if_pos h0]
    have HR : Hid (∀ W, Below w.heap.size w W → W.cell? ⟨br, 0, none⟩ = some (.slice a 0 cap) ∧ W.cell? ⟨br, 1, none⟩ = some (.int .i64 (k : Int)) ∧ True) := fun W B => h0 ▸ HR0 W B
    have hix : ¬ ((k : Int) < (0 : Nat)) := by omega
    have hix3 : ¬ ((k : Int) < 0) := by omega
    clear HR0 hT hk hlen hn
    go_enter Tryz.func141, Tryz.ntmps141
    go_wp2_with (first
      | (refine wpList_allocS rfl 49 rfl (gtL noGT) Tryz.zeroValue49 ?_; intro W1 b2 F1 M1; have B1 := F1.trans (Below.refl _ w) (Nat.le_refl _); have h2 : w.heap.size ≤ b2 := Nat.le_of_eq F1.at'.symm; clear F1)
      | (refine wpList_storeS rfl 49 _ _ rfl rfl (gtL noGT) rfl M1 (by simp [gtL, noGT]) infoTok (gt_one _) ?_; intro W2 U2 M2x; have M2 : IsS W2 b2 49 (gtL noGT) := M2x; have B2 := U2.trans B1 h2; have c0 : W2.cell? ⟨br, 0, none⟩ = some (.slice a 0 cap) := (HR.out W2 B2).1; have c1 : W2.cell? ⟨br, 1, none⟩ = some (.int .i64 (k : Int)) := (HR.out W2 B2).2.1; clear M1 M2x U2 B1))
    go_quiet (fail)
    have M3 : IsS (W2.drewN nq) b2 49 (gtL noGT) := M2
    have B3 : Below w.heap.size w (W2.drewN nq) := below_drewN B2 _
    clear c0 c1 M2 B2
    generalize W2.drewN nq = W3 at *
    have c0 : W3.cell? ⟨br, 0, none⟩ = some (.slice a 0 cap) := (HR.out W3 B3).1
    have c1 : W3.cell? ⟨br, 1, none⟩ = some (.int .i64 (k : Int)) := (HR.out W3 B3).2.1
    go_wp2_with (first
      | (refine wpList_loadP rfl 49 _ rfl rfl M3 7 (gtL noGT) rfl _ Tryz.underlying49 rfl infoTok ?_)
      | (go_at_call 94; refine (cF noGT _ (HP.out _ B3)).mono ?_; rintro en W9 ⟨rfl, P9, B9x, T9x⟩; have T9 := (Turn.of_below B3 br).trans T9x; have B9 := (below_lower B3 hsz).trans B9x; clear cF))
    exact ⟨rfl, .tuple #[], (by simp [results, Tryz.results141, go_sem]), rfl, EQ ▸ P9, B9, T9⟩
  · obtain ⟨m, hm⟩ : ∃ m, gs.length = m + 1 := ⟨gs.length - 1, by omega⟩
    obtain ⟨b, o, ea, hb, hr⟩ := hT m _ (gAt_lt (by omega))
    subst ea
    have HR : Hid (∀ W, Below w.heap.size w W → W.cell? ⟨br, 0, none⟩ = some (.slice (some ⟨b, o, none⟩) (m + 1) cap) ∧ W.cell? ⟨br, 1, none⟩ = some (.int .i64 (k : Int)) ∧ True) := fun W B => hm ▸ HR0 W B
    have HT : ∀ (j : Nat) (g : GT), gs[j]? = some g → Hid (∀ W, Below w.heap.size w W → b < W.heap.size ∧ W.rangeAt b (o + j * 7) (gtL g)) := fun j g hg W hB => by
      obtain ⟨b', o', e, h2, h3⟩ := hT.below hB j g hg
      cases e
      exact ⟨h2, h3⟩
    have hws : IntKind.i64.wrap (((m + 1 : Nat) : Int) - 1) = (m : Int) := by rw [IntKind.wrap_i64]; omega
    have hix2 : (m : Int) < ((m + 1 : Nat) : Int) := by omega
    have hix2n : ¬ ((m : Int) + 1 ≤ (m : Int)) := by omega
    have hwm : IntKind.i64.wrap (m : Int) = (m : Int) := by rw [IntKind.wrap_i64]; omega
    have HZ := HT m (gAt gs m) (gAt_lt (by omega))
    obtain ⟨gz, hgz⟩ : ∃ g, gAt gs m = g := ⟨_, rfl⟩
    rw [hgz] at HZ
    clear HR0 hb hr
    by_cases hlt : k < gs.length
    · have HK := HT k (gAt gs k) (gAt_lt hlt)
      have EQ : failC σ (gAt gs k) 70 = failC σ (gEnd gs k) 70 := by rw [gEnd_at hlt]
      obtain ⟨gk, hgk⟩ : ∃ g, gAt gs k = g := ⟨_, rfl⟩
      rw [hgk] at HK EQ
      have hix : (k : Int) < ((m + 1 : Nat) : Int) := by omega
      clear HT hT hgz hgk hpos hlt hm hlen hn hk
      go_enter Tryz.func141, Tryz.ntmps141
      go_wp2_with (first
        | (refine wpList_allocS rfl 49 rfl (gtL noGT) Tryz.zeroValue49 ?_; intro W1 b2 F1 M1; have B1 := F1.trans (Below.refl _ w) (Nat.le_refl _); have h2 : w.heap.size ≤ b2 := Nat.le_of_eq F1.at'.symm; clear F1)
        | (refine wpList_storeS rfl 49 _ _ rfl rfl (gtL noGT) rfl M1 (by simp [gtL, noGT]) infoTok (gt_one _) ?_; intro W2 U2 M2x; have M2 : IsS W2 b2 49 (gtL noGT) := M2x; have B2 := U2.trans B1 h2; have c0 : W2.cell? ⟨br, 0, none⟩ = some (.slice (some ⟨b, o, none⟩) (m + 1) cap) := (HR.out W2 B2).1; have c1 : W2.cell? ⟨br, 1, none⟩ = some (.int .i64 (k : Int)) := (HR.out W2 B2).2.1; clear M1 M2x U2 B1))
      obtain ⟨hb2, hr2⟩ := HZ.out W2 B2
      refine grow_tailW 12 (by kernel_rfl) (by kernel_rfl) ?_
      simp only [List.take_succ_cons, List.take_zero, List.drop_succ_cons, List.drop_zero]
      refine WG.put rfl (v := .pointer (some ⟨br, 0, none⟩)) (fun w => by first | rfl | (go_simp; done) | (simp [go_sem]; done)) ?_
      simp only [Act.put, List.setIfInBounds_toArray, List.set_cons_succ, List.set_cons_zero]
      refine WG.put rfl (v := .pointer (some ⟨br, 0, none⟩)) (fun w => by first | rfl | (go_simp; done) | (simp [go_sem]; done)) ?_
      simp only [Act.put, List.setIfInBounds_toArray, List.set_cons_succ, List.set_cons_zero]
      refine WG.put rfl (v := .pointer (some ⟨br, 0, none⟩)) (fun w => by first | rfl | (go_simp; done) | (simp [go_sem]; done)) ?_
      simp only [Act.put, List.setIfInBounds_toArray, List.set_cons_succ, List.set_cons_zero]
      refine WG.cell rfl 43 _ rfl rfl c0 ldTk ?_
      simp only [Act.put, List.setIfInBounds_toArray, List.set_cons_succ, List.set_cons_zero]
      refine WG.put rfl (v := .pointer (some ⟨br, 0, none⟩)) (fun w => by first | rfl | (go_simp; done) | (simp [go_sem]; done)) ?_
      simp only [Act.put, List.setIfInBounds_toArray, List.set_cons_succ, List.set_cons_zero]
      refine WG.put rfl (v := .pointer (some ⟨br, 0, none⟩)) (fun w => by first | rfl | (go_simp; done) | (simp [go_sem]; done)) ?_
      simp only [Act.put, List.setIfInBounds_toArray, List.set_cons_succ, List.set_cons_zero]
      refine WG.put rfl (v := .pointer (some ⟨br, 0, none⟩)) (fun w => by first | rfl | (go_simp; done) | (simp [go_sem]; done)) ?_
      simp only [Act.put, List.setIfInBounds_toArray, List.set_cons_succ, List.set_cons_zero]
      refine WG.cell rfl 43 _ rfl rfl c0 ldTk ?_
      simp only [Act.put, List.setIfInBounds_toArray, List.set_cons_succ, List.set_cons_zero]
      refine WG.put rfl (v := .int .i64 ((m + 1 : Nat) : Int)) (fun w => by first | rfl | (go_simp; done) | (simp [go_sem]; done)) ?_
      simp only [Act.put, List.setIfInBounds_toArray, List.set_cons_succ, List.set_cons_zero]
      refine WG.put rfl (v := .int .i64 (m : Int)) (fun w => by first | rfl | (go_simp; done) | (simp [go_sem, hws, hwm]; done)) ?_
      simp only [Act.put, List.setIfInBounds_toArray, List.set_cons_succ, List.set_cons_zero]
      refine WG.put rfl (v := .pointer (some ⟨b, o + m * 7, none⟩)) (fun w => by first | rfl | (go_simp; done) | (simp [go_sem, hix2, hix2n]; done)) ?_
      simp only [Act.put, List.setIfInBounds_toArray, List.set_cons_succ, List.set_cons_zero]
      refine WG.range rfl 49 _ rfl rfl (gtL gz) hb2 hr2 _ Tryz.underlying49 rfl infoTok ?_
      simp only [Act.put, List.setIfInBounds_toArray, List.set_cons_succ, List.set_cons_zero]
      refine WG.nil ?_
      intro W3 B3x
      have M3 := M2.grown B3x
      have B3 := B2.trans (B3x.mono B2.size)
      clear M2 B2 B3x c0 c1
      go_wp2_with (first
        | (refine wpList_storeS rfl 49 _ _ rfl rfl (gtL gz) rfl M3 (by simp [gtL]) infoTok (gt_one _) ?_; intro W4 UW4 M4x; have M4 : IsS W4 b2 49 (gtL gz) := M4x; have B4 := UW4.trans B3 h2; have c0 : W4.cell? ⟨br, 0, none⟩ = some (.slice (some ⟨b, o, none⟩) (m + 1) cap) := (HR.out W4 B4).1; have c1 : W4.cell? ⟨br, 1, none⟩ = some (.int .i64 (k : Int)) := (HR.out W4 B4).2.1; clear M3 M4x UW4 B3))
      go_quiet (fail)
      have M5 : IsS (W4.drewN nq) b2 49 (gtL gz) := M4
      have B5 : Below w.heap.size w (W4.drewN nq) := below_drewN B4 _
      clear c0 c1 M4 B4
      generalize W4.drewN nq = W5 at *
      have c0 : W5.cell? ⟨br, 0, none⟩ = some (.slice (some ⟨b, o, none⟩) (m + 1) cap) := (HR.out W5 B5).1
      have c1 : W5.cell? ⟨br, 1, none⟩ = some (.int .i64 (k : Int)) := (HR.out W5 B5).2.1
      go_wp2_with fail
      obtain ⟨hb4, hr4⟩ := HK.out W5 B5
      refine grow_tailW 10 (by kernel_rfl) (by kernel_rfl) ?_
      simp only [List.take_succ_cons, List.take_zero, List.drop_succ_cons, List.drop_zero]
      refine WG.put rfl (v := .pointer (some ⟨br, 0, none⟩)) (fun w => by first | rfl | (go_simp; done) | (simp [go_sem]; done)) ?_
      simp only [Act.put, List.setIfInBounds_toArray, List.set_cons_succ, List.set_cons_zero]
      refine WG.put rfl (v := .pointer (some ⟨br, 0, none⟩)) (fun w => by first | rfl | (go_simp; done) | (simp [go_sem]; done)) ?_
      simp only [Act.put, List.setIfInBounds_toArray, List.set_cons_succ, List.set_cons_zero]
      refine WG.put rfl (v := .pointer (some ⟨br, 0, none⟩)) (fun w => by first | rfl | (go_simp; done) | (simp [go_sem]; done)) ?_
      simp only [Act.put, List.setIfInBounds_toArray, List.set_cons_succ, List.set_cons_zero]
      refine WG.cell rfl 43 _ rfl rfl c0 ldTk ?_
      simp only [Act.put, List.setIfInBounds_toArray, List.set_cons_succ, List.set_cons_zero]
      refine WG.put rfl (v := .pointer (some ⟨br, 0, none⟩)) (fun w => by first | rfl | (go_simp; done) | (simp [go_sem]; done)) ?_
      simp only [Act.put, List.setIfInBounds_toArray, List.set_cons_succ, List.set_cons_zero]
      refine WG.put rfl (v := .pointer (some ⟨br, 0, none⟩)) (fun w => by first | rfl | (go_simp; done) | (simp [go_sem]; done)) ?_
      simp only [Act.put, List.setIfInBounds_toArray, List.set_cons_succ, List.set_cons_zero]
      refine WG.put rfl (v := .pointer (some ⟨br, 1, none⟩)) (fun w => by first | rfl | (go_simp; done) | (simp [go_sem]; done)) ?_
      simp only [Act.put, List.setIfInBounds_toArray, List.set_cons_succ, List.set_cons_zero]
      refine WG.cell rfl 3 _ rfl rfl c1 ld3 ?_
      simp only [Act.put, List.setIfInBounds_toArray, List.set_cons_succ, List.set_cons_zero]
      refine WG.put rfl (v := .pointer (some ⟨b, o + k * 7, none⟩)) (fun w => by first | rfl | (go_simp; done) | (simp [go_sem, hix]; done)) ?_
      simp only [Act.put, List.setIfInBounds_toArray, List.set_cons_succ, List.set_cons_zero]
      refine WG.range rfl 49 _ rfl rfl (gtL gk) hb4 hr4 _ Tryz.underlying49 rfl infoTok ?_
      simp only [Act.put, List.setIfInBounds_toArray, List.set_cons_succ, List.set_cons_zero]
      refine WG.nil ?_
      intro W6 B6x
      have M6 := M5.grown B6x
      have B6 := B5.trans (B6x.mono B5.size)
      clear M5 B5 B6x c0 c1
      go_wp2_with (first
        | (refine wpList_storeS rfl 49 _ _ rfl rfl (gtL gk) rfl M6 (by simp [gtL]) infoTok (gt_one _) ?_; intro W7 UW7 M7x; have M7 : IsS W7 b2 49 (gtL gk) := M7x; have B7 := UW7.trans B6 h2; have c0 : W7.cell? ⟨br, 0, none⟩ = some (.slice (some ⟨b, o, none⟩) (m + 1) cap) := (HR.out W7 B7).1; have c1 : W7.cell? ⟨br, 1, none⟩ = some (.int .i64 (k : Int)) := (HR.out W7 B7).2.1; clear M6 M7x UW7 B6)
        | (refine wpList_loadP rfl 49 _ rfl rfl M7 7 (gtL gk) rfl _ Tryz.underlying49 rfl infoTok ?_)
        | (go_at_call 94; refine (cF gk _ (HP.out _ B7)).mono ?_; rintro en W9 ⟨rfl, P9, B9x, T9x⟩; have T9 := (Turn.of_below B7 br).trans T9x; have B9 := (below_lower B7 hsz).trans B9x; clear cF))
      exact ⟨rfl, .tuple #[], (by simp [results, Tryz.results141, go_sem]), rfl, EQ ▸ P9, B9, T9⟩
    · have EQ : failC σ gz 70 = failC σ (gEnd gs k) 70 := by rw [← hgz]; unfold gEnd; rw [if_neg (by omega), Nat.min_eq_right (by omega), hm]; rfl
      have hix : ¬ ((k : Int) < ((m + 1 : Nat) : Int)) := by omega
      clear HT hT hgz hpos hlt hm hlen hn hk
      go_enter Tryz.func141, Tryz.ntmps141
      go_wp2_with (first
        | (refine wpList_allocS rfl 49 rfl (gtL noGT) Tryz.zeroValue49 ?_; intro W1 b2 F1 M1; have B1 := F1.trans (Below.refl _ w) (Nat.le_refl _); have h2 : w.heap.size ≤ b2 := Nat.le_of_eq F1.at'.symm; clear F1)
        | (refine wpList_storeS rfl 49 _ _ rfl rfl (gtL noGT) rfl M1 (by simp [gtL, noGT]) infoTok (gt_one _) ?_; intro W2 U2 M2x; have M2 : IsS W2 b2 49 (gtL noGT) := M2x; have B2 := U2.trans B1 h2; have c0 : W2.cell? ⟨br, 0, none⟩ = some (.slice (some ⟨b, o, none⟩) (m + 1) cap) := (HR.out W2 B2).1; have c1 : W2.cell? ⟨br, 1, none⟩ = some (.int .i64 (k : Int)) := (HR.out W2 B2).2.1; clear M1 M2x U2 B1))
      obtain ⟨hb2, hr2⟩ := HZ.out W2 B2
      refine grow_tailW 12 (by kernel_rfl) (by kernel_rfl) ?_
      simp only [List.take_succ_cons, List.take_zero, List.drop_succ_cons, List.drop_zero]
      refine WG.put rfl (v := .pointer (some ⟨br, 0, none⟩)) (fun w => by first | rfl | (go_simp; done) | (simp [go_sem]; done)) ?_
      simp only [Act.put, List.setIfInBounds_toArray, List.set_cons_succ, List.set_cons_zero]
      refine WG.put rfl (v := .pointer (some ⟨br, 0, none⟩)) (fun w => by first | rfl | (go_simp; done) | (simp [go_sem]; done)) ?_
      simp only [Act.put, List.setIfInBounds_toArray, List.set_cons_succ, List.set_cons_zero]
      refine WG.put rfl (v := .pointer (some ⟨br, 0, none⟩)) (fun w => by first | rfl | (go_simp; done) | (simp [go_sem]; done)) ?_
      simp only [Act.put, List.setIfInBounds_toArray, List.set_cons_succ, List.set_cons_zero]
      refine WG.cell rfl 43 _ rfl rfl c0 ldTk ?_
      simp only [Act.put, List.setIfInBounds_toArray, List.set_cons_succ, List.set_cons_zero]
      refine WG.put rfl (v := .pointer (some ⟨br, 0, none⟩)) (fun w => by first | rfl | (go_simp; done) | (simp [go_sem]; done)) ?_
      simp only [Act.put, List.setIfInBounds_toArray, List.set_cons_succ, List.set_cons_zero]
      refine WG.put rfl (v := .pointer (some ⟨br, 0, none⟩)) (fun w => by first | rfl | (go_simp; done) | (simp [go_sem]; done)) ?_
      simp only [Act.put, List.setIfInBounds_toArray, List.set_cons_succ, List.set_cons_zero]
      refine WG.put rfl (v := .pointer (some ⟨br, 0, none⟩)) (fun w => by first | rfl | (go_simp; done) | (simp [go_sem]; done)) ?_
      simp only [Act.put, List.setIfInBounds_toArray, List.set_cons_succ, List.set_cons_zero]
      refine WG.cell rfl 43 _ rfl rfl c0 ldTk ?_
      simp only [Act.put, List.setIfInBounds_toArray, List.set_cons_succ, List.set_cons_zero]
      refine WG.put rfl (v := .int .i64 ((m + 1 : Nat) : Int)) (fun w => by first | rfl | (go_simp; done) | (simp [go_sem]; done)) ?_
      simp only [Act.put, List.setIfInBounds_toArray, List.set_cons_succ, List.set_cons_zero]
      refine WG.put rfl (v := .int .i64 (m : Int)) (fun w => by first | rfl | (go_simp; done) | (simp [go_sem, hws, hwm]; done)) ?_
      simp only [Act.put, List.setIfInBounds_toArray, List.set_cons_succ, List.set_cons_zero]
      refine WG.put rfl (v := .pointer (some ⟨b, o + m * 7, none⟩)) (fun w => by first | rfl | (go_simp; done) | (simp [go_sem, hix2, hix2n]; done)) ?_
      simp only [Act.put, List.setIfInBounds_toArray, List.set_cons_succ, List.set_cons_zero]
      refine WG.range rfl 49 _ rfl rfl (gtL gz) hb2 hr2 _ Tryz.underlying49 rfl infoTok ?_
      simp only [Act.put, List.setIfInBounds_toArray, List.set_cons_succ, List.set_cons_zero]
      refine WG.nil ?_
      intro W3 B3x
      have M3 := M2.grown B3x
      have B3 := B2.trans (B3x.mono B2.size)
      clear M2 B2 B3x c0 c1
      go_wp2_with (first
        | (refine wpList_storeS rfl 49 _ _ rfl rfl (gtL gz) rfl M3 (by simp [gtL]) infoTok (gt_one _) ?_; intro W4 UW4 M4x; have M4 : IsS W4 b2 49 (gtL gz) := M4x; have B4 := UW4.trans B3 h2; have c0 : W4.cell? ⟨br, 0, none⟩ = some (.slice (some ⟨b, o, none⟩) (m + 1) cap) := (HR.out W4 B4).1; have c1 : W4.cell? ⟨br, 1, none⟩ = some (.int .i64 (k : Int)) := (HR.out W4 B4).2.1; clear M3 M4x UW4 B3))
      go_quiet (fail)
      have M5 : IsS (W4.drewN nq) b2 49 (gtL gz) := M4
      have B5 : Below w.heap.size w (W4.drewN nq) := below_drewN B4 _
      clear c0 c1 M4 B4
      generalize W4.drewN nq = W5 at *
      have c0 : W5.cell? ⟨br, 0, none⟩ = some (.slice (some ⟨b, o, none⟩) (m + 1) cap) := (HR.out W5 B5).1
      have c1 : W5.cell? ⟨br, 1, none⟩ = some (.int .i64 (k : Int)) := (HR.out W5 B5).2.1
      go_wp2_with (first
        | (refine wpList_loadP rfl 49 _ rfl rfl M5 7 (gtL gz) rfl _ Tryz.underlying49 rfl infoTok ?_)
        | (go_at_call 94; refine (cF gz _ (HP.out _ B5)).mono ?_; rintro en W9 ⟨rfl, P9, B9x, T9x⟩; have T9 := (Turn.of_below B5 br).trans T9x; have B9 := (below_lower B5 hsz).trans B9x; clear cF))
      exact ⟨rfl, .tuple #[], (by simp [results, Tryz.results141, go_sem]), rfl, EQ ▸ P9, B9, T9⟩
end
end Go.Proofs.YtjnbhcakfenbhaaGreatDoor

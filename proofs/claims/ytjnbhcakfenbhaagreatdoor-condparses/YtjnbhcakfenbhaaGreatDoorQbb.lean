/- Several texts in one: WD, WE. -/
import Derived.Test.YtjnbhcakfenbhaaGreatDoorQba
/- The reference's Take. -/
namespace Go.Proofs.YtjnbhcakfenbhaaGreatDoor
open Go.RowKit Go.Shelf M
set_option linter.unusedSimpArgs false
set_option linter.unusedVariables false

section
variable {gs : List GT} {a : Option Addr} {cap : Nat}
theorem ref_start {w W1 W2 : World} {br k : Nat} (hT : Toks w a gs) (htb : ∀ b o, a = some ⟨b, o, none⟩ → b < w.heap.size) (B1 : Below w.heap.size w W1) (B2 : Below w.heap.size w W2) (hbr : W1.heap.size ≤ br) (hs : W1.heap.size ≤ W2.heap.size) (hk : k ≤ gs.length)
    (R : IsS W2 br 102 (rrL a gs.length cap k noGT 0 (.slice none 0 0) none)) : RC gs a cap W1.heap.size br k W2 (CS.mk k 0 [] none) :=
  ⟨⟨.slice none 0 0, noGT, R, World.ownsRow_nil _ _ _ _, fun h => absurd h (Nat.lt_irrefl _)⟩, toks_low hT htb B2, fun b o h => Nat.lt_of_lt_of_le (htb b o h) B1.size, hbr, hs, by simp, Nat.le_refl _, hk, fun x hx => by cases hx⟩
/-- What the reference's Take comes to. -/
structure TakeQ (gs : List GT) (k : Nat) (w : World) (en : Ending) (w' : World) : Prop where
  good : (takeR gs k).F = none → ∃ v, en = .returned (.tuple #[v, .int .i64 ((takeR gs k).k : Int), .agg (fltL none).toArray]) ∧ w'.ownsRow w.heap.size 62 6 v (takeR gs k).nodes.length (cellsL (takeR gs k).nodes) ∧ (takeR gs k).nodes.length ≤ 1024
  bad : ∀ x, (takeR gs k).F = some x → en = .returned (.tuple #[.slice none 0 0, .int .i64 0, .agg (fltL (some x)).toArray]) ∧ x.2.2 ≠ 0
  bel : Below w.heap.size w w'
set_option maxRecDepth 100000 in
set_option maxHeartbeats 4000000 in
theorem rTake_any (hn : Few gs) (k : Nat) (hk : k ≤ gs.length) (w : World) (hT : Toks w a gs) (htb : ∀ b o, a = some ⟨b, o, none⟩ → b < w.heap.size) :
    Calls Tryz.prog 19 #[.slice a gs.length cap, .int .i64 (k : Int)] w fun en w' => TakeQ gs k w en w' := by
  have hkb : gs.length ≤ 1099511627776 := hn.1
  have hd : ¬ ((k : Int) < 0) := by omega
  have hd2 : ¬ ((gs.length : Int) < (k : Int)) := by omega
  have cE := fun base br W (hP : RC gs a cap base br k W (CS.mk k 0 [] none)) => rrun_all (a := a) (cap := cap) (base := base) (br := br) (k0 := k) hn (need gs none 2 (CS.mk k 0 [] none)) _ (Nat.le_refl _) 2 (Nat.le_refl _) (CS.mk k 0 [] none) W hP (fun _ => ⟨Int.le_refl _, (by show (0 : Int) ≤ 64; decide), Nat.le_refl _⟩)
  generalize hr : goC gs (need gs none 2 (CS.mk k 0 [] none)) none 2 (CS.mk k 0 [] none) = r at cE
  have er : takeR gs k = r.2 := by unfold takeR; rw [hr]
  obtain ⟨i, σ⟩ := r
  dsimp only at er cE
  have hcE : ∀ base br W, RC gs a cap base br k W (CS.mk k 0 [] none) → Calls Tryz.prog 42 #[.pointer (some ⟨br, 0, none⟩)] W fun en w' => OutR gs a cap base br k W σ (.int .i64 i) en w' := cE
  clear cE hr
  rcases F_or σ with hFs | ⟨y, hFs⟩
  · go_enter Tryz.func19, Tryz.ntmps19
    go_wp2_with (first
      | (refine wpList_allocS rfl 29 rfl (fltL none) Tryz.zeroValue29 ?_; intro W1 b6 F1 M1; have B1 := F1.trans (Below.refl _ w) (Nat.le_refl _); have h6 : w.heap.size ≤ b6 := Nat.le_of_eq F1.at'.symm; have h6b := M1.lt; clear F1)
      | (refine wpList_boxS rfl 102 _ rfl (rrL a gs.length cap k noGT 0 (.slice none 0 0) none) rfl ?_; intro W2 br F2 R2; have M2 := M1.fresh F2; have B2 := F2.trans B1 B1.size; have B2x := F2.trans (Below.refl _ W1) (Nat.le_refl _); have hbr : W1.heap.size ≤ br := Nat.le_of_eq F2.at'.symm; have P2 : RC gs a cap W1.heap.size br k W2 (CS.mk k 0 [] none) := ref_start hT htb B1 B2 hbr B2x.size hk R2; clear F2 B2x M1 R2)
      | (go_at_call 42; refine (hcE _ _ _ P2).mono ?_; rintro en W3 ⟨rfl, P3, B3x⟩; have M3 := M2.below B3x h6b; have B3 := B2.trans (below_lower B3x B1.size); have cB := rbad_any σ W3 P3; rw [hFs] at cB; clear hcE B3x M2 B2 P2)
      | (go_at_call 43; refine cB.mono ?_; rintro en W4 ⟨rfl, hW⟩; replace hW := hW.symm; subst hW; clear cB))
    obtain ⟨v, t, R3, O3, _⟩ := P3.ex
    have hl3 := P3.len
    obtain ⟨a6, c6, rfl⟩ := own_formN O3
    have c10 : W3.cell? ⟨br, 10, none⟩ = some (.slice a6 σ.nodes.length c6) := R3.cell 10
    have c1 : W3.cell? ⟨br, 1, none⟩ = some (.int .i64 (CS.k σ : Int)) := R3.cell 1
    clear P3
    refine grow_tailW 11 (by kernel_rfl) (by kernel_rfl) ?_
    simp only [List.take_succ_cons, List.take_zero, List.drop_succ_cons, List.drop_zero]
    refine WG.put rfl (v := .pointer (some ⟨br, 0, none⟩)) (fun w => by first | rfl | (go_simp; done) | (simp [go_sem]; done)) ?_
    simp only [Act.put, List.setIfInBounds_toArray, List.set_cons_succ, List.set_cons_zero]
    refine WG.put rfl (v := .pointer (some ⟨br, 0, none⟩)) (fun w => by first | rfl | (go_simp; done) | (simp [go_sem]; done)) ?_
    simp only [Act.put, List.setIfInBounds_toArray, List.set_cons_succ, List.set_cons_zero]
    refine WG.put rfl (v := .pointer (some ⟨br, 10, none⟩)) (fun w => by first | rfl | (go_simp; done) | (simp [go_sem]; done)) ?_
    simp only [Act.put, List.setIfInBounds_toArray, List.set_cons_succ, List.set_cons_zero]
    refine WG.cell rfl 23 _ rfl rfl c10 ldCd ?_
    simp only [Act.put, List.setIfInBounds_toArray, List.set_cons_succ, List.set_cons_zero]
    refine WG.put rfl (v := .pointer (some ⟨br, 0, none⟩)) (fun w => by first | rfl | (go_simp; done) | (simp [go_sem]; done)) ?_
    simp only [Act.put, List.setIfInBounds_toArray, List.set_cons_succ, List.set_cons_zero]
    refine WG.put rfl (v := .pointer (some ⟨br, 0, none⟩)) (fun w => by first | rfl | (go_simp; done) | (simp [go_sem]; done)) ?_
    simp only [Act.put, List.setIfInBounds_toArray, List.set_cons_succ, List.set_cons_zero]
    refine WG.put rfl (v := .pointer (some ⟨br, 1, none⟩)) (fun w => by first | rfl | (go_simp; done) | (simp [go_sem]; done)) ?_
    simp only [Act.put, List.setIfInBounds_toArray, List.set_cons_succ, List.set_cons_zero]
    refine WG.cell rfl 3 _ rfl rfl c1 ld3 ?_
    simp only [Act.put, List.setIfInBounds_toArray, List.set_cons_succ, List.set_cons_zero]
    refine WG.put rfl (v := .agg #[.int .i64 0, .int .i64 0, .int .i64 0]) (fun w => by first | rfl | (go_simp; done) | (simp [go_sem]; done)) ?_
    simp only [Act.put, List.setIfInBounds_toArray, List.set_cons_succ, List.set_cons_zero]
    refine WG.put rfl (v := .slice a6 σ.nodes.length c6) (fun w => by first | rfl | (go_simp; done) | (simp [go_sem]; done)) ?_
    simp only [Act.put, List.setIfInBounds_toArray, List.set_cons_succ, List.set_cons_zero]
    refine WG.put rfl (v := .int .i64 (CS.k σ : Int)) (fun w => by first | rfl | (go_simp; done) | (simp [go_sem]; done)) ?_
    simp only [Act.put, List.setIfInBounds_toArray, List.set_cons_succ, List.set_cons_zero]
    refine WG.nil ?_
    intro W5 B5x
    have M5 := M3.grown B5x
    have B5 := B3.trans (B5x.mono B3.size)
    have O5 := own_grN O3 B5x
    clear O3 M3 B3 B5x R3 c10 c1
    go_wp2_with (first
      | (refine wpList_storeS rfl 29 _ _ rfl rfl (fltL none) rfl M5 (by simp [fltL]) (by kernel_rfl) (fltL_one _) ?_; intro W6 U6 M6x; have M6 : IsS W6 b6 29 (fltL none) := M6x; have B6 := U6.trans B5 h6; have O6 := own_updF O5 U6 (own_neN O5 M5 (by decide)); clear M6x U6))
    have c0 := M6.cell 0
    have c1 := M6.cell 1
    have c2 := M6.cell 2
    simp [fltL] at c0 c1 c2
    refine ⟨rfl, .tuple #[.slice a6 σ.nodes.length c6, .int .i64 (CS.k σ : Int), .agg (fltL none).toArray], ?_, ⟨fun _ => ⟨_, (by rw [er]), (by rw [er]; exact own_lower O6 B1.size), (by rw [er]; exact hl3)⟩, fun x hx => (by rw [er, hFs] at hx; cases hx), B6⟩⟩
    simp [results, Tryz.results19, go_sem, c0, c1, c2, fltL]
  · go_enter Tryz.func19, Tryz.ntmps19
    go_wp2_with (first
      | (refine wpList_allocS rfl 29 rfl (fltL none) Tryz.zeroValue29 ?_; intro W1 b6 F1 M1; have B1 := F1.trans (Below.refl _ w) (Nat.le_refl _); have h6 : w.heap.size ≤ b6 := Nat.le_of_eq F1.at'.symm; have h6b := M1.lt; clear F1)
      | (refine wpList_boxS rfl 102 _ rfl (rrL a gs.length cap k noGT 0 (.slice none 0 0) none) rfl ?_; intro W2 br F2 R2; have M2 := M1.fresh F2; have B2 := F2.trans B1 B1.size; have B2x := F2.trans (Below.refl _ W1) (Nat.le_refl _); have hbr : W1.heap.size ≤ br := Nat.le_of_eq F2.at'.symm; have P2 : RC gs a cap W1.heap.size br k W2 (CS.mk k 0 [] none) := ref_start hT htb B1 B2 hbr B2x.size hk R2; clear F2 B2x M1 R2)
      | (go_at_call 42; refine (hcE _ _ _ P2).mono ?_; rintro en W3 ⟨rfl, P3, B3x⟩; have M3 := M2.below B3x h6b; have B3 := B2.trans (below_lower B3x B1.size); have cB := rbad_any σ W3 P3; rw [hFs] at cB; clear hcE B3x M2 B2 P2)
      | (go_at_call 43; refine cB.mono ?_; rintro en W4 ⟨rfl, hW⟩; replace hW := hW.symm; subst hW; clear cB))
    obtain ⟨v, t, R3, O3, _⟩ := P3.ex
    have hcode := P3.code y hFs
    rw [hFs] at R3
    have hb4 := R3.lt
    have hr4 : W3.rangeAt br 11 (fltL (some y)) := R3.range 11 3
    clear P3 O3
    refine grow_tailW 6 (by kernel_rfl) (by kernel_rfl) ?_
    simp only [List.take_succ_cons, List.take_zero, List.drop_succ_cons, List.drop_zero]
    refine WG.put rfl (v := .pointer (some ⟨br, 0, none⟩)) (fun w => by first | rfl | (go_simp; done) | (simp [go_sem]; done)) ?_
    simp only [Act.put, List.setIfInBounds_toArray, List.set_cons_succ, List.set_cons_zero]
    refine WG.put rfl (v := .pointer (some ⟨br, 0, none⟩)) (fun w => by first | rfl | (go_simp; done) | (simp [go_sem]; done)) ?_
    simp only [Act.put, List.setIfInBounds_toArray, List.set_cons_succ, List.set_cons_zero]
    refine WG.put rfl (v := .pointer (some ⟨br, 11, none⟩)) (fun w => by first | rfl | (go_simp; done) | (simp [go_sem]; done)) ?_
    simp only [Act.put, List.setIfInBounds_toArray, List.set_cons_succ, List.set_cons_zero]
    refine WG.range rfl 29 _ rfl rfl (fltL (some y)) hb4 hr4 _ Tryz.underlying29 rfl (by kernel_rfl) ?_
    simp only [Act.put, List.setIfInBounds_toArray, List.set_cons_succ, List.set_cons_zero]
    refine WG.put rfl (v := .slice none 0 0) (fun w => by first | rfl | (go_simp; done) | (simp [go_sem]; done)) ?_
    simp only [Act.put, List.setIfInBounds_toArray, List.set_cons_succ, List.set_cons_zero]
    refine WG.put rfl (v := .int .i64 0) (fun w => by first | rfl | (go_simp; done) | (simp [go_sem]; done)) ?_
    simp only [Act.put, List.setIfInBounds_toArray, List.set_cons_succ, List.set_cons_zero]
    refine WG.nil ?_
    intro W5 B5x
    have M5 := M3.grown B5x
    have B5 := B3.trans (B5x.mono B3.size)
    clear M3 B3 B5x R3 hb4 hr4
    go_wp2_with (first
      | (refine wpList_storeS rfl 29 _ _ rfl rfl (fltL (some y)) rfl M5 (by simp [fltL]) (by kernel_rfl) (fltL_one _) ?_; intro W6 U6 M6x; have M6 : IsS W6 b6 29 (fltL (some y)) := M6x; have B6 := U6.trans B5 h6; clear M6x U6))
    have c0 := M6.cell 0
    have c1 := M6.cell 1
    have c2 := M6.cell 2
    simp [fltL] at c0 c1 c2
    refine ⟨rfl, .tuple #[.slice none 0 0, .int .i64 0, .agg (fltL (some y)).toArray], ?_, ⟨fun g => (by rw [er, hFs] at g; cases g), fun x hx => (by rw [er, hFs] at hx; cases hx; exact ⟨rfl, hcode⟩), B6⟩⟩
    simp [results, Tryz.results19, go_sem, c0, c1, c2, fltL]
end
end Go.Proofs.YtjnbhcakfenbhaaGreatDoor
/- The reference's Take at a place outside the list. -/
namespace Go.Proofs.YtjnbhcakfenbhaaGreatDoor
open Go.RowKit Go.Shelf M
set_option linter.unusedSimpArgs false
set_option linter.unusedVariables false

set_option maxRecDepth 100000 in
set_option maxHeartbeats 4000000 in
theorem rTake_out (a : Option Addr) (cap : Nat) (at' : Int) (n : Nat) (hn : n ≤ 1099511627776) (hat : at' < 0 ∨ (n : Int) < at') (w : World) :
    Calls Tryz.prog 19 #[.slice a n cap, .int .i64 at'] w fun en w' => en = .returned (.tuple #[.slice none 0 0, .int .i64 0, .agg (fltL (some (-1, 0, 4))).toArray]) ∧ Below w.heap.size w w' := by
  have hq : at' < 0 ∨ (¬ (at' < 0) ∧ (n : Int) < at') := by omega
  clear hat
  rcases hq with hd | ⟨hd, hd2⟩
  all_goals
    go_enter Tryz.func19, Tryz.ntmps19
    go_wp2_with (first
      | (refine wpList_allocS rfl 29 rfl (fltL none) Tryz.zeroValue29 ?_; intro W1 b6 F1 M1; have B1 := F1.trans (Below.refl _ w) (Nat.le_refl _); have h6 : w.heap.size ≤ b6 := Nat.le_of_eq F1.at'.symm; clear F1)
      | (refine wpList_storeS rfl 29 _ _ rfl rfl (fltL (some (-1, 0, 4))) rfl M1 (by simp [fltL]) (by kernel_rfl) (fltL_one _) ?_; intro W6 U6 M6x; have M6 : IsS W6 b6 29 (fltL (some (-1, 0, 4))) := M6x; have B6 := U6.trans B1 h6; clear M6x U6))
    have c0 := M6.cell 0
    have c1 := M6.cell 1
    have c2 := M6.cell 2
    simp [fltL] at c0 c1 c2
    refine ⟨rfl, .tuple #[.slice none 0 0, .int .i64 0, .agg (fltL (some (-1, 0, 4))).toArray], ?_, rfl, B6⟩
    simp [results, Tryz.results19, go_sem, c0, c1, c2, fltL]
end Go.Proofs.YtjnbhcakfenbhaaGreatDoor

/- The reference's reader: mov, instr. -/
import Derived.Test.YtpbcngnginffgaaJA
namespace Go.Proofs.Ytpbcngnginffgaa
open Go.RowKit Go.Shelf M
set_option linter.unusedSimpArgs false
set_option linter.unusedVariables false

section
variable {D : TT} {br g cap : Nat} {rest : List Value}
theorem is_same {σ : RS} {x : List UInt8} (h : isB D σ x = false) : isR D σ x = σ := by unfold isR; rw [h]; rfl
theorem inv_store (hD : WD D) {σ : RS} (h : Inv D σ) : Inv D (storeR D σ) := by
  unfold storeR; dsimp only; split
  · exact inv_nbr hD (inv_is hD (inv_must hD (inv_place hD h) _) _)
  · exact inv_name hD (inv_must hD (inv_place hD h) _)
theorem inv_move (hD : WD D) {σ : RS} (h : Inv D σ) : Inv D (moveR D σ) := by
  unfold moveR; dsimp only
  split
  · exact inv_store hD h
  · split
    · exact inv_nbr hD (inv_is hD (inv_must hD (inv_name hD h) _) _)
    · split
      · exact inv_place hD (inv_must hD (inv_name hD h) _)
      · exact inv_name hD (inv_must hD (inv_name hD h) _)
set_option maxRecDepth 100000 in
set_option maxHeartbeats 4000000 in
theorem rmov_any (hD : WD D) (σ : RS) (hI : Inv D σ) (w : World) (hR : RR D w br g cap rest σ) :
    Calls Try.prog 28 #[.pointer (some ⟨br, 0, none⟩)] w fun en w' => en = .returned (.agg (inL (moveT D σ)).toArray) ∧ RR D w' br g cap rest (moveR D σ) ∧ Turn w w' br := by
  have hbr := hR.cells.lt
  have hgl := hR.lt
  cases hB1 : seesR D σ.k [91] with
  | true =>
    have e1 : moveR D σ = storeR D σ := by unfold moveR; rw [hB1]; rfl
    have e2 : moveT D σ = storeT D σ := by unfold moveT; rw [hB1]; rfl
    rw [e1, e2]; clear e1 e2
    cases hB2 : isB D (mustR D (placeR D σ) [44]) [36] with
    | true =>
      have e1 : storeR D σ = nbrR D (isR D (mustR D (placeR D σ) [44]) [36]) := by unfold storeR; dsimp only; rw [hB2]; rfl
      have e2 : storeT D σ = ⟨4, [], [], placeT D σ, nbrV D (isR D (mustR D (placeR D σ) [44]) [36])⟩ := by unfold storeT; dsimp only; rw [hB2]; rfl
      rw [e1, e2]; clear e1 e2
      have c2 := fun W hR => rsees_any (br := br) (g := g) (cap := cap) (rest := rest) hD σ (hI) ⟨#[91]⟩ W hR
      rw [show seesR D (RS.k σ) (ByteArray.data ⟨#[91]⟩).toList = true from hB1] at c2
      have c3 := fun W hR => rplc_any (br := br) (g := g) (cap := cap) (rest := rest) hD σ (hI) W hR
      have c6 := fun W hR => rmust_any (br := br) (g := g) (cap := cap) (rest := rest) hD (placeR D σ) (inv_place hD (hI)) ⟨#[44]⟩ W hR
      have c7 := fun W hR => ris_any (br := br) (g := g) (cap := cap) (rest := rest) hD (mustR D (placeR D σ) [44]) (inv_must hD (inv_place hD (hI)) _) ⟨#[36]⟩ W hR
      rw [show isB D (mustR D (placeR D σ) [44]) (ByteArray.data ⟨#[36]⟩).toList = true from hB2] at c7
      have c9 := fun W hR => rnbr_any (br := br) (g := g) (cap := cap) (rest := rest) hD (isR D (mustR D (placeR D σ) [44]) [36]) (inv_is hD (inv_must hD (inv_place hD (hI)) _) _) W hR
      have tk : True := trivial
      go_enter Try.func28, Try.ntmps28
      go_wp2_with (first
        | (refine wpList_allocS rfl 23 rfl (inL noIn) Try.zeroValue23 ?_; clear tk; intro W1 m0 F1 M0_1; have R1 := hR.fresh F1; have T1 := (Turn.of_below (Below.refl _ w) br).grow (F1.trans (Below.refl _ _) (Nat.le_refl _)); have hm0 : w.heap.size ≤ m0 := Nat.le_trans (Turn.of_below (Below.refl _ w) br).size (Nat.le_of_eq F1.at'.symm); clear F1)
        | (go_at_call 42; refine (c2 _ R1).mono ?_; rintro en W2 ⟨rfl, B2⟩; have R2 := R1.grown B2; have T2 := T1.grow B2; have M0_2 := M0_1.grown B2; clear c2 B2)
        | (go_at_call 29; refine (c3 _ R2).mono ?_; rintro en W3 ⟨rfl, R3x, T3x⟩; have R3 : RR D W3 br g cap rest (placeR D σ) := R3x; have T3 := T2.trans T3x; have M0_3 := M0_2.turn T3x (by omega); clear c3 R3x T3x)
        | (refine wpList_allocS rfl 23 rfl (inL noIn) Try.zeroValue23 ?_; intro W4 m1 F4 M1_4; have R4 := R3.fresh F4; have T4 := T3.grow (F4.trans (Below.refl _ _) (Nat.le_refl _)); have hm1 : w.heap.size ≤ m1 := Nat.le_trans T3.size (Nat.le_of_eq F4.at'.symm); have ne_m0_m1 : m0 ≠ m1 := (by have := M0_3.lt; have := F4.at'; omega); have M0_4 := M0_3.fresh F4; clear F4)
        | (refine wpList_storeS rfl 23 _ _ rfl rfl (inL ⟨5, [], [], placeT D σ, 0⟩) rfl M1_4 (by simp [inL, noIn]) infoI (in_one _) ?_; intro W5 U5 M1_5x; have M1_5 : IsS W5 m1 23 (inL ⟨5, [], [], placeT D σ, 0⟩) := M1_5x; have R5 := R4.upd U5 (by omega) (by omega); have T5 := T4.upd hm1 U5; have M0_5 := M0_4.upd U5 (by omega); clear U5 M1_5x)
        | (go_at_call 30; refine (c6 _ R5).mono ?_; rintro en W6 ⟨rfl, R6x, T6x⟩; have R6 : RR D W6 br g cap rest (mustR D (placeR D σ) [44]) := R6x; have T6 := T5.trans T6x; have M0_6 := M0_5.turn T6x (by omega); have M1_6 := M1_5.turn T6x (by omega); clear c6 R6x T6x)
        | (go_at_call 27; refine (c7 _ R6).mono ?_; rintro en W7 ⟨rfl, R7x, T7x⟩; have R7 : RR D W7 br g cap rest (isR D (mustR D (placeR D σ) [44]) [36]) := R7x; have T7 := T6.trans T7x; have M0_7 := M0_6.turn T7x (by omega); have M1_7 := M1_6.turn T7x (by omega); clear c7 R7x T7x)
        | (refine wpList_store1 rfl 3 _ _ rfl rfl (.int .i64 4) rfl M1_7 (by simp [inL]) info3 rfl ?_; intro W8 U8 M1_8x; have M1_8 : IsS W8 m1 23 (inL ⟨4, [], [], placeT D σ, 0⟩) := M1_8x; have R8 := R7.upd U8 (by omega) (by omega); have T8 := T7.upd hm1 U8; have M0_8 := M0_7.upd U8 (by omega); clear U8 M1_8x)
        | (go_at_call 44; refine (c9 _ R8).mono ?_; rintro en W9 ⟨rfl, R9x, T9x⟩; have R9 : RR D W9 br g cap rest (nbrR D (isR D (mustR D (placeR D σ) [44]) [36])) := R9x; have T9 := T8.trans T9x; have M0_9 := M0_8.turn T9x (by omega); have M1_9 := M1_8.turn T9x (by omega); clear c9 R9x T9x)
        | (refine wpList_store1 rfl 2 _ _ rfl rfl (.int .i64 (nbrV D (isR D (mustR D (placeR D σ) [44]) [36]))) rfl M1_9 (by simp [inL]) info2 rfl ?_; intro W10 U10 M1_10x; have M1_10 : IsS W10 m1 23 (inL ⟨4, [], [], placeT D σ, nbrV D (isR D (mustR D (placeR D σ) [44]) [36])⟩) := M1_10x; have R10 := R9.upd U10 (by omega) (by omega); have T10 := T9.upd hm1 U10; have M0_10 := M0_9.upd U10 (by omega); clear U10 M1_10x)
        | (refine wpList_loadP rfl 23 _ rfl rfl M1_10 5 (inL ⟨4, [], [], placeT D σ, nbrV D (isR D (mustR D (placeR D σ) [44]) [36])⟩) rfl _ Try.underlying23 rfl infoI ?_)
        | (refine wpList_storeS rfl 23 _ _ rfl rfl (inL ⟨4, [], [], placeT D σ, nbrV D (isR D (mustR D (placeR D σ) [44]) [36])⟩) rfl M0_10 (by simp [inL, noIn]) infoI (in_one _) ?_; intro W11 U11 M0_11x; have M0_11 : IsS W11 m0 23 (inL ⟨4, [], [], placeT D σ, nbrV D (isR D (mustR D (placeR D σ) [44]) [36])⟩) := M0_11x; have R11 := R10.upd U11 (by omega) (by omega); have T11 := T10.upd hm0 U11; have M1_11 := M1_10.upd U11 (by omega); clear U11 M0_11x))
      exact ret_S (cs := inL ⟨4, [], [], placeT D σ, nbrV D (isR D (mustR D (placeR D σ) [44]) [36])⟩) rfl rfl rfl M0_11 _ Try.underlying23 rfl infoI ⟨rfl, R11, T11⟩
    | false =>
      have e1 : storeR D σ = nameR D (mustR D (placeR D σ) [44]) := by unfold storeR; dsimp only; rw [hB2]; rfl
      have e2 : storeT D σ = ⟨5, [], nameT D (mustR D (placeR D σ) [44]), placeT D σ, 0⟩ := by unfold storeT; dsimp only; rw [hB2]; rfl
      rw [e1, e2]; clear e1 e2
      have c2 := fun W hR => rsees_any (br := br) (g := g) (cap := cap) (rest := rest) hD σ (hI) ⟨#[91]⟩ W hR
      rw [show seesR D (RS.k σ) (ByteArray.data ⟨#[91]⟩).toList = true from hB1] at c2
      have c3 := fun W hR => rplc_any (br := br) (g := g) (cap := cap) (rest := rest) hD σ (hI) W hR
      have c6 := fun W hR => rmust_any (br := br) (g := g) (cap := cap) (rest := rest) hD (placeR D σ) (inv_place hD (hI)) ⟨#[44]⟩ W hR
      have c7 := fun W hR => ris_any (br := br) (g := g) (cap := cap) (rest := rest) hD (mustR D (placeR D σ) [44]) (inv_must hD (inv_place hD (hI)) _) ⟨#[36]⟩ W hR
      rw [show isB D (mustR D (placeR D σ) [44]) (ByteArray.data ⟨#[36]⟩).toList = false from hB2, is_same hB2] at c7
      have c8 := fun W hR => rname2_any (br := br) (g := g) (cap := cap) (rest := rest) hD (mustR D (placeR D σ) [44]) (inv_must hD (inv_place hD (hI)) _) W hR
      have tk : True := trivial
      go_enter Try.func28, Try.ntmps28
      go_wp2_with (first
        | (refine wpList_allocS rfl 23 rfl (inL noIn) Try.zeroValue23 ?_; clear tk; intro W1 m0 F1 M0_1; have R1 := hR.fresh F1; have T1 := (Turn.of_below (Below.refl _ w) br).grow (F1.trans (Below.refl _ _) (Nat.le_refl _)); have hm0 : w.heap.size ≤ m0 := Nat.le_trans (Turn.of_below (Below.refl _ w) br).size (Nat.le_of_eq F1.at'.symm); clear F1)
        | (go_at_call 42; refine (c2 _ R1).mono ?_; rintro en W2 ⟨rfl, B2⟩; have R2 := R1.grown B2; have T2 := T1.grow B2; have M0_2 := M0_1.grown B2; clear c2 B2)
        | (go_at_call 29; refine (c3 _ R2).mono ?_; rintro en W3 ⟨rfl, R3x, T3x⟩; have R3 : RR D W3 br g cap rest (placeR D σ) := R3x; have T3 := T2.trans T3x; have M0_3 := M0_2.turn T3x (by omega); clear c3 R3x T3x)
        | (refine wpList_allocS rfl 23 rfl (inL noIn) Try.zeroValue23 ?_; intro W4 m1 F4 M1_4; have R4 := R3.fresh F4; have T4 := T3.grow (F4.trans (Below.refl _ _) (Nat.le_refl _)); have hm1 : w.heap.size ≤ m1 := Nat.le_trans T3.size (Nat.le_of_eq F4.at'.symm); have ne_m0_m1 : m0 ≠ m1 := (by have := M0_3.lt; have := F4.at'; omega); have M0_4 := M0_3.fresh F4; clear F4)
        | (refine wpList_storeS rfl 23 _ _ rfl rfl (inL ⟨5, [], [], placeT D σ, 0⟩) rfl M1_4 (by simp [inL, noIn]) infoI (in_one _) ?_; intro W5 U5 M1_5x; have M1_5 : IsS W5 m1 23 (inL ⟨5, [], [], placeT D σ, 0⟩) := M1_5x; have R5 := R4.upd U5 (by omega) (by omega); have T5 := T4.upd hm1 U5; have M0_5 := M0_4.upd U5 (by omega); clear U5 M1_5x)
        | (go_at_call 30; refine (c6 _ R5).mono ?_; rintro en W6 ⟨rfl, R6x, T6x⟩; have R6 : RR D W6 br g cap rest (mustR D (placeR D σ) [44]) := R6x; have T6 := T5.trans T6x; have M0_6 := M0_5.turn T6x (by omega); have M1_6 := M1_5.turn T6x (by omega); clear c6 R6x T6x)
        | (go_at_call 27; refine (c7 _ R6).mono ?_; rintro en W7 ⟨rfl, R7, T7x⟩; have T7 := T6.trans T7x; have M0_7 := M0_6.turn T7x (by omega); have M1_7 := M1_6.turn T7x (by omega); clear c7 T7x)
        | (go_at_call 31; refine (c8 _ R7).mono ?_; rintro en W8 ⟨rfl, R8x, T8x⟩; have R8 : RR D W8 br g cap rest (nameR D (mustR D (placeR D σ) [44])) := R8x; have T8 := T7.trans T8x; have M0_8 := M0_7.turn T8x (by omega); have M1_8 := M1_7.turn T8x (by omega); clear c8 R8x T8x)
        | (refine wpList_store1 rfl 9 _ _ rfl rfl (.string ⟨(nameT D (mustR D (placeR D σ) [44])).toArray⟩) rfl M1_8 (by simp [inL]) info9 rfl ?_; intro W9 U9 M1_9x; have M1_9 : IsS W9 m1 23 (inL ⟨5, [], nameT D (mustR D (placeR D σ) [44]), placeT D σ, 0⟩) := M1_9x; have R9 := R8.upd U9 (by omega) (by omega); have T9 := T8.upd hm1 U9; have M0_9 := M0_8.upd U9 (by omega); clear U9 M1_9x)
        | (refine wpList_loadP rfl 23 _ rfl rfl M1_9 5 (inL ⟨5, [], nameT D (mustR D (placeR D σ) [44]), placeT D σ, 0⟩) rfl _ Try.underlying23 rfl infoI ?_)
        | (refine wpList_storeS rfl 23 _ _ rfl rfl (inL ⟨5, [], nameT D (mustR D (placeR D σ) [44]), placeT D σ, 0⟩) rfl M0_9 (by simp [inL, noIn]) infoI (in_one _) ?_; intro W10 U10 M0_10x; have M0_10 : IsS W10 m0 23 (inL ⟨5, [], nameT D (mustR D (placeR D σ) [44]), placeT D σ, 0⟩) := M0_10x; have R10 := R9.upd U10 (by omega) (by omega); have T10 := T9.upd hm0 U10; have M1_10 := M1_9.upd U10 (by omega); clear U10 M0_10x))
      exact ret_S (cs := inL ⟨5, [], nameT D (mustR D (placeR D σ) [44]), placeT D σ, 0⟩) rfl rfl rfl M0_10 _ Try.underlying23 rfl infoI ⟨rfl, R10, T10⟩
  | false =>
    cases hB2 : isB D (mustR D (nameR D σ) [44]) [36] with
    | true =>
      have e1 : moveR D σ = nbrR D (isR D (mustR D (nameR D σ) [44]) [36]) := by unfold moveR; dsimp only; rw [hB1, hB2]; rfl
      have e2 : moveT D σ = ⟨1, nameT D σ, [], [], nbrV D (isR D (mustR D (nameR D σ) [44]) [36])⟩ := by unfold moveT; dsimp only; rw [hB1, hB2]; rfl
      rw [e1, e2]; clear e1 e2
      have c2 := fun W hR => rsees_any (br := br) (g := g) (cap := cap) (rest := rest) hD σ (hI) ⟨#[91]⟩ W hR
      rw [show seesR D (RS.k σ) (ByteArray.data ⟨#[91]⟩).toList = false from hB1] at c2
      have c3 := fun W hR => rname2_any (br := br) (g := g) (cap := cap) (rest := rest) hD σ (hI) W hR
      have c6 := fun W hR => rmust_any (br := br) (g := g) (cap := cap) (rest := rest) hD (nameR D σ) (inv_name hD (hI)) ⟨#[44]⟩ W hR
      have c7 := fun W hR => ris_any (br := br) (g := g) (cap := cap) (rest := rest) hD (mustR D (nameR D σ) [44]) (inv_must hD (inv_name hD (hI)) _) ⟨#[36]⟩ W hR
      rw [show isB D (mustR D (nameR D σ) [44]) (ByteArray.data ⟨#[36]⟩).toList = true from hB2] at c7
      have c9 := fun W hR => rnbr_any (br := br) (g := g) (cap := cap) (rest := rest) hD (isR D (mustR D (nameR D σ) [44]) [36]) (inv_is hD (inv_must hD (inv_name hD (hI)) _) _) W hR
      have tk : True := trivial
      go_enter Try.func28, Try.ntmps28
      go_wp2_with (first
        | (refine wpList_allocS rfl 23 rfl (inL noIn) Try.zeroValue23 ?_; clear tk; intro W1 m0 F1 M0_1; have R1 := hR.fresh F1; have T1 := (Turn.of_below (Below.refl _ w) br).grow (F1.trans (Below.refl _ _) (Nat.le_refl _)); have hm0 : w.heap.size ≤ m0 := Nat.le_trans (Turn.of_below (Below.refl _ w) br).size (Nat.le_of_eq F1.at'.symm); clear F1)
        | (go_at_call 42; refine (c2 _ R1).mono ?_; rintro en W2 ⟨rfl, B2⟩; have R2 := R1.grown B2; have T2 := T1.grow B2; have M0_2 := M0_1.grown B2; clear c2 B2)
        | (go_at_call 31; refine (c3 _ R2).mono ?_; rintro en W3 ⟨rfl, R3x, T3x⟩; have R3 : RR D W3 br g cap rest (nameR D σ) := R3x; have T3 := T2.trans T3x; have M0_3 := M0_2.turn T3x (by omega); clear c3 R3x T3x)
        | (refine wpList_allocS rfl 23 rfl (inL noIn) Try.zeroValue23 ?_; intro W4 m1 F4 M1_4; have R4 := R3.fresh F4; have T4 := T3.grow (F4.trans (Below.refl _ _) (Nat.le_refl _)); have hm1 : w.heap.size ≤ m1 := Nat.le_trans T3.size (Nat.le_of_eq F4.at'.symm); have ne_m0_m1 : m0 ≠ m1 := (by have := M0_3.lt; have := F4.at'; omega); have M0_4 := M0_3.fresh F4; clear F4)
        | (refine wpList_storeS rfl 23 _ _ rfl rfl (inL ⟨2, nameT D σ, [], [], 0⟩) rfl M1_4 (by simp [inL, noIn]) infoI (in_one _) ?_; intro W5 U5 M1_5x; have M1_5 : IsS W5 m1 23 (inL ⟨2, nameT D σ, [], [], 0⟩) := M1_5x; have R5 := R4.upd U5 (by omega) (by omega); have T5 := T4.upd hm1 U5; have M0_5 := M0_4.upd U5 (by omega); clear U5 M1_5x)
        | (go_at_call 30; refine (c6 _ R5).mono ?_; rintro en W6 ⟨rfl, R6x, T6x⟩; have R6 : RR D W6 br g cap rest (mustR D (nameR D σ) [44]) := R6x; have T6 := T5.trans T6x; have M0_6 := M0_5.turn T6x (by omega); have M1_6 := M1_5.turn T6x (by omega); clear c6 R6x T6x)
        | (go_at_call 27; refine (c7 _ R6).mono ?_; rintro en W7 ⟨rfl, R7x, T7x⟩; have R7 : RR D W7 br g cap rest (isR D (mustR D (nameR D σ) [44]) [36]) := R7x; have T7 := T6.trans T7x; have M0_7 := M0_6.turn T7x (by omega); have M1_7 := M1_6.turn T7x (by omega); clear c7 R7x T7x)
        | (refine wpList_store1 rfl 3 _ _ rfl rfl (.int .i64 1) rfl M1_7 (by simp [inL]) info3 rfl ?_; intro W8 U8 M1_8x; have M1_8 : IsS W8 m1 23 (inL ⟨1, nameT D σ, [], [], 0⟩) := M1_8x; have R8 := R7.upd U8 (by omega) (by omega); have T8 := T7.upd hm1 U8; have M0_8 := M0_7.upd U8 (by omega); clear U8 M1_8x)
        | (go_at_call 44; refine (c9 _ R8).mono ?_; rintro en W9 ⟨rfl, R9x, T9x⟩; have R9 : RR D W9 br g cap rest (nbrR D (isR D (mustR D (nameR D σ) [44]) [36])) := R9x; have T9 := T8.trans T9x; have M0_9 := M0_8.turn T9x (by omega); have M1_9 := M1_8.turn T9x (by omega); clear c9 R9x T9x)
        | (refine wpList_store1 rfl 2 _ _ rfl rfl (.int .i64 (nbrV D (isR D (mustR D (nameR D σ) [44]) [36]))) rfl M1_9 (by simp [inL]) info2 rfl ?_; intro W10 U10 M1_10x; have M1_10 : IsS W10 m1 23 (inL ⟨1, nameT D σ, [], [], nbrV D (isR D (mustR D (nameR D σ) [44]) [36])⟩) := M1_10x; have R10 := R9.upd U10 (by omega) (by omega); have T10 := T9.upd hm1 U10; have M0_10 := M0_9.upd U10 (by omega); clear U10 M1_10x)
        | (refine wpList_loadP rfl 23 _ rfl rfl M1_10 5 (inL ⟨1, nameT D σ, [], [], nbrV D (isR D (mustR D (nameR D σ) [44]) [36])⟩) rfl _ Try.underlying23 rfl infoI ?_)
        | (refine wpList_storeS rfl 23 _ _ rfl rfl (inL ⟨1, nameT D σ, [], [], nbrV D (isR D (mustR D (nameR D σ) [44]) [36])⟩) rfl M0_10 (by simp [inL, noIn]) infoI (in_one _) ?_; intro W11 U11 M0_11x; have M0_11 : IsS W11 m0 23 (inL ⟨1, nameT D σ, [], [], nbrV D (isR D (mustR D (nameR D σ) [44]) [36])⟩) := M0_11x; have R11 := R10.upd U11 (by omega) (by omega); have T11 := T10.upd hm0 U11; have M1_11 := M1_10.upd U11 (by omega); clear U11 M0_11x))
      exact ret_S (cs := inL ⟨1, nameT D σ, [], [], nbrV D (isR D (mustR D (nameR D σ) [44]) [36])⟩) rfl rfl rfl M0_11 _ Try.underlying23 rfl infoI ⟨rfl, R11, T11⟩
    | false =>
      cases hB3 : ((mustR D (nameR D σ) [44]).F.isNone && seesR D (RS.k (mustR D (nameR D σ) [44])) [91]) with
      | true =>
        have e1 : moveR D σ = placeR D (mustR D (nameR D σ) [44]) := by unfold moveR; dsimp only; rw [hB1, hB2, hB3]; rfl
        have e2 : moveT D σ = ⟨3, nameT D σ, [], placeT D (mustR D (nameR D σ) [44]), 0⟩ := by unfold moveT; dsimp only; rw [hB1, hB2, hB3]; rfl
        rw [e1, e2]; clear e1 e2
        have hB4 : seesR D (RS.k (mustR D (nameR D σ) [44])) [91] = true := (by simp only [Bool.and_eq_true] at hB3; exact hB3.2)
        have hF0 : RS.F (mustR D (nameR D σ) [44]) = none := (by simp only [Bool.and_eq_true, Option.isNone_iff_eq_none] at hB3; exact hB3.1)
        have hz := (code_none hF0).2
        have c2 := fun W hR => rsees_any (br := br) (g := g) (cap := cap) (rest := rest) hD σ (hI) ⟨#[91]⟩ W hR
        rw [show seesR D (RS.k σ) (ByteArray.data ⟨#[91]⟩).toList = false from hB1] at c2
        have c3 := fun W hR => rname2_any (br := br) (g := g) (cap := cap) (rest := rest) hD σ (hI) W hR
        have c6 := fun W hR => rmust_any (br := br) (g := g) (cap := cap) (rest := rest) hD (nameR D σ) (inv_name hD (hI)) ⟨#[44]⟩ W hR
        have c7 := fun W hR => ris_any (br := br) (g := g) (cap := cap) (rest := rest) hD (mustR D (nameR D σ) [44]) (inv_must hD (inv_name hD (hI)) _) ⟨#[36]⟩ W hR
        rw [show isB D (mustR D (nameR D σ) [44]) (ByteArray.data ⟨#[36]⟩).toList = false from hB2, is_same hB2] at c7
        have c8 := fun W hR => rsees_any (br := br) (g := g) (cap := cap) (rest := rest) hD (mustR D (nameR D σ) [44]) (inv_must hD (inv_name hD (hI)) _) ⟨#[91]⟩ W hR
        rw [show seesR D (RS.k (mustR D (nameR D σ) [44])) (ByteArray.data ⟨#[91]⟩).toList = true from hB4] at c8
        have c10 := fun W hR => rplc_any (br := br) (g := g) (cap := cap) (rest := rest) hD (mustR D (nameR D σ) [44]) (inv_must hD (inv_name hD (hI)) _) W hR
        have tk : True := trivial
        go_enter Try.func28, Try.ntmps28
        go_wp2_with (first
          | (refine wpList_allocS rfl 23 rfl (inL noIn) Try.zeroValue23 ?_; clear tk; intro W1 m0 F1 M0_1; have R1 := hR.fresh F1; have T1 := (Turn.of_below (Below.refl _ w) br).grow (F1.trans (Below.refl _ _) (Nat.le_refl _)); have hm0 : w.heap.size ≤ m0 := Nat.le_trans (Turn.of_below (Below.refl _ w) br).size (Nat.le_of_eq F1.at'.symm); clear F1)
          | (go_at_call 42; refine (c2 _ R1).mono ?_; rintro en W2 ⟨rfl, B2⟩; have R2 := R1.grown B2; have T2 := T1.grow B2; have M0_2 := M0_1.grown B2; clear c2 B2)
          | (go_at_call 31; refine (c3 _ R2).mono ?_; rintro en W3 ⟨rfl, R3x, T3x⟩; have R3 : RR D W3 br g cap rest (nameR D σ) := R3x; have T3 := T2.trans T3x; have M0_3 := M0_2.turn T3x (by omega); clear c3 R3x T3x)
          | (refine wpList_allocS rfl 23 rfl (inL noIn) Try.zeroValue23 ?_; intro W4 m1 F4 M1_4; have R4 := R3.fresh F4; have T4 := T3.grow (F4.trans (Below.refl _ _) (Nat.le_refl _)); have hm1 : w.heap.size ≤ m1 := Nat.le_trans T3.size (Nat.le_of_eq F4.at'.symm); have ne_m0_m1 : m0 ≠ m1 := (by have := M0_3.lt; have := F4.at'; omega); have M0_4 := M0_3.fresh F4; clear F4)
          | (refine wpList_storeS rfl 23 _ _ rfl rfl (inL ⟨2, nameT D σ, [], [], 0⟩) rfl M1_4 (by simp [inL, noIn]) infoI (in_one _) ?_; intro W5 U5 M1_5x; have M1_5 : IsS W5 m1 23 (inL ⟨2, nameT D σ, [], [], 0⟩) := M1_5x; have R5 := R4.upd U5 (by omega) (by omega); have T5 := T4.upd hm1 U5; have M0_5 := M0_4.upd U5 (by omega); clear U5 M1_5x)
          | (go_at_call 30; refine (c6 _ R5).mono ?_; rintro en W6 ⟨rfl, R6x, T6x⟩; have R6 : RR D W6 br g cap rest (mustR D (nameR D σ) [44]) := R6x; have T6 := T5.trans T6x; have M0_6 := M0_5.turn T6x (by omega); have M1_6 := M1_5.turn T6x (by omega); clear c6 R6x T6x)
          | (go_at_call 27; refine (c7 _ R6).mono ?_; rintro en W7 ⟨rfl, R7, T7x⟩; have T7 := T6.trans T7x; have M0_7 := M0_6.turn T7x (by omega); have M1_7 := M1_6.turn T7x (by omega); clear c7 T7x; have z7 : World.cell? _ ⟨br, 7, none⟩ = some (.int .i64 (fO (RS.F (mustR D (nameR D σ) [44]))).2.2) := R7.cells.cell 7)
          | (go_at_call 42; refine (c8 _ R7).mono ?_; rintro en W8 ⟨rfl, B8⟩; have R8 := R7.grown B8; have T8 := T7.grow B8; have M0_8 := M0_7.grown B8; have M1_8 := M1_7.grown B8; clear c8 B8)
          | (refine wpList_store1 rfl 3 _ _ rfl rfl (.int .i64 3) rfl M1_8 (by simp [inL]) info3 rfl ?_; intro W9 U9 M1_9x; have M1_9 : IsS W9 m1 23 (inL ⟨3, nameT D σ, [], [], 0⟩) := M1_9x; have R9 := R8.upd U9 (by omega) (by omega); have T9 := T8.upd hm1 U9; have M0_9 := M0_8.upd U9 (by omega); clear U9 M1_9x)
          | (go_at_call 29; refine (c10 _ R9).mono ?_; rintro en W10 ⟨rfl, R10x, T10x⟩; have R10 : RR D W10 br g cap rest (placeR D (mustR D (nameR D σ) [44])) := R10x; have T10 := T9.trans T10x; have M0_10 := M0_9.turn T10x (by omega); have M1_10 := M1_9.turn T10x (by omega); clear c10 R10x T10x)
          | (refine wpList_store1 rfl 9 _ _ rfl rfl (.string ⟨(placeT D (mustR D (nameR D σ) [44])).toArray⟩) rfl M1_10 (by simp [inL]) info9 rfl ?_; intro W11 U11 M1_11x; have M1_11 : IsS W11 m1 23 (inL ⟨3, nameT D σ, [], placeT D (mustR D (nameR D σ) [44]), 0⟩) := M1_11x; have R11 := R10.upd U11 (by omega) (by omega); have T11 := T10.upd hm1 U11; have M0_11 := M0_10.upd U11 (by omega); clear U11 M1_11x)
          | (refine wpList_loadP rfl 23 _ rfl rfl M1_11 5 (inL ⟨3, nameT D σ, [], placeT D (mustR D (nameR D σ) [44]), 0⟩) rfl _ Try.underlying23 rfl infoI ?_)
          | (refine wpList_storeS rfl 23 _ _ rfl rfl (inL ⟨3, nameT D σ, [], placeT D (mustR D (nameR D σ) [44]), 0⟩) rfl M0_11 (by simp [inL, noIn]) infoI (in_one _) ?_; intro W12 U12 M0_12x; have M0_12 : IsS W12 m0 23 (inL ⟨3, nameT D σ, [], placeT D (mustR D (nameR D σ) [44]), 0⟩) := M0_12x; have R12 := R11.upd U12 (by omega) (by omega); have T12 := T11.upd hm0 U12; have M1_12 := M1_11.upd U12 (by omega); clear U12 M0_12x))
        exact ret_S (cs := inL ⟨3, nameT D σ, [], placeT D (mustR D (nameR D σ) [44]), 0⟩) rfl rfl rfl M0_12 _ Try.underlying23 rfl infoI ⟨rfl, R12, T12⟩
      | false =>
        have e1 : moveR D σ = nameR D (mustR D (nameR D σ) [44]) := by unfold moveR; dsimp only; rw [hB1, hB2, hB3]; rfl
        have e2 : moveT D σ = ⟨2, nameT D σ, nameT D (mustR D (nameR D σ) [44]), [], 0⟩ := by unfold moveT; dsimp only; rw [hB1, hB2, hB3]; rfl
        rw [e1, e2]; clear e1 e2
        cases hF0 : RS.F (mustR D (nameR D σ) [44]) with
        | none =>
          have hz := (code_none hF0).2
          have hB4 : seesR D (RS.k (mustR D (nameR D σ) [44])) [91] = false := (by rw [hF0] at hB3; exact hB3)
          have c2 := fun W hR => rsees_any (br := br) (g := g) (cap := cap) (rest := rest) hD σ (hI) ⟨#[91]⟩ W hR
          rw [show seesR D (RS.k σ) (ByteArray.data ⟨#[91]⟩).toList = false from hB1] at c2
          have c3 := fun W hR => rname2_any (br := br) (g := g) (cap := cap) (rest := rest) hD σ (hI) W hR
          have c6 := fun W hR => rmust_any (br := br) (g := g) (cap := cap) (rest := rest) hD (nameR D σ) (inv_name hD (hI)) ⟨#[44]⟩ W hR
          have c7 := fun W hR => ris_any (br := br) (g := g) (cap := cap) (rest := rest) hD (mustR D (nameR D σ) [44]) (inv_must hD (inv_name hD (hI)) _) ⟨#[36]⟩ W hR
          rw [show isB D (mustR D (nameR D σ) [44]) (ByteArray.data ⟨#[36]⟩).toList = false from hB2, is_same hB2] at c7
          have c8 := fun W hR => rsees_any (br := br) (g := g) (cap := cap) (rest := rest) hD (mustR D (nameR D σ) [44]) (inv_must hD (inv_name hD (hI)) _) ⟨#[91]⟩ W hR
          rw [show seesR D (RS.k (mustR D (nameR D σ) [44])) (ByteArray.data ⟨#[91]⟩).toList = false from hB4] at c8
          have c9 := fun W hR => rname2_any (br := br) (g := g) (cap := cap) (rest := rest) hD (mustR D (nameR D σ) [44]) (inv_must hD (inv_name hD (hI)) _) W hR
          have tk : True := trivial
          go_enter Try.func28, Try.ntmps28
          go_wp2_with (first
            | (refine wpList_allocS rfl 23 rfl (inL noIn) Try.zeroValue23 ?_; clear tk; intro W1 m0 F1 M0_1; have R1 := hR.fresh F1; have T1 := (Turn.of_below (Below.refl _ w) br).grow (F1.trans (Below.refl _ _) (Nat.le_refl _)); have hm0 : w.heap.size ≤ m0 := Nat.le_trans (Turn.of_below (Below.refl _ w) br).size (Nat.le_of_eq F1.at'.symm); clear F1)
            | (go_at_call 42; refine (c2 _ R1).mono ?_; rintro en W2 ⟨rfl, B2⟩; have R2 := R1.grown B2; have T2 := T1.grow B2; have M0_2 := M0_1.grown B2; clear c2 B2)
            | (go_at_call 31; refine (c3 _ R2).mono ?_; rintro en W3 ⟨rfl, R3x, T3x⟩; have R3 : RR D W3 br g cap rest (nameR D σ) := R3x; have T3 := T2.trans T3x; have M0_3 := M0_2.turn T3x (by omega); clear c3 R3x T3x)
            | (refine wpList_allocS rfl 23 rfl (inL noIn) Try.zeroValue23 ?_; intro W4 m1 F4 M1_4; have R4 := R3.fresh F4; have T4 := T3.grow (F4.trans (Below.refl _ _) (Nat.le_refl _)); have hm1 : w.heap.size ≤ m1 := Nat.le_trans T3.size (Nat.le_of_eq F4.at'.symm); have ne_m0_m1 : m0 ≠ m1 := (by have := M0_3.lt; have := F4.at'; omega); have M0_4 := M0_3.fresh F4; clear F4)
            | (refine wpList_storeS rfl 23 _ _ rfl rfl (inL ⟨2, nameT D σ, [], [], 0⟩) rfl M1_4 (by simp [inL, noIn]) infoI (in_one _) ?_; intro W5 U5 M1_5x; have M1_5 : IsS W5 m1 23 (inL ⟨2, nameT D σ, [], [], 0⟩) := M1_5x; have R5 := R4.upd U5 (by omega) (by omega); have T5 := T4.upd hm1 U5; have M0_5 := M0_4.upd U5 (by omega); clear U5 M1_5x)
            | (go_at_call 30; refine (c6 _ R5).mono ?_; rintro en W6 ⟨rfl, R6x, T6x⟩; have R6 : RR D W6 br g cap rest (mustR D (nameR D σ) [44]) := R6x; have T6 := T5.trans T6x; have M0_6 := M0_5.turn T6x (by omega); have M1_6 := M1_5.turn T6x (by omega); clear c6 R6x T6x)
            | (go_at_call 27; refine (c7 _ R6).mono ?_; rintro en W7 ⟨rfl, R7, T7x⟩; have T7 := T6.trans T7x; have M0_7 := M0_6.turn T7x (by omega); have M1_7 := M1_6.turn T7x (by omega); clear c7 T7x; have z7 : World.cell? _ ⟨br, 7, none⟩ = some (.int .i64 (fO (RS.F (mustR D (nameR D σ) [44]))).2.2) := R7.cells.cell 7)
            | (go_at_call 42; refine (c8 _ R7).mono ?_; rintro en W8 ⟨rfl, B8⟩; have R8 := R7.grown B8; have T8 := T7.grow B8; have M0_8 := M0_7.grown B8; have M1_8 := M1_7.grown B8; clear c8 B8)
            | (go_at_call 31; refine (c9 _ R8).mono ?_; rintro en W9 ⟨rfl, R9x, T9x⟩; have R9 : RR D W9 br g cap rest (nameR D (mustR D (nameR D σ) [44])) := R9x; have T9 := T8.trans T9x; have M0_9 := M0_8.turn T9x (by omega); have M1_9 := M1_8.turn T9x (by omega); clear c9 R9x T9x)
            | (refine wpList_store1 rfl 9 _ _ rfl rfl (.string ⟨(nameT D (mustR D (nameR D σ) [44])).toArray⟩) rfl M1_9 (by simp [inL]) info9 rfl ?_; intro W10 U10 M1_10x; have M1_10 : IsS W10 m1 23 (inL ⟨2, nameT D σ, nameT D (mustR D (nameR D σ) [44]), [], 0⟩) := M1_10x; have R10 := R9.upd U10 (by omega) (by omega); have T10 := T9.upd hm1 U10; have M0_10 := M0_9.upd U10 (by omega); clear U10 M1_10x)
            | (refine wpList_loadP rfl 23 _ rfl rfl M1_10 5 (inL ⟨2, nameT D σ, nameT D (mustR D (nameR D σ) [44]), [], 0⟩) rfl _ Try.underlying23 rfl infoI ?_)
            | (refine wpList_storeS rfl 23 _ _ rfl rfl (inL ⟨2, nameT D σ, nameT D (mustR D (nameR D σ) [44]), [], 0⟩) rfl M0_10 (by simp [inL, noIn]) infoI (in_one _) ?_; intro W11 U11 M0_11x; have M0_11 : IsS W11 m0 23 (inL ⟨2, nameT D σ, nameT D (mustR D (nameR D σ) [44]), [], 0⟩) := M0_11x; have R11 := R10.upd U11 (by omega) (by omega); have T11 := T10.upd hm0 U11; have M1_11 := M1_10.upd U11 (by omega); clear U11 M0_11x))
          exact ret_S (cs := inL ⟨2, nameT D σ, nameT D (mustR D (nameR D σ) [44]), [], 0⟩) rfl rfl rfl M0_11 _ Try.underlying23 rfl infoI ⟨rfl, R11, T11⟩
        | some f =>
          have hz := (code_some (inv_must hD (inv_name hD hI) _) hF0).2
          clear hF0 hB3
          have c2 := fun W hR => rsees_any (br := br) (g := g) (cap := cap) (rest := rest) hD σ (hI) ⟨#[91]⟩ W hR
          rw [show seesR D (RS.k σ) (ByteArray.data ⟨#[91]⟩).toList = false from hB1] at c2
          have c3 := fun W hR => rname2_any (br := br) (g := g) (cap := cap) (rest := rest) hD σ (hI) W hR
          have c6 := fun W hR => rmust_any (br := br) (g := g) (cap := cap) (rest := rest) hD (nameR D σ) (inv_name hD (hI)) ⟨#[44]⟩ W hR
          have c7 := fun W hR => ris_any (br := br) (g := g) (cap := cap) (rest := rest) hD (mustR D (nameR D σ) [44]) (inv_must hD (inv_name hD (hI)) _) ⟨#[36]⟩ W hR
          rw [show isB D (mustR D (nameR D σ) [44]) (ByteArray.data ⟨#[36]⟩).toList = false from hB2, is_same hB2] at c7
          have c8 := fun W hR => rname2_any (br := br) (g := g) (cap := cap) (rest := rest) hD (mustR D (nameR D σ) [44]) (inv_must hD (inv_name hD (hI)) _) W hR
          have tk : True := trivial
          go_enter Try.func28, Try.ntmps28
          go_wp2_with (first
            | (refine wpList_allocS rfl 23 rfl (inL noIn) Try.zeroValue23 ?_; clear tk; intro W1 m0 F1 M0_1; have R1 := hR.fresh F1; have T1 := (Turn.of_below (Below.refl _ w) br).grow (F1.trans (Below.refl _ _) (Nat.le_refl _)); have hm0 : w.heap.size ≤ m0 := Nat.le_trans (Turn.of_below (Below.refl _ w) br).size (Nat.le_of_eq F1.at'.symm); clear F1)
            | (go_at_call 42; refine (c2 _ R1).mono ?_; rintro en W2 ⟨rfl, B2⟩; have R2 := R1.grown B2; have T2 := T1.grow B2; have M0_2 := M0_1.grown B2; clear c2 B2)
            | (go_at_call 31; refine (c3 _ R2).mono ?_; rintro en W3 ⟨rfl, R3x, T3x⟩; have R3 : RR D W3 br g cap rest (nameR D σ) := R3x; have T3 := T2.trans T3x; have M0_3 := M0_2.turn T3x (by omega); clear c3 R3x T3x)
            | (refine wpList_allocS rfl 23 rfl (inL noIn) Try.zeroValue23 ?_; intro W4 m1 F4 M1_4; have R4 := R3.fresh F4; have T4 := T3.grow (F4.trans (Below.refl _ _) (Nat.le_refl _)); have hm1 : w.heap.size ≤ m1 := Nat.le_trans T3.size (Nat.le_of_eq F4.at'.symm); have ne_m0_m1 : m0 ≠ m1 := (by have := M0_3.lt; have := F4.at'; omega); have M0_4 := M0_3.fresh F4; clear F4)
            | (refine wpList_storeS rfl 23 _ _ rfl rfl (inL ⟨2, nameT D σ, [], [], 0⟩) rfl M1_4 (by simp [inL, noIn]) infoI (in_one _) ?_; intro W5 U5 M1_5x; have M1_5 : IsS W5 m1 23 (inL ⟨2, nameT D σ, [], [], 0⟩) := M1_5x; have R5 := R4.upd U5 (by omega) (by omega); have T5 := T4.upd hm1 U5; have M0_5 := M0_4.upd U5 (by omega); clear U5 M1_5x)
            | (go_at_call 30; refine (c6 _ R5).mono ?_; rintro en W6 ⟨rfl, R6x, T6x⟩; have R6 : RR D W6 br g cap rest (mustR D (nameR D σ) [44]) := R6x; have T6 := T5.trans T6x; have M0_6 := M0_5.turn T6x (by omega); have M1_6 := M1_5.turn T6x (by omega); clear c6 R6x T6x)
            | (go_at_call 27; refine (c7 _ R6).mono ?_; rintro en W7 ⟨rfl, R7, T7x⟩; have T7 := T6.trans T7x; have M0_7 := M0_6.turn T7x (by omega); have M1_7 := M1_6.turn T7x (by omega); clear c7 T7x; have z7 : World.cell? _ ⟨br, 7, none⟩ = some (.int .i64 (fO (RS.F (mustR D (nameR D σ) [44]))).2.2) := R7.cells.cell 7)
            | (go_at_call 31; refine (c8 _ R7).mono ?_; rintro en W8 ⟨rfl, R8x, T8x⟩; have R8 : RR D W8 br g cap rest (nameR D (mustR D (nameR D σ) [44])) := R8x; have T8 := T7.trans T8x; have M0_8 := M0_7.turn T8x (by omega); have M1_8 := M1_7.turn T8x (by omega); clear c8 R8x T8x)
            | (refine wpList_store1 rfl 9 _ _ rfl rfl (.string ⟨(nameT D (mustR D (nameR D σ) [44])).toArray⟩) rfl M1_8 (by simp [inL]) info9 rfl ?_; intro W9 U9 M1_9x; have M1_9 : IsS W9 m1 23 (inL ⟨2, nameT D σ, nameT D (mustR D (nameR D σ) [44]), [], 0⟩) := M1_9x; have R9 := R8.upd U9 (by omega) (by omega); have T9 := T8.upd hm1 U9; have M0_9 := M0_8.upd U9 (by omega); clear U9 M1_9x)
            | (refine wpList_loadP rfl 23 _ rfl rfl M1_9 5 (inL ⟨2, nameT D σ, nameT D (mustR D (nameR D σ) [44]), [], 0⟩) rfl _ Try.underlying23 rfl infoI ?_)
            | (refine wpList_storeS rfl 23 _ _ rfl rfl (inL ⟨2, nameT D σ, nameT D (mustR D (nameR D σ) [44]), [], 0⟩) rfl M0_9 (by simp [inL, noIn]) infoI (in_one _) ?_; intro W10 U10 M0_10x; have M0_10 : IsS W10 m0 23 (inL ⟨2, nameT D σ, nameT D (mustR D (nameR D σ) [44]), [], 0⟩) := M0_10x; have R10 := R9.upd U10 (by omega) (by omega); have T10 := T9.upd hm0 U10; have M1_10 := M1_9.upd U10 (by omega); clear U10 M0_10x))
          exact ret_S (cs := inL ⟨2, nameT D σ, nameT D (mustR D (nameR D σ) [44]), [], 0⟩) rfl rfl rfl M0_10 _ Try.underlying23 rfl infoI ⟨rfl, R10, T10⟩
set_option maxRecDepth 100000 in
set_option maxHeartbeats 4000000 in
theorem rinstr_any (hD : WD D) (σ : RS) (hI : Inv D σ) (w : World) (hR : RR D w br g cap rest σ) :
    Calls Try.prog 12 #[.pointer (some ⟨br, 0, none⟩)] w fun en w' => en = .returned (.agg (inL (instrT D σ)).toArray) ∧ RR D w' br g cap rest (instrR D σ) ∧ Turn w w' br := by
  have hbr := hR.cells.lt
  have hgl := hR.lt
  cases hB1 : isB D σ [77, 79, 86] with
  | true =>
    have e1 : instrR D σ = moveR D (isR D σ wMOV) := by unfold instrR; rw [show isB D σ wMOV = true from hB1]; rfl
    have e2 : instrT D σ = moveT D (isR D σ wMOV) := by unfold instrT; rw [show isB D σ wMOV = true from hB1]; rfl
    rw [e1, e2]; clear e1 e2
    have c2 := fun W hR => ris_any (br := br) (g := g) (cap := cap) (rest := rest) hD σ (hI) ⟨#[77, 79, 86]⟩ W hR
    rw [show isB D σ (ByteArray.data ⟨#[77, 79, 86]⟩).toList = true from hB1] at c2
    have c3 := fun W hR => rmov_any (br := br) (g := g) (cap := cap) (rest := rest) hD (isR D σ [77, 79, 86]) (inv_is hD (hI) _) W hR
    have tk : True := trivial
    go_enter Try.func12, Try.ntmps12
    go_wp2_with (first
      | (refine wpList_allocS rfl 23 rfl (inL noIn) Try.zeroValue23 ?_; clear tk; intro W1 m0 F1 M0_1; have R1 := hR.fresh F1; have T1 := (Turn.of_below (Below.refl _ w) br).grow (F1.trans (Below.refl _ _) (Nat.le_refl _)); have hm0 : w.heap.size ≤ m0 := Nat.le_trans (Turn.of_below (Below.refl _ w) br).size (Nat.le_of_eq F1.at'.symm); clear F1)
      | (go_at_call 27; refine (c2 _ R1).mono ?_; rintro en W2 ⟨rfl, R2x, T2x⟩; have R2 : RR D W2 br g cap rest (isR D σ [77, 79, 86]) := R2x; have T2 := T1.trans T2x; have M0_2 := M0_1.turn T2x (by omega); clear c2 R2x T2x)
      | (go_at_call 28; refine (c3 _ R2).mono ?_; rintro en W3 ⟨rfl, R3x, T3x⟩; have R3 : RR D W3 br g cap rest (moveR D (isR D σ [77, 79, 86])) := R3x; have T3 := T2.trans T3x; have M0_3 := M0_2.turn T3x (by omega); clear c3 R3x T3x)
      | (refine wpList_storeS rfl 23 _ _ rfl rfl (inL (moveT D (isR D σ wMOV))) rfl M0_3 (by simp [inL, noIn]) infoI (in_one _) ?_; intro W4 U4 M0_4x; have M0_4 : IsS W4 m0 23 (inL (moveT D (isR D σ wMOV))) := M0_4x; have R4 := R3.upd U4 (by omega) (by omega); have T4 := T3.upd hm0 U4; clear U4 M0_4x))
    exact ret_S (cs := inL (moveT D (isR D σ wMOV))) rfl rfl rfl M0_4 _ Try.underlying23 rfl infoI ⟨rfl, R4, T4⟩
  | false =>
    cases hB2 : isB D σ [77, 70, 69, 78, 67, 69] with
    | true =>
      have e1 : instrR D σ = isR D σ wMFENCE := by unfold instrR; rw [show isB D σ wMOV = false from hB1, show isB D σ wMFENCE = true from hB2]; rfl
      have e2 : instrT D σ = ⟨6, [], [], [], 0⟩ := by unfold instrT; rw [show isB D σ wMOV = false from hB1, show isB D σ wMFENCE = true from hB2]; rfl
      rw [e1, e2]; clear e1 e2
      have c2 := fun W hR => ris_any (br := br) (g := g) (cap := cap) (rest := rest) hD σ (hI) ⟨#[77, 79, 86]⟩ W hR
      rw [show isB D σ (ByteArray.data ⟨#[77, 79, 86]⟩).toList = false from hB1, is_same hB1] at c2
      have c3 := fun W hR => ris_any (br := br) (g := g) (cap := cap) (rest := rest) hD σ (hI) ⟨#[77, 70, 69, 78, 67, 69]⟩ W hR
      rw [show isB D σ (ByteArray.data ⟨#[77, 70, 69, 78, 67, 69]⟩).toList = true from hB2] at c3
      have tk : True := trivial
      go_enter Try.func12, Try.ntmps12
      go_wp2_with (first
        | (refine wpList_allocS rfl 23 rfl (inL noIn) Try.zeroValue23 ?_; clear tk; intro W1 m0 F1 M0_1; have R1 := hR.fresh F1; have T1 := (Turn.of_below (Below.refl _ w) br).grow (F1.trans (Below.refl _ _) (Nat.le_refl _)); have hm0 : w.heap.size ≤ m0 := Nat.le_trans (Turn.of_below (Below.refl _ w) br).size (Nat.le_of_eq F1.at'.symm); clear F1)
        | (go_at_call 27; refine (c2 _ R1).mono ?_; rintro en W2 ⟨rfl, R2, T2x⟩; have T2 := T1.trans T2x; have M0_2 := M0_1.turn T2x (by omega); clear c2 T2x)
        | (go_at_call 27; refine (c3 _ R2).mono ?_; rintro en W3 ⟨rfl, R3x, T3x⟩; have R3 : RR D W3 br g cap rest (isR D σ [77, 70, 69, 78, 67, 69]) := R3x; have T3 := T2.trans T3x; have M0_3 := M0_2.turn T3x (by omega); clear c3 R3x T3x)
        | (refine wpList_storeS rfl 23 _ _ rfl rfl (inL ⟨6, [], [], [], 0⟩) rfl M0_3 (by simp [inL, noIn]) infoI (in_one _) ?_; intro W4 U4 M0_4x; have M0_4 : IsS W4 m0 23 (inL ⟨6, [], [], [], 0⟩) := M0_4x; have R4 := R3.upd U4 (by omega) (by omega); have T4 := T3.upd hm0 U4; clear U4 M0_4x))
      exact ret_S (cs := inL ⟨6, [], [], [], 0⟩) rfl rfl rfl M0_4 _ Try.underlying23 rfl infoI ⟨rfl, R4, T4⟩
    | false =>
      cases hB3 : isB D σ [88, 67, 72, 71] with
      | true =>
        have e1 : instrR D σ = opdR D (isR D σ wXCHG) := by unfold instrR; rw [show isB D σ wMOV = false from hB1, show isB D σ wMFENCE = false from hB2, show isB D σ wXCHG = true from hB3]; rfl
        have e2 : instrT D σ = ⟨7, opdN D (isR D σ wXCHG), [], opdL D (isR D σ wXCHG), 0⟩ := by unfold instrT; rw [show isB D σ wMOV = false from hB1, show isB D σ wMFENCE = false from hB2, show isB D σ wXCHG = true from hB3]; rfl
        rw [e1, e2]; clear e1 e2
        have c2 := fun W hR => ris_any (br := br) (g := g) (cap := cap) (rest := rest) hD σ (hI) ⟨#[77, 79, 86]⟩ W hR
        rw [show isB D σ (ByteArray.data ⟨#[77, 79, 86]⟩).toList = false from hB1, is_same hB1] at c2
        have c3 := fun W hR => ris_any (br := br) (g := g) (cap := cap) (rest := rest) hD σ (hI) ⟨#[77, 70, 69, 78, 67, 69]⟩ W hR
        rw [show isB D σ (ByteArray.data ⟨#[77, 70, 69, 78, 67, 69]⟩).toList = false from hB2, is_same hB2] at c3
        have c4 := fun W hR => ris_any (br := br) (g := g) (cap := cap) (rest := rest) hD σ (hI) ⟨#[88, 67, 72, 71]⟩ W hR
        rw [show isB D σ (ByteArray.data ⟨#[88, 67, 72, 71]⟩).toList = true from hB3] at c4
        have c5 := fun W hR => rplc_any (br := br) (g := g) (cap := cap) (rest := rest) hD (isR D σ [88, 67, 72, 71]) (inv_is hD (hI) _) W hR
        have c8 := fun W hR => rmust_any (br := br) (g := g) (cap := cap) (rest := rest) hD (placeR D (isR D σ [88, 67, 72, 71])) (inv_place hD (inv_is hD (hI) _)) ⟨#[44]⟩ W hR
        have c9 := fun W hR => rname2_any (br := br) (g := g) (cap := cap) (rest := rest) hD (mustR D (placeR D (isR D σ [88, 67, 72, 71])) [44]) (inv_must hD (inv_place hD (inv_is hD (hI) _)) _) W hR
        have tk : True := trivial
        go_enter Try.func12, Try.ntmps12
        go_wp2_with (first
          | (refine wpList_allocS rfl 23 rfl (inL noIn) Try.zeroValue23 ?_; clear tk; intro W1 m0 F1 M0_1; have R1 := hR.fresh F1; have T1 := (Turn.of_below (Below.refl _ w) br).grow (F1.trans (Below.refl _ _) (Nat.le_refl _)); have hm0 : w.heap.size ≤ m0 := Nat.le_trans (Turn.of_below (Below.refl _ w) br).size (Nat.le_of_eq F1.at'.symm); clear F1)
          | (go_at_call 27; refine (c2 _ R1).mono ?_; rintro en W2 ⟨rfl, R2, T2x⟩; have T2 := T1.trans T2x; have M0_2 := M0_1.turn T2x (by omega); clear c2 T2x)
          | (go_at_call 27; refine (c3 _ R2).mono ?_; rintro en W3 ⟨rfl, R3, T3x⟩; have T3 := T2.trans T3x; have M0_3 := M0_2.turn T3x (by omega); clear c3 T3x)
          | (go_at_call 27; refine (c4 _ R3).mono ?_; rintro en W4 ⟨rfl, R4x, T4x⟩; have R4 : RR D W4 br g cap rest (isR D σ [88, 67, 72, 71]) := R4x; have T4 := T3.trans T4x; have M0_4 := M0_3.turn T4x (by omega); clear c4 R4x T4x)
          | (go_at_call 29; refine (c5 _ R4).mono ?_; rintro en W5 ⟨rfl, R5x, T5x⟩; have R5 : RR D W5 br g cap rest (placeR D (isR D σ [88, 67, 72, 71])) := R5x; have T5 := T4.trans T5x; have M0_5 := M0_4.turn T5x (by omega); clear c5 R5x T5x)
          | (refine wpList_allocS rfl 23 rfl (inL noIn) Try.zeroValue23 ?_; intro W6 m1 F6 M1_6; have R6 := R5.fresh F6; have T6 := T5.grow (F6.trans (Below.refl _ _) (Nat.le_refl _)); have hm1 : w.heap.size ≤ m1 := Nat.le_trans T5.size (Nat.le_of_eq F6.at'.symm); have ne_m0_m1 : m0 ≠ m1 := (by have := M0_5.lt; have := F6.at'; omega); have M0_6 := M0_5.fresh F6; clear F6)
          | (refine wpList_storeS rfl 23 _ _ rfl rfl (inL ⟨7, [], [], opdL D (isR D σ wXCHG), 0⟩) rfl M1_6 (by simp [inL, noIn]) infoI (in_one _) ?_; intro W7 U7 M1_7x; have M1_7 : IsS W7 m1 23 (inL ⟨7, [], [], opdL D (isR D σ wXCHG), 0⟩) := M1_7x; have R7 := R6.upd U7 (by omega) (by omega); have T7 := T6.upd hm1 U7; have M0_7 := M0_6.upd U7 (by omega); clear U7 M1_7x)
          | (go_at_call 30; refine (c8 _ R7).mono ?_; rintro en W8 ⟨rfl, R8x, T8x⟩; have R8 : RR D W8 br g cap rest (mustR D (placeR D (isR D σ [88, 67, 72, 71])) [44]) := R8x; have T8 := T7.trans T8x; have M0_8 := M0_7.turn T8x (by omega); have M1_8 := M1_7.turn T8x (by omega); clear c8 R8x T8x)
          | (go_at_call 31; refine (c9 _ R8).mono ?_; rintro en W9 ⟨rfl, R9x, T9x⟩; have R9 : RR D W9 br g cap rest (nameR D (mustR D (placeR D (isR D σ [88, 67, 72, 71])) [44])) := R9x; have T9 := T8.trans T9x; have M0_9 := M0_8.turn T9x (by omega); have M1_9 := M1_8.turn T9x (by omega); clear c9 R9x T9x)
          | (refine wpList_store1 rfl 9 _ _ rfl rfl (.string ⟨(opdN D (isR D σ wXCHG)).toArray⟩) rfl M1_9 (by simp [inL]) info9 rfl ?_; intro W10 U10 M1_10x; have M1_10 : IsS W10 m1 23 (inL ⟨7, opdN D (isR D σ wXCHG), [], opdL D (isR D σ wXCHG), 0⟩) := M1_10x; have R10 := R9.upd U10 (by omega) (by omega); have T10 := T9.upd hm1 U10; have M0_10 := M0_9.upd U10 (by omega); clear U10 M1_10x)
          | (refine wpList_loadP rfl 23 _ rfl rfl M1_10 5 (inL ⟨7, opdN D (isR D σ wXCHG), [], opdL D (isR D σ wXCHG), 0⟩) rfl _ Try.underlying23 rfl infoI ?_)
          | (refine wpList_storeS rfl 23 _ _ rfl rfl (inL ⟨7, opdN D (isR D σ wXCHG), [], opdL D (isR D σ wXCHG), 0⟩) rfl M0_10 (by simp [inL, noIn]) infoI (in_one _) ?_; intro W11 U11 M0_11x; have M0_11 : IsS W11 m0 23 (inL ⟨7, opdN D (isR D σ wXCHG), [], opdL D (isR D σ wXCHG), 0⟩) := M0_11x; have R11 := R10.upd U11 (by omega) (by omega); have T11 := T10.upd hm0 U11; have M1_11 := M1_10.upd U11 (by omega); clear U11 M0_11x))
        exact ret_S (cs := inL ⟨7, opdN D (isR D σ wXCHG), [], opdL D (isR D σ wXCHG), 0⟩) rfl rfl rfl M0_11 _ Try.underlying23 rfl infoI ⟨rfl, R11, T11⟩
      | false =>
        cases hB4 : isB D σ [76, 79, 67, 75] with
        | true =>
          have e1 : instrR D σ = lockR D (isR D σ wLOCK) := by unfold instrR; rw [show isB D σ wMOV = false from hB1, show isB D σ wMFENCE = false from hB2, show isB D σ wXCHG = false from hB3, show isB D σ wLOCK = true from hB4]; rfl
          have e2 : instrT D σ = lockT D (isR D σ wLOCK) := by unfold instrT; rw [show isB D σ wMOV = false from hB1, show isB D σ wMFENCE = false from hB2, show isB D σ wXCHG = false from hB3, show isB D σ wLOCK = true from hB4]; rfl
          rw [e1, e2]; clear e1 e2
          cases hB5 : isB D (isR D σ [76, 79, 67, 75]) [67, 77, 80, 88, 67, 72, 71] with
          | true =>
            have e1 : lockR D (isR D σ wLOCK) = opdR D (isR D (isR D σ wLOCK) wCMPXCHG) := by unfold lockR; rw [show isB D (isR D σ wLOCK) wCMPXCHG = true from hB5]; rfl
            have e2 : lockT D (isR D σ wLOCK) = ⟨8, [], opdN D (isR D (isR D σ wLOCK) wCMPXCHG), opdL D (isR D (isR D σ wLOCK) wCMPXCHG), 0⟩ := by unfold lockT; rw [show isB D (isR D σ wLOCK) wCMPXCHG = true from hB5]; rfl
            rw [e1, e2]; clear e1 e2
            have c2 := fun W hR => ris_any (br := br) (g := g) (cap := cap) (rest := rest) hD σ (hI) ⟨#[77, 79, 86]⟩ W hR
            rw [show isB D σ (ByteArray.data ⟨#[77, 79, 86]⟩).toList = false from hB1, is_same hB1] at c2
            have c3 := fun W hR => ris_any (br := br) (g := g) (cap := cap) (rest := rest) hD σ (hI) ⟨#[77, 70, 69, 78, 67, 69]⟩ W hR
            rw [show isB D σ (ByteArray.data ⟨#[77, 70, 69, 78, 67, 69]⟩).toList = false from hB2, is_same hB2] at c3
            have c4 := fun W hR => ris_any (br := br) (g := g) (cap := cap) (rest := rest) hD σ (hI) ⟨#[88, 67, 72, 71]⟩ W hR
            rw [show isB D σ (ByteArray.data ⟨#[88, 67, 72, 71]⟩).toList = false from hB3, is_same hB3] at c4
            have c5 := fun W hR => ris_any (br := br) (g := g) (cap := cap) (rest := rest) hD σ (hI) ⟨#[76, 79, 67, 75]⟩ W hR
            rw [show isB D σ (ByteArray.data ⟨#[76, 79, 67, 75]⟩).toList = true from hB4] at c5
            have c6 := fun W hR => ris_any (br := br) (g := g) (cap := cap) (rest := rest) hD (isR D σ [76, 79, 67, 75]) (inv_is hD (hI) _) ⟨#[67, 77, 80, 88, 67, 72, 71]⟩ W hR
            rw [show isB D (isR D σ [76, 79, 67, 75]) (ByteArray.data ⟨#[67, 77, 80, 88, 67, 72, 71]⟩).toList = true from hB5] at c6
            have c7 := fun W hR => rplc_any (br := br) (g := g) (cap := cap) (rest := rest) hD (isR D (isR D σ [76, 79, 67, 75]) [67, 77, 80, 88, 67, 72, 71]) (inv_is hD (inv_is hD (hI) _) _) W hR
            have c10 := fun W hR => rmust_any (br := br) (g := g) (cap := cap) (rest := rest) hD (placeR D (isR D (isR D σ [76, 79, 67, 75]) [67, 77, 80, 88, 67, 72, 71])) (inv_place hD (inv_is hD (inv_is hD (hI) _) _)) ⟨#[44]⟩ W hR
            have c11 := fun W hR => rname2_any (br := br) (g := g) (cap := cap) (rest := rest) hD (mustR D (placeR D (isR D (isR D σ [76, 79, 67, 75]) [67, 77, 80, 88, 67, 72, 71])) [44]) (inv_must hD (inv_place hD (inv_is hD (inv_is hD (hI) _) _)) _) W hR
            have tk : True := trivial
            go_enter Try.func12, Try.ntmps12
            go_wp2_with (first
              | (refine wpList_allocS rfl 23 rfl (inL noIn) Try.zeroValue23 ?_; clear tk; intro W1 m0 F1 M0_1; have R1 := hR.fresh F1; have T1 := (Turn.of_below (Below.refl _ w) br).grow (F1.trans (Below.refl _ _) (Nat.le_refl _)); have hm0 : w.heap.size ≤ m0 := Nat.le_trans (Turn.of_below (Below.refl _ w) br).size (Nat.le_of_eq F1.at'.symm); clear F1)
              | (go_at_call 27; refine (c2 _ R1).mono ?_; rintro en W2 ⟨rfl, R2, T2x⟩; have T2 := T1.trans T2x; have M0_2 := M0_1.turn T2x (by omega); clear c2 T2x)
              | (go_at_call 27; refine (c3 _ R2).mono ?_; rintro en W3 ⟨rfl, R3, T3x⟩; have T3 := T2.trans T3x; have M0_3 := M0_2.turn T3x (by omega); clear c3 T3x)
              | (go_at_call 27; refine (c4 _ R3).mono ?_; rintro en W4 ⟨rfl, R4, T4x⟩; have T4 := T3.trans T4x; have M0_4 := M0_3.turn T4x (by omega); clear c4 T4x)
              | (go_at_call 27; refine (c5 _ R4).mono ?_; rintro en W5 ⟨rfl, R5x, T5x⟩; have R5 : RR D W5 br g cap rest (isR D σ [76, 79, 67, 75]) := R5x; have T5 := T4.trans T5x; have M0_5 := M0_4.turn T5x (by omega); clear c5 R5x T5x)
              | (go_at_call 27; refine (c6 _ R5).mono ?_; rintro en W6 ⟨rfl, R6x, T6x⟩; have R6 : RR D W6 br g cap rest (isR D (isR D σ [76, 79, 67, 75]) [67, 77, 80, 88, 67, 72, 71]) := R6x; have T6 := T5.trans T6x; have M0_6 := M0_5.turn T6x (by omega); clear c6 R6x T6x)
              | (go_at_call 29; refine (c7 _ R6).mono ?_; rintro en W7 ⟨rfl, R7x, T7x⟩; have R7 : RR D W7 br g cap rest (placeR D (isR D (isR D σ [76, 79, 67, 75]) [67, 77, 80, 88, 67, 72, 71])) := R7x; have T7 := T6.trans T7x; have M0_7 := M0_6.turn T7x (by omega); clear c7 R7x T7x)
              | (refine wpList_allocS rfl 23 rfl (inL noIn) Try.zeroValue23 ?_; intro W8 m1 F8 M1_8; have R8 := R7.fresh F8; have T8 := T7.grow (F8.trans (Below.refl _ _) (Nat.le_refl _)); have hm1 : w.heap.size ≤ m1 := Nat.le_trans T7.size (Nat.le_of_eq F8.at'.symm); have ne_m0_m1 : m0 ≠ m1 := (by have := M0_7.lt; have := F8.at'; omega); have M0_8 := M0_7.fresh F8; clear F8)
              | (refine wpList_storeS rfl 23 _ _ rfl rfl (inL ⟨8, [], [], opdL D (isR D (isR D σ wLOCK) wCMPXCHG), 0⟩) rfl M1_8 (by simp [inL, noIn]) infoI (in_one _) ?_; intro W9 U9 M1_9x; have M1_9 : IsS W9 m1 23 (inL ⟨8, [], [], opdL D (isR D (isR D σ wLOCK) wCMPXCHG), 0⟩) := M1_9x; have R9 := R8.upd U9 (by omega) (by omega); have T9 := T8.upd hm1 U9; have M0_9 := M0_8.upd U9 (by omega); clear U9 M1_9x)
              | (go_at_call 30; refine (c10 _ R9).mono ?_; rintro en W10 ⟨rfl, R10x, T10x⟩; have R10 : RR D W10 br g cap rest (mustR D (placeR D (isR D (isR D σ [76, 79, 67, 75]) [67, 77, 80, 88, 67, 72, 71])) [44]) := R10x; have T10 := T9.trans T10x; have M0_10 := M0_9.turn T10x (by omega); have M1_10 := M1_9.turn T10x (by omega); clear c10 R10x T10x)
              | (go_at_call 31; refine (c11 _ R10).mono ?_; rintro en W11 ⟨rfl, R11x, T11x⟩; have R11 : RR D W11 br g cap rest (nameR D (mustR D (placeR D (isR D (isR D σ [76, 79, 67, 75]) [67, 77, 80, 88, 67, 72, 71])) [44])) := R11x; have T11 := T10.trans T11x; have M0_11 := M0_10.turn T11x (by omega); have M1_11 := M1_10.turn T11x (by omega); clear c11 R11x T11x)
              | (refine wpList_store1 rfl 9 _ _ rfl rfl (.string ⟨(opdN D (isR D (isR D σ wLOCK) wCMPXCHG)).toArray⟩) rfl M1_11 (by simp [inL]) info9 rfl ?_; intro W12 U12 M1_12x; have M1_12 : IsS W12 m1 23 (inL ⟨8, [], opdN D (isR D (isR D σ wLOCK) wCMPXCHG), opdL D (isR D (isR D σ wLOCK) wCMPXCHG), 0⟩) := M1_12x; have R12 := R11.upd U12 (by omega) (by omega); have T12 := T11.upd hm1 U12; have M0_12 := M0_11.upd U12 (by omega); clear U12 M1_12x)
              | (refine wpList_loadP rfl 23 _ rfl rfl M1_12 5 (inL ⟨8, [], opdN D (isR D (isR D σ wLOCK) wCMPXCHG), opdL D (isR D (isR D σ wLOCK) wCMPXCHG), 0⟩) rfl _ Try.underlying23 rfl infoI ?_)
              | (refine wpList_storeS rfl 23 _ _ rfl rfl (inL ⟨8, [], opdN D (isR D (isR D σ wLOCK) wCMPXCHG), opdL D (isR D (isR D σ wLOCK) wCMPXCHG), 0⟩) rfl M0_12 (by simp [inL, noIn]) infoI (in_one _) ?_; intro W13 U13 M0_13x; have M0_13 : IsS W13 m0 23 (inL ⟨8, [], opdN D (isR D (isR D σ wLOCK) wCMPXCHG), opdL D (isR D (isR D σ wLOCK) wCMPXCHG), 0⟩) := M0_13x; have R13 := R12.upd U13 (by omega) (by omega); have T13 := T12.upd hm0 U13; have M1_13 := M1_12.upd U13 (by omega); clear U13 M0_13x))
            exact ret_S (cs := inL ⟨8, [], opdN D (isR D (isR D σ wLOCK) wCMPXCHG), opdL D (isR D (isR D σ wLOCK) wCMPXCHG), 0⟩) rfl rfl rfl M0_13 _ Try.underlying23 rfl infoI ⟨rfl, R13, T13⟩
          | false =>
            have e1 : lockR D (isR D σ wLOCK) = opdR D (mustR D (isR D σ wLOCK) wXADD) := by unfold lockR; rw [show isB D (isR D σ wLOCK) wCMPXCHG = false from hB5]; rfl
            have e2 : lockT D (isR D σ wLOCK) = ⟨9, opdN D (mustR D (isR D σ wLOCK) wXADD), [], opdL D (mustR D (isR D σ wLOCK) wXADD), 0⟩ := by unfold lockT; rw [show isB D (isR D σ wLOCK) wCMPXCHG = false from hB5]; rfl
            rw [e1, e2]; clear e1 e2
            have c2 := fun W hR => ris_any (br := br) (g := g) (cap := cap) (rest := rest) hD σ (hI) ⟨#[77, 79, 86]⟩ W hR
            rw [show isB D σ (ByteArray.data ⟨#[77, 79, 86]⟩).toList = false from hB1, is_same hB1] at c2
            have c3 := fun W hR => ris_any (br := br) (g := g) (cap := cap) (rest := rest) hD σ (hI) ⟨#[77, 70, 69, 78, 67, 69]⟩ W hR
            rw [show isB D σ (ByteArray.data ⟨#[77, 70, 69, 78, 67, 69]⟩).toList = false from hB2, is_same hB2] at c3
            have c4 := fun W hR => ris_any (br := br) (g := g) (cap := cap) (rest := rest) hD σ (hI) ⟨#[88, 67, 72, 71]⟩ W hR
            rw [show isB D σ (ByteArray.data ⟨#[88, 67, 72, 71]⟩).toList = false from hB3, is_same hB3] at c4
            have c5 := fun W hR => ris_any (br := br) (g := g) (cap := cap) (rest := rest) hD σ (hI) ⟨#[76, 79, 67, 75]⟩ W hR
            rw [show isB D σ (ByteArray.data ⟨#[76, 79, 67, 75]⟩).toList = true from hB4] at c5
            have c6 := fun W hR => ris_any (br := br) (g := g) (cap := cap) (rest := rest) hD (isR D σ [76, 79, 67, 75]) (inv_is hD (hI) _) ⟨#[67, 77, 80, 88, 67, 72, 71]⟩ W hR
            rw [show isB D (isR D σ [76, 79, 67, 75]) (ByteArray.data ⟨#[67, 77, 80, 88, 67, 72, 71]⟩).toList = false from hB5, is_same hB5] at c6
            have c7 := fun W hR => rmust_any (br := br) (g := g) (cap := cap) (rest := rest) hD (isR D σ [76, 79, 67, 75]) (inv_is hD (hI) _) ⟨#[88, 65, 68, 68]⟩ W hR
            have c8 := fun W hR => rplc_any (br := br) (g := g) (cap := cap) (rest := rest) hD (mustR D (isR D σ [76, 79, 67, 75]) [88, 65, 68, 68]) (inv_must hD (inv_is hD (hI) _) _) W hR
            have c11 := fun W hR => rmust_any (br := br) (g := g) (cap := cap) (rest := rest) hD (placeR D (mustR D (isR D σ [76, 79, 67, 75]) [88, 65, 68, 68])) (inv_place hD (inv_must hD (inv_is hD (hI) _) _)) ⟨#[44]⟩ W hR
            have c12 := fun W hR => rname2_any (br := br) (g := g) (cap := cap) (rest := rest) hD (mustR D (placeR D (mustR D (isR D σ [76, 79, 67, 75]) [88, 65, 68, 68])) [44]) (inv_must hD (inv_place hD (inv_must hD (inv_is hD (hI) _) _)) _) W hR
            have tk : True := trivial
            go_enter Try.func12, Try.ntmps12
            go_wp2_with (first
              | (refine wpList_allocS rfl 23 rfl (inL noIn) Try.zeroValue23 ?_; clear tk; intro W1 m0 F1 M0_1; have R1 := hR.fresh F1; have T1 := (Turn.of_below (Below.refl _ w) br).grow (F1.trans (Below.refl _ _) (Nat.le_refl _)); have hm0 : w.heap.size ≤ m0 := Nat.le_trans (Turn.of_below (Below.refl _ w) br).size (Nat.le_of_eq F1.at'.symm); clear F1)
              | (go_at_call 27; refine (c2 _ R1).mono ?_; rintro en W2 ⟨rfl, R2, T2x⟩; have T2 := T1.trans T2x; have M0_2 := M0_1.turn T2x (by omega); clear c2 T2x)
              | (go_at_call 27; refine (c3 _ R2).mono ?_; rintro en W3 ⟨rfl, R3, T3x⟩; have T3 := T2.trans T3x; have M0_3 := M0_2.turn T3x (by omega); clear c3 T3x)
              | (go_at_call 27; refine (c4 _ R3).mono ?_; rintro en W4 ⟨rfl, R4, T4x⟩; have T4 := T3.trans T4x; have M0_4 := M0_3.turn T4x (by omega); clear c4 T4x)
              | (go_at_call 27; refine (c5 _ R4).mono ?_; rintro en W5 ⟨rfl, R5x, T5x⟩; have R5 : RR D W5 br g cap rest (isR D σ [76, 79, 67, 75]) := R5x; have T5 := T4.trans T5x; have M0_5 := M0_4.turn T5x (by omega); clear c5 R5x T5x)
              | (go_at_call 27; refine (c6 _ R5).mono ?_; rintro en W6 ⟨rfl, R6, T6x⟩; have T6 := T5.trans T6x; have M0_6 := M0_5.turn T6x (by omega); clear c6 T6x)
              | (go_at_call 30; refine (c7 _ R6).mono ?_; rintro en W7 ⟨rfl, R7x, T7x⟩; have R7 : RR D W7 br g cap rest (mustR D (isR D σ [76, 79, 67, 75]) [88, 65, 68, 68]) := R7x; have T7 := T6.trans T7x; have M0_7 := M0_6.turn T7x (by omega); clear c7 R7x T7x)
              | (go_at_call 29; refine (c8 _ R7).mono ?_; rintro en W8 ⟨rfl, R8x, T8x⟩; have R8 : RR D W8 br g cap rest (placeR D (mustR D (isR D σ [76, 79, 67, 75]) [88, 65, 68, 68])) := R8x; have T8 := T7.trans T8x; have M0_8 := M0_7.turn T8x (by omega); clear c8 R8x T8x)
              | (refine wpList_allocS rfl 23 rfl (inL noIn) Try.zeroValue23 ?_; intro W9 m1 F9 M1_9; have R9 := R8.fresh F9; have T9 := T8.grow (F9.trans (Below.refl _ _) (Nat.le_refl _)); have hm1 : w.heap.size ≤ m1 := Nat.le_trans T8.size (Nat.le_of_eq F9.at'.symm); have ne_m0_m1 : m0 ≠ m1 := (by have := M0_8.lt; have := F9.at'; omega); have M0_9 := M0_8.fresh F9; clear F9)
              | (refine wpList_storeS rfl 23 _ _ rfl rfl (inL ⟨9, [], [], opdL D (mustR D (isR D σ wLOCK) wXADD), 0⟩) rfl M1_9 (by simp [inL, noIn]) infoI (in_one _) ?_; intro W10 U10 M1_10x; have M1_10 : IsS W10 m1 23 (inL ⟨9, [], [], opdL D (mustR D (isR D σ wLOCK) wXADD), 0⟩) := M1_10x; have R10 := R9.upd U10 (by omega) (by omega); have T10 := T9.upd hm1 U10; have M0_10 := M0_9.upd U10 (by omega); clear U10 M1_10x)
              | (go_at_call 30; refine (c11 _ R10).mono ?_; rintro en W11 ⟨rfl, R11x, T11x⟩; have R11 : RR D W11 br g cap rest (mustR D (placeR D (mustR D (isR D σ [76, 79, 67, 75]) [88, 65, 68, 68])) [44]) := R11x; have T11 := T10.trans T11x; have M0_11 := M0_10.turn T11x (by omega); have M1_11 := M1_10.turn T11x (by omega); clear c11 R11x T11x)
              | (go_at_call 31; refine (c12 _ R11).mono ?_; rintro en W12 ⟨rfl, R12x, T12x⟩; have R12 : RR D W12 br g cap rest (nameR D (mustR D (placeR D (mustR D (isR D σ [76, 79, 67, 75]) [88, 65, 68, 68])) [44])) := R12x; have T12 := T11.trans T12x; have M0_12 := M0_11.turn T12x (by omega); have M1_12 := M1_11.turn T12x (by omega); clear c12 R12x T12x)
              | (refine wpList_store1 rfl 9 _ _ rfl rfl (.string ⟨(opdN D (mustR D (isR D σ wLOCK) wXADD)).toArray⟩) rfl M1_12 (by simp [inL]) info9 rfl ?_; intro W13 U13 M1_13x; have M1_13 : IsS W13 m1 23 (inL ⟨9, opdN D (mustR D (isR D σ wLOCK) wXADD), [], opdL D (mustR D (isR D σ wLOCK) wXADD), 0⟩) := M1_13x; have R13 := R12.upd U13 (by omega) (by omega); have T13 := T12.upd hm1 U13; have M0_13 := M0_12.upd U13 (by omega); clear U13 M1_13x)
              | (refine wpList_loadP rfl 23 _ rfl rfl M1_13 5 (inL ⟨9, opdN D (mustR D (isR D σ wLOCK) wXADD), [], opdL D (mustR D (isR D σ wLOCK) wXADD), 0⟩) rfl _ Try.underlying23 rfl infoI ?_)
              | (refine wpList_storeS rfl 23 _ _ rfl rfl (inL ⟨9, opdN D (mustR D (isR D σ wLOCK) wXADD), [], opdL D (mustR D (isR D σ wLOCK) wXADD), 0⟩) rfl M0_13 (by simp [inL, noIn]) infoI (in_one _) ?_; intro W14 U14 M0_14x; have M0_14 : IsS W14 m0 23 (inL ⟨9, opdN D (mustR D (isR D σ wLOCK) wXADD), [], opdL D (mustR D (isR D σ wLOCK) wXADD), 0⟩) := M0_14x; have R14 := R13.upd U14 (by omega) (by omega); have T14 := T13.upd hm0 U14; have M1_14 := M1_13.upd U14 (by omega); clear U14 M0_14x))
            exact ret_S (cs := inL ⟨9, opdN D (mustR D (isR D σ wLOCK) wXADD), [], opdL D (mustR D (isR D σ wLOCK) wXADD), 0⟩) rfl rfl rfl M0_14 _ Try.underlying23 rfl infoI ⟨rfl, R14, T14⟩
        | false =>
          have e1 : instrR D σ = wrongR D σ := by unfold instrR; rw [show isB D σ wMOV = false from hB1, show isB D σ wMFENCE = false from hB2, show isB D σ wXCHG = false from hB3, show isB D σ wLOCK = false from hB4]; rfl
          have e2 : instrT D σ = noIn := by unfold instrT; rw [show isB D σ wMOV = false from hB1, show isB D σ wMFENCE = false from hB2, show isB D σ wXCHG = false from hB3, show isB D σ wLOCK = false from hB4]; rfl
          rw [e1, e2]; clear e1 e2
          have c2 := fun W hR => ris_any (br := br) (g := g) (cap := cap) (rest := rest) hD σ (hI) ⟨#[77, 79, 86]⟩ W hR
          rw [show isB D σ (ByteArray.data ⟨#[77, 79, 86]⟩).toList = false from hB1, is_same hB1] at c2
          have c3 := fun W hR => ris_any (br := br) (g := g) (cap := cap) (rest := rest) hD σ (hI) ⟨#[77, 70, 69, 78, 67, 69]⟩ W hR
          rw [show isB D σ (ByteArray.data ⟨#[77, 70, 69, 78, 67, 69]⟩).toList = false from hB2, is_same hB2] at c3
          have c4 := fun W hR => ris_any (br := br) (g := g) (cap := cap) (rest := rest) hD σ (hI) ⟨#[88, 67, 72, 71]⟩ W hR
          rw [show isB D σ (ByteArray.data ⟨#[88, 67, 72, 71]⟩).toList = false from hB3, is_same hB3] at c4
          have c5 := fun W hR => ris_any (br := br) (g := g) (cap := cap) (rest := rest) hD σ (hI) ⟨#[76, 79, 67, 75]⟩ W hR
          rw [show isB D σ (ByteArray.data ⟨#[76, 79, 67, 75]⟩).toList = false from hB4, is_same hB4] at c5
          have c6 := fun W hR => rwrong_any (br := br) (g := g) (cap := cap) (rest := rest) hD σ (hI) W hR
          have tk : True := trivial
          go_enter Try.func12, Try.ntmps12
          go_wp2_with (first
            | (refine wpList_allocS rfl 23 rfl (inL noIn) Try.zeroValue23 ?_; clear tk; intro W1 m0 F1 M0_1; have R1 := hR.fresh F1; have T1 := (Turn.of_below (Below.refl _ w) br).grow (F1.trans (Below.refl _ _) (Nat.le_refl _)); have hm0 : w.heap.size ≤ m0 := Nat.le_trans (Turn.of_below (Below.refl _ w) br).size (Nat.le_of_eq F1.at'.symm); clear F1)
            | (go_at_call 27; refine (c2 _ R1).mono ?_; rintro en W2 ⟨rfl, R2, T2x⟩; have T2 := T1.trans T2x; have M0_2 := M0_1.turn T2x (by omega); clear c2 T2x)
            | (go_at_call 27; refine (c3 _ R2).mono ?_; rintro en W3 ⟨rfl, R3, T3x⟩; have T3 := T2.trans T3x; have M0_3 := M0_2.turn T3x (by omega); clear c3 T3x)
            | (go_at_call 27; refine (c4 _ R3).mono ?_; rintro en W4 ⟨rfl, R4, T4x⟩; have T4 := T3.trans T4x; have M0_4 := M0_3.turn T4x (by omega); clear c4 T4x)
            | (go_at_call 27; refine (c5 _ R4).mono ?_; rintro en W5 ⟨rfl, R5, T5x⟩; have T5 := T4.trans T5x; have M0_5 := M0_4.turn T5x (by omega); clear c5 T5x)
            | (go_at_call 14; refine (c6 _ R5).mono ?_; rintro en W6 ⟨rfl, R6x, T6x⟩; have R6 : RR D W6 br g cap rest (wrongR D σ) := R6x; have T6 := T5.trans T6x; have M0_6 := M0_5.turn T6x (by omega); clear c6 R6x T6x)
            | (refine wpList_storeS rfl 23 _ _ rfl rfl (inL noIn) rfl M0_6 (by simp [inL, noIn]) infoI (in_one _) ?_; intro W7 U7 M0_7x; have M0_7 : IsS W7 m0 23 (inL noIn) := M0_7x; have R7 := R6.upd U7 (by omega) (by omega); have T7 := T6.upd hm0 U7; clear U7 M0_7x))
          exact ret_S (cs := inL noIn) rfl rfl rfl M0_7 _ Try.underlying23 rfl infoI ⟨rfl, R7, T7⟩
end
end Go.Proofs.Ytpbcngnginffgaa

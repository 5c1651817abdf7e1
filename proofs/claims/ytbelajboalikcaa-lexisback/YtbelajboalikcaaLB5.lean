/- The law LexisBack, outcome by outcome. -/
import Derived.Test.YtbelajboalikcaaLB0
namespace Go.Proofs.Ytbelajboalikcaa
open Go.RowKit Go.Shelf M
set_option linter.unusedSimpArgs false
set_option linter.unusedVariables false


set_option maxRecDepth 100000 in
set_option maxHeartbeats 8000000 in
theorem back_bs (a : Option Addr) (cap : Nat) (gs : List GT) (s : ByteArray) (hs : s.size < 2305843009213693952) (w : World) (hT : Toks w a gs) (hn : gs.length ≤ 1048576) (cW1 : Hid (WriteOk gs (.tuple #[.string ⟨#[]⟩, .int .i64 1]))) (G2 : List GT) (hn2 : G2.length ≤ 1048576) (cA2 : Hid (AllOk s G2)) (cOne : Hid (∀ (j : Nat) (g : GT), G2[j]? = some g → OneOk s g)) (O2 : List UInt8) (G3 B2 : List GT) (cA3 : Hid (AllOk ⟨O2.toArray⟩ G3)) (cB3 : Hid (BareOk G3 B2)) (cB2 : Hid (BareOk G2 B2)) (cS2 : Hid (SameOk B2)) (cW2 : Hid (WriteOk G2 (.tuple #[.string ⟨O2.toArray⟩, .int .i64 0]))) :
    Calls Try.prog 7 #[.slice a gs.length cap, .string s] w fun e w' => e = .returned (.bool true) ∧ Below w.heap.size w w' := by
  have HT : Hid (Toks w a gs) := hT
  have hni : ¬ (1048576 : Int) < gs.length := by omega
  have hnd : decide ((1048576 : Int) < gs.length) = false := decide_eq_false hni
  have hnn : ¬ (1048576 < gs.length) := by omega
  have tA1 : True := trivial
  have tB1 : True := trivial
  have tW1 : True := trivial
  clear hT
  go_enter Try.func7, Try.ntmps7
  go_wp2_with (first
    | (go_at_call 24; refine (awake_any _).mono ?_; rintro e W1 ⟨rfl, B1⟩; have H1 : Hid (Below w.heap.size w W1) := B1; clear B1)
    | (go_at_call 22; clear tW1; refine (cW1.out _ _ _ (HT.out.below H1.out)).mono ?_; rintro e W2 ⟨rfl, B2⟩; have H2 : Hid (Below w.heap.size w W2) := H1.out.trans (B2.mono H1.out.size); clear B2 H1)
    | (go_at_call 10; refine (cA2.out _).mono ?_; rintro e W7 ⟨⟨am, cm, rfl, T7⟩, B7⟩; have H7 : Hid (Below w.heap.size w W7) := H2.out.trans (B7.mono H2.out.size); have UM : Hid (Toks W7 am G2) := T7; clear B7 T7))
  go_loopw [11, 12, 13] (fun i _ _ wr => ∃ j : Nat, j ≤ G2.length ∧ j ≤ 100 ∧ i = .int .i64 (j : Int) ∧ Hid (Below W7.heap.size W7 wr)) (fun i _ _ _ => G2.length - (intOf i).toNat)
  case atStart => exact ⟨0, by omega, by omega, rfl, Below.refl _ _⟩
  case round =>
    obtain ⟨j, hj, hj2, rfl, HB⟩ := hrel
    by_cases hlt : j < G2.length ∧ j < 100
    · have hi1 : (j : Int) < G2.length := by omega
      have hi2 : (j : Int) < 100 := by omega
      obtain ⟨g, hg⟩ : ∃ g, G2[j]? = some g := ⟨_, List.getElem?_eq_getElem hlt.1⟩
      obtain ⟨k, v, l1, c1', tx, p, r, hpr, hrs, rfl, cO⟩ := cOne.out j g hg
      obtain ⟨bm, om, rfl, hbm, hrm⟩ := UM.out.below HB.out j _ hg
      have HO : Hid (AllOk (s.extract p r) [⟨k, tx, v, 1, 1, 0, (r : Int) - p⟩]) := cO
      have x1 : wr.cell? ⟨bm, om + j * 7 + 1, none⟩ = some (.string tx) := hrm 1 _ rfl
      have x2 : wr.cell? ⟨bm, om + j * 7 + 2, none⟩ = some (.int .i64 v) := hrm 2 _ rfl
      have x5 : wr.cell? ⟨bm, om + j * 7 + 5, none⟩ = some (.int .i64 (p : Int)) := hrm 5 _ rfl
      have x6 : wr.cell? ⟨bm, om + j * 7 + 6, none⟩ = some (.int .i64 (r : Int)) := hrm 6 _ rfl
      have y1 : decide ((p : Int) < 0) = false := decide_eq_false (by omega)
      have y2 : decide ((r : Int) ≤ p) = false := decide_eq_false (by omega)
      have y3 : decide ((s.size : Int) < r) = false := decide_eq_false (by omega)
      have y4 : (p : Int) ≤ r := by omega
      have y5 : (r : Int) ≤ s.size := by omega
      have hw : IntKind.i64.wrap ((r : Int) - p) = (r : Int) - p := by rw [IntKind.wrap_i64]; omega
      clear cO hg
      go_wp2_with fail
      go_quiet (fail)
      have z1 : (wr.drewN nq).cell? ⟨bm, om + j * 7 + 1, none⟩ = some (.string tx) := x1
      have z2 : (wr.drewN nq).cell? ⟨bm, om + j * 7 + 2, none⟩ = some (.int .i64 v) := x2
      have z5 : (wr.drewN nq).cell? ⟨bm, om + j * 7 + 5, none⟩ = some (.int .i64 (p : Int)) := x5
      have z6 : (wr.drewN nq).cell? ⟨bm, om + j * 7 + 6, none⟩ = some (.int .i64 (r : Int)) := x6
      have H8 : Hid (Below W7.heap.size W7 (wr.drewN nq)) := below_drewN HB.out nq
      clear x1 x2 x5 x6 HB hrm hbm
      generalize wr.drewN nq = W8 at *
      go_wp2_with fail
      go_region_with (go_at_call 10; refine (HO.out _).mono ?_; rintro e W10 ⟨⟨ao, co, rfl, TO⟩, B10x⟩; have B10 : Below W8.heap.size W8 W10 := ⟨B10x.os, B10x.tape, B10x.output, B10x.size, B10x.block⟩; clear B10x)
      all_goals
        obtain ⟨bo, oo, rfl, hbo, hro⟩ := TO 0 _ rfl
        have q1 := cell_grow z1 B10
        have q2 := cell_grow z2 B10
        have q5 := cell_grow z5 B10
        have q6 := cell_grow z6 B10
        have H10 : Hid (Below W7.heap.size W7 W10) := H8.out.trans (B10.mono H8.out.size)
        have r1 : W10.cell? ⟨bo, oo + 1, none⟩ = some (.string tx) := (by have := hro 1 _ rfl; simpa using this)
        have r2 : W10.cell? ⟨bo, oo + 2, none⟩ = some (.int .i64 v) := (by have := hro 2 _ rfl; simpa using this)
        have r6 : W10.cell? ⟨bo, oo + 6, none⟩ = some (.int .i64 ((r : Int) - p)) := (by have := hro 6 _ rfl; simpa using this)
        clear z1 z2 z5 z6 H8 B10 TO hro hbo
        try simp only [Act.put, List.getElem_toArray, List.getElem_cons_zero, List.getElem_cons_succ, List.setIfInBounds_toArray, List.set_cons_succ, List.set_cons_zero]
        (try go_wp2_with fail)
        go_quiet (fail)
        have H11 : Hid (Below W7.heap.size W7 (W10.drewN nq)) := below_drewN H10.out nq
        clear q1 q2 q5 q6 r1 r2 r6 H10
        generalize W10.drewN nq = W11 at *
        go_wp2_with fail
        go_roundw
        case rel => exact ⟨j + 1, by omega, by omega, by go_num, H11⟩
        case measure => simp [intOf]; omega
    · have HJ : Hid (j = G2.length ∨ j = 100) := (show j = G2.length ∨ j = 100 by omega)
      have H12 : Hid (Below w.heap.size w wr) := H7.out.trans (HB.out.mono H7.out.size)
      have TM : Hid (Toks wr am G2) := UM.out.below HB.out
      clear hlt
      have hcase : (decide ((j : Int) < G2.length) && decide ((j : Int) < 100)) = false := (by rcases HJ.out with h | h <;> simp [h])
      rcases HJ.out with hje | hje
      · have v1 : decide ((j : Int) < G2.length) = false := decide_eq_false (by omega)
        have v1' : ¬ ((j : Int) < G2.length) := by omega
        clear hje HJ hcase
        have tB3 : True := trivial
        go_wp2_with (first
          | (go_at_call 22; refine (cW2.out _ _ _ TM.out).mono ?_; rintro e W13 ⟨rfl, B13⟩; have H13 : Hid (Below w.heap.size w W13) := H12.out.trans (B13.mono H12.out.size); have T13 : Hid (Toks W13 am G2) := TM.out.below B13; clear B13)
          | (go_at_call 10; refine (cA3.out _).mono ?_; rintro e W14 ⟨⟨a4, c4, rfl, T4⟩, B14⟩; have H14 : Hid (Below w.heap.size w W14) := H13.out.trans (B14.mono H13.out.size); have U4 : Hid (Toks W14 a4 G3) := T4; have T14 : Hid (Toks W14 am G2) := T13.out.below B14; clear B14 T4)
          | (go_at_call 25; clear tB3; refine (cB3.out _ _ _ U4.out).mono ?_; rintro e W15 ⟨⟨a5, c5, rfl, T5⟩, B15⟩; have H15 : Hid (Below w.heap.size w W15) := H14.out.trans (B15.mono H14.out.size); have U5 : Hid (Toks W15 a5 B2) := T5; have T15 : Hid (Toks W15 am G2) := T14.out.below B15; clear B15 T5)
          | (go_at_call 25; refine (cB2.out _ _ _ T15.out).mono ?_; rintro e W16 ⟨⟨a6, c6, rfl, T6⟩, B16⟩; have H16 : Hid (Below w.heap.size w W16) := H15.out.trans (B16.mono H15.out.size); have U6 : Hid (Toks W16 a6 B2) := T6; have U7 : Hid (Toks W16 a5 B2) := U5.out.below B16; clear B16 T6)
          | (go_at_call 13; refine (cS2.out _ _ _ _ _ U7.out U6.out).mono ?_; rintro e W17 ⟨rfl, B17⟩; have H17 : Hid (Below w.heap.size w W17) := H16.out.trans (B17.mono H16.out.size); clear B17))
        go_ret
        exact ⟨rfl, H17.out⟩
      · have v1 : decide ((j : Int) < 100) = false := decide_eq_false (by omega)
        have v1' : ¬ ((j : Int) < 100) := by omega
        have v2 : ¬ (j < 100) := by omega
        by_cases hj3 : j < G2.length
        · have v3 : (j : Int) < G2.length := by omega
          clear hje HJ hcase
          have tB3 : True := trivial
          go_wp2_with (first
            | (go_at_call 22; refine (cW2.out _ _ _ TM.out).mono ?_; rintro e W13 ⟨rfl, B13⟩; have H13 : Hid (Below w.heap.size w W13) := H12.out.trans (B13.mono H12.out.size); have T13 : Hid (Toks W13 am G2) := TM.out.below B13; clear B13)
            | (go_at_call 10; refine (cA3.out _).mono ?_; rintro e W14 ⟨⟨a4, c4, rfl, T4⟩, B14⟩; have H14 : Hid (Below w.heap.size w W14) := H13.out.trans (B14.mono H13.out.size); have U4 : Hid (Toks W14 a4 G3) := T4; have T14 : Hid (Toks W14 am G2) := T13.out.below B14; clear B14 T4)
            | (go_at_call 25; clear tB3; refine (cB3.out _ _ _ U4.out).mono ?_; rintro e W15 ⟨⟨a5, c5, rfl, T5⟩, B15⟩; have H15 : Hid (Below w.heap.size w W15) := H14.out.trans (B15.mono H14.out.size); have U5 : Hid (Toks W15 a5 B2) := T5; have T15 : Hid (Toks W15 am G2) := T14.out.below B15; clear B15 T5)
            | (go_at_call 25; refine (cB2.out _ _ _ T15.out).mono ?_; rintro e W16 ⟨⟨a6, c6, rfl, T6⟩, B16⟩; have H16 : Hid (Below w.heap.size w W16) := H15.out.trans (B16.mono H15.out.size); have U6 : Hid (Toks W16 a6 B2) := T6; have U7 : Hid (Toks W16 a5 B2) := U5.out.below B16; clear B16 T6)
            | (go_at_call 13; refine (cS2.out _ _ _ _ _ U7.out U6.out).mono ?_; rintro e W17 ⟨rfl, B17⟩; have H17 : Hid (Below w.heap.size w W17) := H16.out.trans (B17.mono H16.out.size); clear B17))
          go_ret
          exact ⟨rfl, H17.out⟩
        · have v3 : ¬ ((j : Int) < G2.length) := by omega
          clear hje HJ hcase
          have tB3 : True := trivial
          go_wp2_with (first
            | (go_at_call 22; refine (cW2.out _ _ _ TM.out).mono ?_; rintro e W13 ⟨rfl, B13⟩; have H13 : Hid (Below w.heap.size w W13) := H12.out.trans (B13.mono H12.out.size); have T13 : Hid (Toks W13 am G2) := TM.out.below B13; clear B13)
            | (go_at_call 10; refine (cA3.out _).mono ?_; rintro e W14 ⟨⟨a4, c4, rfl, T4⟩, B14⟩; have H14 : Hid (Below w.heap.size w W14) := H13.out.trans (B14.mono H13.out.size); have U4 : Hid (Toks W14 a4 G3) := T4; have T14 : Hid (Toks W14 am G2) := T13.out.below B14; clear B14 T4)
            | (go_at_call 25; clear tB3; refine (cB3.out _ _ _ U4.out).mono ?_; rintro e W15 ⟨⟨a5, c5, rfl, T5⟩, B15⟩; have H15 : Hid (Below w.heap.size w W15) := H14.out.trans (B15.mono H14.out.size); have U5 : Hid (Toks W15 a5 B2) := T5; have T15 : Hid (Toks W15 am G2) := T14.out.below B15; clear B15 T5)
            | (go_at_call 25; refine (cB2.out _ _ _ T15.out).mono ?_; rintro e W16 ⟨⟨a6, c6, rfl, T6⟩, B16⟩; have H16 : Hid (Below w.heap.size w W16) := H15.out.trans (B16.mono H15.out.size); have U6 : Hid (Toks W16 a6 B2) := T6; have U7 : Hid (Toks W16 a5 B2) := U5.out.below B16; clear B16 T6)
            | (go_at_call 13; refine (cS2.out _ _ _ _ _ U7.out U6.out).mono ?_; rintro e W17 ⟨rfl, B17⟩; have H17 : Hid (Below w.heap.size w W17) := H16.out.trans (B17.mono H16.out.size); clear B17))
          go_ret
          exact ⟨rfl, H17.out⟩
end Go.Proofs.Ytbelajboalikcaa

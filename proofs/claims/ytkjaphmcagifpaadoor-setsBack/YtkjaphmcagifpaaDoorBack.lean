/- SetsBack: for every set and every number it returns true: the document's examples, and the walk of the law, from the contracts of what it calls. -/
import Derived.Test.YtkjaphmcagifpaaDoorW4
namespace Go.Proofs.YtkjaphmcagifpaaDoor
open Go.RowKit M
set_option linter.unusedSimpArgs false
set_option linter.unusedVariables false

theorem lst_9 : lst 9 = [0, 3] := by decide +kernel
theorem text_9 : textB (lst 9) = ⟨#[123, 48, 32, 51, 125]⟩ := by
  rw [lst_9]
  have e : joinL [0, 3] = [48, 32, 51] := by
    unfold joinL
    simp only [List.map_cons, List.map_nil]
    rw [Lib.decDigits_one (by decide), Lib.decDigits_one (by decide)]
    decide
  unfold textB joinB
  rw [e]
  decide +kernel

theorem of_303 : ofS [3, 0, 3] = 9 ∧ ofE [3, 0, 3] = 0 := by decide +kernel

theorem awake_any (w : World) (hT : TabAt w) :
    Calls Tryd.prog 42 #[] w fun e w' => e = .returned (.bool true) ∧ Below w.heap.size w w' := by
  have hb : Below w.heap.size w (w.alloc (.cells #[.int .i64 3, .int .i64 0, .int .i64 3] 3)) := (Below.refl _ w).alloc (Nat.le_refl _) _
  have hT1 := hT.below hb
  have hN : Hid (Nums (w.alloc (.cells #[.int .i64 3, .int .i64 0, .int .i64 3] 3)) (some ⟨w.heap.size, 0, none⟩) [3, 0, 3]) := fun j hj =>
    ⟨w.heap.size, 0, rfl, by
      rw [World.cell?_alloc_at _ _ _ _ rfl]
      have : j = 0 ∨ j = 1 ∨ j = 2 := by simp at hj; omega
      rcases this with rfl | rfl | rfl <;> rfl⟩
  have c1 := of_any (some ⟨w.heap.size, 0, none⟩) 3 [3, 0, 3] _ hN (by decide)
  rw [of_303.1, of_303.2] at c1
  have c2 := size_any 9 (w.alloc (.cells #[.int .i64 3, .int .i64 0, .int .i64 3] 3)) (by decide)
  rw [lst_9] at c2
  have c3 := at_any 9 1 _ (by decide) hT1
  rw [show atN 9 1 = 3 by decide +kernel] at c3
  have c4 := text_any 9 _ (by decide) hT1
  rw [text_9] at c4
  clear hN hT hT1
  go_enter Tryd.func42, Tryd.ntmps42
  go_wp2_with (first
    | (go_at_call 25; refine c1.mono ?_; rintro e w' ⟨rfl, hw'⟩; replace hw' := hw'.symm; subst hw')
    | (go_at_call 15; refine c2.mono ?_; rintro e w' ⟨rfl, hw'⟩; replace hw' := hw'.symm; subst hw')
    | (go_at_call 19; refine c3.mono ?_; rintro e w' ⟨rfl, hw'⟩; replace hw' := hw'.symm; subst hw')
    | (go_at_call 30; refine c4.mono ?_; rintro e w2 ⟨rfl, hb2⟩))
  go_ret
  exact ⟨rfl, hb.trans (hb2.mono (by simp))⟩

set_option maxRecDepth 1000000 in
set_option maxHeartbeats 4000000 in
theorem setsBack_walk (s : Nat) (i : Int) (w : World) (hs : s < 18446744073709551616) (hT : TabAt w) :
    Calls Tryd.prog 7 #[.int .u64 s, .int .i64 i] w fun e w' => e = .returned (.bool true) ∧ Below w.heap.size w w' := by
  have hle := length_lst_le s
  have c0 := awake_any w hT
  go_enter Tryd.func7, Tryd.ntmps7
  go_wp2_with (first
    | (go_at_call 42; refine c0.mono ?_; rintro e w1 ⟨rfl, hb1⟩; have hT1 := hT.below hb1)
    | (go_at_call 15; refine (size_any _ _ hs).mono ?_; rintro e w' ⟨rfl, hw'⟩; replace hw' := hw'.symm; subst hw'))
  clear c0 hT
  go_loop [6, 7] (fun v j => ∃ k : Nat, k ≤ (lst s).length ∧ j = .int .i64 k ∧ v = .int .i64 (lastN s k)) (fun _ j => (lst s).length - (intOf j).toNat)
  case atStart => exact ⟨0, by omega, rfl, rfl⟩
  case round =>
    obtain ⟨k, hk, rfl, rfl⟩ := hrel
    by_cases hlt : k < (lst s).length
    · have HS : Hid (lastN s (k + 1) = ((lst s).getD k 0 : Nat)) := lastN_succ s k
      have l1 := lastN_lt s k hlt
      have l0 := lastN_ge s k
      have hm := (mem_lst.1 (getD_mem hlt)).1
      have c1 := at_any s k w1 hs hT1
      rw [atN_get s k hlt] at c1
      have c2 := has_any s ((lst s).getD k 0 : Nat) w1 hs
      rw [hasB_get s k hlt] at c2
      have c3 := rank_any s ((lst s).getD k 0 : Nat) w1 hs
      rw [rnk_get s k hlt] at c3
      have c4 := next_any s (lastN s k + 1) w1 hs hT1
      rw [nxt_last s k hlt] at c4
      generalize (lst s).getD k 0 = x at *
      generalize lastN s k = y at *
      generalize (lst s).length = n at *
      go_wp2_with (first
        | (go_at_call 19; refine c1.mono ?_; rintro e w' ⟨rfl, hw'⟩; replace hw' := hw'.symm; subst hw')
        | (go_at_call 9; refine c2.mono ?_; rintro e w' ⟨rfl, hw'⟩; replace hw' := hw'.symm; subst hw')
        | (go_at_call 21; refine c3.mono ?_; rintro e w' ⟨rfl, hw'⟩; replace hw' := hw'.symm; subst hw')
        | (go_at_call 17; refine c4.mono ?_; rintro e w' ⟨rfl, hw'⟩; replace hw' := hw'.symm; subst hw'))
      go_round
      case rel => exact ⟨k + 1, by omega, by go_num, by rw [HS.out]⟩
      case measure => simp [intOf]; omega
    · obtain rfl : k = (lst s).length := by omega
      have cl := list_any s w1 hs hT1
      have es : ofS ((lst s).map fun n : Nat => (n : Int)) = s := by unfold ofS; rw [fits_lst, if_pos rfl, setOf_lst s hs]
      have ee : ofE ((lst s).map fun n : Nat => (n : Int)) = 0 := by unfold ofE; rw [fits_lst, if_pos rfl]
      have HA : Hid (∀ W : World, TabAt W → Calls Tryd.prog 19 #[.int .u64 s, .int .i64 ((lst s).length : Nat)] W fun e w' => e = .returned (.int .i64 (-1)) ∧ w' = W) := fun W h => by
        have c := at_any s (lst s).length W hs h
        rw [atN_len] at c
        exact c
      have HR : Hid (∀ W : World, Calls Tryd.prog 21 #[.int .u64 s, .int .i64 64] W fun e w' => e = .returned (.int .i64 ((lst s).length : Nat)) ∧ w' = W) := fun W => by
        have c := rank_any s 64 W hs
        rw [rnk_64] at c
        exact c
      have HO : Hid (∀ (W : World) (a : Option Addr) (cap : Nat), Hid (Nums W a ((lst s).map fun n : Nat => (n : Int))) → Calls Tryd.prog 25 #[.slice a (lst s).length cap] W fun e w' => e = .returned (.tuple #[.int .u64 s, .int .i64 0]) ∧ w' = W) := fun W a cap hN => by
        have c := of_any a cap _ W hN (by simp; omega)
        rw [es, ee, List.length_map] at c
        exact c
      clear es ee
      by_cases hb : hasB s i = true
      · have ch : Hid (∀ W : World, Calls Tryd.prog 9 #[.int .u64 s, .int .i64 i] W fun e w' => e = .returned (.bool true) ∧ w' = W) := fun W => by
          have c := has_any s i W hs
          rw [hb] at c
          exact c
        have e1 := wth_wou s i hs hb
        have e2 := lst_wou s i hb
        have hl := wouN_lt s i hs
        have cw : Hid (∀ W : World, Calls Tryd.prog 13 #[.int .u64 s, .int .i64 i] W fun e w' => e = .returned (.int .u64 (wouN s i : Nat)) ∧ w' = W) := fun W => without_any s i W hs
        have cx : Hid (∀ W : World, Calls Tryd.prog 11 #[.int .u64 (wouN s i : Nat), .int .i64 i] W fun e w' => e = .returned (.int .u64 s) ∧ w' = W) := fun W => by
          have c := with_any (wouN s i) i W hl
          rw [e1] at c
          exact c
        have cz : Hid (∀ W : World, Calls Tryd.prog 15 #[.int .u64 (wouN s i : Nat)] W fun e w' => e = .returned (.int .i64 ((lst (wouN s i)).length : Nat)) ∧ w' = W) := fun W => size_any _ W hl
        clear e1 hl hb
        generalize wouN s i = t at *
        generalize (lst t).length = m at *
        generalize lst s = l at *
        go_wp2_with (first
          | (go_at_call 27; refine cl.mono ?_; rintro e w2 ⟨v, rfl, hown, hb2⟩; obtain ⟨a, cap, rfl, HN⟩ := nums_of_own hown; have hT2 := hT1.below hb2; have co := HO.out w2 a cap HN; clear hown HN)
          | (go_at_call 25; refine co.mono ?_; rintro e w' ⟨rfl, hw'⟩; replace hw' := hw'.symm; subst hw')
          | (go_at_call 19; refine (HA.out _ hT2).mono ?_; rintro e w' ⟨rfl, hw'⟩; replace hw' := hw'.symm; subst hw')
          | (go_at_call 21; refine (HR.out _).mono ?_; rintro e w' ⟨rfl, hw'⟩; replace hw' := hw'.symm; subst hw')
          | (go_at_call 9; refine (ch.out _).mono ?_; rintro e w' ⟨rfl, hw'⟩; replace hw' := hw'.symm; subst hw')
          | (go_at_call 13; refine (cw.out _).mono ?_; rintro e w' ⟨rfl, hw'⟩; replace hw' := hw'.symm; subst hw')
          | (go_at_call 11; refine (cx.out _).mono ?_; rintro e w' ⟨rfl, hw'⟩; replace hw' := hw'.symm; subst hw')
          | (go_at_call 15; refine (cz.out _).mono ?_; rintro e w' ⟨rfl, hw'⟩; replace hw' := hw'.symm; subst hw'))
        go_ret
        exact ⟨ret_bool (by first | rfl | (simp; omega)), hb1.trans (hb2.mono hb1.size)⟩
      · have hb' : hasB s i = false := by simpa using hb
        have ch : Hid (∀ W : World, Calls Tryd.prog 9 #[.int .u64 s, .int .i64 i] W fun e w' => e = .returned (.bool false) ∧ w' = W) := fun W => by
          have c := has_any s i W hs
          rw [hb'] at c
          exact c
        have e1 := wou_wth s i hs hb'
        have e2 := lst_wth s i hs hb'
        have hl := wthN_lt s i hs
        have hm := length_lst_le (wthN s i)
        have cw : Hid (∀ W : World, Calls Tryd.prog 11 #[.int .u64 s, .int .i64 i] W fun e w' => e = .returned (.int .u64 (wthN s i : Nat)) ∧ w' = W) := fun W => with_any s i W hs
        have cx : Hid (∀ W : World, Calls Tryd.prog 13 #[.int .u64 (wthN s i : Nat), .int .i64 i] W fun e w' => e = .returned (.int .u64 s) ∧ w' = W) := fun W => by
          have c := without_any (wthN s i) i W hl
          rw [e1] at c
          exact c
        have cz : Hid (∀ W : World, Calls Tryd.prog 15 #[.int .u64 (wthN s i : Nat)] W fun e w' => e = .returned (.int .i64 ((lst (wthN s i)).length : Nat)) ∧ w' = W) := fun W => size_any _ W hl
        clear e1 hl hb hb'
        generalize wthN s i = t at *
        generalize (lst t).length = m at *
        generalize lst s = l at *
        have E2 : Hid (((m : Int) == (l.length : Int) + 1) = (decide (0 ≤ i) && decide (i < 64))) := e2
        clear e2
        by_cases h0 : 0 ≤ i
        · by_cases h1 : i < 64
          · have e3 : ((m : Int) == (l.length : Int) + 1) = true := by rw [E2.out]; simp [h0, h1]
            clear E2
            go_wp2_with (first
              | (go_at_call 27; refine cl.mono ?_; rintro e w2 ⟨v, rfl, hown, hb2⟩; obtain ⟨a, cap, rfl, HN⟩ := nums_of_own hown; have hT2 := hT1.below hb2; have co := HO.out w2 a cap HN; clear hown HN)
              | (go_at_call 25; refine co.mono ?_; rintro e w' ⟨rfl, hw'⟩; replace hw' := hw'.symm; subst hw')
              | (go_at_call 19; refine (HA.out _ hT2).mono ?_; rintro e w' ⟨rfl, hw'⟩; replace hw' := hw'.symm; subst hw')
              | (go_at_call 21; refine (HR.out _).mono ?_; rintro e w' ⟨rfl, hw'⟩; replace hw' := hw'.symm; subst hw')
              | (go_at_call 9; refine (ch.out _).mono ?_; rintro e w' ⟨rfl, hw'⟩; replace hw' := hw'.symm; subst hw')
              | (go_at_call 11; refine (cw.out _).mono ?_; rintro e w' ⟨rfl, hw'⟩; replace hw' := hw'.symm; subst hw')
              | (go_at_call 13; refine (cx.out _).mono ?_; rintro e w' ⟨rfl, hw'⟩; replace hw' := hw'.symm; subst hw')
              | (go_at_call 15; refine (cz.out _).mono ?_; rintro e w' ⟨rfl, hw'⟩; replace hw' := hw'.symm; subst hw'))
            go_ret
            exact ⟨ret_bool (by first | rfl | (simp; omega)), hb1.trans (hb2.mono hb1.size)⟩
          · have e3 : ((m : Int) == (l.length : Int) + 1) = false := by rw [E2.out]; simp [h1]
            clear E2
            go_wp2_with (first
              | (go_at_call 27; refine cl.mono ?_; rintro e w2 ⟨v, rfl, hown, hb2⟩; obtain ⟨a, cap, rfl, HN⟩ := nums_of_own hown; have hT2 := hT1.below hb2; have co := HO.out w2 a cap HN; clear hown HN)
              | (go_at_call 25; refine co.mono ?_; rintro e w' ⟨rfl, hw'⟩; replace hw' := hw'.symm; subst hw')
              | (go_at_call 19; refine (HA.out _ hT2).mono ?_; rintro e w' ⟨rfl, hw'⟩; replace hw' := hw'.symm; subst hw')
              | (go_at_call 21; refine (HR.out _).mono ?_; rintro e w' ⟨rfl, hw'⟩; replace hw' := hw'.symm; subst hw')
              | (go_at_call 9; refine (ch.out _).mono ?_; rintro e w' ⟨rfl, hw'⟩; replace hw' := hw'.symm; subst hw')
              | (go_at_call 11; refine (cw.out _).mono ?_; rintro e w' ⟨rfl, hw'⟩; replace hw' := hw'.symm; subst hw')
              | (go_at_call 13; refine (cx.out _).mono ?_; rintro e w' ⟨rfl, hw'⟩; replace hw' := hw'.symm; subst hw')
              | (go_at_call 15; refine (cz.out _).mono ?_; rintro e w' ⟨rfl, hw'⟩; replace hw' := hw'.symm; subst hw'))
            go_ret
            exact ⟨ret_bool (by first | rfl | (simp; omega)), hb1.trans (hb2.mono hb1.size)⟩
        · have e3 : ((m : Int) == (l.length : Int) + 1) = false := by rw [E2.out]; simp [h0]
          clear E2
          go_wp2_with (first
            | (go_at_call 27; refine cl.mono ?_; rintro e w2 ⟨v, rfl, hown, hb2⟩; obtain ⟨a, cap, rfl, HN⟩ := nums_of_own hown; have hT2 := hT1.below hb2; have co := HO.out w2 a cap HN; clear hown HN)
            | (go_at_call 25; refine co.mono ?_; rintro e w' ⟨rfl, hw'⟩; replace hw' := hw'.symm; subst hw')
            | (go_at_call 19; refine (HA.out _ hT2).mono ?_; rintro e w' ⟨rfl, hw'⟩; replace hw' := hw'.symm; subst hw')
            | (go_at_call 21; refine (HR.out _).mono ?_; rintro e w' ⟨rfl, hw'⟩; replace hw' := hw'.symm; subst hw')
            | (go_at_call 9; refine (ch.out _).mono ?_; rintro e w' ⟨rfl, hw'⟩; replace hw' := hw'.symm; subst hw')
            | (go_at_call 11; refine (cw.out _).mono ?_; rintro e w' ⟨rfl, hw'⟩; replace hw' := hw'.symm; subst hw')
            | (go_at_call 13; refine (cx.out _).mono ?_; rintro e w' ⟨rfl, hw'⟩; replace hw' := hw'.symm; subst hw')
            | (go_at_call 15; refine (cz.out _).mono ?_; rintro e w' ⟨rfl, hw'⟩; replace hw' := hw'.symm; subst hw'))
          go_ret
          exact ⟨ret_bool (by first | rfl | (simp; omega)), hb1.trans (hb2.mono hb1.size)⟩
end Go.Proofs.YtkjaphmcagifpaaDoor

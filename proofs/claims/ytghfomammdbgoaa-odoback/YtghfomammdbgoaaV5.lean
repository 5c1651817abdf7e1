/- Weaves: the list with a number. -/
import Derived.Test.YtghfomammdbgoaaV4
namespace Go.Proofs.Ytghfomammdbgoaa
open Go.RowKit Go.Shelf Go.Sort K
set_option linter.unusedSimpArgs false
set_option linter.unusedVariables false

theorem nums_none {w : World} {a : Option Addr} {l : List Nat} (h : Nums w a (zsOf l)) (ha : a = none) : l = [] := by
  cases l with
  | nil => rfl
  | cons x l =>
    obtain ⟨b, o, e, _⟩ := h 0 (by simp [zsOf])
    rw [ha] at e
    cases e
theorem subU {a b : Nat} (h : b ≤ a) (h64 : a < 18446744073709551616) : IntKind.u64.wrap ((a : Int) - (b : Int)) = ((a - b : Nat) : Int) := by
  rw [← Int.ofNat_sub h]; exact wrapU _ (Nat.lt_of_le_of_lt (Nat.sub_le _ _) h64)
theorem take_set_snoc (ls : List Int) (p : Nat) (z : Int) (h : p < ls.length) : (ls.set p z).take (p + 1) = ls.take p ++ [z] := by
  rw [take_snoc _ p (by simpa using h), List.take_set_of_le (Nat.le_refl _), List.getD_eq_getElem?_getD, List.getElem?_set, if_pos rfl, if_pos h]; rfl

set_option maxRecDepth 100000 in
set_option maxHeartbeats 1000000 in
theorem wat_any (a : Option Addr) (cap : Nat) (l : List Nat) (m : Nat) (w : World) (hN : Hid (Nums w a (zsOf l))) (hl : l.length ≤ 64) (hs : Hid (sumN l ≤ 64)) (h64 : Hid (wvN 0 l < 18446744073709551616)) (hm : Hid (m < wvN 0 l)) :
    Calls Try.prog 108 #[.slice a l.length cap, .int .u64 m] w fun e w' => (∃ v', e = .returned v' ∧ NewN (atW (sumN l) l m) v' w') ∧ Below w.heap.size w w' := by
  have hsz := wsize_any a cap l w hN hl hs (scaleAt_any l hs.out)
  rw [scV, if_pos h64.out] at hsz
  have hcl : Hid (∀ W, Below w.heap.size w W → Calls Try.prog 114 #[.slice a l.length cap] W fun e w' => (∃ v', e = .returned v' ∧ OwnZ w' W.heap.size v' (zsOf l)) ∧ Below W.heap.size W w') := fun W hW => by
    have := clone86_any a cap (zsOf l) W (hN.out.below hW) (fun e => by rw [nums_none hN.out e]; rfl) (by rw [zsOf_len]; omega)
    rw [zsOf_len] at this
    exact this
  have hfi : Hid (∀ W, Below w.heap.size w W → Calls Try.prog 109 #[.slice a l.length cap] W fun e w' => (∃ v', e = .returned (.tuple #[v', .bool true]) ∧ OwnZ w' W.heap.size v' (fstW 0 l)) ∧ Below W.heap.size W w') := fun W hW => first_any a cap l W (hN.out.below hW) hl hs
  clear hN
  by_cases h0 : sumN l = 0
  · have HL : Hid ((fstW 0 l).length = 0) := (show _ = 0 by rw [fst_len]; exact h0)
    have HT : Hid (atW (sumN l) l m = fstW 0 l) := (show _ = _ by rw [h0, List.eq_nil_of_length_eq_zero HL.out]; rfl)
    clear h0 hs h64 hm
    go_enter Try.func108, Try.ntmps108
    go_wp2_with (first
      | (go_at_call 113; refine hsz.mono ?_; rintro e w1 ⟨rfl, hB1⟩; clear hsz)
      | (go_at_call 114; refine (hcl.out _ hB1).mono ?_; rintro e w2 ⟨⟨v1, rfl, own1⟩, hB2⟩; have hB12 := Below.then hB1 hB2; clear own1 hB1 hB2 hcl)
      | (go_at_call 109; refine (hfi.out _ hB12).mono ?_; rintro e w3 ⟨⟨v2, rfl, own2⟩, hB3⟩; have hB13 : Hid _ := Below.then hB12 hB3; clear hB12 hB3 hfi
         have hnew : Hid (NewN (atW (sumN l) l m) v2 w3) := (show NewN _ _ _ by rw [HT.out]; exact newN_own own2)
         obtain ⟨a3, c3, rfl, _, _⟩ := newN_own own2
         rw [HL.out] at hnew ⊢
         clear own2))
    go_loopw [1, 5, 27] (fun N C P wr => P = .int .i64 0 ∧ wr = w3) (fun _ _ _ _ => 0)
    case atStart => exact ⟨rfl, rfl⟩
    case round =>
      obtain ⟨rfl, rfl⟩ := hrel
      go_wp2
      go_ret
      exact ⟨⟨_, rfl, hnew.out⟩, hB13.out⟩
  · have hpos : 0 < sumN l := by omega
    have hz1 : Hid (zsOf l ≠ []) := fun e => by
      have h1 : l = [] := List.eq_nil_of_length_eq_zero (by rw [← zsOf_len, e]; rfl)
      rw [h1] at hpos; simp [sumN] at hpos
    have hz2 : Hid (fstW 0 l ≠ []) := fun e => by have := fst_len l 0; rw [e] at this; simp at this; omega
    clear h0
    go_enter Try.func108, Try.ntmps108
    go_wp2_with (first
      | (go_at_call 113; refine hsz.mono ?_; rintro e w1 ⟨rfl, hB1⟩; clear hsz)
      | (go_at_call 114; refine (hcl.out _ hB1).mono ?_; rintro e w2 ⟨⟨v1, rfl, own1⟩, hB2⟩; have hB12 := Below.then hB1 hB2
         obtain ⟨g1, c1, rfl, hg1, hg1l, hz⟩ := hz_own own1 hz1.out
         have H1 : Hid (w.heap.size ≤ g1 ∧ g1 < w2.heap.size ∧ HZ w2 g1 (zsOf l)) := ⟨Nat.le_trans hB1.size hg1, hg1l, hz⟩
         rw [zsOf_len]
         clear own1 hB1 hB2 hcl hg1 hg1l hz)
      | (go_at_call 109; refine (hfi.out _ hB12).mono ?_; rintro e w3 ⟨⟨v2, rfl, own2⟩, hB3⟩; have hB13 : Hid (Below w.heap.size w w3) := Below.then hB12 hB3
         obtain ⟨g2, c2, rfl, hg2, hg2l, hz⟩ := hz_own own2 hz2.out
         have H2 : Hid (w.heap.size ≤ g1 ∧ g1 < g2 ∧ g2 < w3.heap.size ∧ HZ w3 g1 (zsOf l) ∧ HZ w3 g2 (fstW 0 l)) := ⟨H1.out.1, Nat.lt_of_lt_of_le H1.out.2.1 hg2, hg2l, H1.out.2.2.below hB3 H1.out.2.1, hz⟩
         rw [fst_len]
         clear own2 hB12 hB3 hfi H1 hg2 hg2l hz hz1 hz2))
    obtain ⟨T, hT⟩ : ∃ T, atW (sumN l) l m = T := ⟨_, rfl⟩
    replace hT : Hid (atW (sumN l) l m = T) := hT
    obtain ⟨S, hS⟩ : ∃ S, sumN l = S := ⟨_, rfl⟩
    have HS : Hid (sumN l = S) := hS
    obtain ⟨n, hn⟩ : ∃ n, l.length = n := ⟨_, rfl⟩
    have HN : Hid (l.length = n) := hn
    rw [hS] at hs hT hpos ⊢
    rw [hn] at hl ⊢
    clear hn hS
    go_loopw [1, 5, 27] (fun N C P wr => ∃ (p : Nat) (c : List Nat) (k : Nat) (ls : List Int), P = .int .i64 (p : Nat) ∧ C = .int .u64 (wvN 0 c : Nat) ∧ N = .int .u64 (k : Nat) ∧ p ≤ S ∧ Hid (p + sumN c = S ∧ c.length = n ∧ k < wvN 0 c ∧ wvN 0 c < 18446744073709551616 ∧ ls.length = S ∧ ls.take p ++ atW (sumN c) c k = T) ∧ Hid (w.heap.size ≤ g1 ∧ g1 < g2 ∧ g2 < wr.heap.size ∧ HZ wr g1 (zsOf c) ∧ HZ wr g2 ls) ∧ Hid (Below w.heap.size w wr)) (fun _ _ P _ => S - (intOf P).toNat)
    case atStart => exact ⟨0, l, m, fstW 0 l, rfl, rfl, rfl, by omega, ⟨by rw [HS.out]; omega, HN.out, hm.out, h64.out, by rw [fst_len]; exact HS.out, by rw [HS.out]; exact hT.out⟩, H2.out, hB13.out⟩
    case round =>
      obtain ⟨p, c, k, ls, rfl, rfl, rfl, hpS, HC, HM, hB⟩ := hrel
      clear H2 hB13 h64 hm
      by_cases hlt : p < S
      · obtain ⟨q1, q2, q3, q4, q5, q6⟩ := HC.out
        obtain ⟨m1, m2, m3, m4, m5⟩ := HM.out
        have hc0 : 0 < sumN c := by omega
        have hcs : sumN c ≤ 64 := by have := hs.out; omega
        have hn0 : 0 < n := Nat.pos_of_ne_zero fun e => by
          rw [e] at q2
          have h1 := List.eq_nil_of_length_eq_zero q2
          rw [h1] at hc0; simp [sumN] at hc0
        have hsh : Hid (∀ i W, Calls Try.prog 115 #[.int .u64 (wvN 0 c : Nat), .int .i64 (c.getD i 0 : Nat), .int .i64 ((S : Int) - (p : Int))] W fun e w' => e = .returned (.int .u64 (shW c i : Nat)) ∧ Below W.heap.size W w') := fun i W => by
          have := share_at c i W hc0 hcs q4
          rw [show ((sumN c : Nat) : Int) = (S : Int) - (p : Int) by omega] at this
          exact this
        have hps : (p : Int) < (S : Int) := by omega
        have hn0i : (0 : Int) < (n : Int) := by omega
        have hc := (m4 0 (by rw [zsOf_len, q2]; exact hn0)).1
        rw [zsOf_getD] at hc
        have hs0 := hsh.out 0 wr
        have hS64 : S ≤ 64 := hs.out
        have HIN : Hid (k < shSum c n 0) := (show _ < _ by rw [← q2, shSum_all hc0]; exact q3)
        clear q1 q2 q3 q4 q5 q6 m1 m2 m3 m4 m5 hc0 hcs
        obtain ⟨C, hC⟩ : ∃ C, wvN 0 c = C := ⟨_, rfl⟩
        have HCC : Hid (wvN 0 c = C) := hC
        rw [hC] at hs0 hsh ⊢
        clear hC
        obtain ⟨x0, hx0⟩ : ∃ x0, c.getD 0 0 = x0 := ⟨_, rfl⟩
        rw [hx0] at hc hs0
        clear hx0
        go_wp2_with (first
          | (go_at_call 115; refine hs0.mono ?_; rintro e wz ⟨rfl, hBz⟩
             have hBw : Hid (Below w.heap.size w wz) := Below.then hB.out hBz
             have HMz : Hid (w.heap.size ≤ g1 ∧ g1 < g2 ∧ g2 < wz.heap.size ∧ HZ wz g1 (zsOf c) ∧ HZ wz g2 ls) := ⟨HM.out.1, HM.out.2.1, Nat.lt_of_lt_of_le HM.out.2.2.1 hBz.size, HM.out.2.2.2.1.below hBz (Nat.lt_trans HM.out.2.1 HM.out.2.2.1), HM.out.2.2.2.2.below hBz HM.out.2.2.1⟩
             clear hs0 hc hBz hB HM))
        go_loopw [1, 11, 12] (fun N I B wr => ∃ (i k1 : Nat), I = .int .i64 (i : Nat) ∧ N = .int .u64 (k1 : Nat) ∧ B = .int .u64 (shW c i : Nat) ∧ i < n ∧ Hid (k1 < shSum c (n - i) i ∧ k1 < 18446744073709551616 ∧ scanW c (n - i) i k1 = scanW c n 0 k) ∧ Hid (w.heap.size ≤ g1 ∧ g1 < g2 ∧ g2 < wr.heap.size ∧ HZ wr g1 (zsOf c) ∧ HZ wr g2 ls) ∧ Hid (Below w.heap.size w wr)) (fun _ I _ _ => n - (intOf I).toNat)
        case atStart => exact ⟨0, k, rfl, rfl, rfl, hn0, ⟨HIN.out, Nat.lt_trans HC.out.2.2.1 HC.out.2.2.2.1, rfl⟩, HMz.out, hBw.out⟩
        case round =>
          obtain ⟨i, k1, rfl, rfl, rfl, hin, HK, HM, hB⟩ := hrel
          clear HMz hBw HIN
          by_cases hge : shW c i ≤ k1
          · obtain ⟨r1, r2, r3⟩ := HK.out
            obtain ⟨d, hd⟩ : ∃ d, n - i = d + 1 := ⟨n - i - 1, by omega⟩
            rw [hd, shSum] at r1
            rw [hd, scan_step (by omega)] at r3
            have hin2 : i + 1 < n := by
              apply Classical.byContradiction
              intro hnot
              obtain rfl : d = 0 := by omega
              simp [shSum] at r1; omega
            have HK2 : Hid (k1 - shW c i < shSum c (n - (i + 1)) (i + 1) ∧ k1 - shW c i < 18446744073709551616 ∧ scanW c (n - (i + 1)) (i + 1) (k1 - shW c i) = scanW c n 0 k) := ⟨by rw [show n - (i + 1) = d by omega]; omega, by omega, by rw [show n - (i + 1) = d by omega]; exact r3⟩
            have esub := subU hge r2
            have hgei : ((shW c i : Nat) : Int) ≤ (k1 : Int) := Int.ofNat_le.2 hge
            have hc := (HM.out.2.2.2.1 (i + 1) (by rw [zsOf_len, HC.out.2.1]; exact hin2)).1
            rw [zsOf_getD] at hc
            have hin2i : (i : Int) + 1 < (n : Int) := by omega
            have hsi := hsh.out (i + 1) wr
            clear r1 r2 r3 hd hge HK
            generalize shW c i = B at *
            obtain ⟨x1, hx1⟩ : ∃ x1, c.getD (i + 1) 0 = x1 := ⟨_, rfl⟩
            rw [hx1] at hc hsi
            clear hx1
            obtain ⟨K2, hK2⟩ : ∃ K2, k1 - B = K2 := ⟨_, rfl⟩
            rw [hK2] at HK2 esub
            clear hK2
            go_wp2_with (first
              | (go_at_call 115; refine hsi.mono ?_; rintro e wz ⟨rfl, hBz⟩
                 have hBw : Hid (Below w.heap.size w wz) := Below.then hB.out hBz
                 have HMz : Hid (w.heap.size ≤ g1 ∧ g1 < g2 ∧ g2 < wz.heap.size ∧ HZ wz g1 (zsOf c) ∧ HZ wz g2 ls) := ⟨HM.out.1, HM.out.2.1, Nat.lt_of_lt_of_le HM.out.2.2.1 hBz.size, HM.out.2.2.2.1.below hBz (Nat.lt_trans HM.out.2.1 HM.out.2.2.1), HM.out.2.2.2.2.below hBz HM.out.2.2.1⟩
                 clear hsi hc hBz hB HM))
            go_roundw
            case rel => exact ⟨i + 1, K2, by go_num, rfl, rfl, hin2, HK2.out, HMz.out, hBw.out⟩
            case measure => simp [intOf]; omega
          · obtain ⟨q1, q2, q3, q4, q5, q6⟩ := HC.out
            obtain ⟨r1, r2, r3⟩ := HK.out
            obtain ⟨m1, m2, m3, m4, m5⟩ := HM.out
            have hlt2 : k1 < shW c i := by omega
            have hp0 := sh_some hlt2
            have hds := dec_sum c i hp0
            have hwd := shW_pos hp0
            have hx64 : c.getD i 0 ≤ 64 := by have := getD_le_sum c i; have := hs.out; omega
            have hle : wvN 0 (dec c i) ≤ wvN 0 c := by rw [← hwd]; exact shW_le c i (by omega)
            obtain ⟨d, hd⟩ : ∃ d, n - i = d + 1 := ⟨n - i - 1, by omega⟩
            rw [hd, scan_stop hlt2] at r3
            have hat : atW (sumN c) c k = (i : Int) :: atW (sumN (dec c i)) (dec c i) k1 := by
              rw [← hds, atW, q2, ← r3]
            have hlsp : p < ls.length := by omega
            have HC2 : Hid (p + 1 + sumN (dec c i) = S ∧ (dec c i).length = n ∧ k1 < wvN 0 (dec c i) ∧ wvN 0 (dec c i) < 18446744073709551616 ∧ (ls.set p (i : Int)).length = S ∧ (ls.set p (i : Int)).take (p + 1) ++ atW (sumN (dec c i)) (dec c i) k1 = T) :=
              ⟨by omega, by rw [dec_len]; exact q2, by rw [← hwd]; exact hlt2, Nat.lt_of_le_of_lt hle q4, by rw [List.length_set]; exact q5, by rw [take_set_snoc ls p _ hlsp, List.append_assoc]; rw [hat] at q6; exact q6⟩
            have hil : i < (zsOf c).length := by rw [zsOf_len, q2]; exact hin
            have hc1 := (m4 i hil).1
            have hf1 := (m4 i hil).2
            rw [zsOf_getD] at hc1
            have U1 := Upd.setCell wr g1 i (.int .i64 (((c.getD i 0 : Nat) : Int) - 1))
            have m4' := m4.set i (((c.getD i 0 : Nat) : Int) - 1) hil
            rw [zsOf_dec c i hp0] at m4'
            have m5' := m5.upd U1 (by omega)
            have hc2 := (m5' p hlsp).1
            have hf2 := (m5' p hlsp).2
            have U2 := Upd.setCell (wr.setCell ⟨g1, i, none⟩ (.int .i64 (((c.getD i 0 : Nat) : Int) - 1))) g2 p (.int .i64 (i : Int))
            have m5'' := m5'.set p (i : Int) hlsp
            have m4'' := m4'.upd U2 (by omega)
            have HM2 : Hid (w.heap.size ≤ g1 ∧ g1 < g2 ∧ g2 < ((wr.setCell ⟨g1, i, none⟩ (.int .i64 (((c.getD i 0 : Nat) : Int) - 1))).setCell ⟨g2, p, none⟩ (.int .i64 (i : Int))).heap.size ∧ HZ ((wr.setCell ⟨g1, i, none⟩ (.int .i64 (((c.getD i 0 : Nat) : Int) - 1))).setCell ⟨g2, p, none⟩ (.int .i64 (i : Int))) g1 (zsOf (dec c i)) ∧ HZ ((wr.setCell ⟨g1, i, none⟩ (.int .i64 (((c.getD i 0 : Nat) : Int) - 1))).setCell ⟨g2, p, none⟩ (.int .i64 (i : Int))) g2 (ls.set p (i : Int))) := ⟨m1, m2, by rw [U2.size, U1.size]; exact m3, m4'', m5''⟩
            have HB2 : Hid (Below w.heap.size w ((wr.setCell ⟨g1, i, none⟩ (.int .i64 (((c.getD i 0 : Nat) : Int) - 1))).setCell ⟨g2, p, none⟩ (.int .i64 (i : Int)))) := U2.trans (U1.trans hB.out m1) (by omega)
            have hlti : ¬ ((shW c i : Nat) : Int) ≤ (k1 : Int) := by omega
            have hini : (i : Int) < (n : Int) := by omega
            have HWD : Hid (shW c i = wvN 0 (dec c i)) := hwd
            clear q1 q2 q3 q4 q5 q6 r1 r2 r3 m1 m2 m3 m4 m5 m4' m5' m4'' m5'' U1 U2 hds hwd hle hd hat hlsp hil hB HM HC HK hlt2 hge HCC hsh
            generalize shW c i = B at *
            generalize (ls.getD p 0) = z0 at *
            generalize c.getD i 0 = x at *
            go_wp2
            go_roundw
            case rel => exact ⟨p + 1, dec c i, k1, ls.set p (i : Int), by go_num, by rw [HWD.out], rfl, by omega, HC2.out, HM2.out, HB2.out⟩
            case measure => simp [intOf]; omega
      · obtain rfl : p = S := by omega
        have HE : Hid (NewN (atW (sumN l) l m) (.slice (some ⟨g2, 0, none⟩) p c2) wr) := by
          obtain ⟨q1, q2, q3, q4, q5, q6⟩ := HC.out
          have h0 : sumN c = 0 := by omega
          rw [h0, atW, List.append_nil, ← q5, List.take_length] at q6
          show NewN _ _ _
          rw [HS.out, hT.out, ← q6, ← q5]
          exact ⟨_, c2, rfl, HM.out.2.2.2.2.nums, fun e => by cases e⟩
        clear HC HM hT HS HN hs
        go_wp2
        go_ret
        exact ⟨⟨_, rfl, HE.out⟩, hB.out⟩
end Go.Proofs.Ytghfomammdbgoaa

/- Weaves: the number of a list. -/
import Derived.Test.YtghfomammdbgoaaV5
namespace Go.Proofs.Ytghfomammdbgoaa
open Go.RowKit Go.Shelf Go.Sort K
set_option linter.unusedSimpArgs false
set_option linter.unusedVariables false

theorem hz_own2 {W : World} {base : Nat} {v : Value} {zs : List Int} (h : OwnZ W base v zs) (h0 : zs ≠ []) : ∃ g cap, v = .slice (some ⟨g, 0, none⟩) zs.length cap ∧ base ≤ g ∧ g < W.heap.size ∧ HZ W g zs ∧ zs.length ≤ cap := by
  have hl : zs.length ≠ 0 := fun e => h0 (List.eq_nil_of_length_eq_zero e)
  have h' : W.ownsRow base 3 1 v zs.length (intsZ zs) := h
  rcases h'.2 with ⟨_, h1⟩ | ⟨g, cap, cur, rfl, hg, hh, hn, rest⟩
  · exact absurd h1 hl
  · refine ⟨g, cap, rfl, hg, (Array.getElem?_eq_some_iff.1 hh).1, fun j hj => ⟨?_, h'.frozenAt j⟩, hn⟩
    rw [h'.cellAt j (by omega)]
    simp [intsZ, hj]
theorem shTo_mono (c : List Nat) {i j : Nat} (h : i ≤ j) : shTo c i ≤ shTo c j := by
  induction j with
  | zero => obtain rfl : i = 0 := by omega
            exact Nat.le_refl _
  | succ j ih =>
    by_cases e : i = j + 1
    · subst e; exact Nat.le_refl _
    · have := ih (by omega); rw [shTo]; omega
/-- One step into a weave. -/
theorem in_step {c : List Nat} {x : Int} {l : List Int} {d : Nat} (h : InG opW (d + 1) c (x :: l)) : ∃ j : Nat, x = (j : Int) ∧ j < c.length ∧ 0 < c.getD j 0 ∧ InG opW d (dec c j) l := by
  obtain ⟨y, t, l', e, hm, hin⟩ := h
  obtain ⟨rfl, rfl⟩ := List.cons.inj e
  obtain ⟨j, _, h2, h3, he⟩ := (mem_from c.length 0).1 hm
  obtain ⟨rfl, rfl⟩ := Prod.mk.inj he
  exact ⟨j, rfl, by omega, h3, hin⟩
theorem addU {a b : Nat} (h64 : a + b < 18446744073709551616) : IntKind.u64.wrap ((a : Int) + (b : Int)) = ((a + b : Nat) : Int) := by
  rw [addN]; exact wrapU _ h64

set_option maxRecDepth 100000 in
set_option maxHeartbeats 1000000 in
theorem wrank_any (a : Option Addr) (cap : Nat) (l : List Nat) (a2 : Option Addr) (cap2 : Nat) (xs : List Int) (w : World) (hN : Hid (Nums w a (zsOf l))) (hl : l.length ≤ 64) (hs : Hid (sumN l ≤ 64)) (h64 : Hid (wvN 0 l < 18446744073709551616)) (hA : Hid (Nums w a2 xs)) (hx : Hid (InG opW (sumN l) l xs)) (hV64 : Hid (rkW (sumN l) l xs < 18446744073709551616)) :
    Calls Try.prog 112 #[.slice a l.length cap, .slice a2 (sumN l) cap2] w fun e w' => e = .returned (.int .u64 (rkW (sumN l) l xs : Nat)) ∧ Below w.heap.size w w' := by
  have hsz := wsize_any a cap l w hN hl hs (scaleAt_any l hs.out)
  rw [scV, if_pos h64.out] at hsz
  have hcl : Hid (∀ W, Below w.heap.size w W → Calls Try.prog 114 #[.slice a l.length cap] W fun e w' => (∃ v', e = .returned v' ∧ OwnZ w' W.heap.size v' (zsOf l)) ∧ Below W.heap.size W w') := fun W hW => by
    have := clone86_any a cap (zsOf l) W (hN.out.below hW) (fun e => by rw [nums_none hN.out e]; rfl) (by rw [zsOf_len]; omega)
    rw [zsOf_len] at this
    exact this
  have hxl : Hid (xs.length = sumN l) := in_len _ _ _ hx.out
  clear hN
  obtain ⟨S, hS⟩ : ∃ S, sumN l = S := ⟨_, rfl⟩
  have HS : Hid (sumN l = S) := hS
  obtain ⟨V, hV⟩ : ∃ V, rkW (sumN l) l xs = V := ⟨_, rfl⟩
  have HV : Hid (rkW (sumN l) l xs = V) := hV
  rw [hV] at hV64 ⊢
  rw [hS] at hs hxl ⊢
  by_cases h0 : S = 0
  · have HE : Hid (V = 0) := (show V = 0 by rw [← hV, hS, h0]; rfl)
    have H0 : ¬ ((0 : Int) < (S : Int)) := by omega
    clear hs h64 hA hx hxl HV HS hV hS h0
    go_enter Try.func112, Try.ntmps112
    go_wp2_with (first
      | (go_at_call 113; refine hsz.mono ?_; rintro e w1 ⟨rfl, hB1⟩; clear hsz)
      | (go_at_call 114; refine (hcl.out _ hB1).mono ?_; rintro e w2 ⟨⟨v1, rfl, own1⟩, hB2⟩; have hB12 : Hid (Below w.heap.size w w2) := Below.then hB1 hB2; clear own1 hB1 hB2 hcl))
    go_loopw [5, 8, 22] (fun C N P wr => P = .int .i64 0 ∧ N = .int .u64 0 ∧ wr = w2) (fun _ _ _ _ => 0)
    case atStart => exact ⟨rfl, rfl, rfl⟩
    case round =>
      obtain ⟨rfl, rfl, rfl⟩ := hrel
      go_wp2
      go_ret
      exact ⟨by rw [HE.out]; rfl, hB12.out⟩
  · have hpos : 0 < S := by omega
    have hz1 : Hid (zsOf l ≠ []) := fun e => by
      have h1 : l = [] := List.eq_nil_of_length_eq_zero (by rw [← zsOf_len, e]; rfl)
      rw [h1] at hS; simp [sumN] at hS; omega
    obtain ⟨n, hn⟩ : ∃ n, l.length = n := ⟨_, rfl⟩
    have HN : Hid (l.length = n) := hn
    have HZL : Hid ((zsOf l).length = n) := (show _ = n by rw [zsOf_len]; exact hn)
    rw [hn] at hl hsz hcl ⊢
    clear h0 hS hV hn
    go_enter Try.func112, Try.ntmps112
    go_wp2_with (first
      | (go_at_call 113; refine hsz.mono ?_; rintro e w1 ⟨rfl, hB1⟩; clear hsz)
      | (go_at_call 114; refine (hcl.out _ hB1).mono ?_; rintro e w2 ⟨⟨v1, rfl, own1⟩, hB2⟩; have hB12 : Hid (Below w.heap.size w w2) := Below.then hB1 hB2
         obtain ⟨g1, c1, rfl, hg1, hg1l, hz, hcap⟩ := hz_own2 own1 hz1.out
         have H1 : Hid (w.heap.size ≤ g1 ∧ g1 < w2.heap.size ∧ HZ w2 g1 (zsOf l)) := ⟨Nat.le_trans hB1.size hg1, hg1l, hz⟩
         rw [HZL.out] at hcap ⊢
         clear own1 hB1 hB2 hcl hg1 hg1l hz))
    go_loopw [5, 8, 22] (fun C N P wr => ∃ (p : Nat) (c : List Nat) (acc : Nat), P = .int .i64 (p : Nat) ∧ C = .int .u64 (wvN 0 c : Nat) ∧ N = .int .u64 (acc : Nat) ∧ p ≤ S ∧ Hid (p + sumN c = S ∧ c.length = n ∧ wvN 0 c < 18446744073709551616 ∧ acc + rkW (sumN c) c (xs.drop p) = V ∧ InG opW (sumN c) c (xs.drop p)) ∧ Hid (w.heap.size ≤ g1 ∧ g1 < wr.heap.size ∧ HZ wr g1 (zsOf c)) ∧ Hid (Below w.heap.size w wr)) (fun _ _ P _ => S - (intOf P).toNat)
    case atStart => exact ⟨0, l, 0, rfl, rfl, rfl, by omega, ⟨by rw [HS.out]; omega, HN.out, h64.out, by rw [List.drop_zero, Nat.zero_add]; exact HV.out, by rw [List.drop_zero]; exact hx.out⟩, H1.out, hB12.out⟩
    case round =>
      obtain ⟨p, c, acc, rfl, rfl, rfl, hpS, HC, HM, hB⟩ := hrel
      clear H1 hB12 h64 hx HV HS HN HZL hz1
      by_cases hlt : p < S
      · obtain ⟨q1, q2, q4, q5, q6⟩ := HC.out
        obtain ⟨m1, m3, m4⟩ := HM.out
        have hpl : p < xs.length := by rw [hxl.out]; exact hlt
        have hc0 : 0 < sumN c := by omega
        have hcs : sumN c ≤ 64 := by have := hs.out; omega
        have hd : xs.drop p = xs.getD p 0 :: xs.drop (p + 1) := by
          rw [List.drop_eq_getElem_cons hpl, List.getD_eq_getElem?_getD, List.getElem?_eq_getElem hpl]; rfl
        obtain ⟨d, hdd⟩ : ∃ d, sumN c = d + 1 := ⟨sumN c - 1, by omega⟩
        rw [hdd, hd] at q5 q6
        obtain ⟨j, hj1, hj2, hj3, hj4⟩ := in_step q6
        have hds := dec_sum c j hj3
        have hwd := shW_pos hj3
        rw [rkW, hj1, Int.toNat_natCast] at q5
        have hle : wvN 0 (dec c j) ≤ wvN 0 c := by rw [← hwd]; exact shW_le c j hc0
        have hsd : sumN (dec c j) = d := by omega
        have HC2 : Hid (p + 1 + sumN (dec c j) = S ∧ (dec c j).length = n ∧ wvN 0 (dec c j) < 18446744073709551616 ∧ acc + shTo c j + rkW (sumN (dec c j)) (dec c j) (xs.drop (p + 1)) = V ∧ InG opW (sumN (dec c j)) (dec c j) (xs.drop (p + 1))) :=
          ⟨by omega, by rw [dec_len]; exact q2, Nat.lt_of_le_of_lt hle q4, by rw [hsd]; omega, by rw [hsd]; exact hj4⟩
        have hsh : Hid (∀ i W, Calls Try.prog 115 #[.int .u64 (wvN 0 c : Nat), .int .i64 (c.getD i 0 : Nat), .int .i64 ((S : Int) - (p : Int))] W fun e w' => e = .returned (.int .u64 (shW c i : Nat)) ∧ Below W.heap.size W w') := fun i W => by
          have := share_at c i W hc0 hcs q4
          rw [show ((sumN c : Nat) : Int) = (S : Int) - (p : Int) by omega] at this
          exact this
        have hps : (p : Int) < (S : Int) := by omega
        have hjn : j < n := by rw [← q2]; exact hj2
        have hji : (j : Int) < (n : Int) := by omega
        have hjc : j ≤ c1 := by omega
        obtain ⟨ba, oa, rfl, hcx⟩ := (hA.out.below hB.out) p hpl
        rw [hj1] at hcx
        have hS64 : S ≤ 64 := hs.out
        have HAC : Hid (acc + shTo c j < 18446744073709551616) := (show _ < _ by have := hV64.out; omega)
        have HWD : Hid (shW c j = wvN 0 (dec c j) ∧ 0 < c.getD j 0 ∧ c.getD j 0 ≤ 64) := ⟨hwd, hj3, Nat.le_trans (getD_le_sum c j) hcs⟩
        have HCL : Hid (c.length = n) := q2
        have hAd : Hid (∀ W, Below w.heap.size w W → True) := fun _ _ => trivial
        clear q1 q2 q4 q5 q6 m1 m3 m4 hc0 hcs hd hdd hj1 hj2 hj3 hj4 hds hwd hle hsd hAd HC
        obtain ⟨C, hC⟩ : ∃ C, wvN 0 c = C := ⟨_, rfl⟩
        rw [hC] at hsh ⊢
        clear hC
        go_wp2
        go_loopw [8, 31] (fun N I wr => ∃ i : Nat, i ≤ j ∧ I = .int .i64 (i : Nat) ∧ N = .int .u64 (acc + shTo c i : Nat) ∧ Hid (w.heap.size ≤ g1 ∧ g1 < wr.heap.size ∧ HZ wr g1 (zsOf c)) ∧ Hid (Below w.heap.size w wr)) (fun _ I _ => j - (intOf I).toNat)
        case atStart => exact ⟨0, by omega, rfl, rfl, HM.out, hB.out⟩
        case round =>
          obtain ⟨i, hij, rfl, rfl, HM', hB'⟩ := hrel
          clear HM hB hcx
          by_cases hlt2 : i < j
          · have hc := (HM'.out.2.2 i (by rw [zsOf_len, HCL.out]; omega)).1
            rw [zsOf_getD] at hc
            have hiji : (i : Int) < (j : Int) := by omega
            have hsi := hsh.out i wr
            have hle2 : acc + shTo c i + shW c i < 18446744073709551616 := by
              have h1 := shTo_mono c (show i + 1 ≤ j by omega)
              rw [shTo] at h1
              have h2 := HAC.out
              omega
            have esum := addU hle2
            have HQ : Hid (acc + shTo c (i + 1) = acc + shTo c i + shW c i) := (show _ = _ by rw [shTo]; omega)
            clear hle2
            generalize acc + shTo c i = A at *
            generalize shW c i = B at *
            generalize c.getD i 0 = x at *
            obtain ⟨A2, hA2⟩ : ∃ A2, A + B = A2 := ⟨_, rfl⟩
            rw [hA2] at HQ esum
            clear hA2
            go_wp2_with (first
              | (go_at_call 115; refine hsi.mono ?_; rintro e wz ⟨rfl, hBz⟩
                 have hBw : Hid (Below w.heap.size w wz) := Below.then hB'.out hBz
                 have HMz : Hid (w.heap.size ≤ g1 ∧ g1 < wz.heap.size ∧ HZ wz g1 (zsOf c)) := ⟨HM'.out.1, Nat.lt_of_lt_of_le HM'.out.2.1 hBz.size, HM'.out.2.2.below hBz HM'.out.2.1⟩
                 clear hsi hc hBz hB' HM'))
            go_roundw
            case rel => exact ⟨i + 1, by omega, by go_num, by rw [HQ.out], HMz.out, hBw.out⟩
            case measure => simp [intOf]; omega
          · obtain rfl : i = j := by omega
            have hil : i < (zsOf c).length := by rw [zsOf_len, HCL.out]; exact hjn
            have hc := (HM'.out.2.2 i hil).1
            rw [zsOf_getD] at hc
            have hsi := hsh.out i wr
            have HZ' : Hid (∀ W, HZ W g1 (zsOf c) → W.cell? ⟨g1, i, none⟩ = some (.int .i64 (c.getD i 0 : Nat)) ∧ W.frozen? ⟨g1, i, none⟩ = false ∧ HZ (W.setCell ⟨g1, i, none⟩ (.int .i64 (((c.getD i 0 : Nat) : Int) - 1))) g1 (zsOf (dec c i))) := fun W hW => by
              have h1 := hW i hil
              have h2 := hW.set i (((c.getD i 0 : Nat) : Int) - 1) hil
              rw [zsOf_getD] at h1
              rw [zsOf_dec c i HWD.out.2.1] at h2
              exact ⟨h1.1, h1.2, h2⟩
            have hx1 := HWD.out.2.1
            have hx2 := HWD.out.2.2
            have HW1 : Hid (shW c i = wvN 0 (dec c i)) := HWD.out.1
            clear hil HWD
            generalize acc + shTo c i = A at *
            generalize shW c i = B at *
            generalize c.getD i 0 = x at *
            go_wp2_with (first
              | (go_at_call 115; refine hsi.mono ?_; rintro e wz ⟨rfl, hBz⟩
                 have hBw := Below.then hB'.out hBz
                 have HMz : HZ wz g1 (zsOf c) := HM'.out.2.2.below hBz HM'.out.2.1
                 obtain ⟨hcc, hff, hzz⟩ := HZ'.out wz HMz
                 have U1 := Upd.setCell wz g1 i (.int .i64 ((x : Int) - 1))
                 have HB2 : Hid (Below w.heap.size w (wz.setCell ⟨g1, i, none⟩ (.int .i64 ((x : Int) - 1)))) := U1.trans hBw HM'.out.1
                 have HM2 : Hid (w.heap.size ≤ g1 ∧ g1 < (wz.setCell ⟨g1, i, none⟩ (.int .i64 ((x : Int) - 1))).heap.size ∧ HZ (wz.setCell ⟨g1, i, none⟩ (.int .i64 ((x : Int) - 1))) g1 (zsOf (dec c i))) := ⟨HM'.out.1, by rw [U1.size]; exact Nat.lt_of_lt_of_le HM'.out.2.1 hBz.size, hzz⟩
                 clear hsi hc hBz hB' HM' HMz hBw U1 hzz))
            go_roundw
            case rel => exact ⟨p + 1, dec c i, A, by go_num, by rw [HW1.out], rfl, by omega, HC2.out, HM2.out, HB2.out⟩
            case measure => simp [intOf]; omega
      · obtain rfl : p = S := by omega
        have HE : Hid (acc = V) := by
          obtain ⟨q1, q2, q4, q5, q6⟩ := HC.out
          have h0 : sumN c = 0 := by omega
          rw [h0, rkW] at q5
          exact q5
        clear HC HM hs hA
        go_wp2
        go_ret
        exact ⟨by rw [← HE.out]; rfl, hB.out⟩
end Go.Proofs.Ytghfomammdbgoaa

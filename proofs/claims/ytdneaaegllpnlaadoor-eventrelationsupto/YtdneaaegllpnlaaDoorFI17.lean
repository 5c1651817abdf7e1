/- Rel of the reference; SameEvents. -/
import Derived.Test.YtdneaaegllpnlaaDoorQC
namespace Go.Proofs.YtdneaaegllpnlaaDoor
open Go.RowKit M
set_option linter.unusedSimpArgs false
set_option linter.unusedVariables false

theorem stQ_V (r : Int) (L : List EV) (p q : Nat) : stQ r L p q = stV r (evA L p) (evA L q) p q := rfl
set_option maxRecDepth 100000 in
set_option maxHeartbeats 8000000 in
theorem rrel_x {w : World} {l : List EV} {a : Option Addr} {c : Nat} (r : Int) (hr : r = 1 ∨ r = 2 ∨ r = 3 ∨ r = 4 ∨ r = 5) (hl : l.length ≤ 9223372036854775807) (hS : Seg w a (l.flatMap evL)) :
    Calls Tryd.prog 25 #[.slice a l.length c, .int .i64 r] w fun e w' => e = .returned (relv (shL l).length (prF (shL l).length (stQ r (shL l)))) ∧ Below w.heap.size w w' := by
  have hkn := fun W => short_any a l.length c W hl
  obtain ⟨a', c', ek, sk⟩ := kn_seg hS c
  rw [ek] at hkn
  have hn64 := shL_le l
  clear ek hS
  generalize shL l = L at *
  obtain ⟨n, hn⟩ : ∃ n, L.length = n := ⟨_, rfl⟩
  rw [hn] at hkn hn64 ⊢
  have HN : Hid (L.length = n) := hn
  have HS : Hid (Seg w a' (L.flatMap evL)) := sk
  have HR : Hid (r = 1 ∨ r = 2 ∨ r = 3 ∨ r = 4 ∨ r = 5) := hr
  clear hn sk hl hr
  have t1 : True := trivial
  go_enter Tryd.func25, Tryd.ntmps25
  go_wp2_with (first
    | (clear t1; refine wpList_allocR rfl rfl ?_; intro W2 b4 F2 r4; have B1 := F_b F2; have hb4 : w.heap.size ≤ b4 := Nat.le_of_eq F2.at'.symm; clear F2)
    | (go_at_call 56; refine (hkn _).mono ?_; rintro e w' ⟨rfl, hw'⟩; replace hw' := hw'.symm; subst hw')
    | (refine wpList_buildRN rfl _ rfl rfl ?_)
    | (refine wpList_allocR rfl rfl ?_; intro W4 b5 F4 r5; replace B1 := Below.then B1 (F_b F4); have hb5 : b4 < b5 := (by rw [F4.at']; exact r4.lt); replace r4 := r4.fresh F4; clear F4)
    | (refine wpList_storeR rfl _ _ rfl rfl rfl r5 ?_; intro W5 U5 q5; replace B1 := U5.trans B1 (by omega); replace r4 := r4.upd U5 (by omega); clear U5 r5))
  clear hkn
  go_loopw [6] (fun iv wr => ∃ i : Nat, i ≤ n ∧ iv = .int .i64 (i : Int) ∧ IsR wr b5 n (parF n (stQ r L) i 0) ∧ IsR wr b4 0 void ∧ Hid (Below w.heap.size w wr)) (fun iv _ => n - (intOf iv).toNat)
  case atStart => exact ⟨0, by omega, rfl, q5.congr (fun j _ => (parF_start n _ j).symm), r4, B1⟩
  case round =>
    clear q5 r4 B1
    obtain ⟨i, hi, rfl, q5, q4, HB⟩ := hrel
    by_cases hlt : i < n
    · have hki : (i : Int) < n := by omega
      have hk64 : (i : Int) < 64 := by omega
      obtain ⟨e1, he1⟩ : ∃ q, L[i]? = some q := ⟨_, List.getElem?_eq_getElem (by rw [HN.out]; exact hlt)⟩
      obtain ⟨bl, ol, ea, hbl0, rg0⟩ := ev_range HS.out he1
      subst ea
      have HE1 : Hid (evA L i = e1 ∧ w.rangeAt bl (ol + i * 5) (evL e1) ∧ bl < w.heap.size) := ⟨evA_some he1, rg0, hbl0⟩
      clear rg0 he1 hbl0
      go_wp2
      go_loopw [7] (fun jv wr => ∃ k : Nat, k ≤ n ∧ jv = .int .i64 (k : Int) ∧ IsR wr b5 n (parF n (stQ r L) i k) ∧ IsR wr b4 0 void ∧ Hid (Below w.heap.size w wr)) (fun jv _ => n - (intOf jv).toNat)
      case atStart => exact ⟨0, by omega, rfl, q5, q4, HB⟩
      case round =>
        clear q5 q4 HB
        obtain ⟨k, hk, rfl, q5, q4, HB⟩ := hrel
        by_cases hlk : k < n
        · have hkki : (k : Int) < n := by omega
          have hkk64 : (k : Int) < 64 := by omega
          obtain ⟨e2, he2⟩ : ∃ q, L[k]? = some q := ⟨_, List.getElem?_eq_getElem (by rw [HN.out]; exact hlk)⟩
          obtain ⟨bl2, ol2, ea, hbl2, rg0⟩ := ev_range HS.out he2
          cases ea
          have HQq : Hid (stQ r L i k = stV r e1 e2 i k) := by show _ = _; rw [stQ_V, HE1.out.1, evA_some he2]
          have hC2 := stands_any r HR.out e1 e2 i k n bl ol c' wr hlt hlk hn64 (Nat.lt_of_lt_of_le hbl2 HB.out.size) (range_grow HE1.out.2.1 hbl2 HB.out) (range_grow rg0 hbl2 HB.out)
          clear rg0 he2
          cases hb : stV r e1 e2 i k with
          | true =>
            rw [hb] at hC2 HQq
            clear hb
            have t9 : True := trivial
            go_upto_region 10 with (first
              | (go_at_call 60; refine hC2.mono ?_; rintro e W6 ⟨rfl, B6⟩; have R6 := Below.then HB.out B6; replace q5 := q5.grown B6; replace q4 := q4.grown B6; clear B6 hC2))
            have hrow := q5.row i (by omega)
            rw [parF_at] at hrow
            have hfz := q5.frozen (1 + i)
            have hml := maskN_lt64 (stQ r L i) (n := k) (by omega)
            have hw := wrap_pow k (by omega)
            have hor := or_pow (maskN k (stQ r L i)) k hml (by omega)
            have U := Upd.setCell W6 b5 (1 + i) (.int .u64 ((maskN k (stQ r L i) ||| 2 ^ k : Nat) : Int))
            have HQ : Hid (IsR (W6.setCell ⟨b5, 1 + i, none⟩ (.int .u64 ((maskN k (stQ r L i) ||| 2 ^ k : Nat) : Int))) b5 n (parF n (stQ r L) i (k + 1)) ∧ IsR (W6.setCell ⟨b5, 1 + i, none⟩ (.int .u64 ((maskN k (stQ r L i) ||| 2 ^ k : Nat) : Int))) b4 0 void ∧ Below w.heap.size w (W6.setCell ⟨b5, 1 + i, none⟩ (.int .u64 ((maskN k (stQ r L i) ||| 2 ^ k : Nat) : Int)))) :=
              ⟨(q5.set i _ (by omega)).congr (fun j _ => by have := parF_yes n (stQ r L) i k j HQq.out; rw [parF_at] at this; exact this), q4.upd U (by omega), U.trans R6 (by omega)⟩
            clear U q5 q4 R6 HB hml HQq
            generalize maskN k (stQ r L i) ||| 2 ^ k = z at *
            generalize maskN k (stQ r L i) = z0 at *
            go_wp2
            go_roundw
            case rel => exact ⟨k + 1, by omega, by simp, HQ.out.1, HQ.out.2.1, HQ.out.2.2⟩
            case measure => simp [intOf]; omega
          | false =>
            rw [hb] at hC2 HQq
            clear hb
            go_wp2_with (first
              | (go_at_call 60; refine hC2.mono ?_; rintro e W6 ⟨rfl, B6⟩; have R6 := Below.then HB.out B6; replace q5 := q5.grown B6; replace q4 := q4.grown B6; clear B6 hC2))
            have HQ : Hid (IsR W6 b5 n (parF n (stQ r L) i (k + 1))) := q5.congr (fun j _ => parF_no n (stQ r L) i k j HQq.out)
            clear q5 HQq HB
            go_roundw
            case rel => exact ⟨k + 1, by omega, by simp, HQ.out, q4, R6⟩
            case measure => simp [intOf]; omega
        · obtain rfl : k = n := by omega
          have HQ : Hid (IsR wr b5 k (parF k (stQ r L) (i + 1) 0)) := q5.congr (fun j _ => parF_next k _ i j)
          clear q5
          go_wp2
          go_roundw
          case rel => exact ⟨i + 1, by omega, by simp, HQ.out, q4, HB⟩
          case measure => simp [intOf]; omega
    · obtain rfl : i = n := by omega
      have HQ := q5.congr (fun j _ => parF_end i (stQ r L) j)
      clear q5
      go_wp2_with (first
        | (refine wpList_loadR rfl _ rfl rfl HQ ?_)
        | (refine wpList_storeR rfl _ _ rfl rfl rfl q4 ?_; intro W4 U4 r4))
      refine ret_R rfl rfl rfl r4 ⟨rfl, U4.trans HB.out (by omega)⟩
set_option maxRecDepth 100000 in
set_option maxHeartbeats 4000000 in
theorem sameEvents_any (L : List EV) (n : Nat) (hn0 : L.length = n) (hn : n ≤ 9223372036854775807) (a1 a2 : Option Addr) (c1 c2 : Nat) (w : World) (h1 : Seg w a1 (L.flatMap evL)) (h2 : Seg w a2 (L.flatMap evL)) :
    Calls Tryd.prog 14 #[.slice a1 n c1, .slice a2 n c2] w fun e w' => e = .returned (.bool true) ∧ Below w.heap.size w w' := by
  have HL : Hid (L.length = n) := hn0
  have H1 : Hid (Seg w a1 (L.flatMap evL)) := h1
  have H2 : Hid (Seg w a2 (L.flatMap evL)) := h2
  have hnI : (n : Int) ≤ 9223372036854775807 := by omega
  clear h1 h2 hn0
  go_enter Tryd.func14, Tryd.ntmps14
  go_wp2
  go_loopw [5] (fun i wr => ∃ k : Nat, k ≤ n ∧ i = .int .i64 (k : Int) ∧ Hid (Below w.heap.size w wr)) (fun i _ => n - (intOf i).toNat)
  case atStart => exact ⟨0, Nat.zero_le _, rfl, Below.refl _ _⟩
  case round =>
    obtain ⟨k, hk, rfl, HB⟩ := hrel
    by_cases hlt : k < n
    · have hki : (k : Int) < n := by omega
      obtain ⟨q, hq⟩ : ∃ q, L[k]? = some q := ⟨_, List.getElem?_eq_getElem (by rw [HL.out]; exact hlt)⟩
      obtain ⟨b1, o1, rfl, hb1, r1⟩ := ev_range (H1.out.below HB.out) hq
      obtain ⟨b2, o2, rfl, hb2, r2⟩ := ev_range (H2.out.below HB.out) hq
      clear hq
      go_wp2
      refine grow_allW (by kernel_rfl) (by kernel_rfl) ?_
      refine WG.put rfl (v := (.slice (some ⟨b1, o1, none⟩) n c1)) (fun w => by first | rfl | (go_simp; done) | (simp [go_sem, hki]; done) | (simp [execOp, go_sem, hki]; done)) ?_
      simp only [Act.put, List.setIfInBounds_toArray, List.set_cons_succ, List.set_cons_zero]
      refine WG.put rfl (v := (.int .i64 (k : Int))) (fun w => by first | rfl | (go_simp; done) | (simp [go_sem, hki]; done) | (simp [execOp, go_sem, hki]; done)) ?_
      simp only [Act.put, List.setIfInBounds_toArray, List.set_cons_succ, List.set_cons_zero]
      refine WG.put rfl (v := (.pointer (some ⟨b1, o1 + k * 5, none⟩))) (fun w => by first | rfl | (go_simp; done) | (simp [go_sem, hki]; done) | (simp [execOp, go_sem, hki]; done)) ?_
      simp only [Act.put, List.setIfInBounds_toArray, List.set_cons_succ, List.set_cons_zero]
      refine WG.range rfl 32 _ rfl rfl (evL q) hb1 r1 _ Tryd.underlying32 rfl infoEv ?_
      simp only [Act.put, List.setIfInBounds_toArray, List.set_cons_succ, List.set_cons_zero]
      refine WG.put rfl (v := (.slice (some ⟨b2, o2, none⟩) n c2)) (fun w => by first | rfl | (go_simp; done) | (simp [go_sem, hki]; done) | (simp [execOp, go_sem, hki]; done)) ?_
      simp only [Act.put, List.setIfInBounds_toArray, List.set_cons_succ, List.set_cons_zero]
      refine WG.put rfl (v := (.int .i64 (k : Int))) (fun w => by first | rfl | (go_simp; done) | (simp [go_sem, hki]; done) | (simp [execOp, go_sem, hki]; done)) ?_
      simp only [Act.put, List.setIfInBounds_toArray, List.set_cons_succ, List.set_cons_zero]
      refine WG.put rfl (v := (.pointer (some ⟨b2, o2 + k * 5, none⟩))) (fun w => by first | rfl | (go_simp; done) | (simp [go_sem, hki]; done) | (simp [execOp, go_sem, hki]; done)) ?_
      simp only [Act.put, List.setIfInBounds_toArray, List.set_cons_succ, List.set_cons_zero]
      refine WG.range rfl 32 _ rfl rfl (evL q) hb2 r2 _ Tryd.underlying32 rfl infoEv ?_
      simp only [Act.put, List.setIfInBounds_toArray, List.set_cons_succ, List.set_cons_zero]
      refine WG.put rfl (v := (.bool false)) (fun w => by first | rfl | (go_simp; done) | (simp [go_sem, evL, hki]; done) | (simp [execOp, go_sem, evL, hki]; done)) ?_
      simp only [Act.put, List.setIfInBounds_toArray, List.set_cons_succ, List.set_cons_zero]
      refine WG.nil ?_
      intro w5 B5
      have HB5 : Hid (Below w.heap.size w w5) := Below.then HB.out B5
      clear r1 r2 B5
      go_wp2
      go_roundw
      case rel => exact ⟨k + 1, by omega, by go_num, HB5⟩
      case measure => simp [intOf]; omega
    · have e : k = n := by omega
      subst e
      have hki : ¬ (k : Int) < k := by omega
      go_wp2
      go_ret
      exact ⟨rfl, HB.out⟩
end Go.Proofs.YtdneaaegllpnlaaDoor

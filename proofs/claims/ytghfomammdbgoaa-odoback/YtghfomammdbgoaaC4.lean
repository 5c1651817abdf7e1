/- OdoBack where the space is countable and not empty: numbers and lists there and back, and in the same order. -/
import Derived.Test.YtghfomammdbgoaaC3
namespace Go.Proofs.Ytghfomammdbgoaa
open Go.RowKit Go.Shelf Go.Sort K
set_option linter.unusedSimpArgs false
set_option linter.unusedVariables false

theorem getD_small {l : List Int} (h : ∀ x ∈ l, 0 ≤ x ∧ x < 9223372036854775808) (k : Nat) (hk : k < l.length) : 0 ≤ l.getD k 0 ∧ l.getD k 0 < 9223372036854775808 := by
  refine h _ ?_
  rw [List.getD_eq_getElem?_getD, List.getElem?_eq_getElem hk]
  exact List.getElem_mem hk
theorem wrap_dif {x y : Int} (hx : 0 ≤ x ∧ x < 9223372036854775808) (hy : 0 ≤ y ∧ y < 9223372036854775808) : IntKind.i64.wrap (x - y) = x - y := by
  rw [IntKind.wrap_i64]; omega

set_option maxRecDepth 100000 in
set_option maxHeartbeats 4000000 in
theorem law_out (K N : Int) (a : Option Addr) (n cap : Nat) (P Q : Nat) (al : Option Addr) (cl : Nat) (xs : List Int) (w : World) (m d : Nat) (In : List Int → Prop) (at' : Nat → List Int) (rk : List Int → Nat) (hm : m < 18446744073709551616) (h0 : 0 < m) (hd : d ≤ 64) (p q : Nat) (hp : p < m) (hq : q < m) (hpm : (P : Int).tmod (m : Int) = (p : Int)) (hqm : (Q : Int).tmod (m : Int) = (q : Int)) (hs : Hid (SpOk w (.agg #[.int .i64 K, .slice a n cap, .int .i64 N]) m d In at' rk)) (hNx : Hid (Nums w al xs)) (hax : Hid (al = none → xs = [])) (hxl : Hid (xs.length ≤ 1152921504606846976)) (hin : Hid (¬ In xs)) :
    Calls Try.prog 5 #[.agg #[.int .i64 K, .slice a n cap, .int .i64 N], .int .u64 (P : Nat), .int .u64 (Q : Nat), .slice al xs.length cl] w fun e w' => e = .returned (.bool true) ∧ Below w.heap.size w w' := by
  have hB0 : Hid (Below w.heap.size w (w.alloc (.cells #[.int .i64 K, .slice a n cap, .int .i64 N] 24))) := (Below.refl _ w).alloc (Nat.le_refl _) _
  have hm64 : Hid (m < 18446744073709551616) := hm
  have hmz : ((m : Int) == 0) = false := by simp; omega
  have hmz2 : ¬ ((m : Int) = 0) := by omega
  have hP : Hid (p < m) := hp
  have hQ : Hid (q < m) := hq
  have hwp : IntKind.u64.wrap (p : Int) = (p : Int) := by rw [IntKind.wrap_u64]; omega
  have hwq : IntKind.u64.wrap (q : Int) = (q : Int) := by rw [IntKind.wrap_u64]; omega
  have t1 : True := trivial
  have t2 : True := trivial
  have t3 : True := trivial
  have t4 : True := trivial
  have t5 : True := trivial
  clear hm hp hq
  go_enter Try.func5, Try.ntmps5
  go_wp2_with (first
    | (go_at_call 20; refine (awake_any _).mono ?_; rintro e w1 ⟨rfl, hB1⟩
       have hB2 : Hid (Below w.heap.size w w1) := Below.then hB0.out hB1
       have hcel : ∀ i, w1.cell? ⟨w.heap.size, i, none⟩ = (w.alloc (.cells #[.int .i64 K, .slice a n cap, .int .i64 N] 24)).cell? ⟨w.heap.size, i, none⟩ := fun i => hB1.cell (p := ⟨w.heap.size, i, none⟩) (by simp)
       have hc0 : w1.cell? ⟨w.heap.size, 0, none⟩ = some (.int .i64 K) := (hcel 0).trans (by simp)
       have hc1 : w1.cell? ⟨w.heap.size, 1, none⟩ = some (.slice a n cap) := (hcel 1).trans (by simp)
       have hc2 : w1.cell? ⟨w.heap.size, 2, none⟩ = some (.int .i64 N) := (hcel 2).trans (by simp)
       clear hcel hB1)
    | (go_at_call 21; refine (hs.out _ hB2.out).mono ?_; rintro e w2 ⟨⟨b, rfl, F0, hsm⟩, hB3⟩
       clear hc0 hc1 hc2
       have F : Hid (Face w2 b m d In at' rk) := F0
       have G2 : Hid (Below w.heap.size w w2) := Below.then hB2.out hB3
       have st : Hid (Stand p q (dif (at' p) (at' q) d)) := face_stand F0 hP.out hQ.out
       have lp : Hid ((at' p).length = d) := F0.inl _ (F0.back p hP.out).1
       have lq : Hid ((at' q).length = d) := F0.inl _ (F0.back q hQ.out).1
       have sp : Hid (∀ x ∈ at' p, 0 ≤ x ∧ x < 9223372036854775808) := hsm p hP.out
       have sq : Hid (∀ x ∈ at' q, 0 ≤ x ∧ x < 9223372036854775808) := hsm q hQ.out
       have hlen := F0.len w2 (Below.refl _ _)
       rw [lenV, if_pos hm64.out] at hlen
       clear F0 hB3 hsm)
    | (go_at_call 9; refine hlen.mono ?_; rintro e w4 ⟨rfl, hB4⟩; clear hlen; have H4 : Hid (Below w2.heap.size w2 w4) := hB4; clear hB4)
    | (go_at_call 14; clear t1; refine (F.out.none hm64.out _ H4.out al cl xs ((hNx.out.below G2.out).below H4.out) hax.out hin.out).mono ?_; rintro e w7 ⟨rfl, hB5⟩; have H7 : Hid (Below w2.heap.size w2 w7) := Below.then H4.out hB5; clear hB5)
    | (go_at_call 11; clear t3; refine (F.out.atc hm64.out _ H7.out p hP.out).mono ?_; rintro e w8 ⟨⟨v8, rfl, hv⟩, hB8⟩; obtain ⟨a8, c8, hv8, N8, n8⟩ := hv; rw [lp.out] at hv8; subst hv8
       have M8 : Hid (Nums w8 a8 (at' p)) := N8
       have z8 : Hid (a8 = none → at' p = []) := n8
       have H8 : Hid (Below w2.heap.size w2 w8) := Below.then H7.out hB8
       clear N8 n8 hB8)
    | (go_at_call 11; clear t4; refine (F.out.atc hm64.out _ H8.out q hQ.out).mono ?_; rintro e w9 ⟨⟨v9, rfl, hv⟩, hB9⟩; obtain ⟨a9, c9, hv9, N9, n9⟩ := hv; rw [lq.out] at hv9; subst hv9
       have L8 : Hid (Nums w9 a8 (at' p)) := M8.out.below hB9
       have M9 : Hid (Nums w9 a9 (at' q)) := N9
       have z9 : Hid (a9 = none → at' q = []) := n9
       have H9 : Hid (Below w2.heap.size w2 w9) := Below.then H8.out hB9
       clear N9 n9 hB9)
    | (go_at_call 14; clear t5; have c := F.out.rank hm64.out _ H9.out a8 c8 (at' p) L8.out z8.out (F.out.back p hP.out).1; rw [lp.out, (F.out.back p hP.out).2] at c; refine c.mono ?_; clear c; rintro e w10 ⟨rfl, hB10⟩
       have J8 : Hid (Nums w10 a8 (at' p)) := L8.out.below hB10
       have J9 : Hid (Nums w10 a9 (at' q)) := M9.out.below hB10
       have H10 : Hid (Below w2.heap.size w2 w10) := Below.then H9.out hB10
       clear hB10)
    | (go_at_call 14; have c := F.out.rank hm64.out _ H10.out a9 c9 (at' q) J9.out z9.out (F.out.back q hQ.out).1; rw [lq.out, (F.out.back q hQ.out).2] at c; refine c.mono ?_; clear c; rintro e w11 ⟨rfl, hB11⟩
       have K8 : Hid (Nums w11 a8 (at' p)) := J8.out.below hB11
       have K9 : Hid (Nums w11 a9 (at' q)) := J9.out.below hB11
       have H11 : Hid (Below w2.heap.size w2 w11) := Below.then H10.out hB11
       clear hB11))
  go_loopw [23, 24] (fun c i wr => ∃ k : Nat, k ≤ d ∧ i = .int .i64 k ∧ c = .int .i64 (dif (at' p) (at' q) k) ∧ ∃ n, wr = w11.drewN n) (fun _ i _ => d - (intOf i).toNat)
  case atStart => exact ⟨0, by omega, rfl, rfl, 0, rfl⟩
  case round =>
    obtain ⟨k, hk, rfl, rfl, j, rfl⟩ := hrel
    have over : ∀ (hend : k = d ∨ dif (at' p) (at' q) k ≠ 0), Stand p q (dif (at' p) (at' q) k) := fun hend => by
      rcases hend with h | h
      · rw [h]; exact st.out
      · have := dif_keep (at' p) (at' q) k h (d - k)
        rw [show k + (d - k) = d by omega] at this
        rw [← this]; exact st.out
    by_cases hgo : k < d ∧ dif (at' p) (at' q) k = 0
    · obtain ⟨hlt, hz⟩ := hgo
      clear over
      obtain ⟨b1, o1, rfl, hc1⟩ := K8.out k (by rw [lp.out]; exact hlt)
      obtain ⟨b2, o2, rfl, hc2⟩ := K9.out k (by rw [lq.out]; exact hlt)
      have hx := getD_small sp.out k (by rw [lp.out]; exact hlt)
      have hy := getD_small sq.out k (by rw [lq.out]; exact hlt)
      have hnx : Hid (dif (at' p) (at' q) (k + 1) = (at' p).getD k 0 - (at' q).getD k 0) := (by
        show (if dif (at' p) (at' q) k = 0 then _ else _) = _
        rw [if_pos hz])
      have hw := wrap_dif hx hy
      clear hx hy
      rw [hz]
      generalize (at' p).getD k 0 = x at *
      generalize (at' q).getD k 0 = y at *
      go_wp2
      go_quiet (fail)
      go_wp2
      go_roundw
      case rel => exact ⟨k + 1, by omega, by go_num, by rw [hnx.out], _, rfl⟩
      case measure => simp [intOf]; omega
    · have S := over (by by_cases h : k = d; exact .inl h; exact .inr fun h2 => hgo ⟨by omega, h2⟩)
      generalize dif (at' p) (at' q) k = D at *
      clear over
      by_cases hkd : k < d
      · have hD : ¬ D = 0 := fun h => hgo ⟨hkd, h⟩
        have hDb : (D == 0) = false := by simpa using hD
        rcases S with ⟨h1, h2⟩ | ⟨h1, h2⟩ | ⟨h1, h2⟩
        · have e1 : (p : Int) < q := by omega
          have e2 : ¬ ((p : Int) = q) := by omega
          go_wp2
          go_ret
          exact ⟨by first | (simp; done) | (simp; omega) | (simp; rw [beq_eq_false_iff_ne.2 (show (p : Int) ≠ q by omega), beq_eq_false_iff_ne.2 (show D ≠ 0 by omega)]), Below.then G2.out (below_drewN H11.out j)⟩
        · exact absurd h2 hD
        · have e1 : ¬ ((p : Int) < q) := by omega
          have e2 : ¬ ((p : Int) = q) := by omega
          have e3 : ¬ (D < 0) := by omega
          go_wp2
          go_ret
          exact ⟨by first | (simp; done) | (simp; omega) | (simp; rw [beq_eq_false_iff_ne.2 (show (p : Int) ≠ q by omega), beq_eq_false_iff_ne.2 (show D ≠ 0 by omega)]), Below.then G2.out (below_drewN H11.out j)⟩
      · obtain rfl : k = d := by omega
        rcases S with ⟨h1, h2⟩ | ⟨h1, h2⟩ | ⟨h1, h2⟩
        · have e1 : (p : Int) < q := by omega
          have e2 : ¬ ((p : Int) = q) := by omega
          have e4 : ¬ (D = 0) := by omega
          go_wp2
          go_ret
          exact ⟨by first | (simp; done) | (simp; omega) | (simp; rw [beq_eq_false_iff_ne.2 (show (p : Int) ≠ q by omega), beq_eq_false_iff_ne.2 (show D ≠ 0 by omega)]), Below.then G2.out (below_drewN H11.out j)⟩
        · subst h1
          subst h2
          go_wp2
          go_ret
          exact ⟨by first | (simp; done) | (simp; omega) | (simp; rw [beq_eq_false_iff_ne.2 (show (p : Int) ≠ q by omega), beq_eq_false_iff_ne.2 (show D ≠ 0 by omega)]), Below.then G2.out (below_drewN H11.out j)⟩
        · have e1 : ¬ ((p : Int) < q) := by omega
          have e2 : ¬ ((p : Int) = q) := by omega
          have e3 : ¬ (D < 0) := by omega
          have e4 : ¬ (D = 0) := by omega
          go_wp2
          go_ret
          exact ⟨by first | (simp; done) | (simp; omega) | (simp; rw [beq_eq_false_iff_ne.2 (show (p : Int) ≠ q by omega), beq_eq_false_iff_ne.2 (show D ≠ 0 by omega)]), Below.then G2.out (below_drewN H11.out j)⟩

set_option maxRecDepth 100000 in
set_option maxHeartbeats 4000000 in
theorem law_in (K N : Int) (a : Option Addr) (n cap : Nat) (P Q : Nat) (al : Option Addr) (cl : Nat) (xs : List Int) (w : World) (m d : Nat) (In : List Int → Prop) (at' : Nat → List Int) (rk : List Int → Nat) (hm : m < 18446744073709551616) (h0 : 0 < m) (hd : d ≤ 64) (p q : Nat) (hp : p < m) (hq : q < m) (hpm : (P : Int).tmod (m : Int) = (p : Int)) (hqm : (Q : Int).tmod (m : Int) = (q : Int)) (hs : Hid (SpOk w (.agg #[.int .i64 K, .slice a n cap, .int .i64 N]) m d In at' rk)) (hNx : Hid (Nums w al xs)) (hax : Hid (al = none → xs = [])) (hxl : Hid (xs.length ≤ 1152921504606846976)) (hin : Hid (In xs)) :
    Calls Try.prog 5 #[.agg #[.int .i64 K, .slice a n cap, .int .i64 N], .int .u64 (P : Nat), .int .u64 (Q : Nat), .slice al xs.length cl] w fun e w' => e = .returned (.bool true) ∧ Below w.heap.size w w' := by
  have hB0 : Hid (Below w.heap.size w (w.alloc (.cells #[.int .i64 K, .slice a n cap, .int .i64 N] 24))) := (Below.refl _ w).alloc (Nat.le_refl _) _
  have hm64 : Hid (m < 18446744073709551616) := hm
  have hmz : ((m : Int) == 0) = false := by simp; omega
  have hmz2 : ¬ ((m : Int) = 0) := by omega
  have hP : Hid (p < m) := hp
  have hQ : Hid (q < m) := hq
  have hwp : IntKind.u64.wrap (p : Int) = (p : Int) := by rw [IntKind.wrap_u64]; omega
  have hwq : IntKind.u64.wrap (q : Int) = (q : Int) := by rw [IntKind.wrap_u64]; omega
  have t1 : True := trivial
  have t2 : True := trivial
  have t3 : True := trivial
  have t4 : True := trivial
  have t5 : True := trivial
  clear hm hp hq
  go_enter Try.func5, Try.ntmps5
  go_wp2_with (first
    | (go_at_call 20; refine (awake_any _).mono ?_; rintro e w1 ⟨rfl, hB1⟩
       have hB2 : Hid (Below w.heap.size w w1) := Below.then hB0.out hB1
       have hcel : ∀ i, w1.cell? ⟨w.heap.size, i, none⟩ = (w.alloc (.cells #[.int .i64 K, .slice a n cap, .int .i64 N] 24)).cell? ⟨w.heap.size, i, none⟩ := fun i => hB1.cell (p := ⟨w.heap.size, i, none⟩) (by simp)
       have hc0 : w1.cell? ⟨w.heap.size, 0, none⟩ = some (.int .i64 K) := (hcel 0).trans (by simp)
       have hc1 : w1.cell? ⟨w.heap.size, 1, none⟩ = some (.slice a n cap) := (hcel 1).trans (by simp)
       have hc2 : w1.cell? ⟨w.heap.size, 2, none⟩ = some (.int .i64 N) := (hcel 2).trans (by simp)
       clear hcel hB1)
    | (go_at_call 21; refine (hs.out _ hB2.out).mono ?_; rintro e w2 ⟨⟨b, rfl, F0, hsm⟩, hB3⟩
       clear hc0 hc1 hc2
       have F : Hid (Face w2 b m d In at' rk) := F0
       have G2 : Hid (Below w.heap.size w w2) := Below.then hB2.out hB3
       have st : Hid (Stand p q (dif (at' p) (at' q) d)) := face_stand F0 hP.out hQ.out
       have lp : Hid ((at' p).length = d) := F0.inl _ (F0.back p hP.out).1
       have lq : Hid ((at' q).length = d) := F0.inl _ (F0.back q hQ.out).1
       have sp : Hid (∀ x ∈ at' p, 0 ≤ x ∧ x < 9223372036854775808) := hsm p hP.out
       have sq : Hid (∀ x ∈ at' q, 0 ≤ x ∧ x < 9223372036854775808) := hsm q hQ.out
       have rx : rk xs < m := (F0.there xs hin.out).1
       have ry : Hid (at' (rk xs) = xs) := (F0.there xs hin.out).2
       have hlen := F0.len w2 (Below.refl _ _)
       rw [lenV, if_pos hm64.out] at hlen
       clear F0 hB3 hsm)
    | (go_at_call 9; refine hlen.mono ?_; rintro e w4 ⟨rfl, hB4⟩; clear hlen; have H4 : Hid (Below w2.heap.size w2 w4) := hB4; clear hB4)
    | (go_at_call 14; clear t1; refine (F.out.rank hm64.out _ H4.out al cl xs ((hNx.out.below G2.out).below H4.out) hax.out hin.out).mono ?_; rintro e w5 ⟨rfl, hB5⟩; have H5 : Hid (Below w2.heap.size w2 w5) := Below.then H4.out hB5; clear hB5)
    | (go_at_call 11; clear t2; refine (F.out.atc hm64.out _ H5.out (rk xs) rx).mono ?_; rintro e w6 ⟨⟨v6, rfl, hv⟩, hB6⟩; rw [ry.out] at hv; obtain ⟨a6, c6, rfl, N6, _⟩ := hv
       have M6 : Hid (Nums w6 a6 xs) := N6
       have H6 : Hid (Below w2.heap.size w2 w6) := Below.then H5.out hB6
       have X6 : Hid (Nums w6 al xs) := ((hNx.out.below G2.out).below H6.out)
       clear N6 hB6)
    | (go_at_call 13; refine (same_any a6 al c6 cl xs _ M6 X6 hxl.out).mono ?_; rintro e w7 ⟨rfl, hB7⟩
       have H7 : Hid (Below w2.heap.size w2 w7) := Below.then H6.out hB7
       clear hB7)
    | (go_at_call 11; clear t3; refine (F.out.atc hm64.out _ H7.out p hP.out).mono ?_; rintro e w8 ⟨⟨v8, rfl, hv⟩, hB8⟩; obtain ⟨a8, c8, hv8, N8, n8⟩ := hv; rw [lp.out] at hv8; subst hv8
       have M8 : Hid (Nums w8 a8 (at' p)) := N8
       have z8 : Hid (a8 = none → at' p = []) := n8
       have H8 : Hid (Below w2.heap.size w2 w8) := Below.then H7.out hB8
       clear N8 n8 hB8)
    | (go_at_call 11; clear t4; refine (F.out.atc hm64.out _ H8.out q hQ.out).mono ?_; rintro e w9 ⟨⟨v9, rfl, hv⟩, hB9⟩; obtain ⟨a9, c9, hv9, N9, n9⟩ := hv; rw [lq.out] at hv9; subst hv9
       have L8 : Hid (Nums w9 a8 (at' p)) := M8.out.below hB9
       have M9 : Hid (Nums w9 a9 (at' q)) := N9
       have z9 : Hid (a9 = none → at' q = []) := n9
       have H9 : Hid (Below w2.heap.size w2 w9) := Below.then H8.out hB9
       clear N9 n9 hB9)
    | (go_at_call 14; clear t5; have c := F.out.rank hm64.out _ H9.out a8 c8 (at' p) L8.out z8.out (F.out.back p hP.out).1; rw [lp.out, (F.out.back p hP.out).2] at c; refine c.mono ?_; clear c; rintro e w10 ⟨rfl, hB10⟩
       have J8 : Hid (Nums w10 a8 (at' p)) := L8.out.below hB10
       have J9 : Hid (Nums w10 a9 (at' q)) := M9.out.below hB10
       have H10 : Hid (Below w2.heap.size w2 w10) := Below.then H9.out hB10
       clear hB10)
    | (go_at_call 14; have c := F.out.rank hm64.out _ H10.out a9 c9 (at' q) J9.out z9.out (F.out.back q hQ.out).1; rw [lq.out, (F.out.back q hQ.out).2] at c; refine c.mono ?_; clear c; rintro e w11 ⟨rfl, hB11⟩
       have K8 : Hid (Nums w11 a8 (at' p)) := J8.out.below hB11
       have K9 : Hid (Nums w11 a9 (at' q)) := J9.out.below hB11
       have H11 : Hid (Below w2.heap.size w2 w11) := Below.then H10.out hB11
       clear hB11))
  go_loopw [23, 24] (fun c i wr => ∃ k : Nat, k ≤ d ∧ i = .int .i64 k ∧ c = .int .i64 (dif (at' p) (at' q) k) ∧ ∃ n, wr = w11.drewN n) (fun _ i _ => d - (intOf i).toNat)
  case atStart => exact ⟨0, by omega, rfl, rfl, 0, rfl⟩
  case round =>
    obtain ⟨k, hk, rfl, rfl, j, rfl⟩ := hrel
    have over : ∀ (hend : k = d ∨ dif (at' p) (at' q) k ≠ 0), Stand p q (dif (at' p) (at' q) k) := fun hend => by
      rcases hend with h | h
      · rw [h]; exact st.out
      · have := dif_keep (at' p) (at' q) k h (d - k)
        rw [show k + (d - k) = d by omega] at this
        rw [← this]; exact st.out
    by_cases hgo : k < d ∧ dif (at' p) (at' q) k = 0
    · obtain ⟨hlt, hz⟩ := hgo
      clear over
      obtain ⟨b1, o1, rfl, hc1⟩ := K8.out k (by rw [lp.out]; exact hlt)
      obtain ⟨b2, o2, rfl, hc2⟩ := K9.out k (by rw [lq.out]; exact hlt)
      have hx := getD_small sp.out k (by rw [lp.out]; exact hlt)
      have hy := getD_small sq.out k (by rw [lq.out]; exact hlt)
      have hnx : Hid (dif (at' p) (at' q) (k + 1) = (at' p).getD k 0 - (at' q).getD k 0) := (by
        show (if dif (at' p) (at' q) k = 0 then _ else _) = _
        rw [if_pos hz])
      have hw := wrap_dif hx hy
      clear hx hy
      rw [hz]
      generalize (at' p).getD k 0 = x at *
      generalize (at' q).getD k 0 = y at *
      go_wp2
      go_quiet (fail)
      go_wp2
      go_roundw
      case rel => exact ⟨k + 1, by omega, by go_num, by rw [hnx.out], _, rfl⟩
      case measure => simp [intOf]; omega
    · have S := over (by by_cases h : k = d; exact .inl h; exact .inr fun h2 => hgo ⟨by omega, h2⟩)
      generalize dif (at' p) (at' q) k = D at *
      clear over
      by_cases hkd : k < d
      · have hD : ¬ D = 0 := fun h => hgo ⟨hkd, h⟩
        have hDb : (D == 0) = false := by simpa using hD
        rcases S with ⟨h1, h2⟩ | ⟨h1, h2⟩ | ⟨h1, h2⟩
        · have e1 : (p : Int) < q := by omega
          have e2 : ¬ ((p : Int) = q) := by omega
          go_wp2
          go_ret
          exact ⟨by first | (simp; done) | (simp; omega) | (simp; rw [beq_eq_false_iff_ne.2 (show (p : Int) ≠ q by omega), beq_eq_false_iff_ne.2 (show D ≠ 0 by omega)]), Below.then G2.out (below_drewN H11.out j)⟩
        · exact absurd h2 hD
        · have e1 : ¬ ((p : Int) < q) := by omega
          have e2 : ¬ ((p : Int) = q) := by omega
          have e3 : ¬ (D < 0) := by omega
          go_wp2
          go_ret
          exact ⟨by first | (simp; done) | (simp; omega) | (simp; rw [beq_eq_false_iff_ne.2 (show (p : Int) ≠ q by omega), beq_eq_false_iff_ne.2 (show D ≠ 0 by omega)]), Below.then G2.out (below_drewN H11.out j)⟩
      · obtain rfl : k = d := by omega
        rcases S with ⟨h1, h2⟩ | ⟨h1, h2⟩ | ⟨h1, h2⟩
        · have e1 : (p : Int) < q := by omega
          have e2 : ¬ ((p : Int) = q) := by omega
          have e4 : ¬ (D = 0) := by omega
          go_wp2
          go_ret
          exact ⟨by first | (simp; done) | (simp; omega) | (simp; rw [beq_eq_false_iff_ne.2 (show (p : Int) ≠ q by omega), beq_eq_false_iff_ne.2 (show D ≠ 0 by omega)]), Below.then G2.out (below_drewN H11.out j)⟩
        · subst h1
          subst h2
          go_wp2
          go_ret
          exact ⟨by first | (simp; done) | (simp; omega) | (simp; rw [beq_eq_false_iff_ne.2 (show (p : Int) ≠ q by omega), beq_eq_false_iff_ne.2 (show D ≠ 0 by omega)]), Below.then G2.out (below_drewN H11.out j)⟩
        · have e1 : ¬ ((p : Int) < q) := by omega
          have e2 : ¬ ((p : Int) = q) := by omega
          have e3 : ¬ (D < 0) := by omega
          have e4 : ¬ (D = 0) := by omega
          go_wp2
          go_ret
          exact ⟨by first | (simp; done) | (simp; omega) | (simp; rw [beq_eq_false_iff_ne.2 (show (p : Int) ≠ q by omega), beq_eq_false_iff_ne.2 (show D ≠ 0 by omega)]), Below.then G2.out (below_drewN H11.out j)⟩
end Go.Proofs.Ytghfomammdbgoaa

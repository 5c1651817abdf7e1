/- The reference's Next. -/
import Derived.Test.YtlmnlfnodbfgiaaE1
namespace Go.Proofs.Ytlmnlfnodbfgiaa
open Go.RowKit M
set_option linter.unusedSimpArgs false
set_option linter.unusedVariables false

/-- digits' contract, as a caller takes it. -/
def DgK (s : ByteArray) (bi : Int) (bs : Int) (v K : Nat) : Prop := ∀ w, Calls Try.prog 17 #[.string s, .int .i64 bi, .int .i64 bs] w fun e w' => (∃ x : Int, e = .returned (.tuple #[.int .u64 x, .bool (decide (18446744073709551615 < v)), .int .i64 (K : Int)])
      ∧ 0 ≤ x ∧ x ≤ 18446744073709551615 ∧ Hid (v ≤ 18446744073709551615 → x = (v : Int))) ∧ w' = w
theorem dgK (s : ByteArray) (hs : s.size ≤ maxLen) (b base : Nat) (bi bs : Int) (hbi : bi = (b : Int)) (hbs : bs = (base : Int)) (hb : b ≤ s.size) (hbase : base = 10 ∨ base = 16) :
    DgK s bi bs (val base (dl base (s.data.toList.drop b))) (dl base (s.data.toList.drop b)).length := fun w => by
  rw [hbi, hbs]
  exact (rdigits_any s hs b base hb hbase w).mono fun e w' ⟨⟨x, h1, h2, h3, h4⟩, h5⟩ => ⟨⟨x, h1, h2, h3, h4⟩, h5⟩

theorem minusB_at {s : ByteArray} {a : Nat} (h : a < s.size) : minusB (s.data.toList.drop a) = (s[a].toNat == 45) := by
  rw [List.drop_eq_getElem_cons (by simpa using h)]; rfl
theorem minusB_end {s : ByteArray} {a : Nat} (h : s.size ≤ a) : minusB (s.data.toList.drop a) = false := by
  rw [List.drop_eq_nil_of_le (by simpa using h)]; rfl
theorem markB_at {s : ByteArray} {b : Nat} (h : b + 1 < s.size) : markB (s.data.toList.drop b) = (s[b].toNat == 48 && (s[b + 1].toNat == 120 || s[b + 1].toNat == 88)) := by
  rw [List.drop_eq_getElem_cons (by simp; omega), List.drop_eq_getElem_cons (by simp; omega)]; rfl
theorem markB_end {s : ByteArray} {b : Nat} (h : s.size ≤ b + 1) : markB (s.data.toList.drop b) = false := by
  have hl := sizeL s
  cases e : s.data.toList.drop b with
  | nil => rfl
  | cons x r =>
      cases r with
      | nil => rfl
      | cons y r =>
          have := congrArg List.length e
          rw [List.length_drop] at this
          simp at this
          omega
theorem dl10_pos {s : ByteArray} {b : Nat} (hb : b ≤ s.size) (h : (dl 10 (s.data.toList.drop b)).length ≠ 0) : b < s.size := by
  have hl := sizeL s
  refine Nat.lt_of_not_le fun h2 => h ?_
  rw [List.drop_eq_nil_of_le (by omega)]; rfl
theorem dl10_mark {l : List UInt8} (h : markB l = true) : (dl 10 l).length ≠ 0 := by
  match l, h with
  | a :: b :: r, h =>
      have h48 : a.toNat = 48 := by simp [markB] at h; exact h.1
      have : isD 10 a = true := by unfold isD; rw [h48]; rfl
      unfold dl
      rw [List.takeWhile_cons, if_pos this]; simp

theorem ret3_eq {a b c v : Int} {n e : Nat} (ha : a = v) (hb : b = (n : Int)) (hc : c = (e : Int)) : Ending.returned (.tuple #[.int .i64 a, .int .i64 b, .int .i64 c]) = .returned (nextV (v, n, e)) := by rw [ha, hb, hc]; rfl
/-- The three ends: too big, or its value. -/
theorem nNum_big {m : Bool} {v n : Nat} (h : 18446744073709551615 < v ∨ (m = true ∧ 9223372036854775808 < v)) : nNum n (valF m v) = (0, 0, 41) := by unfold valF; rw [if_pos h]; rfl
theorem nNum_neg {v n : Nat} (h : v ≤ 9223372036854775808) : nNum n (valF true v) = (-(v : Int), n, 0) := by unfold valF; rw [if_neg (by simp; omega)]; rfl
theorem nNum_pos {v n : Nat} (h : v ≤ 18446744073709551615) : nNum n (valF false v) = (if (v : Int) ≤ 9223372036854775807 then (v : Int) else (v : Int) - 18446744073709551616, n, 0) := by
  unfold valF; rw [if_neg (by simp; omega)]; rfl
theorem wrap_un {x : Int} (h0 : 0 ≤ x) (h1 : x ≤ 9223372036854775808) : wrap64 (IntKind.u64.wrap (-x)) = -x := by rw [IntKind.wrap_u64]; unfold wrap64; omega

theorem nextO_none {l : List UInt8} (h : (dl 10 (l.drop (sgn l))).length = 0) : nextO l = (0, 0, 40) := by
  have h0 : dl 10 (l.drop (sgn l)) = [] := List.eq_nil_of_length_eq_zero h
  have hF := digF_plain (l := l) (fun hh => dl10_mark hh.1 h)
  unfold nextO
  rw [if_pos (hF.1.trans h0)]
theorem nextO_ten {l : List UInt8} (h : (dl 10 (l.drop (sgn l))).length ≠ 0) (hp : ¬ (markB (l.drop (sgn l)) = true ∧ dl 16 ((l.drop (sgn l)).drop 2) ≠ [])) :
    nextO l = nNum (sgn l + (dl 10 (l.drop (sgn l))).length) (valF (minusB l) (val 10 (dl 10 (l.drop (sgn l))))) := by
  have hF := digF_plain hp
  unfold nextO numF
  rw [if_neg (by rw [hF.1]; exact fun e => h (by rw [e]; rfl)), hF.2.1, hF.2.2, hF.1]
theorem nextO_hex {l : List UInt8} (hq : markB (l.drop (sgn l)) = true) (hn : (dl 16 ((l.drop (sgn l)).drop 2)).length ≠ 0) :
    nextO l = nNum (sgn l + 2 + (dl 16 ((l.drop (sgn l)).drop 2)).length) (valF (minusB l) (val 16 (dl 16 ((l.drop (sgn l)).drop 2)))) := by
  have hn' : dl 16 ((l.drop (sgn l)).drop 2) ≠ [] := fun e => hn (by rw [e]; rfl)
  have hF := digF_mark hq hn'
  unfold nextO numF
  rw [if_neg (by rw [hF.1]; exact hn'), hF.2.1, hF.2.2, hF.1]

set_option maxRecDepth 100000 in
set_option maxHeartbeats 8000000 in
theorem rnext_any (s : ByteArray) (hs : s.size ≤ maxLen) (at' : Int) (w : World) :
    Calls Try.prog 8 #[.string s, .int .i64 at'] w fun e w' => e = .returned (nextV (nextA s at')) ∧ w' = w := by
  have hs' := hs
  unfold maxLen at hs'
  by_cases h1 : at' < 0
  · go_enter Try.func8, Try.ntmps8
    go_wp2
    go_ret3
    exact ⟨by unfold nextA; rw [if_pos (Or.inl h1)]; rfl, rfl⟩
  by_cases h2 : (s.size : Int) < at'
  · go_enter Try.func8, Try.ntmps8
    go_wp2
    go_ret3
    exact ⟨by unfold nextA; rw [if_pos (Or.inr h2)]; rfl, rfl⟩
  obtain ⟨a, rfl⟩ : ∃ a : Nat, at' = a := ⟨at'.toNat, by omega⟩
  have ha : a ≤ s.size := by omega
  have hN : nextA s (a : Int) = nextO (s.data.toList.drop a) := by unfold nextA; rw [if_neg (by omega)]; rfl
  rw [hN]
  clear hN
  have hmz : minusB (s.data.toList.drop a) = true ∨ minusB (s.data.toList.drop a) = false := by cases minusB (s.data.toList.drop a) <;> simp
  rcases hmz with hm | hm
  · -- the sign is there
    have hsg : sgn (s.data.toList.drop a) = 1 := by unfold sgn; rw [hm]; rfl
    have hal : a < s.size := Nat.lt_of_not_le fun h => by rw [minusB_end h] at hm; cases hm
    have hi : (a : Int) < s.size := by omega
    have h45 : ((s[a].toNat : Int) == 45) = true := by rw [minusB_at hal] at hm; simp at hm ⊢; omega
    have hsign : True := trivial
    have hd10' := dgK s hs (a + 1) 10 ((a : Int) + 1) 10 (by omega) rfl (by omega) (Or.inl rfl)
    have hdr : (s.data.toList.drop a).drop (sgn (s.data.toList.drop a)) = s.data.toList.drop (a + 1) := by rw [hsg, List.drop_drop]
    have HN0 : Hid ((dl 10 (s.data.toList.drop (a + 1))).length = 0 → nextO (s.data.toList.drop a) = (0, 0, 40)) := fun h => nextO_none (by rw [hdr]; exact h)
    have HN1 : Hid ((dl 10 (s.data.toList.drop (a + 1))).length ≠ 0 → ¬ (markB (s.data.toList.drop (a + 1)) = true ∧ dl 16 (s.data.toList.drop (a + 3)) ≠ []) → nextO (s.data.toList.drop a) = nNum (1 + (dl 10 (s.data.toList.drop (a + 1))).length) (valF true (val 10 (dl 10 (s.data.toList.drop (a + 1)))))) := fun h h2 => by
      have h3 := nextO_ten (l := s.data.toList.drop a) (by rw [hdr]; exact h) (by rw [hdr, List.drop_drop]; exact h2)
      rw [hdr, hsg, hm] at h3; exact h3
    have HN2 : Hid (markB (s.data.toList.drop (a + 1)) = true → (dl 16 (s.data.toList.drop (a + 3))).length ≠ 0 → nextO (s.data.toList.drop a) = nNum (3 + (dl 16 (s.data.toList.drop (a + 3))).length) (valF true (val 16 (dl 16 (s.data.toList.drop (a + 3)))))) := fun h h2 => by
      have h3 := nextO_hex (l := s.data.toList.drop a) (by rw [hdr]; exact h) (by rw [hdr, List.drop_drop]; exact h2)
      rw [hdr, hsg, hm, List.drop_drop] at h3; exact h3
    obtain ⟨v, hv⟩ : ∃ v, val 10 (dl 10 (s.data.toList.drop (a + 1))) = v := ⟨_, rfl⟩
    obtain ⟨K, hK⟩ : ∃ K, (dl 10 (s.data.toList.drop (a + 1))).length = K := ⟨_, rfl⟩
    have hKl : K ≤ s.size - (a + 1) := by rw [← hK]; have := dl_len 10 (s.data.toList.drop (a + 1)); rw [List.length_drop, ← sizeL] at this; exact this
    have hpos : K ≠ 0 → a + 1 < s.size := fun h => dl10_pos (by omega) (by rw [hK]; exact h)
    rw [hv, hK] at hd10'
    rw [hv, hK] at HN1
    rw [hK] at HN0
    have hd10 : DgK s ((a : Int) + 1) 10 v K := hd10'
    clear hd10' hv hK hdr hsg hm
    have t10 : True := trivial
    by_cases hK0 : K = 0
    · have HR : Hid (nextO (s.data.toList.drop a) = (0, 0, 40)) := HN0.out hK0
      subst hK0
      clear HN0 HN1 HN2 hpos
      go_enter Try.func8, Try.ntmps8
      go_wp2_with (first
        | (have := t10; go_at_call 17; refine (hd10 _).mono ?_; clear t10 this; rintro e w' ⟨⟨x, rfl, hx0, hx1, HX⟩, hw'⟩; replace hw' := hw'.symm; subst hw')
        | (have := t16; go_at_call 17; refine (hd16 _).mono ?_; clear t16 this; rintro e w' ⟨⟨y, rfl, hy0, hy1, HY⟩, hw'⟩; replace hw' := hw'.symm; subst hw'))
      go_ret3
      exact ⟨by rw [HR.out]; rfl, rfl⟩
    have hbl : a + 1 < s.size := hpos hK0
    have hk0 : ((K : Int) == 0) = false := by simp; omega
    have HK0 : Hid (K ≠ 0) := hK0
    clear hsign HN0 hpos hK0
    have hcs : (markB (s.data.toList.drop (a + 1)) = false ∧ (((s[a + 1].toNat : Int) == 48) = false ∨ (((s[a + 1].toNat : Int) == 48) = true ∧ ¬ (a : Int) + 2 < (s.size : Int)) ∨ (((s[a + 1].toNat : Int) == 48) = true ∧ ∃ h : a + 2 < s.size, ((s[a + 2].toNat : Int) == 120) = false ∧ ((s[a + 2].toNat : Int) == 88) = false)))
        ∨ (markB (s.data.toList.drop (a + 1)) = true ∧ ((s[a + 1].toNat : Int) == 48) = true ∧ ∃ h : a + 2 < s.size, (((s[a + 2].toNat : Int) == 120) = true ∨ (((s[a + 2].toNat : Int) == 120) = false ∧ ((s[a + 2].toNat : Int) == 88) = true))) := by
      by_cases hl : a + 2 < s.size
      · have hmk := markB_at (s := s) (b := a + 1) (by omega)
        by_cases e48 : s[a + 1].toNat = 48
        · by_cases ex : s[a + 2].toNat = 120
          · right; refine ⟨by rw [hmk]; simp [e48, ex], by simp [e48], hl, Or.inl (by simp [ex])⟩
          · by_cases eX : s[a + 2].toNat = 88
            · right; refine ⟨by rw [hmk]; simp [e48, eX], by simp [e48], hl, Or.inr ⟨by simp; omega, by simp [eX]⟩⟩
            · left; refine ⟨by rw [hmk]; simp [ex, eX], Or.inr (Or.inr ⟨by simp [e48], hl, by simp; omega, by simp; omega⟩)⟩
        · left; refine ⟨by rw [hmk]; simp [e48], Or.inl (by simp; omega)⟩
      · left; refine ⟨markB_end (by omega), ?_⟩
        by_cases e48 : s[a + 1].toNat = 48
        · right; left; exact ⟨by simp [e48], by omega⟩
        · left; simp; omega
    rcases hcs with ⟨hmk, hcs⟩ | ⟨hmk, h48, hl, hcs⟩
    · -- no mark
      have HR : Hid (nextO (s.data.toList.drop a) = nNum (1 + K) (valF true v)) := HN1.out HK0.out (fun h => by rw [hmk] at h; cases h.1)
      clear HN1 HN2 hmk
      by_cases hbig : 18446744073709551615 < v
      · have HRB : Hid (nextO (s.data.toList.drop a) = (0, 0, 41)) := HR.out.trans (nNum_big (Or.inl hbig))
        have hdb : decide (18446744073709551615 < v) = true := decide_eq_true hbig
        rw [DgK, hdb] at hd10
        clear HR hbig hdb
        rcases hcs with h48 | ⟨h48, hl⟩ | ⟨h48, hl, hx, hX⟩
        all_goals
          go_enter Try.func8, Try.ntmps8
          go_wp2_with (first
            | (have := t10; go_at_call 17; refine (hd10 _).mono ?_; clear t10 this; rintro e w' ⟨⟨x, rfl, hx0, hx1, HX⟩, hw'⟩; replace hw' := hw'.symm; subst hw'))
          go_ret3
          exact ⟨by rw [HRB.out]; rfl, rfl⟩
      · have hdb : decide (18446744073709551615 < v) = false := decide_eq_false hbig
        rw [DgK, hdb] at hd10
        have HNB : Hid (v ≤ 18446744073709551615) := Nat.le_of_not_lt hbig
        clear hbig hdb
        rcases hcs with h48 | ⟨h48, hl⟩ | ⟨h48, hl, hx, hX⟩
        all_goals
          go_enter Try.func8, Try.ntmps8
          go_wp2_with (first
            | (have := t10; go_at_call 17; refine (hd10 _).mono ?_; clear t10 this; rintro e w' ⟨⟨x, rfl, hx0, hx1, HX⟩, hw'⟩; replace hw' := hw'.symm; subst hw'; refine Hid.out ?_))
          refine Lib.hid ?_
          have hxv := HX.out HNB.out
          by_cases hneg : 9223372036854775808 < x
          · have HRB : Hid (nextO (s.data.toList.drop a) = (0, 0, 41)) := HR.out.trans (nNum_big (Or.inr ⟨rfl, by omega⟩))
            clear hxv
            go_wp2
            go_ret3
            exact ⟨by rw [HRB.out]; rfl, rfl⟩
          · have hneg' : x ≤ 9223372036854775808 := by omega
            have HRB : Hid (nextO (s.data.toList.drop a) = (-x, 1 + K, 0)) := by show nextO _ = _; rw [HR.out, nNum_neg (by omega), hxv]
            clear hxv
            go_wp2
            go_ret3
            exact ⟨by rw [HRB.out]; exact ret3_eq (wrap_un ‹0 ≤ x› hneg') (by omega) rfl, rfl⟩
    · -- a mark
      have hd16' := dgK s hs (a + 3) 16 ((a : Int) + 3) 16 (by omega) rfl (by omega) (Or.inr rfl)
      have HM : Hid (markB (s.data.toList.drop (a + 1)) = true) := hmk
      have HN2' := HN2.out hmk
      have HN1' : dl 16 (s.data.toList.drop (a + 3)) = [] → nextO (s.data.toList.drop a) = nNum (1 + K) (valF true v) := fun h => HN1.out HK0.out (fun h2 => h2.2 h)
      have hK2l : (dl 16 (s.data.toList.drop (a + 3))).length ≤ s.size - (a + 3) := by have := dl_len 16 (s.data.toList.drop (a + 3)); rw [List.length_drop, ← sizeL] at this; exact this
      have hnil : (dl 16 (s.data.toList.drop (a + 3))).length = 0 → dl 16 (s.data.toList.drop (a + 3)) = [] := List.eq_nil_of_length_eq_zero
      obtain ⟨v2, hv2⟩ : ∃ v2, val 16 (dl 16 (s.data.toList.drop (a + 3))) = v2 := ⟨_, rfl⟩
      obtain ⟨K2, hK2⟩ : ∃ K2, (dl 16 (s.data.toList.drop (a + 3))).length = K2 := ⟨_, rfl⟩
      rw [hv2, hK2] at hd16' HN2'
      rw [hK2] at hK2l hnil
      have hd16 : DgK s ((a : Int) + 3) 16 v2 K2 := hd16'
      have HNil : Hid (K2 = 0 → dl 16 (s.data.toList.drop (a + 3)) = []) := hnil
      have t16 : True := trivial
      clear hd16' hv2 hK2 hnil hmk HN1 HN2
      by_cases hk2 : K2 = 0
      · have HR : Hid (nextO (s.data.toList.drop a) = nNum (1 + K) (valF true v)) := HN1' (HNil.out hk2)
        subst hk2
        clear HN1' HN2' HNil
        by_cases hbig : 18446744073709551615 < v
        · have HRB : Hid (nextO (s.data.toList.drop a) = (0, 0, 41)) := HR.out.trans (nNum_big (Or.inl hbig))
          have hdb : decide (18446744073709551615 < v) = true := decide_eq_true hbig
          rw [DgK, hdb] at hd10
          clear HR hbig hdb
          rcases hcs with hx | ⟨hx, hX⟩
          all_goals
            go_enter Try.func8, Try.ntmps8
            go_wp2_with (first
              | (have := t10; go_at_call 17; refine (hd10 _).mono ?_; clear t10 this; rintro e w' ⟨⟨x, rfl, hx0, hx1, HX⟩, hw'⟩; replace hw' := hw'.symm; subst hw')
              | (have := t16; go_at_call 17; refine (hd16 _).mono ?_; clear t16 this; rintro e w' ⟨⟨y, rfl, hy0, hy1, HY⟩, hw'⟩; replace hw' := hw'.symm; subst hw'))
            go_ret3
            exact ⟨by rw [HRB.out]; rfl, rfl⟩
        · have hdb : decide (18446744073709551615 < v) = false := decide_eq_false hbig
          rw [DgK, hdb] at hd10
          have HNB : Hid (v ≤ 18446744073709551615) := Nat.le_of_not_lt hbig
          clear hbig hdb
          rcases hcs with hx | ⟨hx, hX⟩
          all_goals
            go_enter Try.func8, Try.ntmps8
            go_wp2_with (first
              | (have := t10; go_at_call 17; refine (hd10 _).mono ?_; clear t10 this; rintro e w' ⟨⟨x, rfl, hx0, hx1, HX⟩, hw'⟩; replace hw' := hw'.symm; subst hw'; refine Hid.out ?_))
            refine Lib.hid ?_
            have hxv := HX.out HNB.out
            by_cases hneg : 9223372036854775808 < x
            · have HRB : Hid (nextO (s.data.toList.drop a) = (0, 0, 41)) := HR.out.trans (nNum_big (Or.inr ⟨rfl, by omega⟩))
              clear hxv
              go_wp2_with (go_at_call 17; refine (hd16 _).mono ?_; clear t16; rintro e w' ⟨⟨y, rfl, hy0, hy1, HY⟩, hw'⟩; replace hw' := hw'.symm; subst hw')
              go_ret3
              exact ⟨by rw [HRB.out]; rfl, rfl⟩
            · have hneg' : x ≤ 9223372036854775808 := by omega
              have HRB : Hid (nextO (s.data.toList.drop a) = (-x, 1 + K, 0)) := by show nextO _ = _; rw [HR.out, nNum_neg (by omega), hxv]
              clear hxv
              go_wp2_with (go_at_call 17; refine (hd16 _).mono ?_; clear t16; rintro e w' ⟨⟨y, rfl, hy0, hy1, HY⟩, hw'⟩; replace hw' := hw'.symm; subst hw')
              go_ret3
              exact ⟨by rw [HRB.out]; exact ret3_eq (wrap_un ‹0 ≤ x› hneg') (by omega) rfl, rfl⟩
      · have HR : Hid (nextO (s.data.toList.drop a) = nNum (3 + K2) (valF true v2)) := HN2' hk2
        have hk2i : (0 : Int) < K2 := by omega
        clear HN1' HN2' HNil hk2
        by_cases hbig : 18446744073709551615 < v2
        · have HRB : Hid (nextO (s.data.toList.drop a) = (0, 0, 41)) := HR.out.trans (nNum_big (Or.inl hbig))
          have hdb : decide (18446744073709551615 < v2) = true := decide_eq_true hbig
          rw [DgK, hdb] at hd16
          clear HR hbig hdb
          rcases hcs with hx | ⟨hx, hX⟩
          all_goals
            go_enter Try.func8, Try.ntmps8
            go_wp2_with (first
              | (have := t10; go_at_call 17; refine (hd10 _).mono ?_; clear t10 this; rintro e w' ⟨⟨x, rfl, hx0, hx1, HX⟩, hw'⟩; replace hw' := hw'.symm; subst hw')
              | (have := t16; go_at_call 17; refine (hd16 _).mono ?_; clear t16 this; rintro e w' ⟨⟨y, rfl, hy0, hy1, HY⟩, hw'⟩; replace hw' := hw'.symm; subst hw'))
            go_ret3
            exact ⟨by rw [HRB.out]; rfl, rfl⟩
        · have hdb : decide (18446744073709551615 < v2) = false := decide_eq_false hbig
          rw [DgK, hdb] at hd16
          have HNB : Hid (v2 ≤ 18446744073709551615) := Nat.le_of_not_lt hbig
          clear hbig hdb
          rcases hcs with hx | ⟨hx, hX⟩
          all_goals
            go_enter Try.func8, Try.ntmps8
            go_wp2_with (first
              | (have := t10; go_at_call 17; refine (hd10 _).mono ?_; clear t10 this; rintro e w' ⟨⟨x, rfl, hx0, hx1, HX⟩, hw'⟩; replace hw' := hw'.symm; subst hw')
              | (have := t16; go_at_call 17; refine (hd16 _).mono ?_; clear t16 this; rintro e w' ⟨⟨y, rfl, hy0, hy1, HY⟩, hw'⟩; replace hw' := hw'.symm; subst hw'; refine Hid.out ?_))
            refine Lib.hid ?_
            have hxv := HY.out HNB.out
            by_cases hneg : 9223372036854775808 < y
            · have HRB : Hid (nextO (s.data.toList.drop a) = (0, 0, 41)) := HR.out.trans (nNum_big (Or.inr ⟨rfl, by omega⟩))
              clear hxv
              go_wp2
              go_ret3
              exact ⟨by rw [HRB.out]; rfl, rfl⟩
            · have hneg' : y ≤ 9223372036854775808 := by omega
              have HRB : Hid (nextO (s.data.toList.drop a) = (-y, 3 + K2, 0)) := by show nextO _ = _; rw [HR.out, nNum_neg (by omega), hxv]
              clear hxv
              go_wp2
              go_ret3
              exact ⟨by rw [HRB.out]; exact ret3_eq (wrap_un ‹0 ≤ y› hneg') (by omega) rfl, rfl⟩
  · -- the sign is not there
    have hsg : sgn (s.data.toList.drop a) = 0 := by unfold sgn; rw [hm]; rfl
    have hsign : ((a : Int) < s.size ∧ ∃ h : a < s.size, ((s[a].toNat : Int) == 45) = false) ∨ ¬ (a : Int) < s.size := by
      by_cases hal : a < s.size
      · left; refine ⟨by omega, hal, ?_⟩
        rw [minusB_at hal] at hm; simp at hm ⊢; omega
      · right; omega
    have hd10' := dgK s hs (a) 10 ((a : Int)) 10 (by omega) rfl (by omega) (Or.inl rfl)
    have hdr : (s.data.toList.drop a).drop (sgn (s.data.toList.drop a)) = s.data.toList.drop (a) := by rw [hsg, List.drop_drop]; rfl
    have HN0 : Hid ((dl 10 (s.data.toList.drop (a))).length = 0 → nextO (s.data.toList.drop a) = (0, 0, 40)) := fun h => nextO_none (by rw [hdr]; exact h)
    have HN1 : Hid ((dl 10 (s.data.toList.drop (a))).length ≠ 0 → ¬ (markB (s.data.toList.drop (a)) = true ∧ dl 16 (s.data.toList.drop (a + 2)) ≠ []) → nextO (s.data.toList.drop a) = nNum (0 + (dl 10 (s.data.toList.drop (a))).length) (valF false (val 10 (dl 10 (s.data.toList.drop (a)))))) := fun h h2 => by
      have h3 := nextO_ten (l := s.data.toList.drop a) (by rw [hdr]; exact h) (by rw [hdr, List.drop_drop]; exact h2)
      rw [hdr, hsg, hm] at h3; exact h3
    have HN2 : Hid (markB (s.data.toList.drop (a)) = true → (dl 16 (s.data.toList.drop (a + 2))).length ≠ 0 → nextO (s.data.toList.drop a) = nNum (2 + (dl 16 (s.data.toList.drop (a + 2))).length) (valF false (val 16 (dl 16 (s.data.toList.drop (a + 2)))))) := fun h h2 => by
      have h3 := nextO_hex (l := s.data.toList.drop a) (by rw [hdr]; exact h) (by rw [hdr, List.drop_drop]; exact h2)
      rw [hdr, hsg, hm, List.drop_drop] at h3; exact h3
    obtain ⟨v, hv⟩ : ∃ v, val 10 (dl 10 (s.data.toList.drop (a))) = v := ⟨_, rfl⟩
    obtain ⟨K, hK⟩ : ∃ K, (dl 10 (s.data.toList.drop (a))).length = K := ⟨_, rfl⟩
    have hKl : K ≤ s.size - (a) := by rw [← hK]; have := dl_len 10 (s.data.toList.drop (a)); rw [List.length_drop, ← sizeL] at this; exact this
    have hpos : K ≠ 0 → a < s.size := fun h => dl10_pos (by omega) (by rw [hK]; exact h)
    rw [hv, hK] at hd10'
    rw [hv, hK] at HN1
    rw [hK] at HN0
    have hd10 : DgK s ((a : Int)) 10 v K := hd10'
    clear hd10' hv hK hdr hsg hm
    have t10 : True := trivial
    by_cases hK0 : K = 0
    · have HR : Hid (nextO (s.data.toList.drop a) = (0, 0, 40)) := HN0.out hK0
      subst hK0
      clear HN0 HN1 HN2 hpos
      rcases hsign with ⟨hi, hal, h45⟩ | hi
      all_goals
        go_enter Try.func8, Try.ntmps8
        go_wp2_with (first
          | (have := t10; go_at_call 17; refine (hd10 _).mono ?_; clear t10 this; rintro e w' ⟨⟨x, rfl, hx0, hx1, HX⟩, hw'⟩; replace hw' := hw'.symm; subst hw')
          | (have := t16; go_at_call 17; refine (hd16 _).mono ?_; clear t16 this; rintro e w' ⟨⟨y, rfl, hy0, hy1, HY⟩, hw'⟩; replace hw' := hw'.symm; subst hw'))
        go_ret3
        exact ⟨by rw [HR.out]; rfl, rfl⟩
    have hbl : a < s.size := hpos hK0
    have hk0 : ((K : Int) == 0) = false := by simp; omega
    have HK0 : Hid (K ≠ 0) := hK0
    have hi : (a : Int) < s.size := by omega
    have h45 : ((s[a].toNat : Int) == 45) = false := by
      rcases hsign with ⟨_, _, hh⟩ | hh
      · exact hh
      · exact absurd hi hh
    clear hsign HN0 hpos hK0
    have hcs : (markB (s.data.toList.drop (a)) = false ∧ (((s[a].toNat : Int) == 48) = false ∨ (((s[a].toNat : Int) == 48) = true ∧ ¬ (a : Int) + 1 < (s.size : Int)) ∨ (((s[a].toNat : Int) == 48) = true ∧ ∃ h : a + 1 < s.size, ((s[a + 1].toNat : Int) == 120) = false ∧ ((s[a + 1].toNat : Int) == 88) = false)))
        ∨ (markB (s.data.toList.drop (a)) = true ∧ ((s[a].toNat : Int) == 48) = true ∧ ∃ h : a + 1 < s.size, (((s[a + 1].toNat : Int) == 120) = true ∨ (((s[a + 1].toNat : Int) == 120) = false ∧ ((s[a + 1].toNat : Int) == 88) = true))) := by
      by_cases hl : a + 1 < s.size
      · have hmk := markB_at (s := s) (b := a) (by omega)
        by_cases e48 : s[a].toNat = 48
        · by_cases ex : s[a + 1].toNat = 120
          · right; refine ⟨by rw [hmk]; simp [e48, ex], by simp [e48], hl, Or.inl (by simp [ex])⟩
          · by_cases eX : s[a + 1].toNat = 88
            · right; refine ⟨by rw [hmk]; simp [e48, eX], by simp [e48], hl, Or.inr ⟨by simp; omega, by simp [eX]⟩⟩
            · left; refine ⟨by rw [hmk]; simp [ex, eX], Or.inr (Or.inr ⟨by simp [e48], hl, by simp; omega, by simp; omega⟩)⟩
        · left; refine ⟨by rw [hmk]; simp [e48], Or.inl (by simp; omega)⟩
      · left; refine ⟨markB_end (by omega), ?_⟩
        by_cases e48 : s[a].toNat = 48
        · right; left; exact ⟨by simp [e48], by omega⟩
        · left; simp; omega
    rcases hcs with ⟨hmk, hcs⟩ | ⟨hmk, h48, hl, hcs⟩
    · -- no mark
      have HR : Hid (nextO (s.data.toList.drop a) = nNum (0 + K) (valF false v)) := HN1.out HK0.out (fun h => by rw [hmk] at h; cases h.1)
      clear HN1 HN2 hmk
      by_cases hbig : 18446744073709551615 < v
      · have HRB : Hid (nextO (s.data.toList.drop a) = (0, 0, 41)) := HR.out.trans (nNum_big (Or.inl hbig))
        have hdb : decide (18446744073709551615 < v) = true := decide_eq_true hbig
        rw [DgK, hdb] at hd10
        clear HR hbig hdb
        rcases hcs with h48 | ⟨h48, hl⟩ | ⟨h48, hl, hx, hX⟩
        all_goals
          go_enter Try.func8, Try.ntmps8
          go_wp2_with (first
            | (have := t10; go_at_call 17; refine (hd10 _).mono ?_; clear t10 this; rintro e w' ⟨⟨x, rfl, hx0, hx1, HX⟩, hw'⟩; replace hw' := hw'.symm; subst hw'))
          go_ret3
          exact ⟨by rw [HRB.out]; rfl, rfl⟩
      · have hdb : decide (18446744073709551615 < v) = false := decide_eq_false hbig
        rw [DgK, hdb] at hd10
        have HNB : Hid (v ≤ 18446744073709551615) := Nat.le_of_not_lt hbig
        clear hbig hdb
        rcases hcs with h48 | ⟨h48, hl⟩ | ⟨h48, hl, hx, hX⟩
        all_goals
          go_enter Try.func8, Try.ntmps8
          go_wp2_with (first
            | (have := t10; go_at_call 17; refine (hd10 _).mono ?_; clear t10 this; rintro e w' ⟨⟨x, rfl, hx0, hx1, HX⟩, hw'⟩; replace hw' := hw'.symm; subst hw'; refine Hid.out ?_))
          refine Lib.hid ?_
          have hxv := HX.out HNB.out
          have HRB : Hid (nextO (s.data.toList.drop a) = (if x ≤ 9223372036854775807 then x else x - 18446744073709551616, 0 + K, 0)) := by show nextO _ = _; rw [HR.out, nNum_pos HNB.out, hxv]
          clear hxv
          go_wp2
          go_ret3
          exact ⟨by rw [HRB.out]; exact ret3_eq (wrap_pos ‹0 ≤ x› ‹x ≤ 18446744073709551615›) (by omega) rfl, rfl⟩
    · -- a mark
      have hd16' := dgK s hs (a + 2) 16 ((a : Int) + 2) 16 (by omega) rfl (by omega) (Or.inr rfl)
      have HM : Hid (markB (s.data.toList.drop (a)) = true) := hmk
      have HN2' := HN2.out hmk
      have HN1' : dl 16 (s.data.toList.drop (a + 2)) = [] → nextO (s.data.toList.drop a) = nNum (0 + K) (valF false v) := fun h => HN1.out HK0.out (fun h2 => h2.2 h)
      have hK2l : (dl 16 (s.data.toList.drop (a + 2))).length ≤ s.size - (a + 2) := by have := dl_len 16 (s.data.toList.drop (a + 2)); rw [List.length_drop, ← sizeL] at this; exact this
      have hnil : (dl 16 (s.data.toList.drop (a + 2))).length = 0 → dl 16 (s.data.toList.drop (a + 2)) = [] := List.eq_nil_of_length_eq_zero
      obtain ⟨v2, hv2⟩ : ∃ v2, val 16 (dl 16 (s.data.toList.drop (a + 2))) = v2 := ⟨_, rfl⟩
      obtain ⟨K2, hK2⟩ : ∃ K2, (dl 16 (s.data.toList.drop (a + 2))).length = K2 := ⟨_, rfl⟩
      rw [hv2, hK2] at hd16' HN2'
      rw [hK2] at hK2l hnil
      have hd16 : DgK s ((a : Int) + 2) 16 v2 K2 := hd16'
      have HNil : Hid (K2 = 0 → dl 16 (s.data.toList.drop (a + 2)) = []) := hnil
      have t16 : True := trivial
      clear hd16' hv2 hK2 hnil hmk HN1 HN2
      by_cases hk2 : K2 = 0
      · have HR : Hid (nextO (s.data.toList.drop a) = nNum (0 + K) (valF false v)) := HN1' (HNil.out hk2)
        subst hk2
        clear HN1' HN2' HNil
        by_cases hbig : 18446744073709551615 < v
        · have HRB : Hid (nextO (s.data.toList.drop a) = (0, 0, 41)) := HR.out.trans (nNum_big (Or.inl hbig))
          have hdb : decide (18446744073709551615 < v) = true := decide_eq_true hbig
          rw [DgK, hdb] at hd10
          clear HR hbig hdb
          rcases hcs with hx | ⟨hx, hX⟩
          all_goals
            go_enter Try.func8, Try.ntmps8
            go_wp2_with (first
              | (have := t10; go_at_call 17; refine (hd10 _).mono ?_; clear t10 this; rintro e w' ⟨⟨x, rfl, hx0, hx1, HX⟩, hw'⟩; replace hw' := hw'.symm; subst hw')
              | (have := t16; go_at_call 17; refine (hd16 _).mono ?_; clear t16 this; rintro e w' ⟨⟨y, rfl, hy0, hy1, HY⟩, hw'⟩; replace hw' := hw'.symm; subst hw'))
            go_ret3
            exact ⟨by rw [HRB.out]; rfl, rfl⟩
        · have hdb : decide (18446744073709551615 < v) = false := decide_eq_false hbig
          rw [DgK, hdb] at hd10
          have HNB : Hid (v ≤ 18446744073709551615) := Nat.le_of_not_lt hbig
          clear hbig hdb
          rcases hcs with hx | ⟨hx, hX⟩
          all_goals
            go_enter Try.func8, Try.ntmps8
            go_wp2_with (first
              | (have := t10; go_at_call 17; refine (hd10 _).mono ?_; clear t10 this; rintro e w' ⟨⟨x, rfl, hx0, hx1, HX⟩, hw'⟩; replace hw' := hw'.symm; subst hw'; refine Hid.out ?_))
            refine Lib.hid ?_
            have hxv := HX.out HNB.out
            have HRB : Hid (nextO (s.data.toList.drop a) = (if x ≤ 9223372036854775807 then x else x - 18446744073709551616, 0 + K, 0)) := by show nextO _ = _; rw [HR.out, nNum_pos HNB.out, hxv]
            clear hxv
            go_wp2_with (go_at_call 17; refine (hd16 _).mono ?_; clear t16; rintro e w' ⟨⟨y, rfl, hy0, hy1, HY⟩, hw'⟩; replace hw' := hw'.symm; subst hw')
            go_ret3
            exact ⟨by rw [HRB.out]; exact ret3_eq (wrap_pos ‹0 ≤ x› ‹x ≤ 18446744073709551615›) (by omega) rfl, rfl⟩
      · have HR : Hid (nextO (s.data.toList.drop a) = nNum (2 + K2) (valF false v2)) := HN2' hk2
        have hk2i : (0 : Int) < K2 := by omega
        clear HN1' HN2' HNil hk2
        by_cases hbig : 18446744073709551615 < v2
        · have HRB : Hid (nextO (s.data.toList.drop a) = (0, 0, 41)) := HR.out.trans (nNum_big (Or.inl hbig))
          have hdb : decide (18446744073709551615 < v2) = true := decide_eq_true hbig
          rw [DgK, hdb] at hd16
          clear HR hbig hdb
          rcases hcs with hx | ⟨hx, hX⟩
          all_goals
            go_enter Try.func8, Try.ntmps8
            go_wp2_with (first
              | (have := t10; go_at_call 17; refine (hd10 _).mono ?_; clear t10 this; rintro e w' ⟨⟨x, rfl, hx0, hx1, HX⟩, hw'⟩; replace hw' := hw'.symm; subst hw')
              | (have := t16; go_at_call 17; refine (hd16 _).mono ?_; clear t16 this; rintro e w' ⟨⟨y, rfl, hy0, hy1, HY⟩, hw'⟩; replace hw' := hw'.symm; subst hw'))
            go_ret3
            exact ⟨by rw [HRB.out]; rfl, rfl⟩
        · have hdb : decide (18446744073709551615 < v2) = false := decide_eq_false hbig
          rw [DgK, hdb] at hd16
          have HNB : Hid (v2 ≤ 18446744073709551615) := Nat.le_of_not_lt hbig
          clear hbig hdb
          rcases hcs with hx | ⟨hx, hX⟩
          all_goals
            go_enter Try.func8, Try.ntmps8
            go_wp2_with (first
              | (have := t10; go_at_call 17; refine (hd10 _).mono ?_; clear t10 this; rintro e w' ⟨⟨x, rfl, hx0, hx1, HX⟩, hw'⟩; replace hw' := hw'.symm; subst hw')
              | (have := t16; go_at_call 17; refine (hd16 _).mono ?_; clear t16 this; rintro e w' ⟨⟨y, rfl, hy0, hy1, HY⟩, hw'⟩; replace hw' := hw'.symm; subst hw'; refine Hid.out ?_))
            refine Lib.hid ?_
            have hxv := HY.out HNB.out
            have HRB : Hid (nextO (s.data.toList.drop a) = (if y ≤ 9223372036854775807 then y else y - 18446744073709551616, 2 + K2, 0)) := by show nextO _ = _; rw [HR.out, nNum_pos HNB.out, hxv]
            clear hxv
            go_wp2
            go_ret3
            exact ⟨by rw [HRB.out]; exact ret3_eq (wrap_pos ‹0 ≤ y› ‹y ≤ 18446744073709551615›) (by omega) rfl, rfl⟩
end Go.Proofs.Ytlmnlfnodbfgiaa

/- Several texts in one: E1, E2, E3, E4. -/
import Derived.Test.YtopnbemodlcknaaDoorD5
/- The reference's digit and digits. -/
namespace Go.Proofs.YtopnbemodlcknaaDoor.Lx
open Go.RowKit M
set_option linter.unusedSimpArgs false
set_option linter.unusedVariables false

/-- A byte as a digit to a base; -1: it is none. -/
def rdig (c base : Nat) : Int := if dig c < base then (dig c : Int) else -1

set_option maxRecDepth 100000 in
set_option maxHeartbeats 1000000 in
theorem r4digit_any (c base : Nat) (hc : c < 256) (hb : base = 10 ∨ base = 16) (w : World) : Calls Tryd.prog 65 #[.int .u8 c, .int .i64 base] w fun e w' => e = .returned (.int .i64 (rdig c base)) ∧ w' = w := by
  have hb0 : 10 ≤ base := by omega
  have hb1 : base ≤ 16 := by omega
  have HB : Hid (base = 10 ∨ base = 16) := hb
  clear hb
  go_enter Tryd.func65, Tryd.ntmps65
  go_wp2
  all_goals go_ret
  all_goals refine ⟨ret_int ?_, rfl⟩
  all_goals unfold rdig
  all_goals first
    | (rw [dig_a (by omega) (by omega), if_pos (by omega)]; omega)
    | (rw [dig_a (by omega) (by omega), if_neg (by omega)])
    | (rw [dig_b (by omega) (by omega), if_pos (by omega)]; omega)
    | (rw [dig_b (by omega) (by omega), if_neg (by omega)])
    | (rw [dig_c (by omega) (by omega), if_pos (by omega)]; omega)
    | (rw [dig_c (by omega) (by omega), if_neg (by omega)])
    | (rw [dig_d (by omega) (by omega) (by omega), if_neg (by omega)])

theorem rdig_some {c base : Nat} (h : dig c < base) : rdig c base = (dig c : Int) := by unfold rdig; rw [if_pos h]
theorem rdig_none {c base : Nat} (h : ¬ dig c < base) : rdig c base = -1 := by unfold rdig; rw [if_neg h]

theorem take_drop_snoc (s : ByteArray) (a k : Nat) (h : a + k < s.size) : (s.data.toList.drop a).take (k + 1) = (s.data.toList.drop a).take k ++ [s[a + k]] := by
  have hl := sizeL s
  rw [List.take_succ_eq_append_getElem (by rw [List.length_drop]; omega)]
  congr 2
  rw [List.getElem_drop]; rfl

theorem dl_take (s : ByteArray) (a base k : Nat) (hk : a + k ≤ s.size) (h1 : ∀ j, (h : a + j < s.size) → j < k → dig s[a + j].toNat < base)
    (h2 : ∀ h : a + k < s.size, ¬ dig s[a + k].toNat < base) : dl base (s.data.toList.drop a) = (s.data.toList.drop a).take k := by
  have := run_end s a base k hk h1 h2
  rw [← this, exL, List.drop_take]; congr 1; omega

theorem dg_end {l : List UInt8} {base k : Nat} {x : Int} {big : Bool} (he : dl base l = l.take k) (hk : k ≤ l.length) (h0 : 0 ≤ x) (h1 : x ≤ 18446744073709551615)
    (hb : big = true → 18446744073709551615 < val base (l.take k)) (hx : big = false → x = (val base (l.take k) : Int)) :
    ∃ y : Int, Ending.returned (.tuple #[.int .u64 x, .bool big, .int .i64 (k : Int)]) = .returned (.tuple #[.int .u64 y, .bool (decide (18446744073709551615 < val base (dl base l))), .int .i64 ((dl base l).length : Int)])
      ∧ 0 ≤ y ∧ y ≤ 18446744073709551615 ∧ (val base (dl base l) ≤ 18446744073709551615 → y = (val base (dl base l) : Int)) := by
  have hl : (dl base l).length = k := by rw [he, List.length_take]; omega
  have hbg : big = decide (18446744073709551615 < val base (dl base l)) := by
    rw [he]
    cases big with
    | true => exact (decide_eq_true (hb rfl)).symm
    | false =>
        have := hx rfl
        exact (decide_eq_false (by omega)).symm
  refine ⟨x, by rw [← hbg, hl], h0, h1, fun h => ?_⟩
  cases big with
  | true => have := hb rfl; rw [he] at h; omega
  | false => rw [he]; exact hx rfl

set_option maxRecDepth 100000 in
set_option maxHeartbeats 2000000 in
theorem r4digits_any (s : ByteArray) (hs : s.size ≤ maxLen) (a base : Nat) (ha : a ≤ s.size) (hbase : base = 10 ∨ base = 16) (w : World) :
    Calls Tryd.prog 55 #[.string s, .int .i64 a, .int .i64 base] w fun e w' => (∃ x : Int, e = .returned (.tuple #[.int .u64 x, .bool (decide (18446744073709551615 < val base (dl base (s.data.toList.drop a)))), .int .i64 ((dl base (s.data.toList.drop a)).length : Int)])
      ∧ 0 ≤ x ∧ x ≤ 18446744073709551615 ∧ (val base (dl base (s.data.toList.drop a)) ≤ 18446744073709551615 → x = (val base (dl base (s.data.toList.drop a)) : Int))) ∧ w' = w := by
  unfold maxLen at hs
  have hdg : ∀ c : Nat, c < 256 → ∀ w, Calls Tryd.prog 65 #[.int .u8 c, .int .i64 base] w fun e w' => e = .returned (.int .i64 (rdig c base)) ∧ w' = w := fun c hc w => r4digit_any c base hc hbase w
  obtain ⟨B, hB, hB1, hB2⟩ : ∃ B : Int, (base : Int) = B ∧ 10 ≤ B ∧ B ≤ 16 := ⟨_, rfl, by omega, by omega⟩
  have hb1 : 1 ≤ base := by omega
  have hb16 : base ≤ 16 := by omega
  have HBASE : Hid (base = 10 ∨ base = 16) := hbase
  have HB : Hid ((base : Int) = B) := hB
  rw [hB] at hdg ⊢
  clear hbase hB
  go_enter Tryd.func55, Tryd.ntmps55
  go_wp2
  go_loop [9, 10, 11] (fun n g i => ∃ (k : Nat) (x : Int) (big : Bool), a + k ≤ s.size ∧ 0 ≤ x ∧ x ≤ 18446744073709551615 ∧ n = .int .u64 x ∧ g = .bool big ∧ i = .int .i64 k ∧ Hid (∀ j, (h : a + j < s.size) → j < k → dig s[a + j].toNat < base)
    ∧ Hid (big = true → 18446744073709551615 < val base ((s.data.toList.drop a).take k)) ∧ Hid (big = false → x = (val base ((s.data.toList.drop a).take k) : Int))) (fun _ _ i => s.size - (a + (intOf i).toNat))
  case atStart => exact ⟨0, 0, false, by omega, by omega, by omega, rfl, rfl, rfl, fun j h hj => (by omega), fun h => (by cases h), fun _ => rfl⟩
  case round =>
    obtain ⟨k, x, big, hk, hx0, hx1, rfl, rfl, rfl, HK, HBG, HX⟩ := hrel
    by_cases hlt : a + k < s.size
    · have hd := hdg s[a + k].toNat s[a + k].toNat_lt
      by_cases hdd : dig s[a + k].toNat < base
      · rw [rdig_some hdd] at hd
        obtain ⟨d, hde⟩ : ∃ d : Int, (dig s[a + k].toNat : Int) = d := ⟨_, rfl⟩
        rw [hde] at hd
        have hd0 : 0 ≤ d := by omega
        have hd1 : d ≤ 15 := by omega
        have HDE : Hid ((dig s[a + k].toNat : Int) = d) := hde
        have HK' : Hid (∀ j, (h : a + j < s.size) → j < k + 1 → dig s[a + j].toNat < base) := fun j h hj => if e : j = k then by subst e; exact hdd else HK.out j h (by omega)
        have HS : Hid (val base ((s.data.toList.drop a).take (k + 1)) = val base ((s.data.toList.drop a).take k) * base + dig s[a + k].toNat) := by
          show _ = _
          rw [take_drop_snoc s a k hlt, val_snoc]
        have hover := over_iff (n := val base ((s.data.toList.drop a).take k)) (d := dig s[a + k].toNat) hb1 (dig_le _)
        clear hde hdd HK
        by_cases hgt : (18446744073709551615 - d) / B < x
        · have HBG' : Hid (18446744073709551615 < val base ((s.data.toList.drop a).take (k + 1))) := by
            show _ < _
            rw [HS.out]
            cases big with
            | true =>
                have h1 := HBG.out rfl
                have : val base ((s.data.toList.drop a).take k) * 1 ≤ val base ((s.data.toList.drop a).take k) * base := Nat.mul_le_mul_left _ hb1
                omega
            | false =>
                refine hover.1 ?_
                have h1 := HX.out rfl
                rw [h1, ← HB.out, ← HDE.out] at hgt
                have h3 : ((18446744073709551615 - dig s[a + k].toNat : Nat) : Int) = 18446744073709551615 - (dig s[a + k].toNat : Int) := by have := dig_le s[a + k].toNat; omega
                rw [← h3] at hgt
                exact_mod_cast hgt
          clear hover HBG HX HS hdg
          go_wp2_with (go_at_call 65; refine (hd _).mono ?_; rintro e w' ⟨rfl, hw'⟩; replace hw' := hw'.symm; subst hw')
          go_round
          case rel => exact ⟨k + 1, _, true, by omega, by rw [IntKind.wrap_u64]; omega, by rw [IntKind.wrap_u64]; omega, rfl, rfl, by go_num, HK', fun _ => HBG'.out, fun h => (by cases h)⟩
          case measure => simp [intOf]; omega
        · cases big with
          | true =>
              have HBG' : Hid (18446744073709551615 < val base ((s.data.toList.drop a).take (k + 1))) := by
                show _ < _
                rw [HS.out]
                have h1 := HBG.out rfl
                have : val base ((s.data.toList.drop a).take k) * 1 ≤ val base ((s.data.toList.drop a).take k) * base := Nat.mul_le_mul_left _ hb1
                omega
              clear hover HBG HX HS hdg
              go_wp2_with (go_at_call 65; refine (hd _).mono ?_; rintro e w' ⟨rfl, hw'⟩; replace hw' := hw'.symm; subst hw')
              go_round
              case rel => exact ⟨k + 1, _, true, by omega, by rw [IntKind.wrap_u64]; omega, by rw [IntKind.wrap_u64]; omega, rfl, rfl, by go_num, HK', fun _ => HBG'.out, fun h => (by cases h)⟩
              case measure => simp [intOf]; omega
          | false =>
              have h1 := HX.out rfl
              have hle : val base ((s.data.toList.drop a).take k) * base + dig s[a + k].toNat ≤ 18446744073709551615 := by
                refine Nat.le_of_not_lt fun h => hgt ?_
                have h2 := hover.2 h
                rw [h1, ← HB.out, ← HDE.out]
                have h3 : ((18446744073709551615 - dig s[a + k].toNat : Nat) : Int) = 18446744073709551615 - (dig s[a + k].toNat : Int) := by have := dig_le s[a + k].toNat; omega
                rw [← h3]
                exact_mod_cast h2
              have HV : Hid (x * B + d = (val base ((s.data.toList.drop a).take (k + 1)) : Int)) := by
                show x * B + d = _
                rw [HS.out, h1, ← HB.out, ← HDE.out, Int.natCast_add, Int.natCast_mul]
              have hsum : x * B + d ≤ 18446744073709551615 := by rw [HV.out, HS.out]; omega
              have hm0 : 0 ≤ x * B := Int.mul_nonneg hx0 (by omega)
              have hm1 : x * B ≤ 18446744073709551615 := by omega
              clear hover HBG HX HS hdg h1 hle
              go_wp2_with (go_at_call 65; refine (hd _).mono ?_; rintro e w' ⟨rfl, hw'⟩; replace hw' := hw'.symm; subst hw')
              go_round
              case rel => exact ⟨k + 1, x * B + d, false, by omega, by omega, by omega, rfl, rfl, by go_num, HK', fun h => (by cases h), fun _ => HV.out⟩
              case measure => simp [intOf]; omega
      · rw [rdig_none hdd] at hd
        have HE : Hid (dl base (s.data.toList.drop a) = (s.data.toList.drop a).take k) := dl_take s a base k hk HK.out (fun _ => hdd)
        clear hdg hdd HK
        go_wp2_with (go_at_call 65; refine (hd _).mono ?_; rintro e w' ⟨rfl, hw'⟩; replace hw' := hw'.symm; subst hw')
        go_ret3
        exact ⟨dg_end HE.out (by have := sizeL s; rw [List.length_drop]; omega) hx0 hx1 HBG.out HX.out, rfl⟩
    · have HE : Hid (dl base (s.data.toList.drop a) = (s.data.toList.drop a).take k) := dl_take s a base k hk HK.out (fun h => absurd h hlt)
      clear hdg HK
      go_wp2
      go_ret3
      exact ⟨dg_end HE.out (by have := sizeL s; rw [List.length_drop]; omega) hx0 hx1 HBG.out HX.out, rfl⟩
end Go.Proofs.YtopnbemodlcknaaDoor.Lx
/- The reference's Next. -/
namespace Go.Proofs.YtopnbemodlcknaaDoor.Lx
open Go.RowKit M
set_option linter.unusedSimpArgs false
set_option linter.unusedVariables false

/-- digits' contract, as a caller takes it. -/
def DgK (s : ByteArray) (bi : Int) (bs : Int) (v K : Nat) : Prop := ∀ w, Calls Tryd.prog 55 #[.string s, .int .i64 bi, .int .i64 bs] w fun e w' => (∃ x : Int, e = .returned (.tuple #[.int .u64 x, .bool (decide (18446744073709551615 < v)), .int .i64 (K : Int)])
      ∧ 0 ≤ x ∧ x ≤ 18446744073709551615 ∧ Hid (v ≤ 18446744073709551615 → x = (v : Int))) ∧ w' = w
theorem dgK (s : ByteArray) (hs : s.size ≤ maxLen) (b base : Nat) (bi bs : Int) (hbi : bi = (b : Int)) (hbs : bs = (base : Int)) (hb : b ≤ s.size) (hbase : base = 10 ∨ base = 16) :
    DgK s bi bs (val base (dl base (s.data.toList.drop b))) (dl base (s.data.toList.drop b)).length := fun w => by
  rw [hbi, hbs]
  exact (r4digits_any s hs b base hb hbase w).mono fun e w' ⟨⟨x, h1, h2, h3, h4⟩, h5⟩ => ⟨⟨x, h1, h2, h3, h4⟩, h5⟩

theorem minusB_at {s : ByteArray} {a : Nat} (h : a < s.size) : minusB (s.data.toList.drop a) = (s[a].toNat == 45) := by
  rw [List.drop_eq_getElem_cons (by simpa using h)]; rfl
theorem minusB_end {s : ByteArray} {a : Nat} (h : s.size ≤ a) : minusB (s.data.toList.drop a) = false := by
  rw [List.drop_eq_nil_of_le (by simpa using h)]; rfl
theorem markB_at {s : ByteArray} {b : Nat} (h : b + 1 < s.size) : markB (s.data.toList.drop b) = (s[b].toNat == 48 && (s[b + 1].toNat == 120 || s[b + 1].toNat == 88)) := by
  rw [List.drop_eq_getElem_cons (by simp; omega), List.drop_eq_getElem_cons (by simp; omega)]; rfl
theorem markB_end {s : ByteArray} {b : Nat} (h : s.size ≤ b + 1) : markB (s.data.toList.drop b) = false := by
  have hl := sizeL s
  cases e : s.data.toList.drop b with
  | nil => rfl
  | cons x r =>
      cases r with
      | nil => rfl
      | cons y r =>
          have := congrArg List.length e
          rw [List.length_drop] at this
          simp at this
          omega
theorem dl10_pos {s : ByteArray} {b : Nat} (hb : b ≤ s.size) (h : (dl 10 (s.data.toList.drop b)).length ≠ 0) : b < s.size := by
  have hl := sizeL s
  refine Nat.lt_of_not_le fun h2 => h ?_
  rw [List.drop_eq_nil_of_le (by omega)]; rfl
theorem dl10_mark {l : List UInt8} (h : markB l = true) : (dl 10 l).length ≠ 0 := by
  match l, h with
  | a :: b :: r, h =>
      have h48 : a.toNat = 48 := by simp [markB] at h; exact h.1
      have : isD 10 a = true := by unfold isD; rw [h48]; rfl
      unfold dl
      rw [List.takeWhile_cons, if_pos this]; simp

theorem ret3_eq {a b c v : Int} {n e : Nat} (ha : a = v) (hb : b = (n : Int)) (hc : c = (e : Int)) : Ending.returned (.tuple #[.int .i64 a, .int .i64 b, .int .i64 c]) = .returned (nextV (v, n, e)) := by rw [ha, hb, hc]; rfl
/-- The three ends: too big, or its value. -/
theorem nNum_big {m : Bool} {v n : Nat} (h : 18446744073709551615 < v ∨ (m = true ∧ 9223372036854775808 < v)) : nNum n (valF m v) = (0, 0, 41) := by unfold valF; rw [if_pos h]; rfl
theorem nNum_neg {v n : Nat} (h : v ≤ 9223372036854775808) : nNum n (valF true v) = (-(v : Int), n, 0) := by unfold valF; rw [if_neg (by simp; omega)]; rfl
theorem nNum_pos {v n : Nat} (h : v ≤ 18446744073709551615) : nNum n (valF false v) = (if (v : Int) ≤ 9223372036854775807 then (v : Int) else (v : Int) - 18446744073709551616, n, 0) := by
  unfold valF; rw [if_neg (by simp; omega)]; rfl
theorem wrap_un {x : Int} (h0 : 0 ≤ x) (h1 : x ≤ 9223372036854775808) : wrap64 (IntKind.u64.wrap (-x)) = -x := by rw [IntKind.wrap_u64]; unfold wrap64; omega

theorem nextO_none {l : List UInt8} (h : (dl 10 (l.drop (sgn l))).length = 0) : nextO l = (0, 0, 40) := by
  have h0 : dl 10 (l.drop (sgn l)) = [] := List.eq_nil_of_length_eq_zero h
  have hF := digF_plain (l := l) (fun hh => dl10_mark hh.1 h)
  unfold nextO
  rw [if_pos (hF.1.trans h0)]
theorem nextO_ten {l : List UInt8} (h : (dl 10 (l.drop (sgn l))).length ≠ 0) (hp : ¬ (markB (l.drop (sgn l)) = true ∧ dl 16 ((l.drop (sgn l)).drop 2) ≠ [])) :
    nextO l = nNum (sgn l + (dl 10 (l.drop (sgn l))).length) (valF (minusB l) (val 10 (dl 10 (l.drop (sgn l))))) := by
  have hF := digF_plain hp
  unfold nextO numF
  rw [if_neg (by rw [hF.1]; exact fun e => h (by rw [e]; rfl)), hF.2.1, hF.2.2, hF.1]
theorem nextO_hex {l : List UInt8} (hq : markB (l.drop (sgn l)) = true) (hn : (dl 16 ((l.drop (sgn l)).drop 2)).length ≠ 0) :
    nextO l = nNum (sgn l + 2 + (dl 16 ((l.drop (sgn l)).drop 2)).length) (valF (minusB l) (val 16 (dl 16 ((l.drop (sgn l)).drop 2)))) := by
  have hn' : dl 16 ((l.drop (sgn l)).drop 2) ≠ [] := fun e => hn (by rw [e]; rfl)
  have hF := digF_mark hq hn'
  unfold nextO numF
  rw [if_neg (by rw [hF.1]; exact hn'), hF.2.1, hF.2.2, hF.1]

set_option maxRecDepth 100000 in
set_option maxHeartbeats 8000000 in
theorem rnext_any (s : ByteArray) (hs : s.size ≤ maxLen) (at' : Int) (w : World) :
    Calls Tryd.prog 43 #[.string s, .int .i64 at'] w fun e w' => e = .returned (nextV (nextA s at')) ∧ w' = w := by
  have hs' := hs
  unfold maxLen at hs'
  by_cases h1 : at' < 0
  · go_enter Tryd.func43, Tryd.ntmps43
    go_wp2
    go_ret3
    exact ⟨by unfold nextA; rw [if_pos (Or.inl h1)]; rfl, rfl⟩
  by_cases h2 : (s.size : Int) < at'
  · go_enter Tryd.func43, Tryd.ntmps43
    go_wp2
    go_ret3
    exact ⟨by unfold nextA; rw [if_pos (Or.inr h2)]; rfl, rfl⟩
  obtain ⟨a, rfl⟩ : ∃ a : Nat, at' = a := ⟨at'.toNat, by omega⟩
  have ha : a ≤ s.size := by omega
  have hN : nextA s (a : Int) = nextO (s.data.toList.drop a) := by unfold nextA; rw [if_neg (by omega)]; rfl
  rw [hN]
  clear hN
  have hmz : minusB (s.data.toList.drop a) = true ∨ minusB (s.data.toList.drop a) = false := by cases minusB (s.data.toList.drop a) <;> simp
  rcases hmz with hm | hm
  · -- the sign is there
    have hsg : sgn (s.data.toList.drop a) = 1 := by unfold sgn; rw [hm]; rfl
    have hal : a < s.size := Nat.lt_of_not_le fun h => by rw [minusB_end h] at hm; cases hm
    have hi : (a : Int) < s.size := by omega
    have h45 : ((s[a].toNat : Int) == 45) = true := by rw [minusB_at hal] at hm; simp at hm ⊢; omega
    have hsign : True := trivial
    have hd10' := dgK s hs (a + 1) 10 ((a : Int) + 1) 10 (by omega) rfl (by omega) (Or.inl rfl)
    have hdr : (s.data.toList.drop a).drop (sgn (s.data.toList.drop a)) = s.data.toList.drop (a + 1) := by rw [hsg, List.drop_drop]
    have HN0 : Hid ((dl 10 (s.data.toList.drop (a + 1))).length = 0 → nextO (s.data.toList.drop a) = (0, 0, 40)) := fun h => nextO_none (by rw [hdr]; exact h)
    have HN1 : Hid ((dl 10 (s.data.toList.drop (a + 1))).length ≠ 0 → ¬ (markB (s.data.toList.drop (a + 1)) = true ∧ dl 16 (s.data.toList.drop (a + 3)) ≠ []) → nextO (s.data.toList.drop a) = nNum (1 + (dl 10 (s.data.toList.drop (a + 1))).length) (valF true (val 10 (dl 10 (s.data.toList.drop (a + 1)))))) := fun h h2 => by
      have h3 := nextO_ten (l := s.data.toList.drop a) (by rw [hdr]; exact h) (by rw [hdr, List.drop_drop]; exact h2)
      rw [hdr, hsg, hm] at h3; exact h3
    have HN2 : Hid (markB (s.data.toList.drop (a + 1)) = true → (dl 16 (s.data.toList.drop (a + 3))).length ≠ 0 → nextO (s.data.toList.drop a) = nNum (3 + (dl 16 (s.data.toList.drop (a + 3))).length) (valF true (val 16 (dl 16 (s.data.toList.drop (a + 3)))))) := fun h h2 => by
      have h3 := nextO_hex (l := s.data.toList.drop a) (by rw [hdr]; exact h) (by rw [hdr, List.drop_drop]; exact h2)
      rw [hdr, hsg, hm, List.drop_drop] at h3; exact h3
    obtain ⟨v, hv⟩ : ∃ v, val 10 (dl 10 (s.data.toList.drop (a + 1))) = v := ⟨_, rfl⟩
    obtain ⟨K, hK⟩ : ∃ K, (dl 10 (s.data.toList.drop (a + 1))).length = K := ⟨_, rfl⟩
    have hKl : K ≤ s.size - (a + 1) := by rw [← hK]; have := dl_len 10 (s.data.toList.drop (a + 1)); rw [List.length_drop, ← sizeL] at this; exact this
    have hpos : K ≠ 0 → a + 1 < s.size := fun h => dl10_pos (by omega) (by rw [hK]; exact h)
    rw [hv, hK] at hd10'
    rw [hv, hK] at HN1
    rw [hK] at HN0
    have hd10 : DgK s ((a : Int) + 1) 10 v K := hd10'
    clear hd10' hv hK hdr hsg hm
    have t10 : True := trivial
    by_cases hK0 : K = 0
    · have HR : Hid (nextO (s.data.toList.drop a) = (0, 0, 40)) := HN0.out hK0
      subst hK0
      clear HN0 HN1 HN2 hpos
      go_enter Tryd.func43, Tryd.ntmps43
      go_wp2_with (first
        | (have := t10; go_at_call 55; refine (hd10 _).mono ?_; clear t10 this; rintro e w' ⟨⟨x, rfl, hx0, hx1, HX⟩, hw'⟩; replace hw' := hw'.symm; subst hw')
        | (have := t16; go_at_call 55; refine (hd16 _).mono ?_; clear t16 this; rintro e w' ⟨⟨y, rfl, hy0, hy1, HY⟩, hw'⟩; replace hw' := hw'.symm; subst hw'))
      go_ret3
      exact ⟨by rw [HR.out]; rfl, rfl⟩
    have hbl : a + 1 < s.size := hpos hK0
    have hk0 : ((K : Int) == 0) = false := by simp; omega
    have HK0 : Hid (K ≠ 0) := hK0
    clear hsign HN0 hpos hK0
    have hcs : (markB (s.data.toList.drop (a + 1)) = false ∧ (((s[a + 1].toNat : Int) == 48) = false ∨ (((s[a + 1].toNat : Int) == 48) = true ∧ ¬ (a : Int) + 2 < (s.size : Int)) ∨ (((s[a + 1].toNat : Int) == 48) = true ∧ ∃ h : a + 2 < s.size, ((s[a + 2].toNat : Int) == 120) = false ∧ ((s[a + 2].toNat : Int) == 88) = false)))
        ∨ (markB (s.data.toList.drop (a + 1)) = true ∧ ((s[a + 1].toNat : Int) == 48) = true ∧ ∃ h : a + 2 < s.size, (((s[a + 2].toNat : Int) == 120) = true ∨ (((s[a + 2].toNat : Int) == 120) = false ∧ ((s[a + 2].toNat : Int) == 88) = true))) := by
      by_cases hl : a + 2 < s.size
      · have hmk := markB_at (s := s) (b := a + 1) (by omega)
        by_cases e48 : s[a + 1].toNat = 48
        · by_cases ex : s[a + 2].toNat = 120
          · right; refine ⟨by rw [hmk]; simp [e48, ex], by simp [e48], hl, Or.inl (by simp [ex])⟩
          · by_cases eX : s[a + 2].toNat = 88
            · right; refine ⟨by rw [hmk]; simp [e48, eX], by simp [e48], hl, Or.inr ⟨by simp; omega, by simp [eX]⟩⟩
            · left; refine ⟨by rw [hmk]; simp [ex, eX], Or.inr (Or.inr ⟨by simp [e48], hl, by simp; omega, by simp; omega⟩)⟩
        · left; refine ⟨by rw [hmk]; simp [e48], Or.inl (by simp; omega)⟩
      · left; refine ⟨markB_end (by omega), ?_⟩
        by_cases e48 : s[a + 1].toNat = 48
        · right; left; exact ⟨by simp [e48], by omega⟩
        · left; simp; omega
    rcases hcs with ⟨hmk, hcs⟩ | ⟨hmk, h48, hl, hcs⟩
    · -- no mark
      have HR : Hid (nextO (s.data.toList.drop a) = nNum (1 + K) (valF true v)) := HN1.out HK0.out (fun h => by rw [hmk] at h; cases h.1)
      clear HN1 HN2 hmk
      by_cases hbig : 18446744073709551615 < v
      · have HRB : Hid (nextO (s.data.toList.drop a) = (0, 0, 41)) := HR.out.trans (nNum_big (Or.inl hbig))
        have hdb : decide (18446744073709551615 < v) = true := decide_eq_true hbig
        rw [DgK, hdb] at hd10
        clear HR hbig hdb
        rcases hcs with h48 | ⟨h48, hl⟩ | ⟨h48, hl, hx, hX⟩
        all_goals
          go_enter Tryd.func43, Tryd.ntmps43
          go_wp2_with (first
            | (have := t10; go_at_call 55; refine (hd10 _).mono ?_; clear t10 this; rintro e w' ⟨⟨x, rfl, hx0, hx1, HX⟩, hw'⟩; replace hw' := hw'.symm; subst hw'))
          go_ret3
          exact ⟨by rw [HRB.out]; rfl, rfl⟩
      · have hdb : decide (18446744073709551615 < v) = false := decide_eq_false hbig
        rw [DgK, hdb] at hd10
        have HNB : Hid (v ≤ 18446744073709551615) := Nat.le_of_not_lt hbig
        clear hbig hdb
        rcases hcs with h48 | ⟨h48, hl⟩ | ⟨h48, hl, hx, hX⟩
        all_goals
          go_enter Tryd.func43, Tryd.ntmps43
          go_wp2_with (first
            | (have := t10; go_at_call 55; refine (hd10 _).mono ?_; clear t10 this; rintro e w' ⟨⟨x, rfl, hx0, hx1, HX⟩, hw'⟩; replace hw' := hw'.symm; subst hw'; refine Hid.out ?_))
          refine Lib.hid ?_
          have hxv := HX.out HNB.out
          by_cases hneg : 9223372036854775808 < x
          · have HRB : Hid (nextO (s.data.toList.drop a) = (0, 0, 41)) := HR.out.trans (nNum_big (Or.inr ⟨rfl, by omega⟩))
            clear hxv
            go_wp2
            go_ret3
            exact ⟨by rw [HRB.out]; rfl, rfl⟩
          · have hneg' : x ≤ 9223372036854775808 := by omega
            have HRB : Hid (nextO (s.data.toList.drop a) = (-x, 1 + K, 0)) := by show nextO _ = _; rw [HR.out, nNum_neg (by omega), hxv]
            clear hxv
            go_wp2
            go_ret3
            exact ⟨by rw [HRB.out]; exact ret3_eq (wrap_un ‹0 ≤ x› hneg') (by omega) rfl, rfl⟩
    · -- a mark
      have hd16' := dgK s hs (a + 3) 16 ((a : Int) + 3) 16 (by omega) rfl (by omega) (Or.inr rfl)
      have HM : Hid (markB (s.data.toList.drop (a + 1)) = true) := hmk
      have HN2' := HN2.out hmk
      have HN1' : dl 16 (s.data.toList.drop (a + 3)) = [] → nextO (s.data.toList.drop a) = nNum (1 + K) (valF true v) := fun h => HN1.out HK0.out (fun h2 => h2.2 h)
      have hK2l : (dl 16 (s.data.toList.drop (a + 3))).length ≤ s.size - (a + 3) := by have := dl_len 16 (s.data.toList.drop (a + 3)); rw [List.length_drop, ← sizeL] at this; exact this
      have hnil : (dl 16 (s.data.toList.drop (a + 3))).length = 0 → dl 16 (s.data.toList.drop (a + 3)) = [] := List.eq_nil_of_length_eq_zero
      obtain ⟨v2, hv2⟩ : ∃ v2, val 16 (dl 16 (s.data.toList.drop (a + 3))) = v2 := ⟨_, rfl⟩
      obtain ⟨K2, hK2⟩ : ∃ K2, (dl 16 (s.data.toList.drop (a + 3))).length = K2 := ⟨_, rfl⟩
      rw [hv2, hK2] at hd16' HN2'
      rw [hK2] at hK2l hnil
      have hd16 : DgK s ((a : Int) + 3) 16 v2 K2 := hd16'
      have HNil : Hid (K2 = 0 → dl 16 (s.data.toList.drop (a + 3)) = []) := hnil
      have t16 : True := trivial
      clear hd16' hv2 hK2 hnil hmk HN1 HN2
      by_cases hk2 : K2 = 0
      · have HR : Hid (nextO (s.data.toList.drop a) = nNum (1 + K) (valF true v)) := HN1' (HNil.out hk2)
        subst hk2
        clear HN1' HN2' HNil
        by_cases hbig : 18446744073709551615 < v
        · have HRB : Hid (nextO (s.data.toList.drop a) = (0, 0, 41)) := HR.out.trans (nNum_big (Or.inl hbig))
          have hdb : decide (18446744073709551615 < v) = true := decide_eq_true hbig
          rw [DgK, hdb] at hd10
          clear HR hbig hdb
          rcases hcs with hx | ⟨hx, hX⟩
          all_goals
            go_enter Tryd.func43, Tryd.ntmps43
            go_wp2_with (first
              | (have := t10; go_at_call 55; refine (hd10 _).mono ?_; clear t10 this; rintro e w' ⟨⟨x, rfl, hx0, hx1, HX⟩, hw'⟩; replace hw' := hw'.symm; subst hw')
              | (have := t16; go_at_call 55; refine (hd16 _).mono ?_; clear t16 this; rintro e w' ⟨⟨y, rfl, hy0, hy1, HY⟩, hw'⟩; replace hw' := hw'.symm; subst hw'))
            go_ret3
            exact ⟨by rw [HRB.out]; rfl, rfl⟩
        · have hdb : decide (18446744073709551615 < v) = false := decide_eq_false hbig
          rw [DgK, hdb] at hd10
          have HNB : Hid (v ≤ 18446744073709551615) := Nat.le_of_not_lt hbig
          clear hbig hdb
          rcases hcs with hx | ⟨hx, hX⟩
          all_goals
            go_enter Tryd.func43, Tryd.ntmps43
            go_wp2_with (first
              | (have := t10; go_at_call 55; refine (hd10 _).mono ?_; clear t10 this; rintro e w' ⟨⟨x, rfl, hx0, hx1, HX⟩, hw'⟩; replace hw' := hw'.symm; subst hw'; refine Hid.out ?_))
            refine Lib.hid ?_
            have hxv := HX.out HNB.out
            by_cases hneg : 9223372036854775808 < x
            · have HRB : Hid (nextO (s.data.toList.drop a) = (0, 0, 41)) := HR.out.trans (nNum_big (Or.inr ⟨rfl, by omega⟩))
              clear hxv
              go_wp2_with (go_at_call 55; refine (hd16 _).mono ?_; clear t16; rintro e w' ⟨⟨y, rfl, hy0, hy1, HY⟩, hw'⟩; replace hw' := hw'.symm; subst hw')
              go_ret3
              exact ⟨by rw [HRB.out]; rfl, rfl⟩
            · have hneg' : x ≤ 9223372036854775808 := by omega
              have HRB : Hid (nextO (s.data.toList.drop a) = (-x, 1 + K, 0)) := by show nextO _ = _; rw [HR.out, nNum_neg (by omega), hxv]
              clear hxv
              go_wp2_with (go_at_call 55; refine (hd16 _).mono ?_; clear t16; rintro e w' ⟨⟨y, rfl, hy0, hy1, HY⟩, hw'⟩; replace hw' := hw'.symm; subst hw')
              go_ret3
              exact ⟨by rw [HRB.out]; exact ret3_eq (wrap_un ‹0 ≤ x› hneg') (by omega) rfl, rfl⟩
      · have HR : Hid (nextO (s.data.toList.drop a) = nNum (3 + K2) (valF true v2)) := HN2' hk2
        have hk2i : (0 : Int) < K2 := by omega
        clear HN1' HN2' HNil hk2
        by_cases hbig : 18446744073709551615 < v2
        · have HRB : Hid (nextO (s.data.toList.drop a) = (0, 0, 41)) := HR.out.trans (nNum_big (Or.inl hbig))
          have hdb : decide (18446744073709551615 < v2) = true := decide_eq_true hbig
          rw [DgK, hdb] at hd16
          clear HR hbig hdb
          rcases hcs with hx | ⟨hx, hX⟩
          all_goals
            go_enter Tryd.func43, Tryd.ntmps43
            go_wp2_with (first
              | (have := t10; go_at_call 55; refine (hd10 _).mono ?_; clear t10 this; rintro e w' ⟨⟨x, rfl, hx0, hx1, HX⟩, hw'⟩; replace hw' := hw'.symm; subst hw')
              | (have := t16; go_at_call 55; refine (hd16 _).mono ?_; clear t16 this; rintro e w' ⟨⟨y, rfl, hy0, hy1, HY⟩, hw'⟩; replace hw' := hw'.symm; subst hw'))
            go_ret3
            exact ⟨by rw [HRB.out]; rfl, rfl⟩
        · have hdb : decide (18446744073709551615 < v2) = false := decide_eq_false hbig
          rw [DgK, hdb] at hd16
          have HNB : Hid (v2 ≤ 18446744073709551615) := Nat.le_of_not_lt hbig
          clear hbig hdb
          rcases hcs with hx | ⟨hx, hX⟩
          all_goals
            go_enter Tryd.func43, Tryd.ntmps43
            go_wp2_with (first
              | (have := t10; go_at_call 55; refine (hd10 _).mono ?_; clear t10 this; rintro e w' ⟨⟨x, rfl, hx0, hx1, HX⟩, hw'⟩; replace hw' := hw'.symm; subst hw')
              | (have := t16; go_at_call 55; refine (hd16 _).mono ?_; clear t16 this; rintro e w' ⟨⟨y, rfl, hy0, hy1, HY⟩, hw'⟩; replace hw' := hw'.symm; subst hw'; refine Hid.out ?_))
            refine Lib.hid ?_
            have hxv := HY.out HNB.out
            by_cases hneg : 9223372036854775808 < y
            · have HRB : Hid (nextO (s.data.toList.drop a) = (0, 0, 41)) := HR.out.trans (nNum_big (Or.inr ⟨rfl, by omega⟩))
              clear hxv
              go_wp2
              go_ret3
              exact ⟨by rw [HRB.out]; rfl, rfl⟩
            · have hneg' : y ≤ 9223372036854775808 := by omega
              have HRB : Hid (nextO (s.data.toList.drop a) = (-y, 3 + K2, 0)) := by show nextO _ = _; rw [HR.out, nNum_neg (by omega), hxv]
              clear hxv
              go_wp2
              go_ret3
              exact ⟨by rw [HRB.out]; exact ret3_eq (wrap_un ‹0 ≤ y› hneg') (by omega) rfl, rfl⟩
  · -- the sign is not there
    have hsg : sgn (s.data.toList.drop a) = 0 := by unfold sgn; rw [hm]; rfl
    have hsign : ((a : Int) < s.size ∧ ∃ h : a < s.size, ((s[a].toNat : Int) == 45) = false) ∨ ¬ (a : Int) < s.size := by
      by_cases hal : a < s.size
      · left; refine ⟨by omega, hal, ?_⟩
        rw [minusB_at hal] at hm; simp at hm ⊢; omega
      · right; omega
    have hd10' := dgK s hs (a) 10 ((a : Int)) 10 (by omega) rfl (by omega) (Or.inl rfl)
    have hdr : (s.data.toList.drop a).drop (sgn (s.data.toList.drop a)) = s.data.toList.drop (a) := by rw [hsg, List.drop_drop]; rfl
    have HN0 : Hid ((dl 10 (s.data.toList.drop (a))).length = 0 → nextO (s.data.toList.drop a) = (0, 0, 40)) := fun h => nextO_none (by rw [hdr]; exact h)
    have HN1 : Hid ((dl 10 (s.data.toList.drop (a))).length ≠ 0 → ¬ (markB (s.data.toList.drop (a)) = true ∧ dl 16 (s.data.toList.drop (a + 2)) ≠ []) → nextO (s.data.toList.drop a) = nNum (0 + (dl 10 (s.data.toList.drop (a))).length) (valF false (val 10 (dl 10 (s.data.toList.drop (a)))))) := fun h h2 => by
      have h3 := nextO_ten (l := s.data.toList.drop a) (by rw [hdr]; exact h) (by rw [hdr, List.drop_drop]; exact h2)
      rw [hdr, hsg, hm] at h3; exact h3
    have HN2 : Hid (markB (s.data.toList.drop (a)) = true → (dl 16 (s.data.toList.drop (a + 2))).length ≠ 0 → nextO (s.data.toList.drop a) = nNum (2 + (dl 16 (s.data.toList.drop (a + 2))).length) (valF false (val 16 (dl 16 (s.data.toList.drop (a + 2)))))) := fun h h2 => by
      have h3 := nextO_hex (l := s.data.toList.drop a) (by rw [hdr]; exact h) (by rw [hdr, List.drop_drop]; exact h2)
      rw [hdr, hsg, hm, List.drop_drop] at h3; exact h3
    obtain ⟨v, hv⟩ : ∃ v, val 10 (dl 10 (s.data.toList.drop (a))) = v := ⟨_, rfl⟩
    obtain ⟨K, hK⟩ : ∃ K, (dl 10 (s.data.toList.drop (a))).length = K := ⟨_, rfl⟩
    have hKl : K ≤ s.size - (a) := by rw [← hK]; have := dl_len 10 (s.data.toList.drop (a)); rw [List.length_drop, ← sizeL] at this; exact this
    have hpos : K ≠ 0 → a < s.size := fun h => dl10_pos (by omega) (by rw [hK]; exact h)
    rw [hv, hK] at hd10'
    rw [hv, hK] at HN1
    rw [hK] at HN0
    have hd10 : DgK s ((a : Int)) 10 v K := hd10'
    clear hd10' hv hK hdr hsg hm
    have t10 : True := trivial
    by_cases hK0 : K = 0
    · have HR : Hid (nextO (s.data.toList.drop a) = (0, 0, 40)) := HN0.out hK0
      subst hK0
      clear HN0 HN1 HN2 hpos
      rcases hsign with ⟨hi, hal, h45⟩ | hi
      all_goals
        go_enter Tryd.func43, Tryd.ntmps43
        go_wp2_with (first
          | (have := t10; go_at_call 55; refine (hd10 _).mono ?_; clear t10 this; rintro e w' ⟨⟨x, rfl, hx0, hx1, HX⟩, hw'⟩; replace hw' := hw'.symm; subst hw')
          | (have := t16; go_at_call 55; refine (hd16 _).mono ?_; clear t16 this; rintro e w' ⟨⟨y, rfl, hy0, hy1, HY⟩, hw'⟩; replace hw' := hw'.symm; subst hw'))
        go_ret3
        exact ⟨by rw [HR.out]; rfl, rfl⟩
    have hbl : a < s.size := hpos hK0
    have hk0 : ((K : Int) == 0) = false := by simp; omega
    have HK0 : Hid (K ≠ 0) := hK0
    have hi : (a : Int) < s.size := by omega
    have h45 : ((s[a].toNat : Int) == 45) = false := by
      rcases hsign with ⟨_, _, hh⟩ | hh
      · exact hh
      · exact absurd hi hh
    clear hsign HN0 hpos hK0
    have hcs : (markB (s.data.toList.drop (a)) = false ∧ (((s[a].toNat : Int) == 48) = false ∨ (((s[a].toNat : Int) == 48) = true ∧ ¬ (a : Int) + 1 < (s.size : Int)) ∨ (((s[a].toNat : Int) == 48) = true ∧ ∃ h : a + 1 < s.size, ((s[a + 1].toNat : Int) == 120) = false ∧ ((s[a + 1].toNat : Int) == 88) = false)))
        ∨ (markB (s.data.toList.drop (a)) = true ∧ ((s[a].toNat : Int) == 48) = true ∧ ∃ h : a + 1 < s.size, (((s[a + 1].toNat : Int) == 120) = true ∨ (((s[a + 1].toNat : Int) == 120) = false ∧ ((s[a + 1].toNat : Int) == 88) = true))) := by
      by_cases hl : a + 1 < s.size
      · have hmk := markB_at (s := s) (b := a) (by omega)
        by_cases e48 : s[a].toNat = 48
        · by_cases ex : s[a + 1].toNat = 120
          · right; refine ⟨by rw [hmk]; simp [e48, ex], by simp [e48], hl, Or.inl (by simp [ex])⟩
          · by_cases eX : s[a + 1].toNat = 88
            · right; refine ⟨by rw [hmk]; simp [e48, eX], by simp [e48], hl, Or.inr ⟨by simp; omega, by simp [eX]⟩⟩
            · left; refine ⟨by rw [hmk]; simp [ex, eX], Or.inr (Or.inr ⟨by simp [e48], hl, by simp; omega, by simp; omega⟩)⟩
        · left; refine ⟨by rw [hmk]; simp [e48], Or.inl (by simp; omega)⟩
      · left; refine ⟨markB_end (by omega), ?_⟩
        by_cases e48 : s[a].toNat = 48
        · right; left; exact ⟨by simp [e48], by omega⟩
        · left; simp; omega
    rcases hcs with ⟨hmk, hcs⟩ | ⟨hmk, h48, hl, hcs⟩
    · -- no mark
      have HR : Hid (nextO (s.data.toList.drop a) = nNum (0 + K) (valF false v)) := HN1.out HK0.out (fun h => by rw [hmk] at h; cases h.1)
      clear HN1 HN2 hmk
      by_cases hbig : 18446744073709551615 < v
      · have HRB : Hid (nextO (s.data.toList.drop a) = (0, 0, 41)) := HR.out.trans (nNum_big (Or.inl hbig))
        have hdb : decide (18446744073709551615 < v) = true := decide_eq_true hbig
        rw [DgK, hdb] at hd10
        clear HR hbig hdb
        rcases hcs with h48 | ⟨h48, hl⟩ | ⟨h48, hl, hx, hX⟩
        all_goals
          go_enter Tryd.func43, Tryd.ntmps43
          go_wp2_with (first
            | (have := t10; go_at_call 55; refine (hd10 _).mono ?_; clear t10 this; rintro e w' ⟨⟨x, rfl, hx0, hx1, HX⟩, hw'⟩; replace hw' := hw'.symm; subst hw'))
          go_ret3
          exact ⟨by rw [HRB.out]; rfl, rfl⟩
      · have hdb : decide (18446744073709551615 < v) = false := decide_eq_false hbig
        rw [DgK, hdb] at hd10
        have HNB : Hid (v ≤ 18446744073709551615) := Nat.le_of_not_lt hbig
        clear hbig hdb
        rcases hcs with h48 | ⟨h48, hl⟩ | ⟨h48, hl, hx, hX⟩
        all_goals
          go_enter Tryd.func43, Tryd.ntmps43
          go_wp2_with (first
            | (have := t10; go_at_call 55; refine (hd10 _).mono ?_; clear t10 this; rintro e w' ⟨⟨x, rfl, hx0, hx1, HX⟩, hw'⟩; replace hw' := hw'.symm; subst hw'; refine Hid.out ?_))
          refine Lib.hid ?_
          have hxv := HX.out HNB.out
          have HRB : Hid (nextO (s.data.toList.drop a) = (if x ≤ 9223372036854775807 then x else x - 18446744073709551616, 0 + K, 0)) := by show nextO _ = _; rw [HR.out, nNum_pos HNB.out, hxv]
          clear hxv
          go_wp2
          go_ret3
          exact ⟨by rw [HRB.out]; exact ret3_eq (wrap_pos ‹0 ≤ x› ‹x ≤ 18446744073709551615›) (by omega) rfl, rfl⟩
    · -- a mark
      have hd16' := dgK s hs (a + 2) 16 ((a : Int) + 2) 16 (by omega) rfl (by omega) (Or.inr rfl)
      have HM : Hid (markB (s.data.toList.drop (a)) = true) := hmk
      have HN2' := HN2.out hmk
      have HN1' : dl 16 (s.data.toList.drop (a + 2)) = [] → nextO (s.data.toList.drop a) = nNum (0 + K) (valF false v) := fun h => HN1.out HK0.out (fun h2 => h2.2 h)
      have hK2l : (dl 16 (s.data.toList.drop (a + 2))).length ≤ s.size - (a + 2) := by have := dl_len 16 (s.data.toList.drop (a + 2)); rw [List.length_drop, ← sizeL] at this; exact this
      have hnil : (dl 16 (s.data.toList.drop (a + 2))).length = 0 → dl 16 (s.data.toList.drop (a + 2)) = [] := List.eq_nil_of_length_eq_zero
      obtain ⟨v2, hv2⟩ : ∃ v2, val 16 (dl 16 (s.data.toList.drop (a + 2))) = v2 := ⟨_, rfl⟩
      obtain ⟨K2, hK2⟩ : ∃ K2, (dl 16 (s.data.toList.drop (a + 2))).length = K2 := ⟨_, rfl⟩
      rw [hv2, hK2] at hd16' HN2'
      rw [hK2] at hK2l hnil
      have hd16 : DgK s ((a : Int) + 2) 16 v2 K2 := hd16'
      have HNil : Hid (K2 = 0 → dl 16 (s.data.toList.drop (a + 2)) = []) := hnil
      have t16 : True := trivial
      clear hd16' hv2 hK2 hnil hmk HN1 HN2
      by_cases hk2 : K2 = 0
      · have HR : Hid (nextO (s.data.toList.drop a) = nNum (0 + K) (valF false v)) := HN1' (HNil.out hk2)
        subst hk2
        clear HN1' HN2' HNil
        by_cases hbig : 18446744073709551615 < v
        · have HRB : Hid (nextO (s.data.toList.drop a) = (0, 0, 41)) := HR.out.trans (nNum_big (Or.inl hbig))
          have hdb : decide (18446744073709551615 < v) = true := decide_eq_true hbig
          rw [DgK, hdb] at hd10
          clear HR hbig hdb
          rcases hcs with hx | ⟨hx, hX⟩
          all_goals
            go_enter Tryd.func43, Tryd.ntmps43
            go_wp2_with (first
              | (have := t10; go_at_call 55; refine (hd10 _).mono ?_; clear t10 this; rintro e w' ⟨⟨x, rfl, hx0, hx1, HX⟩, hw'⟩; replace hw' := hw'.symm; subst hw')
              | (have := t16; go_at_call 55; refine (hd16 _).mono ?_; clear t16 this; rintro e w' ⟨⟨y, rfl, hy0, hy1, HY⟩, hw'⟩; replace hw' := hw'.symm; subst hw'))
            go_ret3
            exact ⟨by rw [HRB.out]; rfl, rfl⟩
        · have hdb : decide (18446744073709551615 < v) = false := decide_eq_false hbig
          rw [DgK, hdb] at hd10
          have HNB : Hid (v ≤ 18446744073709551615) := Nat.le_of_not_lt hbig
          clear hbig hdb
          rcases hcs with hx | ⟨hx, hX⟩
          all_goals
            go_enter Tryd.func43, Tryd.ntmps43
            go_wp2_with (first
              | (have := t10; go_at_call 55; refine (hd10 _).mono ?_; clear t10 this; rintro e w' ⟨⟨x, rfl, hx0, hx1, HX⟩, hw'⟩; replace hw' := hw'.symm; subst hw'; refine Hid.out ?_))
            refine Lib.hid ?_
            have hxv := HX.out HNB.out
            have HRB : Hid (nextO (s.data.toList.drop a) = (if x ≤ 9223372036854775807 then x else x - 18446744073709551616, 0 + K, 0)) := by show nextO _ = _; rw [HR.out, nNum_pos HNB.out, hxv]
            clear hxv
            go_wp2_with (go_at_call 55; refine (hd16 _).mono ?_; clear t16; rintro e w' ⟨⟨y, rfl, hy0, hy1, HY⟩, hw'⟩; replace hw' := hw'.symm; subst hw')
            go_ret3
            exact ⟨by rw [HRB.out]; exact ret3_eq (wrap_pos ‹0 ≤ x› ‹x ≤ 18446744073709551615›) (by omega) rfl, rfl⟩
      · have HR : Hid (nextO (s.data.toList.drop a) = nNum (2 + K2) (valF false v2)) := HN2' hk2
        have hk2i : (0 : Int) < K2 := by omega
        clear HN1' HN2' HNil hk2
        by_cases hbig : 18446744073709551615 < v2
        · have HRB : Hid (nextO (s.data.toList.drop a) = (0, 0, 41)) := HR.out.trans (nNum_big (Or.inl hbig))
          have hdb : decide (18446744073709551615 < v2) = true := decide_eq_true hbig
          rw [DgK, hdb] at hd16
          clear HR hbig hdb
          rcases hcs with hx | ⟨hx, hX⟩
          all_goals
            go_enter Tryd.func43, Tryd.ntmps43
            go_wp2_with (first
              | (have := t10; go_at_call 55; refine (hd10 _).mono ?_; clear t10 this; rintro e w' ⟨⟨x, rfl, hx0, hx1, HX⟩, hw'⟩; replace hw' := hw'.symm; subst hw')
              | (have := t16; go_at_call 55; refine (hd16 _).mono ?_; clear t16 this; rintro e w' ⟨⟨y, rfl, hy0, hy1, HY⟩, hw'⟩; replace hw' := hw'.symm; subst hw'))
            go_ret3
            exact ⟨by rw [HRB.out]; rfl, rfl⟩
        · have hdb : decide (18446744073709551615 < v2) = false := decide_eq_false hbig
          rw [DgK, hdb] at hd16
          have HNB : Hid (v2 ≤ 18446744073709551615) := Nat.le_of_not_lt hbig
          clear hbig hdb
          rcases hcs with hx | ⟨hx, hX⟩
          all_goals
            go_enter Tryd.func43, Tryd.ntmps43
            go_wp2_with (first
              | (have := t10; go_at_call 55; refine (hd10 _).mono ?_; clear t10 this; rintro e w' ⟨⟨x, rfl, hx0, hx1, HX⟩, hw'⟩; replace hw' := hw'.symm; subst hw')
              | (have := t16; go_at_call 55; refine (hd16 _).mono ?_; clear t16 this; rintro e w' ⟨⟨y, rfl, hy0, hy1, HY⟩, hw'⟩; replace hw' := hw'.symm; subst hw'; refine Hid.out ?_))
            refine Lib.hid ?_
            have hxv := HY.out HNB.out
            have HRB : Hid (nextO (s.data.toList.drop a) = (if y ≤ 9223372036854775807 then y else y - 18446744073709551616, 2 + K2, 0)) := by show nextO _ = _; rw [HR.out, nNum_pos HNB.out, hxv]
            clear hxv
            go_wp2
            go_ret3
            exact ⟨by rw [HRB.out]; exact ret3_eq (wrap_pos ‹0 ≤ y› ‹y ≤ 18446744073709551615›) (by omega) rfl, rfl⟩
end Go.Proofs.YtopnbemodlcknaaDoor.Lx
/- The reference's whole and Parse; the law WordParses. -/
namespace Go.Proofs.YtopnbemodlcknaaDoor.Lx
open Go.RowKit M
set_option linter.unusedSimpArgs false
set_option linter.unusedVariables false

set_option maxRecDepth 100000 in
set_option maxHeartbeats 8000000 in
/-- whole, of a text that begins with a number. -/
theorem whole_any (s : ByteArray) (hs : s.size ≤ maxLen) (hd : digF s.data.toList ≠ []) (w : World) :
    Calls Tryd.prog 44 #[.string s] w fun e w' => e = .returned (.int .i64 (lenF s.data.toList : Int)) ∧ w' = w := by
  have hs' := hs
  unfold maxLen at hs'
  have hmz : minusB s.data.toList = true ∨ minusB s.data.toList = false := by cases minusB s.data.toList <;> simp
  rcases hmz with hm | hm
  · have hsg : sgn s.data.toList = 1 := by unfold sgn; rw [hm]; rfl
    have hlF := lenF_le s.data.toList
    rw [← sizeL] at hlF
    have h10 : (dl 10 (s.data.toList.drop 1)).length ≠ 0 := fun h => by
      by_cases hp : markB (s.data.toList.drop 1) = true
      · exact dl10_mark hp h
      · have hF := digF_plain (l := s.data.toList) (fun hh => hp (by rw [hsg] at hh; exact hh.1))
        rw [hsg] at hF
        exact hd (hF.1.trans (List.eq_nil_of_length_eq_zero h))
    have hbl : 1 < s.size := by
      have hl := sizeL s
      refine Nat.lt_of_not_le fun h2 => h10 ?_
      rw [List.drop_eq_nil_of_le (by omega)]; rfl
    have h0 : 0 < s.size := by omega
    have h45 : ((s[0].toNat : Int) == 45) = true := by
      have := minusB_at h0
      rw [List.drop_zero, hm] at this
      simp at this ⊢; omega
    have hi0 : (0 : Int) < s.size := by omega
    have hib : (1 : Int) < s.size := by omega
    have hd10 := dgK s hs 1 10 1 10 rfl rfl (by omega) (Or.inl rfl)
    have t10 : True := trivial
    have HT : Hid (¬ (markB (s.data.toList.drop 1) = true ∧ (dl 16 (s.data.toList.drop 3)).length ≠ 0) → lenF s.data.toList = 1 + (dl 10 (s.data.toList.drop 1)).length) := fun h => by
      have hF := digF_plain (l := s.data.toList) (fun hh => h (by rw [hsg, List.drop_drop] at hh; exact ⟨hh.1, fun e => hh.2 (List.eq_nil_of_length_eq_zero e)⟩))
      rw [hsg] at hF; exact hF.2.2
    have HH : Hid (markB (s.data.toList.drop 1) = true → (dl 16 (s.data.toList.drop 3)).length ≠ 0 → lenF s.data.toList = 3 + (dl 16 (s.data.toList.drop 3)).length) := fun h h2 => by
      have hF := digF_mark (l := s.data.toList) (by rw [hsg]; exact h) (by rw [hsg, List.drop_drop]; exact fun e => h2 (by rw [e]; rfl))
      rw [hsg, List.drop_drop] at hF; exact hF.2.2
    obtain ⟨N, hN⟩ : ∃ N, lenF s.data.toList = N := ⟨_, rfl⟩
    rw [hN] at HT HH hlF ⊢
    clear hN hsg hm hd h10
    have hcs : (markB (s.data.toList.drop 1) = false ∧ (((s[1].toNat : Int) == 48) = false ∨ (((s[1].toNat : Int) == 48) = true ∧ ¬ (2 : Int) < (s.size : Int)) ∨ (((s[1].toNat : Int) == 48) = true ∧ ∃ h : 2 < s.size, ((s[2].toNat : Int) == 120) = false ∧ ((s[2].toNat : Int) == 88) = false)))
        ∨ (markB (s.data.toList.drop 1) = true ∧ ((s[1].toNat : Int) == 48) = true ∧ ∃ h : 2 < s.size, (((s[2].toNat : Int) == 120) = true ∨ (((s[2].toNat : Int) == 120) = false ∧ ((s[2].toNat : Int) == 88) = true))) := by
      by_cases hl : 2 < s.size
      · have hmk := markB_at (s := s) (b := 1) (by omega)
        by_cases e48 : s[1].toNat = 48
        · by_cases ex : s[2].toNat = 120
          · right; refine ⟨by rw [hmk]; simp [e48, ex], by simp [e48], hl, Or.inl (by simp [ex])⟩
          · by_cases eX : s[2].toNat = 88
            · right; refine ⟨by rw [hmk]; simp [e48, eX], by simp [e48], hl, Or.inr ⟨by simp; omega, by simp [eX]⟩⟩
            · left; refine ⟨by rw [hmk]; simp [ex, eX], Or.inr (Or.inr ⟨by simp [e48], hl, by simp; omega, by simp; omega⟩)⟩
        · left; refine ⟨by rw [hmk]; simp [e48], Or.inl (by simp; omega)⟩
      · left; refine ⟨markB_end (by omega), ?_⟩
        by_cases e48 : s[1].toNat = 48
        · right; left; exact ⟨by simp [e48], by omega⟩
        · left; simp; omega
    rcases hcs with ⟨hmk, hcs⟩ | ⟨hmk, h48, hl, hcs⟩
    · have HR : Hid (N = 1 + (dl 10 (s.data.toList.drop 1)).length) := HT.out (fun h => by rw [hmk] at h; cases h.1)
      clear HT HH hmk
      obtain ⟨K, hK⟩ : ∃ K, (dl 10 (s.data.toList.drop 1)).length = K := ⟨_, rfl⟩
      obtain ⟨v, hv⟩ : ∃ v, val 10 (dl 10 (s.data.toList.drop 1)) = v := ⟨_, rfl⟩
      rw [hK, hv] at hd10
      rw [hK] at HR
      have hKs : 1 + K ≤ s.size := by rw [← HR.out]; exact hlF
      clear hK hv hlF
      rcases hcs with h48 | ⟨h48, hl⟩ | ⟨h48, hl, hx, hX⟩
      all_goals
        go_enter Tryd.func44, Tryd.ntmps44
        go_wp2_with (first
          | (have := t10; go_at_call 55; refine (hd10 _).mono ?_; clear t10 this; rintro e w' ⟨⟨x, rfl, hx0, hx1, HX⟩, hw'⟩; replace hw' := hw'.symm; subst hw'))
        go_ret
        exact ⟨ret_int (by have := HR.out; omega), rfl⟩
    · have hd16 := dgK s hs 3 16 3 16 rfl rfl (by omega) (Or.inr rfl)
      have t16 : True := trivial
      have HR1 : Hid ((dl 16 (s.data.toList.drop 3)).length = 0 → N = 1 + (dl 10 (s.data.toList.drop 1)).length) := fun h => HT.out (fun h2 => h2.2 h)
      have HR2 : Hid ((dl 16 (s.data.toList.drop 3)).length ≠ 0 → N = 3 + (dl 16 (s.data.toList.drop 3)).length) := fun h => HH.out hmk h
      have hdl := dl_len 10 (s.data.toList.drop 1)
      have hdl2 := dl_len 16 (s.data.toList.drop 3)
      rw [List.length_drop, ← sizeL] at hdl hdl2
      clear HT HH hmk
      obtain ⟨K, hK⟩ : ∃ K, (dl 10 (s.data.toList.drop 1)).length = K := ⟨_, rfl⟩
      obtain ⟨v, hv⟩ : ∃ v, val 10 (dl 10 (s.data.toList.drop 1)) = v := ⟨_, rfl⟩
      obtain ⟨K2, hK2⟩ : ∃ K, (dl 16 (s.data.toList.drop 3)).length = K := ⟨_, rfl⟩
      obtain ⟨v2, hv2⟩ : ∃ v, val 16 (dl 16 (s.data.toList.drop 3)) = v := ⟨_, rfl⟩
      rw [hK, hv] at hd10
      rw [hK2, hv2] at hd16
      rw [hK, hK2] at HR1
      rw [hK2] at HR2 hdl2
      rw [hK] at hdl
      clear hK hv hK2 hv2 hlF
      by_cases hk2 : K2 = 0
      · have hk2i : ¬ (0 : Int) < K2 := by omega
        have HR : Hid (N = 1 + K) := HR1.out hk2
        clear hk2 HR1 HR2
        rcases hcs with hx | ⟨hx, hX⟩
        all_goals
          go_enter Tryd.func44, Tryd.ntmps44
          go_wp2_with (first
            | (have := t10; go_at_call 55; refine (hd10 _).mono ?_; clear t10 this; rintro e w' ⟨⟨x, rfl, hx0, hx1, HX⟩, hw'⟩; replace hw' := hw'.symm; subst hw')
            | (have := t16; go_at_call 55; refine (hd16 _).mono ?_; clear t16 this; rintro e w' ⟨⟨y, rfl, hy0, hy1, HY⟩, hw'⟩; replace hw' := hw'.symm; subst hw'))
          go_ret
          exact ⟨ret_int (by have := HR.out; omega), rfl⟩
      · have hk2i : (0 : Int) < K2 := by omega
        have HR : Hid (N = 3 + K2) := HR2.out hk2
        clear hk2 HR1 HR2
        rcases hcs with hx | ⟨hx, hX⟩
        all_goals
          go_enter Tryd.func44, Tryd.ntmps44
          go_wp2_with (first
            | (have := t10; go_at_call 55; refine (hd10 _).mono ?_; clear t10 this; rintro e w' ⟨⟨x, rfl, hx0, hx1, HX⟩, hw'⟩; replace hw' := hw'.symm; subst hw')
            | (have := t16; go_at_call 55; refine (hd16 _).mono ?_; clear t16 this; rintro e w' ⟨⟨y, rfl, hy0, hy1, HY⟩, hw'⟩; replace hw' := hw'.symm; subst hw'))
          go_ret
          exact ⟨ret_int (by have := HR.out; omega), rfl⟩
  · have hsg : sgn s.data.toList = 0 := by unfold sgn; rw [hm]; rfl
    have hlF := lenF_le s.data.toList
    rw [← sizeL] at hlF
    have h10 : (dl 10 (s.data.toList.drop 0)).length ≠ 0 := fun h => by
      by_cases hp : markB (s.data.toList.drop 0) = true
      · exact dl10_mark hp h
      · have hF := digF_plain (l := s.data.toList) (fun hh => hp (by rw [hsg] at hh; exact hh.1))
        rw [hsg] at hF
        exact hd (hF.1.trans (List.eq_nil_of_length_eq_zero h))
    have hbl : 0 < s.size := by
      have hl := sizeL s
      refine Nat.lt_of_not_le fun h2 => h10 ?_
      rw [List.drop_eq_nil_of_le (by omega)]; rfl
    have h0 : 0 < s.size := by omega
    have h45 : ((s[0].toNat : Int) == 45) = false := by
      have := minusB_at h0
      rw [List.drop_zero, hm] at this
      simp at this ⊢; omega
    have hi0 : (0 : Int) < s.size := by omega
    have hib : (0 : Int) < s.size := by omega
    have hd10 := dgK s hs 0 10 0 10 rfl rfl (by omega) (Or.inl rfl)
    have t10 : True := trivial
    have HT : Hid (¬ (markB (s.data.toList.drop 0) = true ∧ (dl 16 (s.data.toList.drop 2)).length ≠ 0) → lenF s.data.toList = 0 + (dl 10 (s.data.toList.drop 0)).length) := fun h => by
      have hF := digF_plain (l := s.data.toList) (fun hh => h (by rw [hsg, List.drop_drop] at hh; exact ⟨hh.1, fun e => hh.2 (List.eq_nil_of_length_eq_zero e)⟩))
      rw [hsg] at hF; exact hF.2.2
    have HH : Hid (markB (s.data.toList.drop 0) = true → (dl 16 (s.data.toList.drop 2)).length ≠ 0 → lenF s.data.toList = 2 + (dl 16 (s.data.toList.drop 2)).length) := fun h h2 => by
      have hF := digF_mark (l := s.data.toList) (by rw [hsg]; exact h) (by rw [hsg, List.drop_drop]; exact fun e => h2 (by rw [e]; rfl))
      rw [hsg, List.drop_drop] at hF; exact hF.2.2
    obtain ⟨N, hN⟩ : ∃ N, lenF s.data.toList = N := ⟨_, rfl⟩
    rw [hN] at HT HH hlF ⊢
    clear hN hsg hm hd h10
    have hcs : (markB (s.data.toList.drop 0) = false ∧ (((s[0].toNat : Int) == 48) = false ∨ (((s[0].toNat : Int) == 48) = true ∧ ¬ (1 : Int) < (s.size : Int)) ∨ (((s[0].toNat : Int) == 48) = true ∧ ∃ h : 1 < s.size, ((s[1].toNat : Int) == 120) = false ∧ ((s[1].toNat : Int) == 88) = false)))
        ∨ (markB (s.data.toList.drop 0) = true ∧ ((s[0].toNat : Int) == 48) = true ∧ ∃ h : 1 < s.size, (((s[1].toNat : Int) == 120) = true ∨ (((s[1].toNat : Int) == 120) = false ∧ ((s[1].toNat : Int) == 88) = true))) := by
      by_cases hl : 1 < s.size
      · have hmk := markB_at (s := s) (b := 0) (by omega)
        by_cases e48 : s[0].toNat = 48
        · by_cases ex : s[1].toNat = 120
          · right; refine ⟨by rw [hmk]; simp [e48, ex], by simp [e48], hl, Or.inl (by simp [ex])⟩
          · by_cases eX : s[1].toNat = 88
            · right; refine ⟨by rw [hmk]; simp [e48, eX], by simp [e48], hl, Or.inr ⟨by simp; omega, by simp [eX]⟩⟩
            · left; refine ⟨by rw [hmk]; simp [ex, eX], Or.inr (Or.inr ⟨by simp [e48], hl, by simp; omega, by simp; omega⟩)⟩
        · left; refine ⟨by rw [hmk]; simp [e48], Or.inl (by simp; omega)⟩
      · left; refine ⟨markB_end (by omega), ?_⟩
        by_cases e48 : s[0].toNat = 48
        · right; left; exact ⟨by simp [e48], by omega⟩
        · left; simp; omega
    rcases hcs with ⟨hmk, hcs⟩ | ⟨hmk, h48, hl, hcs⟩
    · have HR : Hid (N = 0 + (dl 10 (s.data.toList.drop 0)).length) := HT.out (fun h => by rw [hmk] at h; cases h.1)
      clear HT HH hmk
      obtain ⟨K, hK⟩ : ∃ K, (dl 10 (s.data.toList.drop 0)).length = K := ⟨_, rfl⟩
      obtain ⟨v, hv⟩ : ∃ v, val 10 (dl 10 (s.data.toList.drop 0)) = v := ⟨_, rfl⟩
      rw [hK, hv] at hd10
      rw [hK] at HR
      have hKs : 0 + K ≤ s.size := by rw [← HR.out]; exact hlF
      clear hK hv hlF
      rcases hcs with h48 | ⟨h48, hl⟩ | ⟨h48, hl, hx, hX⟩
      all_goals
        go_enter Tryd.func44, Tryd.ntmps44
        go_wp2_with (first
          | (have := t10; go_at_call 55; refine (hd10 _).mono ?_; clear t10 this; rintro e w' ⟨⟨x, rfl, hx0, hx1, HX⟩, hw'⟩; replace hw' := hw'.symm; subst hw'))
        go_ret
        exact ⟨ret_int (by have := HR.out; omega), rfl⟩
    · have hd16 := dgK s hs 2 16 2 16 rfl rfl (by omega) (Or.inr rfl)
      have t16 : True := trivial
      have HR1 : Hid ((dl 16 (s.data.toList.drop 2)).length = 0 → N = 0 + (dl 10 (s.data.toList.drop 0)).length) := fun h => HT.out (fun h2 => h2.2 h)
      have HR2 : Hid ((dl 16 (s.data.toList.drop 2)).length ≠ 0 → N = 2 + (dl 16 (s.data.toList.drop 2)).length) := fun h => HH.out hmk h
      have hdl := dl_len 10 (s.data.toList.drop 0)
      have hdl2 := dl_len 16 (s.data.toList.drop 2)
      rw [List.length_drop, ← sizeL] at hdl hdl2
      clear HT HH hmk
      obtain ⟨K, hK⟩ : ∃ K, (dl 10 (s.data.toList.drop 0)).length = K := ⟨_, rfl⟩
      obtain ⟨v, hv⟩ : ∃ v, val 10 (dl 10 (s.data.toList.drop 0)) = v := ⟨_, rfl⟩
      obtain ⟨K2, hK2⟩ : ∃ K, (dl 16 (s.data.toList.drop 2)).length = K := ⟨_, rfl⟩
      obtain ⟨v2, hv2⟩ : ∃ v, val 16 (dl 16 (s.data.toList.drop 2)) = v := ⟨_, rfl⟩
      rw [hK, hv] at hd10
      rw [hK2, hv2] at hd16
      rw [hK, hK2] at HR1
      rw [hK2] at HR2 hdl2
      rw [hK] at hdl
      clear hK hv hK2 hv2 hlF
      by_cases hk2 : K2 = 0
      · have hk2i : ¬ (0 : Int) < K2 := by omega
        have HR : Hid (N = 0 + K) := HR1.out hk2
        clear hk2 HR1 HR2
        rcases hcs with hx | ⟨hx, hX⟩
        all_goals
          go_enter Tryd.func44, Tryd.ntmps44
          go_wp2_with (first
            | (have := t10; go_at_call 55; refine (hd10 _).mono ?_; clear t10 this; rintro e w' ⟨⟨x, rfl, hx0, hx1, HX⟩, hw'⟩; replace hw' := hw'.symm; subst hw')
            | (have := t16; go_at_call 55; refine (hd16 _).mono ?_; clear t16 this; rintro e w' ⟨⟨y, rfl, hy0, hy1, HY⟩, hw'⟩; replace hw' := hw'.symm; subst hw'))
          go_ret
          exact ⟨ret_int (by have := HR.out; omega), rfl⟩
      · have hk2i : (0 : Int) < K2 := by omega
        have HR : Hid (N = 2 + K2) := HR2.out hk2
        clear hk2 HR1 HR2
        rcases hcs with hx | ⟨hx, hX⟩
        all_goals
          go_enter Tryd.func44, Tryd.ntmps44
          go_wp2_with (first
            | (have := t10; go_at_call 55; refine (hd10 _).mono ?_; clear t10 this; rintro e w' ⟨⟨x, rfl, hx0, hx1, HX⟩, hw'⟩; replace hw' := hw'.symm; subst hw')
            | (have := t16; go_at_call 55; refine (hd16 _).mono ?_; clear t16 this; rintro e w' ⟨⟨y, rfl, hy0, hy1, HY⟩, hw'⟩; replace hw' := hw'.symm; subst hw'))
          go_ret
          exact ⟨ret_int (by have := HR.out; omega), rfl⟩
end Go.Proofs.YtopnbemodlcknaaDoor.Lx
/- The reference's Parse. -/
namespace Go.Proofs.YtopnbemodlcknaaDoor.Lx
open Go.RowKit M
set_option linter.unusedSimpArgs false
set_option linter.unusedVariables false

set_option maxRecDepth 100000 in
set_option maxHeartbeats 2000000 in
theorem rparse_any (s : ByteArray) (hs : s.size ≤ maxLen) (w : World) :
    Calls Tryd.prog 33 #[.string s] w fun e w' => e = .returned (parseV (parseO s.data.toList)) ∧ w' = w := by
  have hs' := hs
  unfold maxLen at hs'
  have hN := fun w => rnext_any s hs 0 w
  have e0 : nextA s 0 = nextO s.data.toList := by unfold nextA; rw [if_neg (by omega)]; rfl
  rw [e0] at hN
  clear e0
  have hsz := sizeL s
  have hll := lenF_le s.data.toList
  by_cases hd : digF s.data.toList = []
  · have hn0 : nextO s.data.toList = (0, 0, 40) := by unfold nextO; rw [if_pos hd]
    rw [hn0] at hN
    have hN' : ∀ w, Calls Tryd.prog 43 #[.string s, .int .i64 0] w fun e w' => e = .returned (.tuple #[.int .i64 0, .int .i64 0, .int .i64 40]) ∧ w' = w := hN
    have HR : Hid (parseO s.data.toList = (0, 40)) := by show parseO _ = _; unfold parseO; rw [if_pos (Or.inl hd)]
    clear hN hn0 hd hll hsz
    go_enter Tryd.func33, Tryd.ntmps33
    go_wp2_with (go_at_call 43; refine (hN' _).mono ?_; rintro e w' ⟨rfl, hw'⟩; replace hw' := hw'.symm; subst hw')
    go_ret2
    exact ⟨by rw [HR.out]; rfl, rfl⟩
  have hW := fun w => whole_any s hs hd w
  have hn0 : nextO s.data.toList = nNum (lenF s.data.toList) (numF s.data.toList) := by unfold nextO; rw [if_neg hd]
  have hp0 : parseO s.data.toList = if lenF s.data.toList ≠ s.size then (0, 40) else pNum (numF s.data.toList) := by
    unfold parseO
    by_cases h : lenF s.data.toList ≠ s.size
    · rw [if_pos h, if_pos (Or.inr (by rw [← hsz]; exact h))]
    · rw [if_neg h, if_neg (by rw [← hsz]; exact fun hh => hh.elim hd h)]
  rw [hn0] at hN
  have HP0 : Hid (parseO s.data.toList = if lenF s.data.toList ≠ s.size then (0, 40) else pNum (numF s.data.toList)) := hp0
  obtain ⟨L, hL⟩ : ∃ L, lenF s.data.toList = L := ⟨_, rfl⟩
  obtain ⟨o, ho⟩ : ∃ o, numF s.data.toList = o := ⟨_, rfl⟩
  rw [hL] at hN hW HP0 hll
  rw [ho] at hN HP0
  rw [← hsz] at hll
  clear hp0 hn0 hL ho hd hsz
  have hcmp : ((L : Int) == (s.size : Int)) = decide (L = s.size) := by
    rw [Bool.eq_iff_iff]; simp; omega
  by_cases hLs : L = s.size
  · have hc : ((L : Int) == (s.size : Int)) = true := by rw [hcmp]; exact decide_eq_true hLs
    have HR : Hid (parseO s.data.toList = pNum o) := by show parseO _ = _; rw [HP0.out, if_neg (fun h => h hLs)]
    clear hcmp hLs HP0
    cases o with
    | none =>
        have hN' : ∀ w, Calls Tryd.prog 43 #[.string s, .int .i64 0] w fun e w' => e = .returned (.tuple #[.int .i64 0, .int .i64 0, .int .i64 41]) ∧ w' = w := hN
        clear hN
        go_enter Tryd.func33, Tryd.ntmps33
        go_wp2_with (first
          | (go_at_call 43; refine (hN' _).mono ?_; rintro e w' ⟨rfl, hw'⟩; replace hw' := hw'.symm; subst hw')
          | (go_at_call 44; refine (hW _).mono ?_; rintro e w' ⟨rfl, hw'⟩; replace hw' := hw'.symm; subst hw'))
        go_ret2
        exact ⟨by rw [HR.out]; rfl, rfl⟩
    | some v =>
        have hN' : ∀ w, Calls Tryd.prog 43 #[.string s, .int .i64 0] w fun e w' => e = .returned (.tuple #[.int .i64 v, .int .i64 (L : Int), .int .i64 0]) ∧ w' = w := hN
        clear hN
        go_enter Tryd.func33, Tryd.ntmps33
        go_wp2_with (first
          | (go_at_call 43; refine (hN' _).mono ?_; rintro e w' ⟨rfl, hw'⟩; replace hw' := hw'.symm; subst hw'))
        go_ret2
        exact ⟨by rw [HR.out]; rfl, rfl⟩
  · have hc : ((L : Int) == (s.size : Int)) = false := by rw [hcmp]; exact decide_eq_false hLs
    have HR : Hid (parseO s.data.toList = (0, 40)) := by show parseO _ = _; rw [HP0.out, if_pos hLs]
    clear hcmp hLs HP0
    cases o with
    | none =>
        have hN' : ∀ w, Calls Tryd.prog 43 #[.string s, .int .i64 0] w fun e w' => e = .returned (.tuple #[.int .i64 0, .int .i64 0, .int .i64 41]) ∧ w' = w := hN
        clear hN
        go_enter Tryd.func33, Tryd.ntmps33
        go_wp2_with (first
          | (go_at_call 43; refine (hN' _).mono ?_; rintro e w' ⟨rfl, hw'⟩; replace hw' := hw'.symm; subst hw')
          | (go_at_call 44; refine (hW _).mono ?_; rintro e w' ⟨rfl, hw'⟩; replace hw' := hw'.symm; subst hw'))
        go_ret2
        exact ⟨by rw [HR.out]; rfl, rfl⟩
    | some v =>
        have hN' : ∀ w, Calls Tryd.prog 43 #[.string s, .int .i64 0] w fun e w' => e = .returned (.tuple #[.int .i64 v, .int .i64 (L : Int), .int .i64 0]) ∧ w' = w := hN
        clear hN
        go_enter Tryd.func33, Tryd.ntmps33
        go_wp2_with (first
          | (go_at_call 43; refine (hN' _).mono ?_; rintro e w' ⟨rfl, hw'⟩; replace hw' := hw'.symm; subst hw'))
        go_ret2
        exact ⟨by rw [HR.out]; rfl, rfl⟩

end Go.Proofs.YtopnbemodlcknaaDoor.Lx

/- Several texts in one: LxEA, LxVB. -/
import Derived.Test.YtjnbhcakfenbhaaGreatDoorQbk
import Derived.Test.YtjnbhcakfenbhaaGreatDoorQbo
import Derived.Test.YtjnbhcakfenbhaaGreatDoorQbp
import Derived.Test.YtjnbhcakfenbhaaGreatDoorQbu
import Derived.BigQuiet
/- Several texts in one: E1, E2, E3, E4. -/
/- The reference's digit and digits. -/
namespace Go.Proofs.YtjnbhcakfenbhaaGreatDoor.Lx
open Go.RowKit M
set_option linter.unusedSimpArgs false
set_option linter.unusedVariables false

/-- A byte as a digit to a base; -1: it is none. -/
def rdig (c base : Nat) : Int := if dig c < base then (dig c : Int) else -1

set_option maxRecDepth 100000 in
set_option maxHeartbeats 1000000 in
theorem r4digit_any (c base : Nat) (hc : c < 256) (hb : base = 10 ∨ base = 16) (w : World) : Calls Tryz.prog 155 #[.int .u8 c, .int .i64 base] w fun e w' => e = .returned (.int .i64 (rdig c base)) ∧ w' = w := by
  have hb0 : 10 ≤ base := by omega
  have hb1 : base ≤ 16 := by omega
  have HB : Hid (base = 10 ∨ base = 16) := hb
  clear hb
  go_enter Tryz.func155, Tryz.ntmps155
  go_wp2
  all_goals go_ret
  all_goals refine ⟨ret_int ?_, rfl⟩
  all_goals unfold rdig
  all_goals first
    | (rw [dig_a (by omega) (by omega), if_pos (by omega)]; omega)
    | (rw [dig_a (by omega) (by omega), if_neg (by omega)])
    | (rw [dig_b (by omega) (by omega), if_pos (by omega)]; omega)
    | (rw [dig_b (by omega) (by omega), if_neg (by omega)])
    | (rw [dig_c (by omega) (by omega), if_pos (by omega)]; omega)
    | (rw [dig_c (by omega) (by omega), if_neg (by omega)])
    | (rw [dig_d (by omega) (by omega) (by omega), if_neg (by omega)])

theorem rdig_some {c base : Nat} (h : dig c < base) : rdig c base = (dig c : Int) := by unfold rdig; rw [if_pos h]
theorem rdig_none {c base : Nat} (h : ¬ dig c < base) : rdig c base = -1 := by unfold rdig; rw [if_neg h]

theorem take_drop_snoc (s : ByteArray) (a k : Nat) (h : a + k < s.size) : (s.data.toList.drop a).take (k + 1) = (s.data.toList.drop a).take k ++ [s[a + k]] := by
  have hl := sizeL s
  rw [List.take_succ_eq_append_getElem (by rw [List.length_drop]; omega)]
  congr 2
  rw [List.getElem_drop]; rfl

theorem dl_take (s : ByteArray) (a base k : Nat) (hk : a + k ≤ s.size) (h1 : ∀ j, (h : a + j < s.size) → j < k → dig s[a + j].toNat < base)
    (h2 : ∀ h : a + k < s.size, ¬ dig s[a + k].toNat < base) : dl base (s.data.toList.drop a) = (s.data.toList.drop a).take k := by
  have := run_end s a base k hk h1 h2
  rw [← this, exL, List.drop_take]; congr 1; omega

theorem dg_end {l : List UInt8} {base k : Nat} {x : Int} {big : Bool} (he : dl base l = l.take k) (hk : k ≤ l.length) (h0 : 0 ≤ x) (h1 : x ≤ 18446744073709551615)
    (hb : big = true → 18446744073709551615 < val base (l.take k)) (hx : big = false → x = (val base (l.take k) : Int)) :
    ∃ y : Int, Ending.returned (.tuple #[.int .u64 x, .bool big, .int .i64 (k : Int)]) = .returned (.tuple #[.int .u64 y, .bool (decide (18446744073709551615 < val base (dl base l))), .int .i64 ((dl base l).length : Int)])
      ∧ 0 ≤ y ∧ y ≤ 18446744073709551615 ∧ (val base (dl base l) ≤ 18446744073709551615 → y = (val base (dl base l) : Int)) := by
  have hl : (dl base l).length = k := by rw [he, List.length_take]; omega
  have hbg : big = decide (18446744073709551615 < val base (dl base l)) := by
    rw [he]
    cases big with
    | true => exact (decide_eq_true (hb rfl)).symm
    | false =>
        have := hx rfl
        exact (decide_eq_false (by omega)).symm
  refine ⟨x, by rw [← hbg, hl], h0, h1, fun h => ?_⟩
  cases big with
  | true => have := hb rfl; rw [he] at h; omega
  | false => rw [he]; exact hx rfl

set_option maxRecDepth 100000 in
set_option maxHeartbeats 2000000 in
theorem r4digits_any (s : ByteArray) (hs : s.size ≤ maxLen) (a base : Nat) (ha : a ≤ s.size) (hbase : base = 10 ∨ base = 16) (w : World) :
    Calls Tryz.prog 140 #[.string s, .int .i64 a, .int .i64 base] w fun e w' => (∃ x : Int, e = .returned (.tuple #[.int .u64 x, .bool (decide (18446744073709551615 < val base (dl base (s.data.toList.drop a)))), .int .i64 ((dl base (s.data.toList.drop a)).length : Int)])
      ∧ 0 ≤ x ∧ x ≤ 18446744073709551615 ∧ (val base (dl base (s.data.toList.drop a)) ≤ 18446744073709551615 → x = (val base (dl base (s.data.toList.drop a)) : Int))) ∧ w' = w := by
  unfold maxLen at hs
  have hdg : ∀ c : Nat, c < 256 → ∀ w, Calls Tryz.prog 155 #[.int .u8 c, .int .i64 base] w fun e w' => e = .returned (.int .i64 (rdig c base)) ∧ w' = w := fun c hc w => r4digit_any c base hc hbase w
  obtain ⟨B, hB, hB1, hB2⟩ : ∃ B : Int, (base : Int) = B ∧ 10 ≤ B ∧ B ≤ 16 := ⟨_, rfl, by omega, by omega⟩
  have hb1 : 1 ≤ base := by omega
  have hb16 : base ≤ 16 := by omega
  have HBASE : Hid (base = 10 ∨ base = 16) := hbase
  have HB : Hid ((base : Int) = B) := hB
  rw [hB] at hdg ⊢
  clear hbase hB
  go_enter Tryz.func140, Tryz.ntmps140
  go_wp2
  go_loop [9, 10, 11] (fun n g i => ∃ (k : Nat) (x : Int) (big : Bool), a + k ≤ s.size ∧ 0 ≤ x ∧ x ≤ 18446744073709551615 ∧ n = .int .u64 x ∧ g = .bool big ∧ i = .int .i64 k ∧ Hid (∀ j, (h : a + j < s.size) → j < k → dig s[a + j].toNat < base)
    ∧ Hid (big = true → 18446744073709551615 < val base ((s.data.toList.drop a).take k)) ∧ Hid (big = false → x = (val base ((s.data.toList.drop a).take k) : Int))) (fun _ _ i => s.size - (a + (intOf i).toNat))
  case atStart => exact ⟨0, 0, false, by omega, by omega, by omega, rfl, rfl, rfl, fun j h hj => (by omega), fun h => (by cases h), fun _ => rfl⟩
  case round =>
    obtain ⟨k, x, big, hk, hx0, hx1, rfl, rfl, rfl, HK, HBG, HX⟩ := hrel
    by_cases hlt : a + k < s.size
    · have hd := hdg s[a + k].toNat s[a + k].toNat_lt
      by_cases hdd : dig s[a + k].toNat < base
      · rw [rdig_some hdd] at hd
        obtain ⟨d, hde⟩ : ∃ d : Int, (dig s[a + k].toNat : Int) = d := ⟨_, rfl⟩
        rw [hde] at hd
        have hd0 : 0 ≤ d := by omega
        have hd1 : d ≤ 15 := by omega
        have HDE : Hid ((dig s[a + k].toNat : Int) = d) := hde
        have HK' : Hid (∀ j, (h : a + j < s.size) → j < k + 1 → dig s[a + j].toNat < base) := fun j h hj => if e : j = k then by subst e; exact hdd else HK.out j h (by omega)
        have HS : Hid (val base ((s.data.toList.drop a).take (k + 1)) = val base ((s.data.toList.drop a).take k) * base + dig s[a + k].toNat) := by
          show _ = _
          rw [take_drop_snoc s a k hlt, val_snoc]
        have hover := over_iff (n := val base ((s.data.toList.drop a).take k)) (d := dig s[a + k].toNat) hb1 (dig_le _)
        clear hde hdd HK
        by_cases hgt : (18446744073709551615 - d) / B < x
        · have HBG' : Hid (18446744073709551615 < val base ((s.data.toList.drop a).take (k + 1))) := by
            show _ < _
            rw [HS.out]
            cases big with
            | true =>
                have h1 := HBG.out rfl
                have : val base ((s.data.toList.drop a).take k) * 1 ≤ val base ((s.data.toList.drop a).take k) * base := Nat.mul_le_mul_left _ hb1
                omega
            | false =>
                refine hover.1 ?_
                have h1 := HX.out rfl
                rw [h1, ← HB.out, ← HDE.out] at hgt
                have h3 : ((18446744073709551615 - dig s[a + k].toNat : Nat) : Int) = 18446744073709551615 - (dig s[a + k].toNat : Int) := by have := dig_le s[a + k].toNat; omega
                rw [← h3] at hgt
                exact_mod_cast hgt
          clear hover HBG HX HS hdg
          go_wp2_with (go_at_call 155; refine (hd _).mono ?_; rintro e w' ⟨rfl, hw'⟩; replace hw' := hw'.symm; subst hw')
          go_round
          case rel => exact ⟨k + 1, _, true, by omega, by rw [IntKind.wrap_u64]; omega, by rw [IntKind.wrap_u64]; omega, rfl, rfl, by go_num, HK', fun _ => HBG'.out, fun h => (by cases h)⟩
          case measure => simp [intOf]; omega
        · cases big with
          | true =>
              have HBG' : Hid (18446744073709551615 < val base ((s.data.toList.drop a).take (k + 1))) := by
                show _ < _
                rw [HS.out]
                have h1 := HBG.out rfl
                have : val base ((s.data.toList.drop a).take k) * 1 ≤ val base ((s.data.toList.drop a).take k) * base := Nat.mul_le_mul_left _ hb1
                omega
              clear hover HBG HX HS hdg
              go_wp2_with (go_at_call 155; refine (hd _).mono ?_; rintro e w' ⟨rfl, hw'⟩; replace hw' := hw'.symm; subst hw')
              go_round
              case rel => exact ⟨k + 1, _, true, by omega, by rw [IntKind.wrap_u64]; omega, by rw [IntKind.wrap_u64]; omega, rfl, rfl, by go_num, HK', fun _ => HBG'.out, fun h => (by cases h)⟩
              case measure => simp [intOf]; omega
          | false =>
              have h1 := HX.out rfl
              have hle : val base ((s.data.toList.drop a).take k) * base + dig s[a + k].toNat ≤ 18446744073709551615 := by
                refine Nat.le_of_not_lt fun h => hgt ?_
                have h2 := hover.2 h
                rw [h1, ← HB.out, ← HDE.out]
                have h3 : ((18446744073709551615 - dig s[a + k].toNat : Nat) : Int) = 18446744073709551615 - (dig s[a + k].toNat : Int) := by have := dig_le s[a + k].toNat; omega
                rw [← h3]
                exact_mod_cast h2
              have HV : Hid (x * B + d = (val base ((s.data.toList.drop a).take (k + 1)) : Int)) := by
                show x * B + d = _
                rw [HS.out, h1, ← HB.out, ← HDE.out, Int.natCast_add, Int.natCast_mul]
              have hsum : x * B + d ≤ 18446744073709551615 := by rw [HV.out, HS.out]; omega
              have hm0 : 0 ≤ x * B := Int.mul_nonneg hx0 (by omega)
              have hm1 : x * B ≤ 18446744073709551615 := by omega
              clear hover HBG HX HS hdg h1 hle
              go_wp2_with (go_at_call 155; refine (hd _).mono ?_; rintro e w' ⟨rfl, hw'⟩; replace hw' := hw'.symm; subst hw')
              go_round
              case rel => exact ⟨k + 1, x * B + d, false, by omega, by omega, by omega, rfl, rfl, by go_num, HK', fun h => (by cases h), fun _ => HV.out⟩
              case measure => simp [intOf]; omega
      · rw [rdig_none hdd] at hd
        have HE : Hid (dl base (s.data.toList.drop a) = (s.data.toList.drop a).take k) := dl_take s a base k hk HK.out (fun _ => hdd)
        clear hdg hdd HK
        go_wp2_with (go_at_call 155; refine (hd _).mono ?_; rintro e w' ⟨rfl, hw'⟩; replace hw' := hw'.symm; subst hw')
        go_ret3
        exact ⟨dg_end HE.out (by have := sizeL s; rw [List.length_drop]; omega) hx0 hx1 HBG.out HX.out, rfl⟩
    · have HE : Hid (dl base (s.data.toList.drop a) = (s.data.toList.drop a).take k) := dl_take s a base k hk HK.out (fun h => absurd h hlt)
      clear hdg HK
      go_wp2
      go_ret3
      exact ⟨dg_end HE.out (by have := sizeL s; rw [List.length_drop]; omega) hx0 hx1 HBG.out HX.out, rfl⟩
end Go.Proofs.YtjnbhcakfenbhaaGreatDoor.Lx
/- The reference's Next. -/
namespace Go.Proofs.YtjnbhcakfenbhaaGreatDoor.Lx
open Go.RowKit M
set_option linter.unusedSimpArgs false
set_option linter.unusedVariables false

/-- digits' contract, as a caller takes it. -/
def DgK (s : ByteArray) (bi : Int) (bs : Int) (v K : Nat) : Prop := ∀ w, Calls Tryz.prog 140 #[.string s, .int .i64 bi, .int .i64 bs] w fun e w' => (∃ x : Int, e = .returned (.tuple #[.int .u64 x, .bool (decide (18446744073709551615 < v)), .int .i64 (K : Int)])
      ∧ 0 ≤ x ∧ x ≤ 18446744073709551615 ∧ Hid (v ≤ 18446744073709551615 → x = (v : Int))) ∧ w' = w
theorem dgK (s : ByteArray) (hs : s.size ≤ maxLen) (b base : Nat) (bi bs : Int) (hbi : bi = (b : Int)) (hbs : bs = (base : Int)) (hb : b ≤ s.size) (hbase : base = 10 ∨ base = 16) :
    DgK s bi bs (val base (dl base (s.data.toList.drop b))) (dl base (s.data.toList.drop b)).length := fun w => by
  rw [hbi, hbs]
  exact (r4digits_any s hs b base hb hbase w).mono fun e w' ⟨⟨x, h1, h2, h3, h4⟩, h5⟩ => ⟨⟨x, h1, h2, h3, h4⟩, h5⟩

theorem minusB_at {s : ByteArray} {a : Nat} (h : a < s.size) : minusB (s.data.toList.drop a) = (s[a].toNat == 45) := by
  rw [List.drop_eq_getElem_cons (by simpa using h)]; rfl
theorem minusB_end {s : ByteArray} {a : Nat} (h : s.size ≤ a) : minusB (s.data.toList.drop a) = false := by
  rw [List.drop_eq_nil_of_le (by simpa using h)]; rfl
theorem markB_at {s : ByteArray} {b : Nat} (h : b + 1 < s.size) : markB (s.data.toList.drop b) = (s[b].toNat == 48 && (s[b + 1].toNat == 120 || s[b + 1].toNat == 88)) := by
  rw [List.drop_eq_getElem_cons (by simp; omega), List.drop_eq_getElem_cons (by simp; omega)]; rfl
theorem markB_end {s : ByteArray} {b : Nat} (h : s.size ≤ b + 1) : markB (s.data.toList.drop b) = false := by
  have hl := sizeL s
  cases e : s.data.toList.drop b with
  | nil => rfl
  | cons x r =>
      cases r with
      | nil => rfl
      | cons y r =>
          have := congrArg List.length e
          rw [List.length_drop] at this
          simp at this
          omega
theorem dl10_pos {s : ByteArray} {b : Nat} (hb : b ≤ s.size) (h : (dl 10 (s.data.toList.drop b)).length ≠ 0) : b < s.size := by
  have hl := sizeL s
  refine Nat.lt_of_not_le fun h2 => h ?_
  rw [List.drop_eq_nil_of_le (by omega)]; rfl
theorem dl10_mark {l : List UInt8} (h : markB l = true) : (dl 10 l).length ≠ 0 := by
  match l, h with
  | a :: b :: r, h =>
      have h48 : a.toNat = 48 := by simp [markB] at h; exact h.1
      have : isD 10 a = true := by unfold isD; rw [h48]; rfl
      unfold dl
      rw [List.takeWhile_cons, if_pos this]; simp

theorem ret3_eq {a b c v : Int} {n e : Nat} (ha : a = v) (hb : b = (n : Int)) (hc : c = (e : Int)) : Ending.returned (.tuple #[.int .i64 a, .int .i64 b, .int .i64 c]) = .returned (nextV (v, n, e)) := by rw [ha, hb, hc]; rfl
/-- The three ends: too big, or its value. -/
theorem nNum_big {m : Bool} {v n : Nat} (h : 18446744073709551615 < v ∨ (m = true ∧ 9223372036854775808 < v)) : nNum n (valF m v) = (0, 0, 41) := by unfold valF; rw [if_pos h]; rfl
theorem nNum_neg {v n : Nat} (h : v ≤ 9223372036854775808) : nNum n (valF true v) = (-(v : Int), n, 0) := by unfold valF; rw [if_neg (by simp; omega)]; rfl
theorem nNum_pos {v n : Nat} (h : v ≤ 18446744073709551615) : nNum n (valF false v) = (if (v : Int) ≤ 9223372036854775807 then (v : Int) else (v : Int) - 18446744073709551616, n, 0) := by
  unfold valF; rw [if_neg (by simp; omega)]; rfl
theorem wrap_un {x : Int} (h0 : 0 ≤ x) (h1 : x ≤ 9223372036854775808) : wrap64 (IntKind.u64.wrap (-x)) = -x := by rw [IntKind.wrap_u64]; unfold wrap64; omega

theorem nextO_none {l : List UInt8} (h : (dl 10 (l.drop (sgn l))).length = 0) : nextO l = (0, 0, 40) := by
  have h0 : dl 10 (l.drop (sgn l)) = [] := List.eq_nil_of_length_eq_zero h
  have hF := digF_plain (l := l) (fun hh => dl10_mark hh.1 h)
  unfold nextO
  rw [if_pos (hF.1.trans h0)]
theorem nextO_ten {l : List UInt8} (h : (dl 10 (l.drop (sgn l))).length ≠ 0) (hp : ¬ (markB (l.drop (sgn l)) = true ∧ dl 16 ((l.drop (sgn l)).drop 2) ≠ [])) :
    nextO l = nNum (sgn l + (dl 10 (l.drop (sgn l))).length) (valF (minusB l) (val 10 (dl 10 (l.drop (sgn l))))) := by
  have hF := digF_plain hp
  unfold nextO numF
  rw [if_neg (by rw [hF.1]; exact fun e => h (by rw [e]; rfl)), hF.2.1, hF.2.2, hF.1]
theorem nextO_hex {l : List UInt8} (hq : markB (l.drop (sgn l)) = true) (hn : (dl 16 ((l.drop (sgn l)).drop 2)).length ≠ 0) :
    nextO l = nNum (sgn l + 2 + (dl 16 ((l.drop (sgn l)).drop 2)).length) (valF (minusB l) (val 16 (dl 16 ((l.drop (sgn l)).drop 2)))) := by
  have hn' : dl 16 ((l.drop (sgn l)).drop 2) ≠ [] := fun e => hn (by rw [e]; rfl)
  have hF := digF_mark hq hn'
  unfold nextO numF
  rw [if_neg (by rw [hF.1]; exact hn'), hF.2.1, hF.2.2, hF.1]

set_option maxRecDepth 100000 in
set_option maxHeartbeats 8000000 in
theorem rnext_any (s : ByteArray) (hs : s.size ≤ maxLen) (at' : Int) (w : World) :
    Calls Tryz.prog 115 #[.string s, .int .i64 at'] w fun e w' => e = .returned (nextV (nextA s at')) ∧ w' = w := by
  have hs' := hs
  unfold maxLen at hs'
  by_cases h1 : at' < 0
  · go_enter Tryz.func115, Tryz.ntmps115
    go_wp2
    go_ret3
    exact ⟨by unfold nextA; rw [if_pos (Or.inl h1)]; rfl, rfl⟩
  by_cases h2 : (s.size : Int) < at'
  · go_enter Tryz.func115, Tryz.ntmps115
    go_wp2
    go_ret3
    exact ⟨by unfold nextA; rw [if_pos (Or.inr h2)]; rfl, rfl⟩
  obtain ⟨a, rfl⟩ : ∃ a : Nat, at' = a := ⟨at'.toNat, by omega⟩
  have ha : a ≤ s.size := by omega
  have hN : nextA s (a : Int) = nextO (s.data.toList.drop a) := by unfold nextA; rw [if_neg (by omega)]; rfl
  rw [hN]
  clear hN
  have hmz : minusB (s.data.toList.drop a) = true ∨ minusB (s.data.toList.drop a) = false := by cases minusB (s.data.toList.drop a) <;> simp
  rcases hmz with hm | hm
  · -- the sign is there
    have hsg : sgn (s.data.toList.drop a) = 1 := by unfold sgn; rw [hm]; rfl
    have hal : a < s.size := Nat.lt_of_not_le fun h => by rw [minusB_end h] at hm; cases hm
    have hi : (a : Int) < s.size := by omega
    have h45 : ((s[a].toNat : Int) == 45) = true := by rw [minusB_at hal] at hm; simp at hm ⊢; omega
    have hsign : True := trivial
    have hd10' := dgK s hs (a + 1) 10 ((a : Int) + 1) 10 (by omega) rfl (by omega) (Or.inl rfl)
    have hdr : (s.data.toList.drop a).drop (sgn (s.data.toList.drop a)) = s.data.toList.drop (a + 1) := by rw [hsg, List.drop_drop]
    have HN0 : Hid ((dl 10 (s.data.toList.drop (a + 1))).length = 0 → nextO (s.data.toList.drop a) = (0, 0, 40)) := fun h => nextO_none (by rw [hdr]; exact h)
    have HN1 : Hid ((dl 10 (s.data.toList.drop (a + 1))).length ≠ 0 → ¬ (markB (s.data.toList.drop (a + 1)) = true ∧ dl 16 (s.data.toList.drop (a + 3)) ≠ []) → nextO (s.data.toList.drop a) = nNum (1 + (dl 10 (s.data.toList.drop (a + 1))).length) (valF true (val 10 (dl 10 (s.data.toList.drop (a + 1)))))) := fun h h2 => by
      have h3 := nextO_ten (l := s.data.toList.drop a) (by rw [hdr]; exact h) (by rw [hdr, List.drop_drop]; exact h2)
      rw [hdr, hsg, hm] at h3; exact h3
    have HN2 : Hid (markB (s.data.toList.drop (a + 1)) = true → (dl 16 (s.data.toList.drop (a + 3))).length ≠ 0 → nextO (s.data.toList.drop a) = nNum (3 + (dl 16 (s.data.toList.drop (a + 3))).length) (valF true (val 16 (dl 16 (s.data.toList.drop (a + 3)))))) := fun h h2 => by
      have h3 := nextO_hex (l := s.data.toList.drop a) (by rw [hdr]; exact h) (by rw [hdr, List.drop_drop]; exact h2)
      rw [hdr, hsg, hm, List.drop_drop] at h3; exact h3
    obtain ⟨v, hv⟩ : ∃ v, val 10 (dl 10 (s.data.toList.drop (a + 1))) = v := ⟨_, rfl⟩
    obtain ⟨K, hK⟩ : ∃ K, (dl 10 (s.data.toList.drop (a + 1))).length = K := ⟨_, rfl⟩
    have hKl : K ≤ s.size - (a + 1) := by rw [← hK]; have := dl_len 10 (s.data.toList.drop (a + 1)); rw [List.length_drop, ← sizeL] at this; exact this
    have hpos : K ≠ 0 → a + 1 < s.size := fun h => dl10_pos (by omega) (by rw [hK]; exact h)
    rw [hv, hK] at hd10'
    rw [hv, hK] at HN1
    rw [hK] at HN0
    have hd10 : DgK s ((a : Int) + 1) 10 v K := hd10'
    clear hd10' hv hK hdr hsg hm
    have t10 : True := trivial
    by_cases hK0 : K = 0
    · have HR : Hid (nextO (s.data.toList.drop a) = (0, 0, 40)) := HN0.out hK0
      subst hK0
      clear HN0 HN1 HN2 hpos
      go_enter Tryz.func115, Tryz.ntmps115
      go_wp2_with (first
        | (have := t10; go_at_call 140; refine (hd10 _).mono ?_; clear t10 this; rintro e w' ⟨⟨x, rfl, hx0, hx1, HX⟩, hw'⟩; replace hw' := hw'.symm; subst hw')
        | (have := t16; go_at_call 140; refine (hd16 _).mono ?_; clear t16 this; rintro e w' ⟨⟨y, rfl, hy0, hy1, HY⟩, hw'⟩; replace hw' := hw'.symm; subst hw'))
      go_ret3
      exact ⟨by rw [HR.out]; rfl, rfl⟩
    have hbl : a + 1 < s.size := hpos hK0
    have hk0 : ((K : Int) == 0) = false := by simp; omega
    have HK0 : Hid (K ≠ 0) := hK0
    clear hsign HN0 hpos hK0
    have hcs : (markB (s.data.toList.drop (a + 1)) = false ∧ (((s[a + 1].toNat : Int) == 48) = false ∨ (((s[a + 1].toNat : Int) == 48) = true ∧ ¬ (a : Int) + 2 < (s.size : Int)) ∨ (((s[a + 1].toNat : Int) == 48) = true ∧ ∃ h : a + 2 < s.size, ((s[a + 2].toNat : Int) == 120) = false ∧ ((s[a + 2].toNat : Int) == 88) = false)))
        ∨ (markB (s.data.toList.drop (a + 1)) = true ∧ ((s[a + 1].toNat : Int) == 48) = true ∧ ∃ h : a + 2 < s.size, (((s[a + 2].toNat : Int) == 120) = true ∨ (((s[a + 2].toNat : Int) == 120) = false ∧ ((s[a + 2].toNat : Int) == 88) = true))) := by
      by_cases hl : a + 2 < s.size
      · have hmk := markB_at (s := s) (b := a + 1) (by omega)
        by_cases e48 : s[a + 1].toNat = 48
        · by_cases ex : s[a + 2].toNat = 120
          · right; refine ⟨by rw [hmk]; simp [e48, ex], by simp [e48], hl, Or.inl (by simp [ex])⟩
          · by_cases eX : s[a + 2].toNat = 88
            · right; refine ⟨by rw [hmk]; simp [e48, eX], by simp [e48], hl, Or.inr ⟨by simp; omega, by simp [eX]⟩⟩
            · left; refine ⟨by rw [hmk]; simp [ex, eX], Or.inr (Or.inr ⟨by simp [e48], hl, by simp; omega, by simp; omega⟩)⟩
        · left; refine ⟨by rw [hmk]; simp [e48], Or.inl (by simp; omega)⟩
      · left; refine ⟨markB_end (by omega), ?_⟩
        by_cases e48 : s[a + 1].toNat = 48
        · right; left; exact ⟨by simp [e48], by omega⟩
        · left; simp; omega
    rcases hcs with ⟨hmk, hcs⟩ | ⟨hmk, h48, hl, hcs⟩
    · -- no mark
      have HR : Hid (nextO (s.data.toList.drop a) = nNum (1 + K) (valF true v)) := HN1.out HK0.out (fun h => by rw [hmk] at h; cases h.1)
      clear HN1 HN2 hmk
      by_cases hbig : 18446744073709551615 < v
      · have HRB : Hid (nextO (s.data.toList.drop a) = (0, 0, 41)) := HR.out.trans (nNum_big (Or.inl hbig))
        have hdb : decide (18446744073709551615 < v) = true := decide_eq_true hbig
        rw [DgK, hdb] at hd10
        clear HR hbig hdb
        rcases hcs with h48 | ⟨h48, hl⟩ | ⟨h48, hl, hx, hX⟩
        all_goals
          go_enter Tryz.func115, Tryz.ntmps115
          go_wp2_with (first
            | (have := t10; go_at_call 140; refine (hd10 _).mono ?_; clear t10 this; rintro e w' ⟨⟨x, rfl, hx0, hx1, HX⟩, hw'⟩; replace hw' := hw'.symm; subst hw'))
          go_ret3
          exact ⟨by rw [HRB.out]; rfl, rfl⟩
      · have hdb : decide (18446744073709551615 < v) = false := decide_eq_false hbig
        rw [DgK, hdb] at hd10
        have HNB : Hid (v ≤ 18446744073709551615) := Nat.le_of_not_lt hbig
        clear hbig hdb
        rcases hcs with h48 | ⟨h48, hl⟩ | ⟨h48, hl, hx, hX⟩
        all_goals
          go_enter Tryz.func115, Tryz.ntmps115
          go_wp2_with (first
            | (have := t10; go_at_call 140; refine (hd10 _).mono ?_; clear t10 this; rintro e w' ⟨⟨x, rfl, hx0, hx1, HX⟩, hw'⟩; replace hw' := hw'.symm; subst hw'; refine Hid.out ?_))
          refine Lib.hid ?_
          have hxv := HX.out HNB.out
          by_cases hneg : 9223372036854775808 < x
          · have HRB : Hid (nextO (s.data.toList.drop a) = (0, 0, 41)) := HR.out.trans (nNum_big (Or.inr ⟨rfl, by omega⟩))
            clear hxv
            go_wp2
            go_ret3
            exact ⟨by rw [HRB.out]; rfl, rfl⟩
          · have hneg' : x ≤ 9223372036854775808 := by omega
            have HRB : Hid (nextO (s.data.toList.drop a) = (-x, 1 + K, 0)) := by show nextO _ = _; rw [HR.out, nNum_neg (by omega), hxv]
            clear hxv
            go_wp2
            go_ret3
            exact ⟨by rw [HRB.out]; exact ret3_eq (wrap_un ‹0 ≤ x› hneg') (by omega) rfl, rfl⟩
    · -- a mark
      have hd16' := dgK s hs (a + 3) 16 ((a : Int) + 3) 16 (by omega) rfl (by omega) (Or.inr rfl)
      have HM : Hid (markB (s.data.toList.drop (a + 1)) = true) := hmk
      have HN2' := HN2.out hmk
      have HN1' : dl 16 (s.data.toList.drop (a + 3)) = [] → nextO (s.data.toList.drop a) = nNum (1 + K) (valF true v) := fun h => HN1.out HK0.out (fun h2 => h2.2 h)
      have hK2l : (dl 16 (s.data.toList.drop (a + 3))).length ≤ s.size - (a + 3) := by have := dl_len 16 (s.data.toList.drop (a + 3)); rw [List.length_drop, ← sizeL] at this; exact this
      have hnil : (dl 16 (s.data.toList.drop (a + 3))).length = 0 → dl 16 (s.data.toList.drop (a + 3)) = [] := List.eq_nil_of_length_eq_zero
      obtain ⟨v2, hv2⟩ : ∃ v2, val 16 (dl 16 (s.data.toList.drop (a + 3))) = v2 := ⟨_, rfl⟩
      obtain ⟨K2, hK2⟩ : ∃ K2, (dl 16 (s.data.toList.drop (a + 3))).length = K2 := ⟨_, rfl⟩
      rw [hv2, hK2] at hd16' HN2'
      rw [hK2] at hK2l hnil
      have hd16 : DgK s ((a : Int) + 3) 16 v2 K2 := hd16'
      have HNil : Hid (K2 = 0 → dl 16 (s.data.toList.drop (a + 3)) = []) := hnil
      have t16 : True := trivial
      clear hd16' hv2 hK2 hnil hmk HN1 HN2
      by_cases hk2 : K2 = 0
      · have HR : Hid (nextO (s.data.toList.drop a) = nNum (1 + K) (valF true v)) := HN1' (HNil.out hk2)
        subst hk2
        clear HN1' HN2' HNil
        by_cases hbig : 18446744073709551615 < v
        · have HRB : Hid (nextO (s.data.toList.drop a) = (0, 0, 41)) := HR.out.trans (nNum_big (Or.inl hbig))
          have hdb : decide (18446744073709551615 < v) = true := decide_eq_true hbig
          rw [DgK, hdb] at hd10
          clear HR hbig hdb
          rcases hcs with hx | ⟨hx, hX⟩
          all_goals
            go_enter Tryz.func115, Tryz.ntmps115
            go_wp2_with (first
              | (have := t10; go_at_call 140; refine (hd10 _).mono ?_; clear t10 this; rintro e w' ⟨⟨x, rfl, hx0, hx1, HX⟩, hw'⟩; replace hw' := hw'.symm; subst hw')
              | (have := t16; go_at_call 140; refine (hd16 _).mono ?_; clear t16 this; rintro e w' ⟨⟨y, rfl, hy0, hy1, HY⟩, hw'⟩; replace hw' := hw'.symm; subst hw'))
            go_ret3
            exact ⟨by rw [HRB.out]; rfl, rfl⟩
        · have hdb : decide (18446744073709551615 < v) = false := decide_eq_false hbig
          rw [DgK, hdb] at hd10
          have HNB : Hid (v ≤ 18446744073709551615) := Nat.le_of_not_lt hbig
          clear hbig hdb
          rcases hcs with hx | ⟨hx, hX⟩
          all_goals
            go_enter Tryz.func115, Tryz.ntmps115
            go_wp2_with (first
              | (have := t10; go_at_call 140; refine (hd10 _).mono ?_; clear t10 this; rintro e w' ⟨⟨x, rfl, hx0, hx1, HX⟩, hw'⟩; replace hw' := hw'.symm; subst hw'; refine Hid.out ?_))
            refine Lib.hid ?_
            have hxv := HX.out HNB.out
            by_cases hneg : 9223372036854775808 < x
            · have HRB : Hid (nextO (s.data.toList.drop a) = (0, 0, 41)) := HR.out.trans (nNum_big (Or.inr ⟨rfl, by omega⟩))
              clear hxv
              go_wp2_with (go_at_call 140; refine (hd16 _).mono ?_; clear t16; rintro e w' ⟨⟨y, rfl, hy0, hy1, HY⟩, hw'⟩; replace hw' := hw'.symm; subst hw')
              go_ret3
              exact ⟨by rw [HRB.out]; rfl, rfl⟩
            · have hneg' : x ≤ 9223372036854775808 := by omega
              have HRB : Hid (nextO (s.data.toList.drop a) = (-x, 1 + K, 0)) := by show nextO _ = _; rw [HR.out, nNum_neg (by omega), hxv]
              clear hxv
              go_wp2_with (go_at_call 140; refine (hd16 _).mono ?_; clear t16; rintro e w' ⟨⟨y, rfl, hy0, hy1, HY⟩, hw'⟩; replace hw' := hw'.symm; subst hw')
              go_ret3
              exact ⟨by rw [HRB.out]; exact ret3_eq (wrap_un ‹0 ≤ x› hneg') (by omega) rfl, rfl⟩
      · have HR : Hid (nextO (s.data.toList.drop a) = nNum (3 + K2) (valF true v2)) := HN2' hk2
        have hk2i : (0 : Int) < K2 := by omega
        clear HN1' HN2' HNil hk2
        by_cases hbig : 18446744073709551615 < v2
        · have HRB : Hid (nextO (s.data.toList.drop a) = (0, 0, 41)) := HR.out.trans (nNum_big (Or.inl hbig))
          have hdb : decide (18446744073709551615 < v2) = true := decide_eq_true hbig
          rw [DgK, hdb] at hd16
          clear HR hbig hdb
          rcases hcs with hx | ⟨hx, hX⟩
          all_goals
            go_enter Tryz.func115, Tryz.ntmps115
            go_wp2_with (first
              | (have := t10; go_at_call 140; refine (hd10 _).mono ?_; clear t10 this; rintro e w' ⟨⟨x, rfl, hx0, hx1, HX⟩, hw'⟩; replace hw' := hw'.symm; subst hw')
              | (have := t16; go_at_call 140; refine (hd16 _).mono ?_; clear t16 this; rintro e w' ⟨⟨y, rfl, hy0, hy1, HY⟩, hw'⟩; replace hw' := hw'.symm; subst hw'))
            go_ret3
            exact ⟨by rw [HRB.out]; rfl, rfl⟩
        · have hdb : decide (18446744073709551615 < v2) = false := decide_eq_false hbig
          rw [DgK, hdb] at hd16
          have HNB : Hid (v2 ≤ 18446744073709551615) := Nat.le_of_not_lt hbig
          clear hbig hdb
          rcases hcs with hx | ⟨hx, hX⟩
          all_goals
            go_enter Tryz.func115, Tryz.ntmps115
            go_wp2_with (first
              | (have := t10; go_at_call 140; refine (hd10 _).mono ?_; clear t10 this; rintro e w' ⟨⟨x, rfl, hx0, hx1, HX⟩, hw'⟩; replace hw' := hw'.symm; subst hw')
              | (have := t16; go_at_call 140; refine (hd16 _).mono ?_; clear t16 this; rintro e w' ⟨⟨y, rfl, hy0, hy1, HY⟩, hw'⟩; replace hw' := hw'.symm; subst hw'; refine Hid.out ?_))
            refine Lib.hid ?_
            have hxv := HY.out HNB.out
            by_cases hneg : 9223372036854775808 < y
            · have HRB : Hid (nextO (s.data.toList.drop a) = (0, 0, 41)) := HR.out.trans (nNum_big (Or.inr ⟨rfl, by omega⟩))
              clear hxv
              go_wp2
              go_ret3
              exact ⟨by rw [HRB.out]; rfl, rfl⟩
            · have hneg' : y ≤ 9223372036854775808 := by omega
              have HRB : Hid (nextO (s.data.toList.drop a) = (-y, 3 + K2, 0)) := by show nextO _ = _; rw [HR.out, nNum_neg (by omega), hxv]
              clear hxv
              go_wp2
              go_ret3
              exact ⟨by rw [HRB.out]; exact ret3_eq (wrap_un ‹0 ≤ y› hneg') (by omega) rfl, rfl⟩
  · -- the sign is not there
    have hsg : sgn (s.data.toList.drop a) = 0 := by unfold sgn; rw [hm]; rfl
    have hsign : ((a : Int) < s.size ∧ ∃ h : a < s.size, ((s[a].toNat : Int) == 45) = false) ∨ ¬ (a : Int) < s.size := by
      by_cases hal : a < s.size
      · left; refine ⟨by omega, hal, ?_⟩
        rw [minusB_at hal] at hm; simp at hm ⊢; omega
      · right; omega
    have hd10' := dgK s hs (a) 10 ((a : Int)) 10 (by omega) rfl (by omega) (Or.inl rfl)
    have hdr : (s.data.toList.drop a).drop (sgn (s.data.toList.drop a)) = s.data.toList.drop (a) := by rw [hsg, List.drop_drop]; rfl
    have HN0 : Hid ((dl 10 (s.data.toList.drop (a))).length = 0 → nextO (s.data.toList.drop a) = (0, 0, 40)) := fun h => nextO_none (by rw [hdr]; exact h)
    have HN1 : Hid ((dl 10 (s.data.toList.drop (a))).length ≠ 0 → ¬ (markB (s.data.toList.drop (a)) = true ∧ dl 16 (s.data.toList.drop (a + 2)) ≠ []) → nextO (s.data.toList.drop a) = nNum (0 + (dl 10 (s.data.toList.drop (a))).length) (valF false (val 10 (dl 10 (s.data.toList.drop (a)))))) := fun h h2 => by
      have h3 := nextO_ten (l := s.data.toList.drop a) (by rw [hdr]; exact h) (by rw [hdr, List.drop_drop]; exact h2)
      rw [hdr, hsg, hm] at h3; exact h3
    have HN2 : Hid (markB (s.data.toList.drop (a)) = true → (dl 16 (s.data.toList.drop (a + 2))).length ≠ 0 → nextO (s.data.toList.drop a) = nNum (2 + (dl 16 (s.data.toList.drop (a + 2))).length) (valF false (val 16 (dl 16 (s.data.toList.drop (a + 2)))))) := fun h h2 => by
      have h3 := nextO_hex (l := s.data.toList.drop a) (by rw [hdr]; exact h) (by rw [hdr, List.drop_drop]; exact h2)
      rw [hdr, hsg, hm, List.drop_drop] at h3; exact h3
    obtain ⟨v, hv⟩ : ∃ v, val 10 (dl 10 (s.data.toList.drop (a))) = v := ⟨_, rfl⟩
    obtain ⟨K, hK⟩ : ∃ K, (dl 10 (s.data.toList.drop (a))).length = K := ⟨_, rfl⟩
    have hKl : K ≤ s.size - (a) := by rw [← hK]; have := dl_len 10 (s.data.toList.drop (a)); rw [List.length_drop, ← sizeL] at this; exact this
    have hpos : K ≠ 0 → a < s.size := fun h => dl10_pos (by omega) (by rw [hK]; exact h)
    rw [hv, hK] at hd10'
    rw [hv, hK] at HN1
    rw [hK] at HN0
    have hd10 : DgK s ((a : Int)) 10 v K := hd10'
    clear hd10' hv hK hdr hsg hm
    have t10 : True := trivial
    by_cases hK0 : K = 0
    · have HR : Hid (nextO (s.data.toList.drop a) = (0, 0, 40)) := HN0.out hK0
      subst hK0
      clear HN0 HN1 HN2 hpos
      rcases hsign with ⟨hi, hal, h45⟩ | hi
      all_goals
        go_enter Tryz.func115, Tryz.ntmps115
        go_wp2_with (first
          | (have := t10; go_at_call 140; refine (hd10 _).mono ?_; clear t10 this; rintro e w' ⟨⟨x, rfl, hx0, hx1, HX⟩, hw'⟩; replace hw' := hw'.symm; subst hw')
          | (have := t16; go_at_call 140; refine (hd16 _).mono ?_; clear t16 this; rintro e w' ⟨⟨y, rfl, hy0, hy1, HY⟩, hw'⟩; replace hw' := hw'.symm; subst hw'))
        go_ret3
        exact ⟨by rw [HR.out]; rfl, rfl⟩
    have hbl : a < s.size := hpos hK0
    have hk0 : ((K : Int) == 0) = false := by simp; omega
    have HK0 : Hid (K ≠ 0) := hK0
    have hi : (a : Int) < s.size := by omega
    have h45 : ((s[a].toNat : Int) == 45) = false := by
      rcases hsign with ⟨_, _, hh⟩ | hh
      · exact hh
      · exact absurd hi hh
    clear hsign HN0 hpos hK0
    have hcs : (markB (s.data.toList.drop (a)) = false ∧ (((s[a].toNat : Int) == 48) = false ∨ (((s[a].toNat : Int) == 48) = true ∧ ¬ (a : Int) + 1 < (s.size : Int)) ∨ (((s[a].toNat : Int) == 48) = true ∧ ∃ h : a + 1 < s.size, ((s[a + 1].toNat : Int) == 120) = false ∧ ((s[a + 1].toNat : Int) == 88) = false)))
        ∨ (markB (s.data.toList.drop (a)) = true ∧ ((s[a].toNat : Int) == 48) = true ∧ ∃ h : a + 1 < s.size, (((s[a + 1].toNat : Int) == 120) = true ∨ (((s[a + 1].toNat : Int) == 120) = false ∧ ((s[a + 1].toNat : Int) == 88) = true))) := by
      by_cases hl : a + 1 < s.size
      · have hmk := markB_at (s := s) (b := a) (by omega)
        by_cases e48 : s[a].toNat = 48
        · by_cases ex : s[a + 1].toNat = 120
          · right; refine ⟨by rw [hmk]; simp [e48, ex], by simp [e48], hl, Or.inl (by simp [ex])⟩
          · by_cases eX : s[a + 1].toNat = 88
            · right; refine ⟨by rw [hmk]; simp [e48, eX], by simp [e48], hl, Or.inr ⟨by simp; omega, by simp [eX]⟩⟩
            · left; refine ⟨by rw [hmk]; simp [ex, eX], Or.inr (Or.inr ⟨by simp [e48], hl, by simp; omega, by simp; omega⟩)⟩
        · left; refine ⟨by rw [hmk]; simp [e48], Or.inl (by simp; omega)⟩
      · left; refine ⟨markB_end (by omega), ?_⟩
        by_cases e48 : s[a].toNat = 48
        · right; left; exact ⟨by simp [e48], by omega⟩
        · left; simp; omega
    rcases hcs with ⟨hmk, hcs⟩ | ⟨hmk, h48, hl, hcs⟩
    · -- no mark
      have HR : Hid (nextO (s.data.toList.drop a) = nNum (0 + K) (valF false v)) := HN1.out HK0.out (fun h => by rw [hmk] at h; cases h.1)
      clear HN1 HN2 hmk
      by_cases hbig : 18446744073709551615 < v
      · have HRB : Hid (nextO (s.data.toList.drop a) = (0, 0, 41)) := HR.out.trans (nNum_big (Or.inl hbig))
        have hdb : decide (18446744073709551615 < v) = true := decide_eq_true hbig
        rw [DgK, hdb] at hd10
        clear HR hbig hdb
        rcases hcs with h48 | ⟨h48, hl⟩ | ⟨h48, hl, hx, hX⟩
        all_goals
          go_enter Tryz.func115, Tryz.ntmps115
          go_wp2_with (first
            | (have := t10; go_at_call 140; refine (hd10 _).mono ?_; clear t10 this; rintro e w' ⟨⟨x, rfl, hx0, hx1, HX⟩, hw'⟩; replace hw' := hw'.symm; subst hw'))
          go_ret3
          exact ⟨by rw [HRB.out]; rfl, rfl⟩
      · have hdb : decide (18446744073709551615 < v) = false := decide_eq_false hbig
        rw [DgK, hdb] at hd10
        have HNB : Hid (v ≤ 18446744073709551615) := Nat.le_of_not_lt hbig
        clear hbig hdb
        rcases hcs with h48 | ⟨h48, hl⟩ | ⟨h48, hl, hx, hX⟩
        all_goals
          go_enter Tryz.func115, Tryz.ntmps115
          go_wp2_with (first
            | (have := t10; go_at_call 140; refine (hd10 _).mono ?_; clear t10 this; rintro e w' ⟨⟨x, rfl, hx0, hx1, HX⟩, hw'⟩; replace hw' := hw'.symm; subst hw'; refine Hid.out ?_))
          refine Lib.hid ?_
          have hxv := HX.out HNB.out
          have HRB : Hid (nextO (s.data.toList.drop a) = (if x ≤ 9223372036854775807 then x else x - 18446744073709551616, 0 + K, 0)) := by show nextO _ = _; rw [HR.out, nNum_pos HNB.out, hxv]
          clear hxv
          go_wp2
          go_ret3
          exact ⟨by rw [HRB.out]; exact ret3_eq (wrap_pos ‹0 ≤ x› ‹x ≤ 18446744073709551615›) (by omega) rfl, rfl⟩
    · -- a mark
      have hd16' := dgK s hs (a + 2) 16 ((a : Int) + 2) 16 (by omega) rfl (by omega) (Or.inr rfl)
      have HM : Hid (markB (s.data.toList.drop (a)) = true) := hmk
      have HN2' := HN2.out hmk
      have HN1' : dl 16 (s.data.toList.drop (a + 2)) = [] → nextO (s.data.toList.drop a) = nNum (0 + K) (valF false v) := fun h => HN1.out HK0.out (fun h2 => h2.2 h)
      have hK2l : (dl 16 (s.data.toList.drop (a + 2))).length ≤ s.size - (a + 2) := by have := dl_len 16 (s.data.toList.drop (a + 2)); rw [List.length_drop, ← sizeL] at this; exact this
      have hnil : (dl 16 (s.data.toList.drop (a + 2))).length = 0 → dl 16 (s.data.toList.drop (a + 2)) = [] := List.eq_nil_of_length_eq_zero
      obtain ⟨v2, hv2⟩ : ∃ v2, val 16 (dl 16 (s.data.toList.drop (a + 2))) = v2 := ⟨_, rfl⟩
      obtain ⟨K2, hK2⟩ : ∃ K2, (dl 16 (s.data.toList.drop (a + 2))).length = K2 := ⟨_, rfl⟩
      rw [hv2, hK2] at hd16' HN2'
      rw [hK2] at hK2l hnil
      have hd16 : DgK s ((a : Int) + 2) 16 v2 K2 := hd16'
      have HNil : Hid (K2 = 0 → dl 16 (s.data.toList.drop (a + 2)) = []) := hnil
      have t16 : True := trivial
      clear hd16' hv2 hK2 hnil hmk HN1 HN2
      by_cases hk2 : K2 = 0
      · have HR : Hid (nextO (s.data.toList.drop a) = nNum (0 + K) (valF false v)) := HN1' (HNil.out hk2)
        subst hk2
        clear HN1' HN2' HNil
        by_cases hbig : 18446744073709551615 < v
        · have HRB : Hid (nextO (s.data.toList.drop a) = (0, 0, 41)) := HR.out.trans (nNum_big (Or.inl hbig))
          have hdb : decide (18446744073709551615 < v) = true := decide_eq_true hbig
          rw [DgK, hdb] at hd10
          clear HR hbig hdb
          rcases hcs with hx | ⟨hx, hX⟩
          all_goals
            go_enter Tryz.func115, Tryz.ntmps115
            go_wp2_with (first
              | (have := t10; go_at_call 140; refine (hd10 _).mono ?_; clear t10 this; rintro e w' ⟨⟨x, rfl, hx0, hx1, HX⟩, hw'⟩; replace hw' := hw'.symm; subst hw')
              | (have := t16; go_at_call 140; refine (hd16 _).mono ?_; clear t16 this; rintro e w' ⟨⟨y, rfl, hy0, hy1, HY⟩, hw'⟩; replace hw' := hw'.symm; subst hw'))
            go_ret3
            exact ⟨by rw [HRB.out]; rfl, rfl⟩
        · have hdb : decide (18446744073709551615 < v) = false := decide_eq_false hbig
          rw [DgK, hdb] at hd10
          have HNB : Hid (v ≤ 18446744073709551615) := Nat.le_of_not_lt hbig
          clear hbig hdb
          rcases hcs with hx | ⟨hx, hX⟩
          all_goals
            go_enter Tryz.func115, Tryz.ntmps115
            go_wp2_with (first
              | (have := t10; go_at_call 140; refine (hd10 _).mono ?_; clear t10 this; rintro e w' ⟨⟨x, rfl, hx0, hx1, HX⟩, hw'⟩; replace hw' := hw'.symm; subst hw'; refine Hid.out ?_))
            refine Lib.hid ?_
            have hxv := HX.out HNB.out
            have HRB : Hid (nextO (s.data.toList.drop a) = (if x ≤ 9223372036854775807 then x else x - 18446744073709551616, 0 + K, 0)) := by show nextO _ = _; rw [HR.out, nNum_pos HNB.out, hxv]
            clear hxv
            go_wp2_with (go_at_call 140; refine (hd16 _).mono ?_; clear t16; rintro e w' ⟨⟨y, rfl, hy0, hy1, HY⟩, hw'⟩; replace hw' := hw'.symm; subst hw')
            go_ret3
            exact ⟨by rw [HRB.out]; exact ret3_eq (wrap_pos ‹0 ≤ x› ‹x ≤ 18446744073709551615›) (by omega) rfl, rfl⟩
      · have HR : Hid (nextO (s.data.toList.drop a) = nNum (2 + K2) (valF false v2)) := HN2' hk2
        have hk2i : (0 : Int) < K2 := by omega
        clear HN1' HN2' HNil hk2
        by_cases hbig : 18446744073709551615 < v2
        · have HRB : Hid (nextO (s.data.toList.drop a) = (0, 0, 41)) := HR.out.trans (nNum_big (Or.inl hbig))
          have hdb : decide (18446744073709551615 < v2) = true := decide_eq_true hbig
          rw [DgK, hdb] at hd16
          clear HR hbig hdb
          rcases hcs with hx | ⟨hx, hX⟩
          all_goals
            go_enter Tryz.func115, Tryz.ntmps115
            go_wp2_with (first
              | (have := t10; go_at_call 140; refine (hd10 _).mono ?_; clear t10 this; rintro e w' ⟨⟨x, rfl, hx0, hx1, HX⟩, hw'⟩; replace hw' := hw'.symm; subst hw')
              | (have := t16; go_at_call 140; refine (hd16 _).mono ?_; clear t16 this; rintro e w' ⟨⟨y, rfl, hy0, hy1, HY⟩, hw'⟩; replace hw' := hw'.symm; subst hw'))
            go_ret3
            exact ⟨by rw [HRB.out]; rfl, rfl⟩
        · have hdb : decide (18446744073709551615 < v2) = false := decide_eq_false hbig
          rw [DgK, hdb] at hd16
          have HNB : Hid (v2 ≤ 18446744073709551615) := Nat.le_of_not_lt hbig
          clear hbig hdb
          rcases hcs with hx | ⟨hx, hX⟩
          all_goals
            go_enter Tryz.func115, Tryz.ntmps115
            go_wp2_with (first
              | (have := t10; go_at_call 140; refine (hd10 _).mono ?_; clear t10 this; rintro e w' ⟨⟨x, rfl, hx0, hx1, HX⟩, hw'⟩; replace hw' := hw'.symm; subst hw')
              | (have := t16; go_at_call 140; refine (hd16 _).mono ?_; clear t16 this; rintro e w' ⟨⟨y, rfl, hy0, hy1, HY⟩, hw'⟩; replace hw' := hw'.symm; subst hw'; refine Hid.out ?_))
            refine Lib.hid ?_
            have hxv := HY.out HNB.out
            have HRB : Hid (nextO (s.data.toList.drop a) = (if y ≤ 9223372036854775807 then y else y - 18446744073709551616, 2 + K2, 0)) := by show nextO _ = _; rw [HR.out, nNum_pos HNB.out, hxv]
            clear hxv
            go_wp2
            go_ret3
            exact ⟨by rw [HRB.out]; exact ret3_eq (wrap_pos ‹0 ≤ y› ‹y ≤ 18446744073709551615›) (by omega) rfl, rfl⟩
end Go.Proofs.YtjnbhcakfenbhaaGreatDoor.Lx
/- The reference's whole and Parse; the law WordParses. -/
namespace Go.Proofs.YtjnbhcakfenbhaaGreatDoor.Lx
open Go.RowKit M
set_option linter.unusedSimpArgs false
set_option linter.unusedVariables false

set_option maxRecDepth 100000 in
set_option maxHeartbeats 8000000 in
/-- whole, of a text that begins with a number. -/
theorem whole_any (s : ByteArray) (hs : s.size ≤ maxLen) (hd : digF s.data.toList ≠ []) (w : World) :
    Calls Tryz.prog 116 #[.string s] w fun e w' => e = .returned (.int .i64 (lenF s.data.toList : Int)) ∧ w' = w := by
  have hs' := hs
  unfold maxLen at hs'
  have hmz : minusB s.data.toList = true ∨ minusB s.data.toList = false := by cases minusB s.data.toList <;> simp
  rcases hmz with hm | hm
  · have hsg : sgn s.data.toList = 1 := by unfold sgn; rw [hm]; rfl
    have hlF := lenF_le s.data.toList
    rw [← sizeL] at hlF
    have h10 : (dl 10 (s.data.toList.drop 1)).length ≠ 0 := fun h => by
      by_cases hp : markB (s.data.toList.drop 1) = true
      · exact dl10_mark hp h
      · have hF := digF_plain (l := s.data.toList) (fun hh => hp (by rw [hsg] at hh; exact hh.1))
        rw [hsg] at hF
        exact hd (hF.1.trans (List.eq_nil_of_length_eq_zero h))
    have hbl : 1 < s.size := by
      have hl := sizeL s
      refine Nat.lt_of_not_le fun h2 => h10 ?_
      rw [List.drop_eq_nil_of_le (by omega)]; rfl
    have h0 : 0 < s.size := by omega
    have h45 : ((s[0].toNat : Int) == 45) = true := by
      have := minusB_at h0
      rw [List.drop_zero, hm] at this
      simp at this ⊢; omega
    have hi0 : (0 : Int) < s.size := by omega
    have hib : (1 : Int) < s.size := by omega
    have hd10 := dgK s hs 1 10 1 10 rfl rfl (by omega) (Or.inl rfl)
    have t10 : True := trivial
    have HT : Hid (¬ (markB (s.data.toList.drop 1) = true ∧ (dl 16 (s.data.toList.drop 3)).length ≠ 0) → lenF s.data.toList = 1 + (dl 10 (s.data.toList.drop 1)).length) := fun h => by
      have hF := digF_plain (l := s.data.toList) (fun hh => h (by rw [hsg, List.drop_drop] at hh; exact ⟨hh.1, fun e => hh.2 (List.eq_nil_of_length_eq_zero e)⟩))
      rw [hsg] at hF; exact hF.2.2
    have HH : Hid (markB (s.data.toList.drop 1) = true → (dl 16 (s.data.toList.drop 3)).length ≠ 0 → lenF s.data.toList = 3 + (dl 16 (s.data.toList.drop 3)).length) := fun h h2 => by
      have hF := digF_mark (l := s.data.toList) (by rw [hsg]; exact h) (by rw [hsg, List.drop_drop]; exact fun e => h2 (by rw [e]; rfl))
      rw [hsg, List.drop_drop] at hF; exact hF.2.2
    obtain ⟨N, hN⟩ : ∃ N, lenF s.data.toList = N := ⟨_, rfl⟩
    rw [hN] at HT HH hlF ⊢
    clear hN hsg hm hd h10
    have hcs : (markB (s.data.toList.drop 1) = false ∧ (((s[1].toNat : Int) == 48) = false ∨ (((s[1].toNat : Int) == 48) = true ∧ ¬ (2 : Int) < (s.size : Int)) ∨ (((s[1].toNat : Int) == 48) = true ∧ ∃ h : 2 < s.size, ((s[2].toNat : Int) == 120) = false ∧ ((s[2].toNat : Int) == 88) = false)))
        ∨ (markB (s.data.toList.drop 1) = true ∧ ((s[1].toNat : Int) == 48) = true ∧ ∃ h : 2 < s.size, (((s[2].toNat : Int) == 120) = true ∨ (((s[2].toNat : Int) == 120) = false ∧ ((s[2].toNat : Int) == 88) = true))) := by
      by_cases hl : 2 < s.size
      · have hmk := markB_at (s := s) (b := 1) (by omega)
        by_cases e48 : s[1].toNat = 48
        · by_cases ex : s[2].toNat = 120
          · right; refine ⟨by rw [hmk]; simp [e48, ex], by simp [e48], hl, Or.inl (by simp [ex])⟩
          · by_cases eX : s[2].toNat = 88
            · right; refine ⟨by rw [hmk]; simp [e48, eX], by simp [e48], hl, Or.inr ⟨by simp; omega, by simp [eX]⟩⟩
            · left; refine ⟨by rw [hmk]; simp [ex, eX], Or.inr (Or.inr ⟨by simp [e48], hl, by simp; omega, by simp; omega⟩)⟩
        · left; refine ⟨by rw [hmk]; simp [e48], Or.inl (by simp; omega)⟩
      · left; refine ⟨markB_end (by omega), ?_⟩
        by_cases e48 : s[1].toNat = 48
        · right; left; exact ⟨by simp [e48], by omega⟩
        · left; simp; omega
    rcases hcs with ⟨hmk, hcs⟩ | ⟨hmk, h48, hl, hcs⟩
    · have HR : Hid (N = 1 + (dl 10 (s.data.toList.drop 1)).length) := HT.out (fun h => by rw [hmk] at h; cases h.1)
      clear HT HH hmk
      obtain ⟨K, hK⟩ : ∃ K, (dl 10 (s.data.toList.drop 1)).length = K := ⟨_, rfl⟩
      obtain ⟨v, hv⟩ : ∃ v, val 10 (dl 10 (s.data.toList.drop 1)) = v := ⟨_, rfl⟩
      rw [hK, hv] at hd10
      rw [hK] at HR
      have hKs : 1 + K ≤ s.size := by rw [← HR.out]; exact hlF
      clear hK hv hlF
      rcases hcs with h48 | ⟨h48, hl⟩ | ⟨h48, hl, hx, hX⟩
      all_goals
        go_enter Tryz.func116, Tryz.ntmps116
        go_wp2_with (first
          | (have := t10; go_at_call 140; refine (hd10 _).mono ?_; clear t10 this; rintro e w' ⟨⟨x, rfl, hx0, hx1, HX⟩, hw'⟩; replace hw' := hw'.symm; subst hw'))
        go_ret
        exact ⟨ret_int (by have := HR.out; omega), rfl⟩
    · have hd16 := dgK s hs 3 16 3 16 rfl rfl (by omega) (Or.inr rfl)
      have t16 : True := trivial
      have HR1 : Hid ((dl 16 (s.data.toList.drop 3)).length = 0 → N = 1 + (dl 10 (s.data.toList.drop 1)).length) := fun h => HT.out (fun h2 => h2.2 h)
      have HR2 : Hid ((dl 16 (s.data.toList.drop 3)).length ≠ 0 → N = 3 + (dl 16 (s.data.toList.drop 3)).length) := fun h => HH.out hmk h
      have hdl := dl_len 10 (s.data.toList.drop 1)
      have hdl2 := dl_len 16 (s.data.toList.drop 3)
      rw [List.length_drop, ← sizeL] at hdl hdl2
      clear HT HH hmk
      obtain ⟨K, hK⟩ : ∃ K, (dl 10 (s.data.toList.drop 1)).length = K := ⟨_, rfl⟩
      obtain ⟨v, hv⟩ : ∃ v, val 10 (dl 10 (s.data.toList.drop 1)) = v := ⟨_, rfl⟩
      obtain ⟨K2, hK2⟩ : ∃ K, (dl 16 (s.data.toList.drop 3)).length = K := ⟨_, rfl⟩
      obtain ⟨v2, hv2⟩ : ∃ v, val 16 (dl 16 (s.data.toList.drop 3)) = v := ⟨_, rfl⟩
      rw [hK, hv] at hd10
      rw [hK2, hv2] at hd16
      rw [hK, hK2] at HR1
      rw [hK2] at HR2 hdl2
      rw [hK] at hdl
      clear hK hv hK2 hv2 hlF
      by_cases hk2 : K2 = 0
      · have hk2i : ¬ (0 : Int) < K2 := by omega
        have HR : Hid (N = 1 + K) := HR1.out hk2
        clear hk2 HR1 HR2
        rcases hcs with hx | ⟨hx, hX⟩
        all_goals
          go_enter Tryz.func116, Tryz.ntmps116
          go_wp2_with (first
            | (have := t10; go_at_call 140; refine (hd10 _).mono ?_; clear t10 this; rintro e w' ⟨⟨x, rfl, hx0, hx1, HX⟩, hw'⟩; replace hw' := hw'.symm; subst hw')
            | (have := t16; go_at_call 140; refine (hd16 _).mono ?_; clear t16 this; rintro e w' ⟨⟨y, rfl, hy0, hy1, HY⟩, hw'⟩; replace hw' := hw'.symm; subst hw'))
          go_ret
          exact ⟨ret_int (by have := HR.out; omega), rfl⟩
      · have hk2i : (0 : Int) < K2 := by omega
        have HR : Hid (N = 3 + K2) := HR2.out hk2
        clear hk2 HR1 HR2
        rcases hcs with hx | ⟨hx, hX⟩
        all_goals
          go_enter Tryz.func116, Tryz.ntmps116
          go_wp2_with (first
            | (have := t10; go_at_call 140; refine (hd10 _).mono ?_; clear t10 this; rintro e w' ⟨⟨x, rfl, hx0, hx1, HX⟩, hw'⟩; replace hw' := hw'.symm; subst hw')
            | (have := t16; go_at_call 140; refine (hd16 _).mono ?_; clear t16 this; rintro e w' ⟨⟨y, rfl, hy0, hy1, HY⟩, hw'⟩; replace hw' := hw'.symm; subst hw'))
          go_ret
          exact ⟨ret_int (by have := HR.out; omega), rfl⟩
  · have hsg : sgn s.data.toList = 0 := by unfold sgn; rw [hm]; rfl
    have hlF := lenF_le s.data.toList
    rw [← sizeL] at hlF
    have h10 : (dl 10 (s.data.toList.drop 0)).length ≠ 0 := fun h => by
      by_cases hp : markB (s.data.toList.drop 0) = true
      · exact dl10_mark hp h
      · have hF := digF_plain (l := s.data.toList) (fun hh => hp (by rw [hsg] at hh; exact hh.1))
        rw [hsg] at hF
        exact hd (hF.1.trans (List.eq_nil_of_length_eq_zero h))
    have hbl : 0 < s.size := by
      have hl := sizeL s
      refine Nat.lt_of_not_le fun h2 => h10 ?_
      rw [List.drop_eq_nil_of_le (by omega)]; rfl
    have h0 : 0 < s.size := by omega
    have h45 : ((s[0].toNat : Int) == 45) = false := by
      have := minusB_at h0
      rw [List.drop_zero, hm] at this
      simp at this ⊢; omega
    have hi0 : (0 : Int) < s.size := by omega
    have hib : (0 : Int) < s.size := by omega
    have hd10 := dgK s hs 0 10 0 10 rfl rfl (by omega) (Or.inl rfl)
    have t10 : True := trivial
    have HT : Hid (¬ (markB (s.data.toList.drop 0) = true ∧ (dl 16 (s.data.toList.drop 2)).length ≠ 0) → lenF s.data.toList = 0 + (dl 10 (s.data.toList.drop 0)).length) := fun h => by
      have hF := digF_plain (l := s.data.toList) (fun hh => h (by rw [hsg, List.drop_drop] at hh; exact ⟨hh.1, fun e => hh.2 (List.eq_nil_of_length_eq_zero e)⟩))
      rw [hsg] at hF; exact hF.2.2
    have HH : Hid (markB (s.data.toList.drop 0) = true → (dl 16 (s.data.toList.drop 2)).length ≠ 0 → lenF s.data.toList = 2 + (dl 16 (s.data.toList.drop 2)).length) := fun h h2 => by
      have hF := digF_mark (l := s.data.toList) (by rw [hsg]; exact h) (by rw [hsg, List.drop_drop]; exact fun e => h2 (by rw [e]; rfl))
      rw [hsg, List.drop_drop] at hF; exact hF.2.2
    obtain ⟨N, hN⟩ : ∃ N, lenF s.data.toList = N := ⟨_, rfl⟩
    rw [hN] at HT HH hlF ⊢
    clear hN hsg hm hd h10
    have hcs : (markB (s.data.toList.drop 0) = false ∧ (((s[0].toNat : Int) == 48) = false ∨ (((s[0].toNat : Int) == 48) = true ∧ ¬ (1 : Int) < (s.size : Int)) ∨ (((s[0].toNat : Int) == 48) = true ∧ ∃ h : 1 < s.size, ((s[1].toNat : Int) == 120) = false ∧ ((s[1].toNat : Int) == 88) = false)))
        ∨ (markB (s.data.toList.drop 0) = true ∧ ((s[0].toNat : Int) == 48) = true ∧ ∃ h : 1 < s.size, (((s[1].toNat : Int) == 120) = true ∨ (((s[1].toNat : Int) == 120) = false ∧ ((s[1].toNat : Int) == 88) = true))) := by
      by_cases hl : 1 < s.size
      · have hmk := markB_at (s := s) (b := 0) (by omega)
        by_cases e48 : s[0].toNat = 48
        · by_cases ex : s[1].toNat = 120
          · right; refine ⟨by rw [hmk]; simp [e48, ex], by simp [e48], hl, Or.inl (by simp [ex])⟩
          · by_cases eX : s[1].toNat = 88
            · right; refine ⟨by rw [hmk]; simp [e48, eX], by simp [e48], hl, Or.inr ⟨by simp; omega, by simp [eX]⟩⟩
            · left; refine ⟨by rw [hmk]; simp [ex, eX], Or.inr (Or.inr ⟨by simp [e48], hl, by simp; omega, by simp; omega⟩)⟩
        · left; refine ⟨by rw [hmk]; simp [e48], Or.inl (by simp; omega)⟩
      · left; refine ⟨markB_end (by omega), ?_⟩
        by_cases e48 : s[0].toNat = 48
        · right; left; exact ⟨by simp [e48], by omega⟩
        · left; simp; omega
    rcases hcs with ⟨hmk, hcs⟩ | ⟨hmk, h48, hl, hcs⟩
    · have HR : Hid (N = 0 + (dl 10 (s.data.toList.drop 0)).length) := HT.out (fun h => by rw [hmk] at h; cases h.1)
      clear HT HH hmk
      obtain ⟨K, hK⟩ : ∃ K, (dl 10 (s.data.toList.drop 0)).length = K := ⟨_, rfl⟩
      obtain ⟨v, hv⟩ : ∃ v, val 10 (dl 10 (s.data.toList.drop 0)) = v := ⟨_, rfl⟩
      rw [hK, hv] at hd10
      rw [hK] at HR
      have hKs : 0 + K ≤ s.size := by rw [← HR.out]; exact hlF
      clear hK hv hlF
      rcases hcs with h48 | ⟨h48, hl⟩ | ⟨h48, hl, hx, hX⟩
      all_goals
        go_enter Tryz.func116, Tryz.ntmps116
        go_wp2_with (first
          | (have := t10; go_at_call 140; refine (hd10 _).mono ?_; clear t10 this; rintro e w' ⟨⟨x, rfl, hx0, hx1, HX⟩, hw'⟩; replace hw' := hw'.symm; subst hw'))
        go_ret
        exact ⟨ret_int (by have := HR.out; omega), rfl⟩
    · have hd16 := dgK s hs 2 16 2 16 rfl rfl (by omega) (Or.inr rfl)
      have t16 : True := trivial
      have HR1 : Hid ((dl 16 (s.data.toList.drop 2)).length = 0 → N = 0 + (dl 10 (s.data.toList.drop 0)).length) := fun h => HT.out (fun h2 => h2.2 h)
      have HR2 : Hid ((dl 16 (s.data.toList.drop 2)).length ≠ 0 → N = 2 + (dl 16 (s.data.toList.drop 2)).length) := fun h => HH.out hmk h
      have hdl := dl_len 10 (s.data.toList.drop 0)
      have hdl2 := dl_len 16 (s.data.toList.drop 2)
      rw [List.length_drop, ← sizeL] at hdl hdl2
      clear HT HH hmk
      obtain ⟨K, hK⟩ : ∃ K, (dl 10 (s.data.toList.drop 0)).length = K := ⟨_, rfl⟩
      obtain ⟨v, hv⟩ : ∃ v, val 10 (dl 10 (s.data.toList.drop 0)) = v := ⟨_, rfl⟩
      obtain ⟨K2, hK2⟩ : ∃ K, (dl 16 (s.data.toList.drop 2)).length = K := ⟨_, rfl⟩
      obtain ⟨v2, hv2⟩ : ∃ v, val 16 (dl 16 (s.data.toList.drop 2)) = v := ⟨_, rfl⟩
      rw [hK, hv] at hd10
      rw [hK2, hv2] at hd16
      rw [hK, hK2] at HR1
      rw [hK2] at HR2 hdl2
      rw [hK] at hdl
      clear hK hv hK2 hv2 hlF
      by_cases hk2 : K2 = 0
      · have hk2i : ¬ (0 : Int) < K2 := by omega
        have HR : Hid (N = 0 + K) := HR1.out hk2
        clear hk2 HR1 HR2
        rcases hcs with hx | ⟨hx, hX⟩
        all_goals
          go_enter Tryz.func116, Tryz.ntmps116
          go_wp2_with (first
            | (have := t10; go_at_call 140; refine (hd10 _).mono ?_; clear t10 this; rintro e w' ⟨⟨x, rfl, hx0, hx1, HX⟩, hw'⟩; replace hw' := hw'.symm; subst hw')
            | (have := t16; go_at_call 140; refine (hd16 _).mono ?_; clear t16 this; rintro e w' ⟨⟨y, rfl, hy0, hy1, HY⟩, hw'⟩; replace hw' := hw'.symm; subst hw'))
          go_ret
          exact ⟨ret_int (by have := HR.out; omega), rfl⟩
      · have hk2i : (0 : Int) < K2 := by omega
        have HR : Hid (N = 2 + K2) := HR2.out hk2
        clear hk2 HR1 HR2
        rcases hcs with hx | ⟨hx, hX⟩
        all_goals
          go_enter Tryz.func116, Tryz.ntmps116
          go_wp2_with (first
            | (have := t10; go_at_call 140; refine (hd10 _).mono ?_; clear t10 this; rintro e w' ⟨⟨x, rfl, hx0, hx1, HX⟩, hw'⟩; replace hw' := hw'.symm; subst hw')
            | (have := t16; go_at_call 140; refine (hd16 _).mono ?_; clear t16 this; rintro e w' ⟨⟨y, rfl, hy0, hy1, HY⟩, hw'⟩; replace hw' := hw'.symm; subst hw'))
          go_ret
          exact ⟨ret_int (by have := HR.out; omega), rfl⟩
end Go.Proofs.YtjnbhcakfenbhaaGreatDoor.Lx
/- The reference's Parse. -/
namespace Go.Proofs.YtjnbhcakfenbhaaGreatDoor.Lx
open Go.RowKit M
set_option linter.unusedSimpArgs false
set_option linter.unusedVariables false

set_option maxRecDepth 100000 in
set_option maxHeartbeats 2000000 in
theorem rparse_any (s : ByteArray) (hs : s.size ≤ maxLen) (w : World) :
    Calls Tryz.prog 91 #[.string s] w fun e w' => e = .returned (parseV (parseO s.data.toList)) ∧ w' = w := by
  have hs' := hs
  unfold maxLen at hs'
  have hN := fun w => rnext_any s hs 0 w
  have e0 : nextA s 0 = nextO s.data.toList := by unfold nextA; rw [if_neg (by omega)]; rfl
  rw [e0] at hN
  clear e0
  have hsz := sizeL s
  have hll := lenF_le s.data.toList
  by_cases hd : digF s.data.toList = []
  · have hn0 : nextO s.data.toList = (0, 0, 40) := by unfold nextO; rw [if_pos hd]
    rw [hn0] at hN
    have hN' : ∀ w, Calls Tryz.prog 115 #[.string s, .int .i64 0] w fun e w' => e = .returned (.tuple #[.int .i64 0, .int .i64 0, .int .i64 40]) ∧ w' = w := hN
    have HR : Hid (parseO s.data.toList = (0, 40)) := by show parseO _ = _; unfold parseO; rw [if_pos (Or.inl hd)]
    clear hN hn0 hd hll hsz
    go_enter Tryz.func91, Tryz.ntmps91
    go_wp2_with (go_at_call 115; refine (hN' _).mono ?_; rintro e w' ⟨rfl, hw'⟩; replace hw' := hw'.symm; subst hw')
    go_ret2
    exact ⟨by rw [HR.out]; rfl, rfl⟩
  have hW := fun w => whole_any s hs hd w
  have hn0 : nextO s.data.toList = nNum (lenF s.data.toList) (numF s.data.toList) := by unfold nextO; rw [if_neg hd]
  have hp0 : parseO s.data.toList = if lenF s.data.toList ≠ s.size then (0, 40) else pNum (numF s.data.toList) := by
    unfold parseO
    by_cases h : lenF s.data.toList ≠ s.size
    · rw [if_pos h, if_pos (Or.inr (by rw [← hsz]; exact h))]
    · rw [if_neg h, if_neg (by rw [← hsz]; exact fun hh => hh.elim hd h)]
  rw [hn0] at hN
  have HP0 : Hid (parseO s.data.toList = if lenF s.data.toList ≠ s.size then (0, 40) else pNum (numF s.data.toList)) := hp0
  obtain ⟨L, hL⟩ : ∃ L, lenF s.data.toList = L := ⟨_, rfl⟩
  obtain ⟨o, ho⟩ : ∃ o, numF s.data.toList = o := ⟨_, rfl⟩
  rw [hL] at hN hW HP0 hll
  rw [ho] at hN HP0
  rw [← hsz] at hll
  clear hp0 hn0 hL ho hd hsz
  have hcmp : ((L : Int) == (s.size : Int)) = decide (L = s.size) := by
    rw [Bool.eq_iff_iff]; simp; omega
  by_cases hLs : L = s.size
  · have hc : ((L : Int) == (s.size : Int)) = true := by rw [hcmp]; exact decide_eq_true hLs
    have HR : Hid (parseO s.data.toList = pNum o) := by show parseO _ = _; rw [HP0.out, if_neg (fun h => h hLs)]
    clear hcmp hLs HP0
    cases o with
    | none =>
        have hN' : ∀ w, Calls Tryz.prog 115 #[.string s, .int .i64 0] w fun e w' => e = .returned (.tuple #[.int .i64 0, .int .i64 0, .int .i64 41]) ∧ w' = w := hN
        clear hN
        go_enter Tryz.func91, Tryz.ntmps91
        go_wp2_with (first
          | (go_at_call 115; refine (hN' _).mono ?_; rintro e w' ⟨rfl, hw'⟩; replace hw' := hw'.symm; subst hw')
          | (go_at_call 116; refine (hW _).mono ?_; rintro e w' ⟨rfl, hw'⟩; replace hw' := hw'.symm; subst hw'))
        go_ret2
        exact ⟨by rw [HR.out]; rfl, rfl⟩
    | some v =>
        have hN' : ∀ w, Calls Tryz.prog 115 #[.string s, .int .i64 0] w fun e w' => e = .returned (.tuple #[.int .i64 v, .int .i64 (L : Int), .int .i64 0]) ∧ w' = w := hN
        clear hN
        go_enter Tryz.func91, Tryz.ntmps91
        go_wp2_with (first
          | (go_at_call 115; refine (hN' _).mono ?_; rintro e w' ⟨rfl, hw'⟩; replace hw' := hw'.symm; subst hw'))
        go_ret2
        exact ⟨by rw [HR.out]; rfl, rfl⟩
  · have hc : ((L : Int) == (s.size : Int)) = false := by rw [hcmp]; exact decide_eq_false hLs
    have HR : Hid (parseO s.data.toList = (0, 40)) := by show parseO _ = _; rw [HP0.out, if_pos hLs]
    clear hcmp hLs HP0
    cases o with
    | none =>
        have hN' : ∀ w, Calls Tryz.prog 115 #[.string s, .int .i64 0] w fun e w' => e = .returned (.tuple #[.int .i64 0, .int .i64 0, .int .i64 41]) ∧ w' = w := hN
        clear hN
        go_enter Tryz.func91, Tryz.ntmps91
        go_wp2_with (first
          | (go_at_call 115; refine (hN' _).mono ?_; rintro e w' ⟨rfl, hw'⟩; replace hw' := hw'.symm; subst hw')
          | (go_at_call 116; refine (hW _).mono ?_; rintro e w' ⟨rfl, hw'⟩; replace hw' := hw'.symm; subst hw'))
        go_ret2
        exact ⟨by rw [HR.out]; rfl, rfl⟩
    | some v =>
        have hN' : ∀ w, Calls Tryz.prog 115 #[.string s, .int .i64 0] w fun e w' => e = .returned (.tuple #[.int .i64 v, .int .i64 (L : Int), .int .i64 0]) ∧ w' = w := hN
        clear hN
        go_enter Tryz.func91, Tryz.ntmps91
        go_wp2_with (first
          | (go_at_call 115; refine (hN' _).mono ?_; rintro e w' ⟨rfl, hw'⟩; replace hw' := hw'.symm; subst hw'))
        go_ret2
        exact ⟨by rw [HR.out]; rfl, rfl⟩

end Go.Proofs.YtjnbhcakfenbhaaGreatDoor.Lx
/- Several texts in one: V4, V6, V7. -/
/- The reference's token: names. -/
namespace Go.Proofs.YtjnbhcakfenbhaaGreatDoor.Lx
open Go.RowKit M
set_option linter.unusedSimpArgs false
set_option linter.unusedVariables false

theorem ret_STT {w : World} {b t k m : Nat} {cs : List Value} {fn : Func} {p : Tmp} {R : Ending → World → Prop} {a : Act} (h : fn.results = #[.cell p t, .tmp k, .tmp m]) (hp : a.tmps.getD p undef = .pointer (some ⟨b, 0, none⟩))
    (hd : a.defers = []) (hc : IsS w b t cs) (d : TypeDesc) (hu : Tryz.prog.underlying t = some d) (hr : (match d with | .struct _ => true | .array _ _ => true | _ => false) = true) (hi : (Tryz.prog.info? t).map (·.size) = some cs.length) (v : Value) (hv : a.tmps.getD k undef = v) (u : Value) (hu' : a.tmps.getD m undef = u) (hR : R (.returned (.tuple #[.agg cs.toArray, v, u])) w) : bodyPost Tryz.prog fn R .ret a w := by
  have hc' : w.heap[b]? = some (.cells cs.toArray t (0, 0)) := hc
  have hp' : a.tmps[p]?.getD undef = .pointer (some ⟨b, 0, none⟩) := by simpa using hp
  have hv' : a.tmps[k]?.getD undef = v := by simpa using hv
  have hu2 : a.tmps[m]?.getD undef = u := by simpa using hu'
  refine ⟨hd, .tuple #[.agg cs.toArray, v, u], ?_, hR⟩
  simp [results, h, hp', hv', hu2, asAddr, run_loadVar_row w b t t cs.toArray (0, 0) d hc' hu (by cases d <;> simp_all) (by simpa using hi)]

/-- What the reference's token answers, at a place where a piece is cut. -/
def rtokV (p : Nat) (C : Piece) : Value := if C.wrong = 0 then .tuple #[tokV ⟨C.kind, C.text, C.value, 0, 0, p, p + C.length⟩, .int .i64 0, .int .i64 0] else .tuple #[tokV noTok, .int .i64 (C.wrong : Int), .int .i64 ((p + C.length : Nat) : Int)]
theorem rtok_ok (p kd : Nat) (tx : List UInt8) (vl : Int) (n : Nat) : rtokV p ⟨kd, tx, vl, n, 0⟩ = .tuple #[.agg (tokL ⟨kd, tx, vl, 0, 0, p, p + n⟩).toArray, .int .i64 0, .int .i64 0] := rfl
theorem rtok_bad (p kd : Nat) (tx : List UInt8) (vl : Int) (n wr : Nat) (h : wr ≠ 0) : rtokV p ⟨kd, tx, vl, n, wr⟩ = .tuple #[.agg (tokL noTok).toArray, .int .i64 (wr : Int), .int .i64 ((p + n : Nat) : Int)] := by unfold rtokV; rw [if_neg h]; rfl

set_option maxRecDepth 100000 in
set_option maxHeartbeats 2000000 in
theorem rtoken_name (s : ByteArray) (hs : s.size < 2305843009213693952) (p : Nat) (hp : p < s.size) (hl : letN s[p].toNat = true) (w : World) :
    Calls Tryz.prog 64 #[.string s, .int .i64 (p : Int)] w fun e w' => e = .returned (rtokV p (cutF (s.data.toList.drop p))) ∧ Below w.heap.size w w' := by
  have hC : cutF (s.data.toList.drop p) = namePiece (s.data.toList.drop p) := (by rw [drop_cons s p hp]; unfold cutF; dsimp only; rw [if_pos hl])
  have hle := nameLen_le (s.data.toList.drop p)
  rw [List.length_drop, ← sizeL] at hle
  have cN := fun w => rname_any s (by unfold maxLen; omega) p (by omega) w
  have cL := fun w => rletter_any s[p].toNat s[p].toNat_lt w
  have hTX : s.extract p (p + nameLen (s.data.toList.drop p)) = ⟨((s.data.toList.drop p).take (nameLen (s.data.toList.drop p))).toArray⟩ := (by rw [exA, take_drop_add])
  unfold namePiece at hC
  obtain ⟨L, hL⟩ : ∃ L, nameLen (s.data.toList.drop p) = L := ⟨_, rfl⟩
  rw [hL] at hC hle cN hTX
  rw [hl] at cL
  clear hl hL
  obtain ⟨C, hCC⟩ : ∃ C, cutF (s.data.toList.drop p) = C := ⟨_, rfl⟩
  rw [hCC] at hC ⊢
  clear hCC
  generalize (s.data.toList.drop p).take L = tx at *
  have hpi : (p : Int) < s.size := by omega
  have hle2 : (p : Int) + L ≤ s.size := by omega
  have HTX : Hid (s.extract p (p + L) = ⟨tx.toArray⟩) := hTX
  clear hTX
  by_cases h64 : 64 < L
  · have hi : (64 : Int) < L := by omega
    have HF : Hid (C = ⟨0, [], 0, 0, 1⟩) := (by show _ = _; rw [hC, if_pos h64])
    clear hC h64
    have tk : True := trivial
    go_enter Tryz.func64, Tryz.ntmps64
    go_wp2_with (first
      | (refine wpList_allocS rfl 49 rfl (tokL noTok) Tryz.zeroValue49 ?_; clear tk; intro W1 b4 F1 N4; have hb4 : w.heap.size ≤ b4 := Nat.le_of_eq F1.at'.symm; have B1 := F1.trans (Below.refl _ w) (Nat.le_refl _); clear F1)
      | (refine wpList_allocS rfl 49 rfl (tokL noTok) Tryz.zeroValue49 ?_; intro W2 b7 F2 N7; have hb7 : w.heap.size ≤ b7 := Nat.le_trans B1.size (Nat.le_of_eq F2.at'.symm); have h47 : b4 ≠ b7 := (by have := N4.lt; have := F2.at'; omega); have N4b := N4.fresh F2; have B2 := F2.trans B1 B1.size; clear F2 N4 B1)
      | (refine wpList_storeS rfl 49 _ _ rfl rfl (tokL ⟨0, [], 0, 0, 0, p, 0⟩) rfl N7 (by simp [tokL, noTok]) info38 (tok_one _) ?_; intro W3 U3 M7x; have M7 : IsS W3 b7 49 (tokL ⟨0, [], 0, 0, 0, p, 0⟩) := M7x; have M4 := N4b.upd U3 h47; have B3 := U3.trans B2 hb7; clear U3 N7 N4b B2 M7x)
      | (go_at_call 88; refine (cL _).mono ?_; rintro e w' ⟨rfl, hw'⟩; replace hw' := hw'.symm; subst hw')
      | (go_at_call 89; refine (cN _).mono ?_; rintro e w' ⟨rfl, hw'⟩; replace hw' := hw'.symm; subst hw')
      | (refine wpList_storeS rfl 49 _ _ rfl rfl (tokL noTok) rfl M4 (by simp [tokL, noTok]) info38 (tok_one _) ?_; intro V9 U9 NZx; have NZ : IsS V9 b4 49 (tokL noTok) := NZx; have BZ := U9.trans B3 hb4; clear U9 M4 B3 NZx))
    refine ret_STT rfl rfl rfl NZ _ Tryz.underlying49 rfl info38 _ rfl _ rfl ⟨?_, BZ⟩
    rw [HF.out, rtok_bad p 0 [] 0 0 1 (by omega)]; rfl
  · have hi : ¬ (64 : Int) < L := by omega
    have HF : Hid (C = ⟨1, tx, 0, L, 0⟩) := (by show _ = _; rw [hC, if_neg h64])
    clear hC h64
    have tk : True := trivial
    go_enter Tryz.func64, Tryz.ntmps64
    go_wp2_with (first
      | (refine wpList_allocS rfl 49 rfl (tokL noTok) Tryz.zeroValue49 ?_; clear tk; intro W1 b4 F1 N4; have hb4 : w.heap.size ≤ b4 := Nat.le_of_eq F1.at'.symm; have B1 := F1.trans (Below.refl _ w) (Nat.le_refl _); clear F1)
      | (refine wpList_allocS rfl 49 rfl (tokL noTok) Tryz.zeroValue49 ?_; intro W2 b7 F2 N7; have hb7 : w.heap.size ≤ b7 := Nat.le_trans B1.size (Nat.le_of_eq F2.at'.symm); have h47 : b4 ≠ b7 := (by have := N4.lt; have := F2.at'; omega); have N4b := N4.fresh F2; have B2 := F2.trans B1 B1.size; clear F2 N4 B1)
      | (refine wpList_storeS rfl 49 _ _ rfl rfl (tokL ⟨0, [], 0, 0, 0, p, 0⟩) rfl N7 (by simp [tokL, noTok]) info38 (tok_one _) ?_; intro W3 U3 M7x; have M7 : IsS W3 b7 49 (tokL ⟨0, [], 0, 0, 0, p, 0⟩) := M7x; have M4 := N4b.upd U3 h47; have B3 := U3.trans B2 hb7; clear U3 N7 N4b B2 M7x)
      | (go_at_call 88; refine (cL _).mono ?_; rintro e w' ⟨rfl, hw'⟩; replace hw' := hw'.symm; subst hw')
      | (go_at_call 89; refine (cN _).mono ?_; rintro e w' ⟨rfl, hw'⟩; replace hw' := hw'.symm; subst hw'))
    have t0 : W3.cell? ⟨b7, 0, none⟩ = some (.int .i64 0) := M7.cell 0
    have r0 := M7.frozen 0
    have t1 : W3.cell? ⟨b7, 1, none⟩ = some (.string ⟨#[]⟩) := M7.cell 1
    have r1 := M7.frozen 1
    have t6 : W3.cell? ⟨b7, 6, none⟩ = some (.int .i64 0) := M7.cell 6
    have r6 := M7.frozen 6
    go_region
    have MX := (((M7.set1 0 (.int .i64 1)).set1 1 (.string (s.extract p (p + L)))).set1 6 (.int .i64 ((p : Int) + L)))
    have UX := (((Upd.setCell W3 b7 0 (.int .i64 1)).comp (Upd.setCell _ b7 1 (.string (s.extract p (p + L))))).comp (Upd.setCell _ b7 6 (.int .i64 ((p : Int) + L))))
    clear t0 r0 t1 r1 t6 r6
    generalize (((W3.setCell ⟨b7, 0, none⟩ (.int .i64 1)).setCell ⟨b7, 1, none⟩ (.string (s.extract p (p + L)))).setCell ⟨b7, 6, none⟩ (.int .i64 ((p : Int) + L))) = X at MX UX ⊢
    rw [HTX.out] at MX
    have Z7 : IsS X.drew b7 49 (tokL ⟨1, tx, 0, 0, 0, p, p + L⟩) := (by have := MX; simp only [tokL] at this ⊢; rw [Int.natCast_add]; exact this)
    have Z4 : IsS X.drew b4 49 (tokL noTok) := (show IsS X b4 49 (tokL noTok) from M4.upd UX h47)
    have ZBx := UX.trans B3 hb7
    have ZB : Below w.heap.size w X.drew := ⟨ZBx.os, ZBx.tape, ZBx.output, ZBx.size, ZBx.block⟩
    clear ZBx MX UX M4 B3 M7
    generalize X.drew = Y at *
    go_wp2_with (first
      | (refine wpList_loadP rfl 49 _ rfl rfl Z7 7 (tokL ⟨1, tx, 0, 0, 0, p, p + L⟩) rfl _ Tryz.underlying49 rfl info38 ?_)
      | (refine wpList_storeS rfl 49 _ _ rfl rfl (tokL ⟨1, tx, 0, 0, 0, p, p + L⟩) rfl Z4 (by simp [tokL, noTok]) info38 (tok_one _) ?_; intro V9 U9 NZx; have NZ : IsS V9 b4 49 (tokL ⟨1, tx, 0, 0, 0, p, p + L⟩) := NZx; have BZ := U9.trans ZB hb4; clear U9 Z4 ZB NZx))
    refine ret_STT rfl rfl rfl NZ _ Tryz.underlying49 rfl info38 _ rfl _ rfl ⟨?_, BZ⟩
    rw [HF.out, rtok_ok]; rfl
end Go.Proofs.YtjnbhcakfenbhaaGreatDoor.Lx
/- The reference's token: numbers. -/
namespace Go.Proofs.YtjnbhcakfenbhaaGreatDoor.Lx
open Go.RowKit M
set_option linter.unusedSimpArgs false
set_option linter.unusedVariables false

theorem num_over (s : ByteArray) (hs : s.size < 2305843009213693952) (p n : Nat) (hp : p < s.size) (hn : p + n ≤ s.size) (hl : letN s[p].toNat = false) (hb : numB (s.data.toList.drop p) = true) (he : numLen (s.data.toList.drop p) = n) :
    ∃ (T : List UInt8) (v : Int) (er : Nat), s.extract p (p + n) = ⟨T.toArray⟩ ∧ cutF (s.data.toList.drop p) = (if er = 0 then ⟨2, T, v, n, 0⟩ else ⟨0, [], 0, 0, er⟩) ∧ ∀ w, Calls Tryz.prog 91 #[.string (s.extract p (p + n))] w fun e w' => e = .returned (.tuple #[.int .i64 v, .int .i64 (er : Int)]) ∧ w' = w := by
  refine ⟨(s.data.toList.drop p).take n, (parseO ((s.data.toList.drop p).take n)).1, (parseO ((s.data.toList.drop p).take n)).2, by rw [exA, take_drop_add], ?_, fun w => ?_⟩
  · have : cutF (s.data.toList.drop p) = numPiece (s.data.toList.drop p) := (by
      have hb' := hb
      rw [drop_cons s p hp] at hb' ⊢
      unfold cutF
      dsimp only
      rw [if_neg (by rw [hl]; decide), if_pos hb'])
    rw [this, numPiece, he]
  · have := rparse_any (s.extract p (p + n)) (by rw [ByteArray.size_extract]; unfold maxLen; omega) w
    rw [exA] at this ⊢
    rw [take_drop_add] at this ⊢
    simpa [parseV] using this

set_option maxRecDepth 100000 in
set_option maxHeartbeats 8000000 in
theorem rtoken_num0 (s : ByteArray) (hs : s.size < 2305843009213693952) (p : Nat) (hp : p < s.size) (hl : letN s[p].toNat = false) (hb : numB (s.data.toList.drop p) = true) (hd : digN s[p].toNat = true) (w : World) :
    Calls Tryz.prog 64 #[.string s, .int .i64 (p : Int)] w fun e w' => e = .returned (rtokV p (cutF (s.data.toList.drop p))) ∧ Below w.heap.size w w' := by
  have cL := fun w => rletter_any s[p].toNat s[p].toNat_lt w
  rw [hl] at cL
  have cD := fun w => rdigit_any s[p].toNat s[p].toNat_lt w
  rw [hd] at cD
  clear hd
  have HL : Hid (letN s[p].toNat = false) := hl
  have HB : Hid (numB (s.data.toList.drop p) = true) := hb
  have HE0 : Hid (numLen (s.data.toList.drop p) = 1 + twl (fun c => innN c.toNat) (s.data.toList.drop (p + 1))) := (by show numLen _ = _; unfold numLen twl; rw [List.drop_drop])
  clear hl hb
  obtain ⟨C, hCC⟩ : ∃ C, cutF (s.data.toList.drop p) = C := ⟨_, rfl⟩
  have HC : Hid (cutF (s.data.toList.drop p) = C) := hCC
  rw [hCC]
  clear hCC
  have hpi : (p : Int) < s.size := by omega
  have tk : True := trivial
  go_enter Tryz.func64, Tryz.ntmps64
  go_wp2_with (first
    | (refine wpList_allocS rfl 49 rfl (tokL noTok) Tryz.zeroValue49 ?_; clear tk; intro W1 b4 F1 N4; have hb4 : w.heap.size ≤ b4 := Nat.le_of_eq F1.at'.symm; have B1 := F1.trans (Below.refl _ w) (Nat.le_refl _); clear F1)
    | (refine wpList_allocS rfl 49 rfl (tokL noTok) Tryz.zeroValue49 ?_; intro W2 b7 F2 N7; have hb7 : w.heap.size ≤ b7 := Nat.le_trans B1.size (Nat.le_of_eq F2.at'.symm); have h47 : b4 ≠ b7 := (by have := N4.lt; have := F2.at'; omega); have N4b := N4.fresh F2; have B2 := F2.trans B1 B1.size; clear F2 N4 B1)
    | (refine wpList_storeS rfl 49 _ _ rfl rfl (tokL ⟨0, [], 0, 0, 0, p, 0⟩) rfl N7 (by simp [tokL, noTok]) info38 (tok_one _) ?_; intro W3 U3 M7x; have M7 : IsS W3 b7 49 (tokL ⟨0, [], 0, 0, 0, p, 0⟩) := M7x; have M4 := N4b.upd U3 h47; have B3 := U3.trans B2 hb7; clear U3 N7 N4b B2 M7x)
    | (go_at_call 88; refine (cL _).mono ?_; rintro e w' ⟨rfl, hw'⟩; replace hw' := hw'.symm; subst hw')
    | (go_at_call 90; refine (cD _).mono ?_; rintro e w' ⟨rfl, hw'⟩; replace hw' := hw'.symm; subst hw'))
  go_loop [9] (fun t => ∃ n : Nat, 1 ≤ n ∧ p + n ≤ s.size ∧ t = .int .i64 (n : Int) ∧ Hid (numLen (s.data.toList.drop p) = n + twl (fun c => innN c.toNat) (s.data.toList.drop (p + n)))) (fun t => s.size - (intOf t).toNat)
  case atStart => exact ⟨1, by omega, by omega, rfl, HE0⟩
  case round =>
    obtain ⟨n, h1, hn, rfl, HN⟩ := hrel
    clear HE0 cL cD
    have hIe : (p : Int) + n ≤ s.size := by omega
    by_cases hlt : p + n < s.size
    · have hi : (p : Int) + n < s.size := by omega
      have cL1 := fun w => rletter_any s[p + n].toNat s[p + n].toNat_lt w
      have cD1 := fun w => rdigit_any s[p + n].toNat s[p + n].toNat_lt w
      have HG : innN s[p + n].toNat = true → Hid (numLen (s.data.toList.drop p) = n + 1 + twl (fun c => innN c.toNat) (s.data.toList.drop (p + (n + 1)))) := fun h => (by show numLen _ = _; rw [HN.out, twl_go _ s (p + n) hlt h, Nat.add_assoc p n 1]; omega)
      have HS : innN s[p + n].toNat = false → numLen (s.data.toList.drop p) = n := fun h => (by rw [HN.out, twl_stop _ s (p + n) hlt h]; rfl)
      cases a : letN s[p + n].toNat with
      | true =>
        have HG' := HG (by simp [innN, a])
        rw [a] at cL1
        clear a HG HS HN cD1
        go_wp2_with (first
    | (go_at_call 88; refine (cL1 _).mono ?_; rintro e w' ⟨rfl, hw'⟩; replace hw' := hw'.symm; subst hw'))
        go_round
        case rel => exact ⟨n + 1, by omega, by omega, by go_num, HG'⟩
        case measure => simp [intOf]; omega
      | false =>
        cases d : digN s[p + n].toNat with
        | true =>
          have HG' := HG (by simp [innN, a, d])
          rw [a] at cL1
          rw [d] at cD1
          clear a d HG HS HN
          go_wp2_with (first
    | (go_at_call 88; refine (cL1 _).mono ?_; rintro e w' ⟨rfl, hw'⟩; replace hw' := hw'.symm; subst hw')
    | (go_at_call 90; refine (cD1 _).mono ?_; rintro e w' ⟨rfl, hw'⟩; replace hw' := hw'.symm; subst hw'))
          go_round
          case rel => exact ⟨n + 1, by omega, by omega, by go_num, HG'⟩
          case measure => simp [intOf]; omega
        | false =>
          by_cases e46 : s[p + n].toNat = 46
          · have HG' := HG (by simp [innN, e46])
            have f46 : ((s[p + n].toNat : Int) == 46) = true := (by simp; omega)
            rw [a] at cL1
            rw [d] at cD1
            clear a d HG HS HN e46
            go_wp2_with (first
    | (go_at_call 88; refine (cL1 _).mono ?_; rintro e w' ⟨rfl, hw'⟩; replace hw' := hw'.symm; subst hw')
    | (go_at_call 90; refine (cD1 _).mono ?_; rintro e w' ⟨rfl, hw'⟩; replace hw' := hw'.symm; subst hw'))
            go_round
            case rel => exact ⟨n + 1, by omega, by omega, by go_num, HG'⟩
            case measure => simp [intOf]; omega
          · have f46 : ((s[p + n].toNat : Int) == 46) = false := (by simp; omega)
            have hs0 := HS (by simp [innN, a, d, e46])
            rw [a] at cL1
            rw [d] at cD1
            clear a d HG HS e46
            have he : numLen (s.data.toList.drop p) = n := hs0
            obtain ⟨T, v, er, hT, hC, cP⟩ := num_over s hs p n hp hn HL.out HB.out he
            have HTX : Hid (s.extract p (p + n) = ⟨T.toArray⟩) := hT
            clear hT he HN
            by_cases hez : er = 0
            · subst hez
              have HF : Hid (C = ⟨2, T, v, n, 0⟩) := (by show _ = _; rw [← HC.out, hC, if_pos rfl])
              clear hC HC HL HB
              go_wp2_with (first
                | (go_at_call 88; refine (cL1 _).mono ?_; rintro e w' ⟨rfl, hw'⟩; replace hw' := hw'.symm; subst hw')
                | (go_at_call 90; refine (cD1 _).mono ?_; rintro e w' ⟨rfl, hw'⟩; replace hw' := hw'.symm; subst hw')
                | (go_at_call 91; refine (cP _).mono ?_; rintro e w' ⟨rfl, hw'⟩; replace hw' := hw'.symm; subst hw'))
              have t0 : W3.cell? ⟨b7, 0, none⟩ = some (.int .i64 0) := M7.cell 0
              have r0 := M7.frozen 0
              have t1 : W3.cell? ⟨b7, 1, none⟩ = some (.string ⟨#[]⟩) := M7.cell 1
              have r1 := M7.frozen 1
              have t2 : W3.cell? ⟨b7, 2, none⟩ = some (.int .i64 0) := M7.cell 2
              have r2 := M7.frozen 2
              have t6 : W3.cell? ⟨b7, 6, none⟩ = some (.int .i64 0) := M7.cell 6
              have r6 := M7.frozen 6
              go_region
              have MX := ((((M7.set1 0 (.int .i64 2)).set1 1 (.string (s.extract p (p + n)))).set1 2 (.int .i64 v)).set1 6 (.int .i64 ((p : Int) + n)))
              have UX := ((((Upd.setCell W3 b7 0 (.int .i64 2)).comp (Upd.setCell _ b7 1 (.string (s.extract p (p + n))))).comp (Upd.setCell _ b7 2 (.int .i64 v))).comp (Upd.setCell _ b7 6 (.int .i64 ((p : Int) + n))))
              clear t0 r0 t1 r1 t2 r2 t6 r6
              generalize ((((W3.setCell ⟨b7, 0, none⟩ (.int .i64 2)).setCell ⟨b7, 1, none⟩ (.string (s.extract p (p + n)))).setCell ⟨b7, 2, none⟩ (.int .i64 v)).setCell ⟨b7, 6, none⟩ (.int .i64 ((p : Int) + n))) = X at MX UX ⊢
              rw [HTX.out] at MX
              have Z7 : IsS X.drew b7 49 (tokL ⟨2, T, v, 0, 0, p, p + n⟩) := (by have := MX; simp only [tokL] at this ⊢; rw [Int.natCast_add]; exact this)
              have Z4 : IsS X.drew b4 49 (tokL noTok) := (show IsS X b4 49 (tokL noTok) from M4.upd UX h47)
              have ZBx := UX.trans B3 hb7
              have ZB : Below w.heap.size w X.drew := ⟨ZBx.os, ZBx.tape, ZBx.output, ZBx.size, ZBx.block⟩
              clear ZBx MX UX M4 B3 M7
              generalize X.drew = Y at *
              go_wp2_with (first
                | (refine wpList_loadP rfl 49 _ rfl rfl Z7 7 (tokL ⟨2, T, v, 0, 0, p, p + n⟩) rfl _ Tryz.underlying49 rfl info38 ?_)
                | (refine wpList_storeS rfl 49 _ _ rfl rfl (tokL ⟨2, T, v, 0, 0, p, p + n⟩) rfl Z4 (by simp [tokL, noTok]) info38 (tok_one _) ?_; intro V9 U9 NZx; have NZ : IsS V9 b4 49 (tokL ⟨2, T, v, 0, 0, p, p + n⟩) := NZx; have BZ := U9.trans ZB hb4; clear U9 Z4 ZB NZx))
              refine ret_STT rfl rfl rfl NZ _ Tryz.underlying49 rfl info38 _ rfl _ rfl ⟨?_, BZ⟩
              rw [HF.out, rtok_ok]; rfl
            · have HF : Hid (C = ⟨0, [], 0, 0, er⟩) := (by show _ = _; rw [← HC.out, hC, if_neg hez])
              have hz1 : ((er : Int) == 0) = false := (by simp; omega)
              have hz2 : ((er : Int) != 0) = true := (by simp; omega)
              clear hC HC HL HB
              go_wp2_with (first
                | (go_at_call 88; refine (cL1 _).mono ?_; rintro e w' ⟨rfl, hw'⟩; replace hw' := hw'.symm; subst hw')
                | (go_at_call 90; refine (cD1 _).mono ?_; rintro e w' ⟨rfl, hw'⟩; replace hw' := hw'.symm; subst hw')
                | (go_at_call 91; refine (cP _).mono ?_; rintro e w' ⟨rfl, hw'⟩; replace hw' := hw'.symm; subst hw')
                | (refine wpList_storeS rfl 49 _ _ rfl rfl (tokL noTok) rfl M4 (by simp [tokL, noTok]) info38 (tok_one _) ?_; intro V9 U9 NZx; have NZ : IsS V9 b4 49 (tokL noTok) := NZx; have BZ := U9.trans B3 hb4; clear U9 M4 B3 NZx))
              refine ret_STT rfl rfl rfl NZ _ Tryz.underlying49 rfl info38 _ rfl _ rfl ⟨?_, BZ⟩
              rw [HF.out, rtok_bad p 0 [] 0 0 er (by omega)]; rfl
    · have hi : ¬ (p : Int) + n < s.size := by omega
      have he : numLen (s.data.toList.drop p) = n := (by rw [HN.out, drop_end s (p + n) (by omega)]; rfl)
      obtain ⟨T, v, er, hT, hC, cP⟩ := num_over s hs p n hp hn HL.out HB.out he
      have HTX : Hid (s.extract p (p + n) = ⟨T.toArray⟩) := hT
      clear hT he HN
      by_cases hez : er = 0
      · subst hez
        have HF : Hid (C = ⟨2, T, v, n, 0⟩) := (by show _ = _; rw [← HC.out, hC, if_pos rfl])
        clear hC HC HL HB
        go_wp2_with (first
          | (go_at_call 91; refine (cP _).mono ?_; rintro e w' ⟨rfl, hw'⟩; replace hw' := hw'.symm; subst hw'))
        have t0 : W3.cell? ⟨b7, 0, none⟩ = some (.int .i64 0) := M7.cell 0
        have r0 := M7.frozen 0
        have t1 : W3.cell? ⟨b7, 1, none⟩ = some (.string ⟨#[]⟩) := M7.cell 1
        have r1 := M7.frozen 1
        have t2 : W3.cell? ⟨b7, 2, none⟩ = some (.int .i64 0) := M7.cell 2
        have r2 := M7.frozen 2
        have t6 : W3.cell? ⟨b7, 6, none⟩ = some (.int .i64 0) := M7.cell 6
        have r6 := M7.frozen 6
        go_region
        have MX := ((((M7.set1 0 (.int .i64 2)).set1 1 (.string (s.extract p (p + n)))).set1 2 (.int .i64 v)).set1 6 (.int .i64 ((p : Int) + n)))
        have UX := ((((Upd.setCell W3 b7 0 (.int .i64 2)).comp (Upd.setCell _ b7 1 (.string (s.extract p (p + n))))).comp (Upd.setCell _ b7 2 (.int .i64 v))).comp (Upd.setCell _ b7 6 (.int .i64 ((p : Int) + n))))
        clear t0 r0 t1 r1 t2 r2 t6 r6
        generalize ((((W3.setCell ⟨b7, 0, none⟩ (.int .i64 2)).setCell ⟨b7, 1, none⟩ (.string (s.extract p (p + n)))).setCell ⟨b7, 2, none⟩ (.int .i64 v)).setCell ⟨b7, 6, none⟩ (.int .i64 ((p : Int) + n))) = X at MX UX ⊢
        rw [HTX.out] at MX
        have Z7 : IsS X.drew b7 49 (tokL ⟨2, T, v, 0, 0, p, p + n⟩) := (by have := MX; simp only [tokL] at this ⊢; rw [Int.natCast_add]; exact this)
        have Z4 : IsS X.drew b4 49 (tokL noTok) := (show IsS X b4 49 (tokL noTok) from M4.upd UX h47)
        have ZBx := UX.trans B3 hb7
        have ZB : Below w.heap.size w X.drew := ⟨ZBx.os, ZBx.tape, ZBx.output, ZBx.size, ZBx.block⟩
        clear ZBx MX UX M4 B3 M7
        generalize X.drew = Y at *
        go_wp2_with (first
          | (refine wpList_loadP rfl 49 _ rfl rfl Z7 7 (tokL ⟨2, T, v, 0, 0, p, p + n⟩) rfl _ Tryz.underlying49 rfl info38 ?_)
          | (refine wpList_storeS rfl 49 _ _ rfl rfl (tokL ⟨2, T, v, 0, 0, p, p + n⟩) rfl Z4 (by simp [tokL, noTok]) info38 (tok_one _) ?_; intro V9 U9 NZx; have NZ : IsS V9 b4 49 (tokL ⟨2, T, v, 0, 0, p, p + n⟩) := NZx; have BZ := U9.trans ZB hb4; clear U9 Z4 ZB NZx))
        refine ret_STT rfl rfl rfl NZ _ Tryz.underlying49 rfl info38 _ rfl _ rfl ⟨?_, BZ⟩
        rw [HF.out, rtok_ok]; rfl
      · have HF : Hid (C = ⟨0, [], 0, 0, er⟩) := (by show _ = _; rw [← HC.out, hC, if_neg hez])
        have hz1 : ((er : Int) == 0) = false := (by simp; omega)
        have hz2 : ((er : Int) != 0) = true := (by simp; omega)
        clear hC HC HL HB
        go_wp2_with (first
          | (go_at_call 91; refine (cP _).mono ?_; rintro e w' ⟨rfl, hw'⟩; replace hw' := hw'.symm; subst hw')
          | (refine wpList_storeS rfl 49 _ _ rfl rfl (tokL noTok) rfl M4 (by simp [tokL, noTok]) info38 (tok_one _) ?_; intro V9 U9 NZx; have NZ : IsS V9 b4 49 (tokL noTok) := NZx; have BZ := U9.trans B3 hb4; clear U9 M4 B3 NZx))
        refine ret_STT rfl rfl rfl NZ _ Tryz.underlying49 rfl info38 _ rfl _ rfl ⟨?_, BZ⟩
        rw [HF.out, rtok_bad p 0 [] 0 0 er (by omega)]; rfl

set_option maxRecDepth 100000 in
set_option maxHeartbeats 8000000 in
theorem rtoken_num1 (s : ByteArray) (hs : s.size < 2305843009213693952) (p : Nat) (hp : p < s.size) (hl : letN s[p].toNat = false) (hb : numB (s.data.toList.drop p) = true) (hd : digN s[p].toNat = false) (h45 : s[p].toNat = 45) (hp1 : p + 1 < s.size) (hd1 : digN s[p + 1].toNat = true) (w : World) :
    Calls Tryz.prog 64 #[.string s, .int .i64 (p : Int)] w fun e w' => e = .returned (rtokV p (cutF (s.data.toList.drop p))) ∧ Below w.heap.size w w' := by
  have cL := fun w => rletter_any s[p].toNat s[p].toNat_lt w
  rw [hl] at cL
  have cD := fun w => rdigit_any s[p].toNat s[p].toNat_lt w
  rw [hd] at cD
  have cE := fun w => rdigit_any s[p + 1].toNat s[p + 1].toNat_lt w
  rw [hd1] at cE
  have f45 : ((s[p].toNat : Int) == 45) = true := (by simp; omega)
  have hpi1 : (p : Int) + 1 < s.size := by omega
  clear hd hd1 h45
  have HL : Hid (letN s[p].toNat = false) := hl
  have HB : Hid (numB (s.data.toList.drop p) = true) := hb
  have HE0 : Hid (numLen (s.data.toList.drop p) = 1 + twl (fun c => innN c.toNat) (s.data.toList.drop (p + 1))) := (by show numLen _ = _; unfold numLen twl; rw [List.drop_drop])
  clear hl hb
  obtain ⟨C, hCC⟩ : ∃ C, cutF (s.data.toList.drop p) = C := ⟨_, rfl⟩
  have HC : Hid (cutF (s.data.toList.drop p) = C) := hCC
  rw [hCC]
  clear hCC
  have hpi : (p : Int) < s.size := by omega
  have tk : True := trivial
  go_enter Tryz.func64, Tryz.ntmps64
  go_wp2_with (first
    | (refine wpList_allocS rfl 49 rfl (tokL noTok) Tryz.zeroValue49 ?_; clear tk; intro W1 b4 F1 N4; have hb4 : w.heap.size ≤ b4 := Nat.le_of_eq F1.at'.symm; have B1 := F1.trans (Below.refl _ w) (Nat.le_refl _); clear F1)
    | (refine wpList_allocS rfl 49 rfl (tokL noTok) Tryz.zeroValue49 ?_; intro W2 b7 F2 N7; have hb7 : w.heap.size ≤ b7 := Nat.le_trans B1.size (Nat.le_of_eq F2.at'.symm); have h47 : b4 ≠ b7 := (by have := N4.lt; have := F2.at'; omega); have N4b := N4.fresh F2; have B2 := F2.trans B1 B1.size; clear F2 N4 B1)
    | (refine wpList_storeS rfl 49 _ _ rfl rfl (tokL ⟨0, [], 0, 0, 0, p, 0⟩) rfl N7 (by simp [tokL, noTok]) info38 (tok_one _) ?_; intro W3 U3 M7x; have M7 : IsS W3 b7 49 (tokL ⟨0, [], 0, 0, 0, p, 0⟩) := M7x; have M4 := N4b.upd U3 h47; have B3 := U3.trans B2 hb7; clear U3 N7 N4b B2 M7x)
    | (go_at_call 88; refine (cL _).mono ?_; rintro e w' ⟨rfl, hw'⟩; replace hw' := hw'.symm; subst hw')
    | (go_at_call 90; refine (cD _).mono ?_; rintro e w' ⟨rfl, hw'⟩; replace hw' := hw'.symm; subst hw')
    | (go_at_call 90; refine (cE _).mono ?_; rintro e w' ⟨rfl, hw'⟩; replace hw' := hw'.symm; subst hw'))
  go_loop [9] (fun t => ∃ n : Nat, 1 ≤ n ∧ p + n ≤ s.size ∧ t = .int .i64 (n : Int) ∧ Hid (numLen (s.data.toList.drop p) = n + twl (fun c => innN c.toNat) (s.data.toList.drop (p + n)))) (fun t => s.size - (intOf t).toNat)
  case atStart => exact ⟨1, by omega, by omega, rfl, HE0⟩
  case round =>
    obtain ⟨n, h1, hn, rfl, HN⟩ := hrel
    clear HE0 cL cD cE f45
    have hIe : (p : Int) + n ≤ s.size := by omega
    by_cases hlt : p + n < s.size
    · have hi : (p : Int) + n < s.size := by omega
      have cL1 := fun w => rletter_any s[p + n].toNat s[p + n].toNat_lt w
      have cD1 := fun w => rdigit_any s[p + n].toNat s[p + n].toNat_lt w
      have HG : innN s[p + n].toNat = true → Hid (numLen (s.data.toList.drop p) = n + 1 + twl (fun c => innN c.toNat) (s.data.toList.drop (p + (n + 1)))) := fun h => (by show numLen _ = _; rw [HN.out, twl_go _ s (p + n) hlt h, Nat.add_assoc p n 1]; omega)
      have HS : innN s[p + n].toNat = false → numLen (s.data.toList.drop p) = n := fun h => (by rw [HN.out, twl_stop _ s (p + n) hlt h]; rfl)
      cases a : letN s[p + n].toNat with
      | true =>
        have HG' := HG (by simp [innN, a])
        rw [a] at cL1
        clear a HG HS HN cD1
        go_wp2_with (first
    | (go_at_call 88; refine (cL1 _).mono ?_; rintro e w' ⟨rfl, hw'⟩; replace hw' := hw'.symm; subst hw'))
        go_round
        case rel => exact ⟨n + 1, by omega, by omega, by go_num, HG'⟩
        case measure => simp [intOf]; omega
      | false =>
        cases d : digN s[p + n].toNat with
        | true =>
          have HG' := HG (by simp [innN, a, d])
          rw [a] at cL1
          rw [d] at cD1
          clear a d HG HS HN
          go_wp2_with (first
    | (go_at_call 88; refine (cL1 _).mono ?_; rintro e w' ⟨rfl, hw'⟩; replace hw' := hw'.symm; subst hw')
    | (go_at_call 90; refine (cD1 _).mono ?_; rintro e w' ⟨rfl, hw'⟩; replace hw' := hw'.symm; subst hw'))
          go_round
          case rel => exact ⟨n + 1, by omega, by omega, by go_num, HG'⟩
          case measure => simp [intOf]; omega
        | false =>
          by_cases e46 : s[p + n].toNat = 46
          · have HG' := HG (by simp [innN, e46])
            have f46 : ((s[p + n].toNat : Int) == 46) = true := (by simp; omega)
            rw [a] at cL1
            rw [d] at cD1
            clear a d HG HS HN e46
            go_wp2_with (first
    | (go_at_call 88; refine (cL1 _).mono ?_; rintro e w' ⟨rfl, hw'⟩; replace hw' := hw'.symm; subst hw')
    | (go_at_call 90; refine (cD1 _).mono ?_; rintro e w' ⟨rfl, hw'⟩; replace hw' := hw'.symm; subst hw'))
            go_round
            case rel => exact ⟨n + 1, by omega, by omega, by go_num, HG'⟩
            case measure => simp [intOf]; omega
          · have f46 : ((s[p + n].toNat : Int) == 46) = false := (by simp; omega)
            have hs0 := HS (by simp [innN, a, d, e46])
            rw [a] at cL1
            rw [d] at cD1
            clear a d HG HS e46
            have he : numLen (s.data.toList.drop p) = n := hs0
            obtain ⟨T, v, er, hT, hC, cP⟩ := num_over s hs p n hp hn HL.out HB.out he
            have HTX : Hid (s.extract p (p + n) = ⟨T.toArray⟩) := hT
            clear hT he HN
            by_cases hez : er = 0
            · subst hez
              have HF : Hid (C = ⟨2, T, v, n, 0⟩) := (by show _ = _; rw [← HC.out, hC, if_pos rfl])
              clear hC HC HL HB
              go_wp2_with (first
                | (go_at_call 88; refine (cL1 _).mono ?_; rintro e w' ⟨rfl, hw'⟩; replace hw' := hw'.symm; subst hw')
                | (go_at_call 90; refine (cD1 _).mono ?_; rintro e w' ⟨rfl, hw'⟩; replace hw' := hw'.symm; subst hw')
                | (go_at_call 91; refine (cP _).mono ?_; rintro e w' ⟨rfl, hw'⟩; replace hw' := hw'.symm; subst hw'))
              have t0 : W3.cell? ⟨b7, 0, none⟩ = some (.int .i64 0) := M7.cell 0
              have r0 := M7.frozen 0
              have t1 : W3.cell? ⟨b7, 1, none⟩ = some (.string ⟨#[]⟩) := M7.cell 1
              have r1 := M7.frozen 1
              have t2 : W3.cell? ⟨b7, 2, none⟩ = some (.int .i64 0) := M7.cell 2
              have r2 := M7.frozen 2
              have t6 : W3.cell? ⟨b7, 6, none⟩ = some (.int .i64 0) := M7.cell 6
              have r6 := M7.frozen 6
              go_region
              have MX := ((((M7.set1 0 (.int .i64 2)).set1 1 (.string (s.extract p (p + n)))).set1 2 (.int .i64 v)).set1 6 (.int .i64 ((p : Int) + n)))
              have UX := ((((Upd.setCell W3 b7 0 (.int .i64 2)).comp (Upd.setCell _ b7 1 (.string (s.extract p (p + n))))).comp (Upd.setCell _ b7 2 (.int .i64 v))).comp (Upd.setCell _ b7 6 (.int .i64 ((p : Int) + n))))
              clear t0 r0 t1 r1 t2 r2 t6 r6
              generalize ((((W3.setCell ⟨b7, 0, none⟩ (.int .i64 2)).setCell ⟨b7, 1, none⟩ (.string (s.extract p (p + n)))).setCell ⟨b7, 2, none⟩ (.int .i64 v)).setCell ⟨b7, 6, none⟩ (.int .i64 ((p : Int) + n))) = X at MX UX ⊢
              rw [HTX.out] at MX
              have Z7 : IsS X.drew b7 49 (tokL ⟨2, T, v, 0, 0, p, p + n⟩) := (by have := MX; simp only [tokL] at this ⊢; rw [Int.natCast_add]; exact this)
              have Z4 : IsS X.drew b4 49 (tokL noTok) := (show IsS X b4 49 (tokL noTok) from M4.upd UX h47)
              have ZBx := UX.trans B3 hb7
              have ZB : Below w.heap.size w X.drew := ⟨ZBx.os, ZBx.tape, ZBx.output, ZBx.size, ZBx.block⟩
              clear ZBx MX UX M4 B3 M7
              generalize X.drew = Y at *
              go_wp2_with (first
                | (refine wpList_loadP rfl 49 _ rfl rfl Z7 7 (tokL ⟨2, T, v, 0, 0, p, p + n⟩) rfl _ Tryz.underlying49 rfl info38 ?_)
                | (refine wpList_storeS rfl 49 _ _ rfl rfl (tokL ⟨2, T, v, 0, 0, p, p + n⟩) rfl Z4 (by simp [tokL, noTok]) info38 (tok_one _) ?_; intro V9 U9 NZx; have NZ : IsS V9 b4 49 (tokL ⟨2, T, v, 0, 0, p, p + n⟩) := NZx; have BZ := U9.trans ZB hb4; clear U9 Z4 ZB NZx))
              refine ret_STT rfl rfl rfl NZ _ Tryz.underlying49 rfl info38 _ rfl _ rfl ⟨?_, BZ⟩
              rw [HF.out, rtok_ok]; rfl
            · have HF : Hid (C = ⟨0, [], 0, 0, er⟩) := (by show _ = _; rw [← HC.out, hC, if_neg hez])
              have hz1 : ((er : Int) == 0) = false := (by simp; omega)
              have hz2 : ((er : Int) != 0) = true := (by simp; omega)
              clear hC HC HL HB
              go_wp2_with (first
                | (go_at_call 88; refine (cL1 _).mono ?_; rintro e w' ⟨rfl, hw'⟩; replace hw' := hw'.symm; subst hw')
                | (go_at_call 90; refine (cD1 _).mono ?_; rintro e w' ⟨rfl, hw'⟩; replace hw' := hw'.symm; subst hw')
                | (go_at_call 91; refine (cP _).mono ?_; rintro e w' ⟨rfl, hw'⟩; replace hw' := hw'.symm; subst hw')
                | (refine wpList_storeS rfl 49 _ _ rfl rfl (tokL noTok) rfl M4 (by simp [tokL, noTok]) info38 (tok_one _) ?_; intro V9 U9 NZx; have NZ : IsS V9 b4 49 (tokL noTok) := NZx; have BZ := U9.trans B3 hb4; clear U9 M4 B3 NZx))
              refine ret_STT rfl rfl rfl NZ _ Tryz.underlying49 rfl info38 _ rfl _ rfl ⟨?_, BZ⟩
              rw [HF.out, rtok_bad p 0 [] 0 0 er (by omega)]; rfl
    · have hi : ¬ (p : Int) + n < s.size := by omega
      have he : numLen (s.data.toList.drop p) = n := (by rw [HN.out, drop_end s (p + n) (by omega)]; rfl)
      obtain ⟨T, v, er, hT, hC, cP⟩ := num_over s hs p n hp hn HL.out HB.out he
      have HTX : Hid (s.extract p (p + n) = ⟨T.toArray⟩) := hT
      clear hT he HN
      by_cases hez : er = 0
      · subst hez
        have HF : Hid (C = ⟨2, T, v, n, 0⟩) := (by show _ = _; rw [← HC.out, hC, if_pos rfl])
        clear hC HC HL HB
        go_wp2_with (first
          | (go_at_call 91; refine (cP _).mono ?_; rintro e w' ⟨rfl, hw'⟩; replace hw' := hw'.symm; subst hw'))
        have t0 : W3.cell? ⟨b7, 0, none⟩ = some (.int .i64 0) := M7.cell 0
        have r0 := M7.frozen 0
        have t1 : W3.cell? ⟨b7, 1, none⟩ = some (.string ⟨#[]⟩) := M7.cell 1
        have r1 := M7.frozen 1
        have t2 : W3.cell? ⟨b7, 2, none⟩ = some (.int .i64 0) := M7.cell 2
        have r2 := M7.frozen 2
        have t6 : W3.cell? ⟨b7, 6, none⟩ = some (.int .i64 0) := M7.cell 6
        have r6 := M7.frozen 6
        go_region
        have MX := ((((M7.set1 0 (.int .i64 2)).set1 1 (.string (s.extract p (p + n)))).set1 2 (.int .i64 v)).set1 6 (.int .i64 ((p : Int) + n)))
        have UX := ((((Upd.setCell W3 b7 0 (.int .i64 2)).comp (Upd.setCell _ b7 1 (.string (s.extract p (p + n))))).comp (Upd.setCell _ b7 2 (.int .i64 v))).comp (Upd.setCell _ b7 6 (.int .i64 ((p : Int) + n))))
        clear t0 r0 t1 r1 t2 r2 t6 r6
        generalize ((((W3.setCell ⟨b7, 0, none⟩ (.int .i64 2)).setCell ⟨b7, 1, none⟩ (.string (s.extract p (p + n)))).setCell ⟨b7, 2, none⟩ (.int .i64 v)).setCell ⟨b7, 6, none⟩ (.int .i64 ((p : Int) + n))) = X at MX UX ⊢
        rw [HTX.out] at MX
        have Z7 : IsS X.drew b7 49 (tokL ⟨2, T, v, 0, 0, p, p + n⟩) := (by have := MX; simp only [tokL] at this ⊢; rw [Int.natCast_add]; exact this)
        have Z4 : IsS X.drew b4 49 (tokL noTok) := (show IsS X b4 49 (tokL noTok) from M4.upd UX h47)
        have ZBx := UX.trans B3 hb7
        have ZB : Below w.heap.size w X.drew := ⟨ZBx.os, ZBx.tape, ZBx.output, ZBx.size, ZBx.block⟩
        clear ZBx MX UX M4 B3 M7
        generalize X.drew = Y at *
        go_wp2_with (first
          | (refine wpList_loadP rfl 49 _ rfl rfl Z7 7 (tokL ⟨2, T, v, 0, 0, p, p + n⟩) rfl _ Tryz.underlying49 rfl info38 ?_)
          | (refine wpList_storeS rfl 49 _ _ rfl rfl (tokL ⟨2, T, v, 0, 0, p, p + n⟩) rfl Z4 (by simp [tokL, noTok]) info38 (tok_one _) ?_; intro V9 U9 NZx; have NZ : IsS V9 b4 49 (tokL ⟨2, T, v, 0, 0, p, p + n⟩) := NZx; have BZ := U9.trans ZB hb4; clear U9 Z4 ZB NZx))
        refine ret_STT rfl rfl rfl NZ _ Tryz.underlying49 rfl info38 _ rfl _ rfl ⟨?_, BZ⟩
        rw [HF.out, rtok_ok]; rfl
      · have HF : Hid (C = ⟨0, [], 0, 0, er⟩) := (by show _ = _; rw [← HC.out, hC, if_neg hez])
        have hz1 : ((er : Int) == 0) = false := (by simp; omega)
        have hz2 : ((er : Int) != 0) = true := (by simp; omega)
        clear hC HC HL HB
        go_wp2_with (first
          | (go_at_call 91; refine (cP _).mono ?_; rintro e w' ⟨rfl, hw'⟩; replace hw' := hw'.symm; subst hw')
          | (refine wpList_storeS rfl 49 _ _ rfl rfl (tokL noTok) rfl M4 (by simp [tokL, noTok]) info38 (tok_one _) ?_; intro V9 U9 NZx; have NZ : IsS V9 b4 49 (tokL noTok) := NZx; have BZ := U9.trans B3 hb4; clear U9 M4 B3 NZx))
        refine ret_STT rfl rfl rfl NZ _ Tryz.underlying49 rfl info38 _ rfl _ rfl ⟨?_, BZ⟩
        rw [HF.out, rtok_bad p 0 [] 0 0 er (by omega)]; rfl
end Go.Proofs.YtjnbhcakfenbhaaGreatDoor.Lx
/- The reference's token: texts between quotes, signs; token whole. -/
namespace Go.Proofs.YtjnbhcakfenbhaaGreatDoor.Lx
open Go.RowKit M
set_option linter.unusedSimpArgs false
set_option linter.unusedVariables false

theorem quot_over (s : ByteArray) (p k : Nat) (hp : p < s.size) (hk : p + 1 ≤ k) (hks : k ≤ s.size) (hl : letN s[p].toNat = false) (hb : numB (s.data.toList.drop p) = false) (h34 : s[p].toNat = 34) (he : p + quotLen (s.data.toList.drop p) = k) :
    (∀ h : k < s.size, s[k].toNat = 34 → ∃ T : List UInt8, s.extract (p + 1) k = ⟨T.toArray⟩ ∧ cutF (s.data.toList.drop p) = ⟨3, T, 0, k - p + 1, 0⟩) ∧ ((∀ h : k < s.size, s[k].toNat ≠ 34) → cutF (s.data.toList.drop p) = ⟨0, [], 0, k - p, 50⟩) := by
  have hC : cutF (s.data.toList.drop p) = quotPiece (s.data.toList.drop p) := (by
    have hb' := hb
    rw [drop_cons s p hp] at hb' ⊢
    unfold cutF
    dsimp only
    rw [if_neg (by rw [hl]; decide), if_neg (by rw [hb']; decide), if_pos h34])
  have hn : quotLen (s.data.toList.drop p) = k - p := by omega
  have hg : (s.data.toList.drop p)[k - p]? = s.data.toList[k]? := (by rw [List.getElem?_drop]; congr 1; omega)
  constructor
  · intro h hq
    refine ⟨((s.data.toList.drop p).take (k - p)).drop 1, ?_, ?_⟩
    · rw [exA]
      congr 2
      rw [show k - p = k - p from rfl, ← List.drop_take, List.drop_drop]
    · rw [hC]
      exact quot_ok hn (by rw [hg]; exact getL s k h) hq
  · intro h
    rw [hC]
    refine quot_bad hn (fun c hc => ?_)
    rw [hg] at hc
    rcases Nat.lt_or_ge k s.size with hlt | hge
    · rw [getL s k hlt] at hc
      cases hc
      exact h hlt
    · rw [List.getElem?_eq_none (by rw [← sizeL]; exact hge)] at hc
      cases hc
theorem sign_over (s : ByteArray) (hs : s.size < 2305843009213693952) (p : Nat) (hp : p < s.size) (hl : letN s[p].toNat = false) (hb : numB (s.data.toList.drop p) = false) (h34 : s[p].toNat ≠ 34) :
    ∃ r : ByteArray, cutF (s.data.toList.drop p) = (if r.toList.isEmpty = true then ⟨0, [], 0, 0, 50⟩ else ⟨4, r.data.toList, 0, r.size, 0⟩) ∧ p + r.size ≤ s.size ∧ ∀ w, Calls Tryz.prog 92 #[.string s, .int .i64 (p : Int)] w fun e w' => e = .returned (.string r) ∧ Below w.heap.size w w' := by
  have hC : cutF (s.data.toList.drop p) = signPiece (s.data.toList.drop p) := (by
    have hb' := hb
    rw [drop_cons s p hp] at hb' ⊢
    unfold cutF
    dsimp only
    rw [if_neg (by rw [hl]; decide), if_neg (by rw [hb']; decide), if_neg h34])
  have hle := signLen_le (s.data.toList.drop p)
  have hlen : ((s.data.toList.drop p).take (signLen (s.data.toList.drop p))).length = signLen (s.data.toList.drop p) := (by rw [List.length_take]; omega)
  have hsz : (ByteArray.mk ((s.data.toList.drop p).take (signLen (s.data.toList.drop p))).toArray).size = signLen (s.data.toList.drop p) := (by rw [sizeL]; exact hlen)
  refine ⟨⟨((s.data.toList.drop p).take (signLen (s.data.toList.drop p))).toArray⟩, ?_, ?_, fun w => rsign_any s hs p hp w⟩
  · rw [hC, signPiece, hsz]
    by_cases h0 : signLen (s.data.toList.drop p) = 0
    · rw [if_pos h0, if_pos]
      refine emp_t ?_
      show (s.data.toList.drop p).take (signLen (s.data.toList.drop p)) = []
      rw [h0]; rfl
    · rw [if_neg h0, if_neg]
      rw [emp_f (by
        show (s.data.toList.drop p).take (signLen (s.data.toList.drop p)) ≠ []
        intro e
        rw [e] at hlen
        exact h0 hlen.symm)]
      decide
  · rw [hsz]
    rw [List.length_drop, ← sizeL] at hle
    omega

set_option maxRecDepth 100000 in
set_option maxHeartbeats 4000000 in
theorem rtoken_quot (s : ByteArray) (hs : s.size < 2305843009213693952) (p : Nat) (hp : p < s.size) (hl : letN s[p].toNat = false) (hb : numB (s.data.toList.drop p) = false) (hd : digN s[p].toNat = false) (h34 : s[p].toNat = 34) (w : World) :
    Calls Tryz.prog 64 #[.string s, .int .i64 (p : Int)] w fun e w' => e = .returned (rtokV p (cutF (s.data.toList.drop p))) ∧ Below w.heap.size w w' := by
  have cL := fun w => rletter_any s[p].toNat s[p].toNat_lt w
  rw [hl] at cL
  have cD := fun w => rdigit_any s[p].toNat s[p].toNat_lt w
  rw [hd] at cD
  have f45 : ((s[p].toNat : Int) == 45) = false := (by simp; omega)
  have f34 : ((s[p].toNat : Int) == 34) = true := (by simp; omega)
  have over := fun (k : Nat) (h1 : p + 1 ≤ k) (h2 : k ≤ s.size) (h3 : p + quotLen (s.data.toList.drop p) = k) => quot_over s p k hp h1 h2 hl hb h34 h3
  have OV : Hid (∀ (k : Nat) (h1 : p + 1 ≤ k) (h2 : k ≤ s.size) (h3 : p + quotLen (s.data.toList.drop p) = k), _) := over
  clear over hl hb hd h34
  have HE0 : Hid (p + quotLen (s.data.toList.drop p) = (p + 1) + twl (fun c => decide (c.toNat ≠ 34 ∧ c.toNat ≠ 10)) (s.data.toList.drop (p + 1))) := (by show _ = _; unfold quotLen twl; rw [List.drop_drop]; omega)
  obtain ⟨C, hCC⟩ : ∃ C, cutF (s.data.toList.drop p) = C := ⟨_, rfl⟩
  have HC : Hid (cutF (s.data.toList.drop p) = C) := hCC
  rw [hCC]
  clear hCC
  have hpi : (p : Int) < s.size := by omega
  have tk : True := trivial
  go_enter Tryz.func64, Tryz.ntmps64
  go_wp2_with (first
    | (refine wpList_allocS rfl 49 rfl (tokL noTok) Tryz.zeroValue49 ?_; clear tk; intro W1 b4 F1 N4; have hb4 : w.heap.size ≤ b4 := Nat.le_of_eq F1.at'.symm; have B1 := F1.trans (Below.refl _ w) (Nat.le_refl _); clear F1)
    | (refine wpList_allocS rfl 49 rfl (tokL noTok) Tryz.zeroValue49 ?_; intro W2 b7 F2 N7; have hb7 : w.heap.size ≤ b7 := Nat.le_trans B1.size (Nat.le_of_eq F2.at'.symm); have h47 : b4 ≠ b7 := (by have := N4.lt; have := F2.at'; omega); have N4b := N4.fresh F2; have B2 := F2.trans B1 B1.size; clear F2 N4 B1)
    | (refine wpList_storeS rfl 49 _ _ rfl rfl (tokL ⟨0, [], 0, 0, 0, p, 0⟩) rfl N7 (by simp [tokL, noTok]) info38 (tok_one _) ?_; intro W3 U3 M7x; have M7 : IsS W3 b7 49 (tokL ⟨0, [], 0, 0, 0, p, 0⟩) := M7x; have M4 := N4b.upd U3 h47; have B3 := U3.trans B2 hb7; clear U3 N7 N4b B2 M7x)
    | (go_at_call 88; refine (cL _).mono ?_; rintro e w' ⟨rfl, hw'⟩; replace hw' := hw'.symm; subst hw')
    | (go_at_call 90; refine (cD _).mono ?_; rintro e w' ⟨rfl, hw'⟩; replace hw' := hw'.symm; subst hw'))
  go_loop [12] (fun t => ∃ k : Nat, p + 1 ≤ k ∧ k ≤ s.size ∧ t = .int .i64 (k : Int) ∧ Hid (p + quotLen (s.data.toList.drop p) = k + twl (fun c => decide (c.toNat ≠ 34 ∧ c.toNat ≠ 10)) (s.data.toList.drop k))) (fun t => s.size - (intOf t).toNat)
  case atStart => exact ⟨p + 1, by omega, by omega, by go_num, HE0⟩
  case round =>
    obtain ⟨k, h1, hk, rfl, HN⟩ := hrel
    clear HE0 cL cD f45 f34
    have hIe : (k : Int) ≤ s.size := by omega
    have hIp : (p : Int) + 1 ≤ k := by omega
    by_cases hlt : k < s.size
    · have hi : (k : Int) < s.size := by omega
      have hne : ((k : Int) == s.size) = false := (by simp; omega)
      by_cases q : s[k].toNat = 34
      · have x : ((s[k].toNat : Int) == 34) = true := (by simp; omega)
        have x' : ((s[k].toNat : Int) != 34) = false := (by simp; omega)
        have y : ((s[k].toNat : Int) == 10) = false := (by simp; omega)
        obtain ⟨T, hT, hF⟩ := (OV.out k h1 hk (by rw [HN.out, twl_stop _ s k hlt (by simp [q])]; rfl)).1 hlt q
        have HTX : Hid (s.extract (p + 1) k = ⟨T.toArray⟩) := hT
        have HF : Hid (C = ⟨3, T, 0, k - p + 1, 0⟩) := (by show _ = _; rw [← HC.out, hF])
        clear hT hF OV HC HN q
        go_wp2_with fail
        have t0 : W3.cell? ⟨b7, 0, none⟩ = some (.int .i64 0) := M7.cell 0
        have r0 := M7.frozen 0
        have t1 : W3.cell? ⟨b7, 1, none⟩ = some (.string ⟨#[]⟩) := M7.cell 1
        have r1 := M7.frozen 1
        have t6 : W3.cell? ⟨b7, 6, none⟩ = some (.int .i64 0) := M7.cell 6
        have r6 := M7.frozen 6
        go_region
        have MX := (((M7.set1 0 (.int .i64 3)).set1 1 (.string (s.extract (p + 1) k))).set1 6 (.int .i64 ((k : Int) + 1)))
        have UX := (((Upd.setCell W3 b7 0 (.int .i64 3)).comp (Upd.setCell _ b7 1 (.string (s.extract (p + 1) k)))).comp (Upd.setCell _ b7 6 (.int .i64 ((k : Int) + 1))))
        clear t0 r0 t1 r1 t6 r6
        generalize (((W3.setCell ⟨b7, 0, none⟩ (.int .i64 3)).setCell ⟨b7, 1, none⟩ (.string (s.extract (p + 1) k))).setCell ⟨b7, 6, none⟩ (.int .i64 ((k : Int) + 1))) = X at MX UX ⊢
        rw [HTX.out] at MX
        have Z7 : IsS X.drew b7 49 (tokL ⟨3, T, 0, 0, 0, p, k + 1⟩) := MX
        have Z4 : IsS X.drew b4 49 (tokL noTok) := (show IsS X b4 49 (tokL noTok) from M4.upd UX h47)
        have ZBx := UX.trans B3 hb7
        have ZB : Below w.heap.size w X.drew := ⟨ZBx.os, ZBx.tape, ZBx.output, ZBx.size, ZBx.block⟩
        clear ZBx MX UX M4 B3 M7
        generalize X.drew = Y at *
        go_wp2_with (first
          | (refine wpList_loadP rfl 49 _ rfl rfl Z7 7 (tokL ⟨3, T, 0, 0, 0, p, k + 1⟩) rfl _ Tryz.underlying49 rfl info38 ?_)
          | (refine wpList_storeS rfl 49 _ _ rfl rfl (tokL ⟨3, T, 0, 0, 0, p, k + 1⟩) rfl Z4 (by simp [tokL, noTok]) info38 (tok_one _) ?_; intro V9 U9 NZx; have NZ : IsS V9 b4 49 (tokL ⟨3, T, 0, 0, 0, p, k + 1⟩) := NZx; have BZ := U9.trans ZB hb4; clear U9 Z4 ZB NZx))
        refine ret_STT rfl rfl rfl NZ _ Tryz.underlying49 rfl info38 _ rfl _ rfl ⟨?_, BZ⟩
        rw [HF.out, rtok_ok, show p + (k - p + 1) = k + 1 from by omega]; rfl
      · have x : ((s[k].toNat : Int) == 34) = false := (by simp; omega)
        have x' : ((s[k].toNat : Int) != 34) = true := (by simp; omega)
        by_cases r : s[k].toNat = 10
        · have y : ((s[k].toNat : Int) == 10) = true := (by simp; omega)
          have y' : ((s[k].toNat : Int) != 10) = false := (by simp; omega)
          have hF := (OV.out k h1 hk (by rw [HN.out, twl_stop _ s k hlt (by simp [r])]; rfl)).2 (fun _ => q)
          have HF : Hid (C = ⟨0, [], 0, k - p, 50⟩) := (by show _ = _; rw [← HC.out, hF])
          clear hF OV HC HN q r
          go_wp2_with (first
    | (refine wpList_storeS rfl 49 _ _ rfl rfl (tokL noTok) rfl M4 (by simp [tokL, noTok]) info38 (tok_one _) ?_; intro V9 U9 NZx; have NZ : IsS V9 b4 49 (tokL noTok) := NZx; have BZ := U9.trans B3 hb4; clear U9 M4 B3 NZx))
          refine ret_STT rfl rfl rfl NZ _ Tryz.underlying49 rfl info38 _ rfl _ rfl ⟨?_, BZ⟩
          rw [HF.out, rtok_bad p 0 [] 0 (k - p) 50 (by decide), show p + (k - p) = k from by omega]
          rfl
        · have y : ((s[k].toNat : Int) == 10) = false := (by simp; omega)
          have y' : ((s[k].toNat : Int) != 10) = true := (by simp; omega)
          have HG : Hid (p + quotLen (s.data.toList.drop p) = k + 1 + twl (fun c => decide (c.toNat ≠ 34 ∧ c.toNat ≠ 10)) (s.data.toList.drop (k + 1))) := (by show _ = _; rw [HN.out, twl_go _ s k hlt (by simp [q, r])]; omega)
          clear HN q r
          go_wp2_with fail
          go_round
          case rel => exact ⟨k + 1, by omega, by omega, by go_num, HG⟩
          case measure => simp [intOf]; omega
    · have hke : k = s.size := by omega
      have hi : ¬ (k : Int) < s.size := by omega
      have hne : ((k : Int) == s.size) = true := (by simp; omega)
      have hF := (OV.out k h1 hk (by rw [HN.out, drop_end s k (by omega)]; rfl)).2 (fun h => absurd h hlt)
      have HF : Hid (C = ⟨0, [], 0, k - p, 50⟩) := (by show _ = _; rw [← HC.out, hF])
      clear hF OV HC HN hke
      go_wp2_with (first
    | (refine wpList_storeS rfl 49 _ _ rfl rfl (tokL noTok) rfl M4 (by simp [tokL, noTok]) info38 (tok_one _) ?_; intro V9 U9 NZx; have NZ : IsS V9 b4 49 (tokL noTok) := NZx; have BZ := U9.trans B3 hb4; clear U9 M4 B3 NZx))
      refine ret_STT rfl rfl rfl NZ _ Tryz.underlying49 rfl info38 _ rfl _ rfl ⟨?_, BZ⟩
      rw [HF.out, rtok_bad p 0 [] 0 (k - p) 50 (by decide), show p + (k - p) = k from by omega]
      rfl

set_option maxRecDepth 100000 in
set_option maxHeartbeats 4000000 in
theorem rtoken_sign0 (s : ByteArray) (hs : s.size < 2305843009213693952) (p : Nat) (hp : p < s.size) (hl : letN s[p].toNat = false) (hb : numB (s.data.toList.drop p) = false) (hd : digN s[p].toNat = false) (h34 : s[p].toNat ≠ 34) (h45 : s[p].toNat ≠ 45) (w : World) :
    Calls Tryz.prog 64 #[.string s, .int .i64 (p : Int)] w fun e w' => e = .returned (rtokV p (cutF (s.data.toList.drop p))) ∧ Below w.heap.size w w' := by
  have cL := fun w => rletter_any s[p].toNat s[p].toNat_lt w
  rw [hl] at cL
  have cD := fun w => rdigit_any s[p].toNat s[p].toNat_lt w
  rw [hd] at cD
  have f34 : ((s[p].toNat : Int) == 34) = false := (by simp; omega)
  have f45 : ((s[p].toNat : Int) == 45) = false := (by simp; omega)
  clear h45
  obtain ⟨r, hC, hrs, cS⟩ := sign_over s hs p hp hl hb h34
  clear hl hb hd h34
  obtain ⟨C, hCC⟩ : ∃ C, cutF (s.data.toList.drop p) = C := ⟨_, rfl⟩
  rw [hCC] at hC ⊢
  clear hCC
  have hpi : (p : Int) < s.size := by omega
  by_cases hem : r.toList.isEmpty = true
  · have HF : Hid (C = ⟨0, [], 0, 0, 50⟩) := (by show _ = _; rw [hC, if_pos hem])
    clear hC
    have tk : True := trivial
    go_enter Tryz.func64, Tryz.ntmps64
    go_wp2_with (first
      | (refine wpList_allocS rfl 49 rfl (tokL noTok) Tryz.zeroValue49 ?_; clear tk; intro W1 b4 F1 N4; have hb4 : w.heap.size ≤ b4 := Nat.le_of_eq F1.at'.symm; have B1 := F1.trans (Below.refl _ w) (Nat.le_refl _); clear F1)
      | (refine wpList_allocS rfl 49 rfl (tokL noTok) Tryz.zeroValue49 ?_; intro W2 b7 F2 N7; have hb7 : w.heap.size ≤ b7 := Nat.le_trans B1.size (Nat.le_of_eq F2.at'.symm); have h47 : b4 ≠ b7 := (by have := N4.lt; have := F2.at'; omega); have N4b := N4.fresh F2; have B2 := F2.trans B1 B1.size; clear F2 N4 B1)
      | (refine wpList_storeS rfl 49 _ _ rfl rfl (tokL ⟨0, [], 0, 0, 0, p, 0⟩) rfl N7 (by simp [tokL, noTok]) info38 (tok_one _) ?_; intro W3 U3 M7x; have M7 : IsS W3 b7 49 (tokL ⟨0, [], 0, 0, 0, p, 0⟩) := M7x; have M4 := N4b.upd U3 h47; have B3 := U3.trans B2 hb7; clear U3 N7 N4b B2 M7x)
      | (go_at_call 88; refine (cL _).mono ?_; rintro e w' ⟨rfl, hw'⟩; replace hw' := hw'.symm; subst hw')
      | (go_at_call 90; refine (cD _).mono ?_; rintro e w' ⟨rfl, hw'⟩; replace hw' := hw'.symm; subst hw')
      | (go_at_call 92; refine (cS _).mono ?_; rintro e W5 ⟨rfl, B5x⟩; have M7c := M7.grown B5x; have M4c := M4.grown B5x; have B5 := Below.then B3 B5x; clear B5x M7 M4 B3)
      | (refine wpList_storeS rfl 49 _ _ rfl rfl (tokL noTok) rfl M4c (by simp [tokL, noTok]) info38 (tok_one _) ?_; intro V9 U9 NZx; have NZ : IsS V9 b4 49 (tokL noTok) := NZx; have BZ := U9.trans B5 hb4; clear U9 M4c B5 NZx))
    refine ret_STT rfl rfl rfl NZ _ Tryz.underlying49 rfl info38 _ rfl _ rfl ⟨?_, BZ⟩
    rw [HF.out, rtok_bad p 0 [] 0 0 50 (by omega)]; rfl
  · have hem' : r.toList.isEmpty = false := by simpa using hem
    have HF : Hid (C = ⟨4, r.data.toList, 0, r.size, 0⟩) := (by show _ = _; rw [hC, if_neg hem])
    have hrs2 : (p : Int) + r.size ≤ s.size := by omega
    clear hC hem
    have tk : True := trivial
    go_enter Tryz.func64, Tryz.ntmps64
    go_wp2_with (first
      | (refine wpList_allocS rfl 49 rfl (tokL noTok) Tryz.zeroValue49 ?_; clear tk; intro W1 b4 F1 N4; have hb4 : w.heap.size ≤ b4 := Nat.le_of_eq F1.at'.symm; have B1 := F1.trans (Below.refl _ w) (Nat.le_refl _); clear F1)
      | (refine wpList_allocS rfl 49 rfl (tokL noTok) Tryz.zeroValue49 ?_; intro W2 b7 F2 N7; have hb7 : w.heap.size ≤ b7 := Nat.le_trans B1.size (Nat.le_of_eq F2.at'.symm); have h47 : b4 ≠ b7 := (by have := N4.lt; have := F2.at'; omega); have N4b := N4.fresh F2; have B2 := F2.trans B1 B1.size; clear F2 N4 B1)
      | (refine wpList_storeS rfl 49 _ _ rfl rfl (tokL ⟨0, [], 0, 0, 0, p, 0⟩) rfl N7 (by simp [tokL, noTok]) info38 (tok_one _) ?_; intro W3 U3 M7x; have M7 : IsS W3 b7 49 (tokL ⟨0, [], 0, 0, 0, p, 0⟩) := M7x; have M4 := N4b.upd U3 h47; have B3 := U3.trans B2 hb7; clear U3 N7 N4b B2 M7x)
      | (go_at_call 88; refine (cL _).mono ?_; rintro e w' ⟨rfl, hw'⟩; replace hw' := hw'.symm; subst hw')
      | (go_at_call 90; refine (cD _).mono ?_; rintro e w' ⟨rfl, hw'⟩; replace hw' := hw'.symm; subst hw')
      | (go_at_call 92; refine (cS _).mono ?_; rintro e W5 ⟨rfl, B5x⟩; have M7c := M7.grown B5x; have M4c := M4.grown B5x; have B5 := Below.then B3 B5x; clear B5x M7 M4 B3)
      | (refine wpList_store1 rfl 3 _ _ rfl rfl (.int .i64 4) rfl M7c (by simp [tokL]) info3 rfl ?_; intro X1 U1 P1x; have P1 : IsS X1 b7 49 [.int .i64 4, .string ⟨#[]⟩, .int .i64 0, .int .i64 0, .int .i64 0, .int .i64 (p : Int), .int .i64 0] := P1x; have Q1 := M4c.upd U1 h47; have A1 := U1.trans B5 hb7; clear U1 P1x M7c M4c B5)
      | (refine wpList_store1 rfl 9 _ _ rfl rfl (.string r) rfl P1 (by simp) info9 rfl ?_; intro X2 U2 P2x; have P2 : IsS X2 b7 49 [.int .i64 4, .string r, .int .i64 0, .int .i64 0, .int .i64 0, .int .i64 (p : Int), .int .i64 0] := P2x; have Q2 := Q1.upd U2 h47; have A2 := U2.trans A1 hb7; clear U2 P2x P1 Q1 A1)
      | (refine wpList_store1 rfl 3 _ _ rfl rfl (.int .i64 ((p : Int) + r.size)) rfl P2 (by simp) info3 rfl ?_; intro Y U3 P3x; have Z7 : IsS Y b7 49 (tokL ⟨4, r.data.toList, 0, 0, 0, p, p + r.size⟩) := (by have := P3x; simpa [tokL, putL] using this); have Z4 := Q2.upd U3 h47; have ZB := U3.trans A2 hb7; clear U3 P3x P2 Q2 A2)
      | (refine wpList_loadP rfl 49 _ rfl rfl Z7 7 (tokL ⟨4, r.data.toList, 0, 0, 0, p, p + r.size⟩) rfl _ Tryz.underlying49 rfl info38 ?_)
      | (refine wpList_storeS rfl 49 _ _ rfl rfl (tokL ⟨4, r.data.toList, 0, 0, 0, p, p + r.size⟩) rfl Z4 (by simp [tokL, noTok]) info38 (tok_one _) ?_; intro V9 U9 NZx; have NZ : IsS V9 b4 49 (tokL ⟨4, r.data.toList, 0, 0, 0, p, p + r.size⟩) := NZx; have BZ := U9.trans ZB hb4; clear U9 Z4 ZB NZx))
    refine ret_STT rfl rfl rfl NZ _ Tryz.underlying49 rfl info38 _ rfl _ rfl ⟨?_, BZ⟩
    rw [HF.out, rtok_ok]; rfl

set_option maxRecDepth 100000 in
set_option maxHeartbeats 4000000 in
theorem rtoken_sign1 (s : ByteArray) (hs : s.size < 2305843009213693952) (p : Nat) (hp : p < s.size) (hl : letN s[p].toNat = false) (hb : numB (s.data.toList.drop p) = false) (hd : digN s[p].toNat = false) (h34 : s[p].toNat ≠ 34) (h45 : s[p].toNat = 45) (h1 : ¬ p + 1 < s.size) (w : World) :
    Calls Tryz.prog 64 #[.string s, .int .i64 (p : Int)] w fun e w' => e = .returned (rtokV p (cutF (s.data.toList.drop p))) ∧ Below w.heap.size w w' := by
  have cL := fun w => rletter_any s[p].toNat s[p].toNat_lt w
  rw [hl] at cL
  have cD := fun w => rdigit_any s[p].toNat s[p].toNat_lt w
  rw [hd] at cD
  have f34 : ((s[p].toNat : Int) == 34) = false := (by simp; omega)
  have f45 : ((s[p].toNat : Int) == 45) = true := (by simp; omega)
  have hpi1 : ¬ (p : Int) + 1 < s.size := by omega
  clear h45
  obtain ⟨r, hC, hrs, cS⟩ := sign_over s hs p hp hl hb h34
  clear hl hb hd h34
  obtain ⟨C, hCC⟩ : ∃ C, cutF (s.data.toList.drop p) = C := ⟨_, rfl⟩
  rw [hCC] at hC ⊢
  clear hCC
  have hpi : (p : Int) < s.size := by omega
  by_cases hem : r.toList.isEmpty = true
  · have HF : Hid (C = ⟨0, [], 0, 0, 50⟩) := (by show _ = _; rw [hC, if_pos hem])
    clear hC
    have tk : True := trivial
    go_enter Tryz.func64, Tryz.ntmps64
    go_wp2_with (first
      | (refine wpList_allocS rfl 49 rfl (tokL noTok) Tryz.zeroValue49 ?_; clear tk; intro W1 b4 F1 N4; have hb4 : w.heap.size ≤ b4 := Nat.le_of_eq F1.at'.symm; have B1 := F1.trans (Below.refl _ w) (Nat.le_refl _); clear F1)
      | (refine wpList_allocS rfl 49 rfl (tokL noTok) Tryz.zeroValue49 ?_; intro W2 b7 F2 N7; have hb7 : w.heap.size ≤ b7 := Nat.le_trans B1.size (Nat.le_of_eq F2.at'.symm); have h47 : b4 ≠ b7 := (by have := N4.lt; have := F2.at'; omega); have N4b := N4.fresh F2; have B2 := F2.trans B1 B1.size; clear F2 N4 B1)
      | (refine wpList_storeS rfl 49 _ _ rfl rfl (tokL ⟨0, [], 0, 0, 0, p, 0⟩) rfl N7 (by simp [tokL, noTok]) info38 (tok_one _) ?_; intro W3 U3 M7x; have M7 : IsS W3 b7 49 (tokL ⟨0, [], 0, 0, 0, p, 0⟩) := M7x; have M4 := N4b.upd U3 h47; have B3 := U3.trans B2 hb7; clear U3 N7 N4b B2 M7x)
      | (go_at_call 88; refine (cL _).mono ?_; rintro e w' ⟨rfl, hw'⟩; replace hw' := hw'.symm; subst hw')
      | (go_at_call 90; refine (cD _).mono ?_; rintro e w' ⟨rfl, hw'⟩; replace hw' := hw'.symm; subst hw')
      | (go_at_call 92; refine (cS _).mono ?_; rintro e W5 ⟨rfl, B5x⟩; have M7c := M7.grown B5x; have M4c := M4.grown B5x; have B5 := Below.then B3 B5x; clear B5x M7 M4 B3)
      | (refine wpList_storeS rfl 49 _ _ rfl rfl (tokL noTok) rfl M4c (by simp [tokL, noTok]) info38 (tok_one _) ?_; intro V9 U9 NZx; have NZ : IsS V9 b4 49 (tokL noTok) := NZx; have BZ := U9.trans B5 hb4; clear U9 M4c B5 NZx))
    refine ret_STT rfl rfl rfl NZ _ Tryz.underlying49 rfl info38 _ rfl _ rfl ⟨?_, BZ⟩
    rw [HF.out, rtok_bad p 0 [] 0 0 50 (by omega)]; rfl
  · have hem' : r.toList.isEmpty = false := by simpa using hem
    have HF : Hid (C = ⟨4, r.data.toList, 0, r.size, 0⟩) := (by show _ = _; rw [hC, if_neg hem])
    have hrs2 : (p : Int) + r.size ≤ s.size := by omega
    clear hC hem
    have tk : True := trivial
    go_enter Tryz.func64, Tryz.ntmps64
    go_wp2_with (first
      | (refine wpList_allocS rfl 49 rfl (tokL noTok) Tryz.zeroValue49 ?_; clear tk; intro W1 b4 F1 N4; have hb4 : w.heap.size ≤ b4 := Nat.le_of_eq F1.at'.symm; have B1 := F1.trans (Below.refl _ w) (Nat.le_refl _); clear F1)
      | (refine wpList_allocS rfl 49 rfl (tokL noTok) Tryz.zeroValue49 ?_; intro W2 b7 F2 N7; have hb7 : w.heap.size ≤ b7 := Nat.le_trans B1.size (Nat.le_of_eq F2.at'.symm); have h47 : b4 ≠ b7 := (by have := N4.lt; have := F2.at'; omega); have N4b := N4.fresh F2; have B2 := F2.trans B1 B1.size; clear F2 N4 B1)
      | (refine wpList_storeS rfl 49 _ _ rfl rfl (tokL ⟨0, [], 0, 0, 0, p, 0⟩) rfl N7 (by simp [tokL, noTok]) info38 (tok_one _) ?_; intro W3 U3 M7x; have M7 : IsS W3 b7 49 (tokL ⟨0, [], 0, 0, 0, p, 0⟩) := M7x; have M4 := N4b.upd U3 h47; have B3 := U3.trans B2 hb7; clear U3 N7 N4b B2 M7x)
      | (go_at_call 88; refine (cL _).mono ?_; rintro e w' ⟨rfl, hw'⟩; replace hw' := hw'.symm; subst hw')
      | (go_at_call 90; refine (cD _).mono ?_; rintro e w' ⟨rfl, hw'⟩; replace hw' := hw'.symm; subst hw')
      | (go_at_call 92; refine (cS _).mono ?_; rintro e W5 ⟨rfl, B5x⟩; have M7c := M7.grown B5x; have M4c := M4.grown B5x; have B5 := Below.then B3 B5x; clear B5x M7 M4 B3)
      | (refine wpList_store1 rfl 3 _ _ rfl rfl (.int .i64 4) rfl M7c (by simp [tokL]) info3 rfl ?_; intro X1 U1 P1x; have P1 : IsS X1 b7 49 [.int .i64 4, .string ⟨#[]⟩, .int .i64 0, .int .i64 0, .int .i64 0, .int .i64 (p : Int), .int .i64 0] := P1x; have Q1 := M4c.upd U1 h47; have A1 := U1.trans B5 hb7; clear U1 P1x M7c M4c B5)
      | (refine wpList_store1 rfl 9 _ _ rfl rfl (.string r) rfl P1 (by simp) info9 rfl ?_; intro X2 U2 P2x; have P2 : IsS X2 b7 49 [.int .i64 4, .string r, .int .i64 0, .int .i64 0, .int .i64 0, .int .i64 (p : Int), .int .i64 0] := P2x; have Q2 := Q1.upd U2 h47; have A2 := U2.trans A1 hb7; clear U2 P2x P1 Q1 A1)
      | (refine wpList_store1 rfl 3 _ _ rfl rfl (.int .i64 ((p : Int) + r.size)) rfl P2 (by simp) info3 rfl ?_; intro Y U3 P3x; have Z7 : IsS Y b7 49 (tokL ⟨4, r.data.toList, 0, 0, 0, p, p + r.size⟩) := (by have := P3x; simpa [tokL, putL] using this); have Z4 := Q2.upd U3 h47; have ZB := U3.trans A2 hb7; clear U3 P3x P2 Q2 A2)
      | (refine wpList_loadP rfl 49 _ rfl rfl Z7 7 (tokL ⟨4, r.data.toList, 0, 0, 0, p, p + r.size⟩) rfl _ Tryz.underlying49 rfl info38 ?_)
      | (refine wpList_storeS rfl 49 _ _ rfl rfl (tokL ⟨4, r.data.toList, 0, 0, 0, p, p + r.size⟩) rfl Z4 (by simp [tokL, noTok]) info38 (tok_one _) ?_; intro V9 U9 NZx; have NZ : IsS V9 b4 49 (tokL ⟨4, r.data.toList, 0, 0, 0, p, p + r.size⟩) := NZx; have BZ := U9.trans ZB hb4; clear U9 Z4 ZB NZx))
    refine ret_STT rfl rfl rfl NZ _ Tryz.underlying49 rfl info38 _ rfl _ rfl ⟨?_, BZ⟩
    rw [HF.out, rtok_ok]; rfl

set_option maxRecDepth 100000 in
set_option maxHeartbeats 4000000 in
theorem rtoken_sign2 (s : ByteArray) (hs : s.size < 2305843009213693952) (p : Nat) (hp : p < s.size) (hl : letN s[p].toNat = false) (hb : numB (s.data.toList.drop p) = false) (hd : digN s[p].toNat = false) (h34 : s[p].toNat ≠ 34) (h45 : s[p].toNat = 45) (h1 : p + 1 < s.size) (hd1 : digN s[p + 1].toNat = false) (w : World) :
    Calls Tryz.prog 64 #[.string s, .int .i64 (p : Int)] w fun e w' => e = .returned (rtokV p (cutF (s.data.toList.drop p))) ∧ Below w.heap.size w w' := by
  have cL := fun w => rletter_any s[p].toNat s[p].toNat_lt w
  rw [hl] at cL
  have cD := fun w => rdigit_any s[p].toNat s[p].toNat_lt w
  rw [hd] at cD
  have f34 : ((s[p].toNat : Int) == 34) = false := (by simp; omega)
  have f45 : ((s[p].toNat : Int) == 45) = true := (by simp; omega)
  have hpi1 : (p : Int) + 1 < s.size := by omega
  have cE := fun w => rdigit_any s[p + 1].toNat s[p + 1].toNat_lt w
  rw [hd1] at cE
  clear h45 hd1
  obtain ⟨r, hC, hrs, cS⟩ := sign_over s hs p hp hl hb h34
  clear hl hb hd h34
  obtain ⟨C, hCC⟩ : ∃ C, cutF (s.data.toList.drop p) = C := ⟨_, rfl⟩
  rw [hCC] at hC ⊢
  clear hCC
  have hpi : (p : Int) < s.size := by omega
  by_cases hem : r.toList.isEmpty = true
  · have HF : Hid (C = ⟨0, [], 0, 0, 50⟩) := (by show _ = _; rw [hC, if_pos hem])
    clear hC
    have tk : True := trivial
    go_enter Tryz.func64, Tryz.ntmps64
    go_wp2_with (first
      | (refine wpList_allocS rfl 49 rfl (tokL noTok) Tryz.zeroValue49 ?_; clear tk; intro W1 b4 F1 N4; have hb4 : w.heap.size ≤ b4 := Nat.le_of_eq F1.at'.symm; have B1 := F1.trans (Below.refl _ w) (Nat.le_refl _); clear F1)
      | (refine wpList_allocS rfl 49 rfl (tokL noTok) Tryz.zeroValue49 ?_; intro W2 b7 F2 N7; have hb7 : w.heap.size ≤ b7 := Nat.le_trans B1.size (Nat.le_of_eq F2.at'.symm); have h47 : b4 ≠ b7 := (by have := N4.lt; have := F2.at'; omega); have N4b := N4.fresh F2; have B2 := F2.trans B1 B1.size; clear F2 N4 B1)
      | (refine wpList_storeS rfl 49 _ _ rfl rfl (tokL ⟨0, [], 0, 0, 0, p, 0⟩) rfl N7 (by simp [tokL, noTok]) info38 (tok_one _) ?_; intro W3 U3 M7x; have M7 : IsS W3 b7 49 (tokL ⟨0, [], 0, 0, 0, p, 0⟩) := M7x; have M4 := N4b.upd U3 h47; have B3 := U3.trans B2 hb7; clear U3 N7 N4b B2 M7x)
      | (go_at_call 88; refine (cL _).mono ?_; rintro e w' ⟨rfl, hw'⟩; replace hw' := hw'.symm; subst hw')
      | (go_at_call 90; refine (cD _).mono ?_; rintro e w' ⟨rfl, hw'⟩; replace hw' := hw'.symm; subst hw')
      | (go_at_call 90; refine (cE _).mono ?_; rintro e w' ⟨rfl, hw'⟩; replace hw' := hw'.symm; subst hw')
      | (go_at_call 92; refine (cS _).mono ?_; rintro e W5 ⟨rfl, B5x⟩; have M7c := M7.grown B5x; have M4c := M4.grown B5x; have B5 := Below.then B3 B5x; clear B5x M7 M4 B3)
      | (refine wpList_storeS rfl 49 _ _ rfl rfl (tokL noTok) rfl M4c (by simp [tokL, noTok]) info38 (tok_one _) ?_; intro V9 U9 NZx; have NZ : IsS V9 b4 49 (tokL noTok) := NZx; have BZ := U9.trans B5 hb4; clear U9 M4c B5 NZx))
    refine ret_STT rfl rfl rfl NZ _ Tryz.underlying49 rfl info38 _ rfl _ rfl ⟨?_, BZ⟩
    rw [HF.out, rtok_bad p 0 [] 0 0 50 (by omega)]; rfl
  · have hem' : r.toList.isEmpty = false := by simpa using hem
    have HF : Hid (C = ⟨4, r.data.toList, 0, r.size, 0⟩) := (by show _ = _; rw [hC, if_neg hem])
    have hrs2 : (p : Int) + r.size ≤ s.size := by omega
    clear hC hem
    have tk : True := trivial
    go_enter Tryz.func64, Tryz.ntmps64
    go_wp2_with (first
      | (refine wpList_allocS rfl 49 rfl (tokL noTok) Tryz.zeroValue49 ?_; clear tk; intro W1 b4 F1 N4; have hb4 : w.heap.size ≤ b4 := Nat.le_of_eq F1.at'.symm; have B1 := F1.trans (Below.refl _ w) (Nat.le_refl _); clear F1)
      | (refine wpList_allocS rfl 49 rfl (tokL noTok) Tryz.zeroValue49 ?_; intro W2 b7 F2 N7; have hb7 : w.heap.size ≤ b7 := Nat.le_trans B1.size (Nat.le_of_eq F2.at'.symm); have h47 : b4 ≠ b7 := (by have := N4.lt; have := F2.at'; omega); have N4b := N4.fresh F2; have B2 := F2.trans B1 B1.size; clear F2 N4 B1)
      | (refine wpList_storeS rfl 49 _ _ rfl rfl (tokL ⟨0, [], 0, 0, 0, p, 0⟩) rfl N7 (by simp [tokL, noTok]) info38 (tok_one _) ?_; intro W3 U3 M7x; have M7 : IsS W3 b7 49 (tokL ⟨0, [], 0, 0, 0, p, 0⟩) := M7x; have M4 := N4b.upd U3 h47; have B3 := U3.trans B2 hb7; clear U3 N7 N4b B2 M7x)
      | (go_at_call 88; refine (cL _).mono ?_; rintro e w' ⟨rfl, hw'⟩; replace hw' := hw'.symm; subst hw')
      | (go_at_call 90; refine (cD _).mono ?_; rintro e w' ⟨rfl, hw'⟩; replace hw' := hw'.symm; subst hw')
      | (go_at_call 90; refine (cE _).mono ?_; rintro e w' ⟨rfl, hw'⟩; replace hw' := hw'.symm; subst hw')
      | (go_at_call 92; refine (cS _).mono ?_; rintro e W5 ⟨rfl, B5x⟩; have M7c := M7.grown B5x; have M4c := M4.grown B5x; have B5 := Below.then B3 B5x; clear B5x M7 M4 B3)
      | (refine wpList_store1 rfl 3 _ _ rfl rfl (.int .i64 4) rfl M7c (by simp [tokL]) info3 rfl ?_; intro X1 U1 P1x; have P1 : IsS X1 b7 49 [.int .i64 4, .string ⟨#[]⟩, .int .i64 0, .int .i64 0, .int .i64 0, .int .i64 (p : Int), .int .i64 0] := P1x; have Q1 := M4c.upd U1 h47; have A1 := U1.trans B5 hb7; clear U1 P1x M7c M4c B5)
      | (refine wpList_store1 rfl 9 _ _ rfl rfl (.string r) rfl P1 (by simp) info9 rfl ?_; intro X2 U2 P2x; have P2 : IsS X2 b7 49 [.int .i64 4, .string r, .int .i64 0, .int .i64 0, .int .i64 0, .int .i64 (p : Int), .int .i64 0] := P2x; have Q2 := Q1.upd U2 h47; have A2 := U2.trans A1 hb7; clear U2 P2x P1 Q1 A1)
      | (refine wpList_store1 rfl 3 _ _ rfl rfl (.int .i64 ((p : Int) + r.size)) rfl P2 (by simp) info3 rfl ?_; intro Y U3 P3x; have Z7 : IsS Y b7 49 (tokL ⟨4, r.data.toList, 0, 0, 0, p, p + r.size⟩) := (by have := P3x; simpa [tokL, putL] using this); have Z4 := Q2.upd U3 h47; have ZB := U3.trans A2 hb7; clear U3 P3x P2 Q2 A2)
      | (refine wpList_loadP rfl 49 _ rfl rfl Z7 7 (tokL ⟨4, r.data.toList, 0, 0, 0, p, p + r.size⟩) rfl _ Tryz.underlying49 rfl info38 ?_)
      | (refine wpList_storeS rfl 49 _ _ rfl rfl (tokL ⟨4, r.data.toList, 0, 0, 0, p, p + r.size⟩) rfl Z4 (by simp [tokL, noTok]) info38 (tok_one _) ?_; intro V9 U9 NZx; have NZ : IsS V9 b4 49 (tokL ⟨4, r.data.toList, 0, 0, 0, p, p + r.size⟩) := NZx; have BZ := U9.trans ZB hb4; clear U9 Z4 ZB NZx))
    refine ret_STT rfl rfl rfl NZ _ Tryz.underlying49 rfl info38 _ rfl _ rfl ⟨?_, BZ⟩
    rw [HF.out, rtok_ok]; rfl

theorem rtoken_any (s : ByteArray) (hs : s.size < 2305843009213693952) (p : Nat) (hp : p < s.size) (w : World) :
    Calls Tryz.prog 64 #[.string s, .int .i64 (p : Int)] w fun e w' => e = .returned (rtokV p (cutF (s.data.toList.drop p))) ∧ Below w.heap.size w w' := by
  cases hl : letN s[p].toNat with
  | true => exact rtoken_name s hs p hp hl w
  | false =>
    have hnb : numB (s.data.toList.drop p) = (digN s[p].toNat || (decide (s[p].toNat = 45) && (if h : p + 1 < s.size then digN s[p + 1].toNat else false))) := (by
      rw [drop_cons s p hp]
      unfold numB
      by_cases h : p + 1 < s.size
      · rw [drop_cons s (p + 1) h, dif_pos h]
      · rw [drop_end s (p + 1) (by omega), dif_neg h])
    cases hd : digN s[p].toNat with
    | true => exact rtoken_num0 s hs p hp hl (by rw [hnb, hd]; rfl) hd w
    | false =>
      by_cases h45 : s[p].toNat = 45
      · by_cases h1 : p + 1 < s.size
        · cases hd1 : digN s[p + 1].toNat with
          | true => exact rtoken_num1 s hs p hp hl (by rw [hnb, dif_pos h1, hd1, h45]; simp) hd h45 h1 hd1 w
          | false => exact rtoken_sign2 s hs p hp hl (by rw [hnb, dif_pos h1, hd1, hd]; simp) hd (by omega) h45 h1 hd1 w
        · exact rtoken_sign1 s hs p hp hl (by rw [hnb, dif_neg h1, hd]; simp) hd (by omega) h45 h1 w
      · by_cases h34 : s[p].toNat = 34
        · exact rtoken_quot s hs p hp hl (by rw [hnb, hd]; simp [h45]) hd h34 w
        · exact rtoken_sign0 s hs p hp hl (by rw [hnb, hd]; simp [h45]) hd h34 h45 w
end Go.Proofs.YtjnbhcakfenbhaaGreatDoor.Lx

/- The reference's digit and digits. -/
import Derived.Test.YtlmnlfnodbfgiaaD5
namespace Go.Proofs.Ytlmnlfnodbfgiaa
open Go.RowKit M
set_option linter.unusedSimpArgs false
set_option linter.unusedVariables false

/-- A byte as a digit to a base; -1: it is none. -/
def rdig (c base : Nat) : Int := if dig c < base then (dig c : Int) else -1

set_option maxRecDepth 100000 in
set_option maxHeartbeats 1000000 in
theorem rdigit_any (c base : Nat) (hc : c < 256) (hb : base = 10 ∨ base = 16) (w : World) : Calls Try.prog 24 #[.int .u8 c, .int .i64 base] w fun e w' => e = .returned (.int .i64 (rdig c base)) ∧ w' = w := by
  have hb0 : 10 ≤ base := by omega
  have hb1 : base ≤ 16 := by omega
  have HB : Hid (base = 10 ∨ base = 16) := hb
  clear hb
  go_enter Try.func24, Try.ntmps24
  go_wp2
  all_goals go_ret
  all_goals refine ⟨ret_int ?_, rfl⟩
  all_goals unfold rdig
  all_goals first
    | (rw [dig_a (by omega) (by omega), if_pos (by omega)]; omega)
    | (rw [dig_a (by omega) (by omega), if_neg (by omega)])
    | (rw [dig_b (by omega) (by omega), if_pos (by omega)]; omega)
    | (rw [dig_b (by omega) (by omega), if_neg (by omega)])
    | (rw [dig_c (by omega) (by omega), if_pos (by omega)]; omega)
    | (rw [dig_c (by omega) (by omega), if_neg (by omega)])
    | (rw [dig_d (by omega) (by omega) (by omega), if_neg (by omega)])

theorem rdig_some {c base : Nat} (h : dig c < base) : rdig c base = (dig c : Int) := by unfold rdig; rw [if_pos h]
theorem rdig_none {c base : Nat} (h : ¬ dig c < base) : rdig c base = -1 := by unfold rdig; rw [if_neg h]

theorem take_drop_snoc (s : ByteArray) (a k : Nat) (h : a + k < s.size) : (s.data.toList.drop a).take (k + 1) = (s.data.toList.drop a).take k ++ [s[a + k]] := by
  have hl := sizeL s
  rw [List.take_succ_eq_append_getElem (by rw [List.length_drop]; omega)]
  congr 2
  rw [List.getElem_drop]; rfl

theorem dl_take (s : ByteArray) (a base k : Nat) (hk : a + k ≤ s.size) (h1 : ∀ j, (h : a + j < s.size) → j < k → dig s[a + j].toNat < base)
    (h2 : ∀ h : a + k < s.size, ¬ dig s[a + k].toNat < base) : dl base (s.data.toList.drop a) = (s.data.toList.drop a).take k := by
  have := run_end s a base k hk h1 h2
  rw [← this, exL, List.drop_take]; congr 1; omega

theorem dg_end {l : List UInt8} {base k : Nat} {x : Int} {big : Bool} (he : dl base l = l.take k) (hk : k ≤ l.length) (h0 : 0 ≤ x) (h1 : x ≤ 18446744073709551615)
    (hb : big = true → 18446744073709551615 < val base (l.take k)) (hx : big = false → x = (val base (l.take k) : Int)) :
    ∃ y : Int, Ending.returned (.tuple #[.int .u64 x, .bool big, .int .i64 (k : Int)]) = .returned (.tuple #[.int .u64 y, .bool (decide (18446744073709551615 < val base (dl base l))), .int .i64 ((dl base l).length : Int)])
      ∧ 0 ≤ y ∧ y ≤ 18446744073709551615 ∧ (val base (dl base l) ≤ 18446744073709551615 → y = (val base (dl base l) : Int)) := by
  have hl : (dl base l).length = k := by rw [he, List.length_take]; omega
  have hbg : big = decide (18446744073709551615 < val base (dl base l)) := by
    rw [he]
    cases big with
    | true => exact (decide_eq_true (hb rfl)).symm
    | false =>
        have := hx rfl
        exact (decide_eq_false (by omega)).symm
  refine ⟨x, by rw [← hbg, hl], h0, h1, fun h => ?_⟩
  cases big with
  | true => have := hb rfl; rw [he] at h; omega
  | false => rw [he]; exact hx rfl

set_option maxRecDepth 100000 in
set_option maxHeartbeats 2000000 in
theorem rdigits_any (s : ByteArray) (hs : s.size ≤ maxLen) (a base : Nat) (ha : a ≤ s.size) (hbase : base = 10 ∨ base = 16) (w : World) :
    Calls Try.prog 17 #[.string s, .int .i64 a, .int .i64 base] w fun e w' => (∃ x : Int, e = .returned (.tuple #[.int .u64 x, .bool (decide (18446744073709551615 < val base (dl base (s.data.toList.drop a)))), .int .i64 ((dl base (s.data.toList.drop a)).length : Int)])
      ∧ 0 ≤ x ∧ x ≤ 18446744073709551615 ∧ (val base (dl base (s.data.toList.drop a)) ≤ 18446744073709551615 → x = (val base (dl base (s.data.toList.drop a)) : Int))) ∧ w' = w := by
  unfold maxLen at hs
  have hdg : ∀ c : Nat, c < 256 → ∀ w, Calls Try.prog 24 #[.int .u8 c, .int .i64 base] w fun e w' => e = .returned (.int .i64 (rdig c base)) ∧ w' = w := fun c hc w => rdigit_any c base hc hbase w
  obtain ⟨B, hB, hB1, hB2⟩ : ∃ B : Int, (base : Int) = B ∧ 10 ≤ B ∧ B ≤ 16 := ⟨_, rfl, by omega, by omega⟩
  have hb1 : 1 ≤ base := by omega
  have hb16 : base ≤ 16 := by omega
  have HBASE : Hid (base = 10 ∨ base = 16) := hbase
  have HB : Hid ((base : Int) = B) := hB
  rw [hB] at hdg ⊢
  clear hbase hB
  go_enter Try.func17, Try.ntmps17
  go_wp2
  go_loop [9, 10, 11] (fun n g i => ∃ (k : Nat) (x : Int) (big : Bool), a + k ≤ s.size ∧ 0 ≤ x ∧ x ≤ 18446744073709551615 ∧ n = .int .u64 x ∧ g = .bool big ∧ i = .int .i64 k ∧ Hid (∀ j, (h : a + j < s.size) → j < k → dig s[a + j].toNat < base)
    ∧ Hid (big = true → 18446744073709551615 < val base ((s.data.toList.drop a).take k)) ∧ Hid (big = false → x = (val base ((s.data.toList.drop a).take k) : Int))) (fun _ _ i => s.size - (a + (intOf i).toNat))
  case atStart => exact ⟨0, 0, false, by omega, by omega, by omega, rfl, rfl, rfl, fun j h hj => (by omega), fun h => (by cases h), fun _ => rfl⟩
  case round =>
    obtain ⟨k, x, big, hk, hx0, hx1, rfl, rfl, rfl, HK, HBG, HX⟩ := hrel
    by_cases hlt : a + k < s.size
    · have hd := hdg s[a + k].toNat s[a + k].toNat_lt
      by_cases hdd : dig s[a + k].toNat < base
      · rw [rdig_some hdd] at hd
        obtain ⟨d, hde⟩ : ∃ d : Int, (dig s[a + k].toNat : Int) = d := ⟨_, rfl⟩
        rw [hde] at hd
        have hd0 : 0 ≤ d := by omega
        have hd1 : d ≤ 15 := by omega
        have HDE : Hid ((dig s[a + k].toNat : Int) = d) := hde
        have HK' : Hid (∀ j, (h : a + j < s.size) → j < k + 1 → dig s[a + j].toNat < base) := fun j h hj => if e : j = k then by subst e; exact hdd else HK.out j h (by omega)
        have HS : Hid (val base ((s.data.toList.drop a).take (k + 1)) = val base ((s.data.toList.drop a).take k) * base + dig s[a + k].toNat) := by
          show _ = _
          rw [take_drop_snoc s a k hlt, val_snoc]
        have hover := over_iff (n := val base ((s.data.toList.drop a).take k)) (d := dig s[a + k].toNat) hb1 (dig_le _)
        clear hde hdd HK
        by_cases hgt : (18446744073709551615 - d) / B < x
        · have HBG' : Hid (18446744073709551615 < val base ((s.data.toList.drop a).take (k + 1))) := by
            show _ < _
            rw [HS.out]
            cases big with
            | true =>
                have h1 := HBG.out rfl
                have : val base ((s.data.toList.drop a).take k) * 1 ≤ val base ((s.data.toList.drop a).take k) * base := Nat.mul_le_mul_left _ hb1
                omega
            | false =>
                refine hover.1 ?_
                have h1 := HX.out rfl
                rw [h1, ← HB.out, ← HDE.out] at hgt
                have h3 : ((18446744073709551615 - dig s[a + k].toNat : Nat) : Int) = 18446744073709551615 - (dig s[a + k].toNat : Int) := by have := dig_le s[a + k].toNat; omega
                rw [← h3] at hgt
                exact_mod_cast hgt
          clear hover HBG HX HS hdg
          go_wp2_with (go_at_call 24; refine (hd _).mono ?_; rintro e w' ⟨rfl, hw'⟩; replace hw' := hw'.symm; subst hw')
          go_round
          case rel => exact ⟨k + 1, _, true, by omega, by rw [IntKind.wrap_u64]; omega, by rw [IntKind.wrap_u64]; omega, rfl, rfl, by go_num, HK', fun _ => HBG'.out, fun h => (by cases h)⟩
          case measure => simp [intOf]; omega
        · cases big with
          | true =>
              have HBG' : Hid (18446744073709551615 < val base ((s.data.toList.drop a).take (k + 1))) := by
                show _ < _
                rw [HS.out]
                have h1 := HBG.out rfl
                have : val base ((s.data.toList.drop a).take k) * 1 ≤ val base ((s.data.toList.drop a).take k) * base := Nat.mul_le_mul_left _ hb1
                omega
              clear hover HBG HX HS hdg
              go_wp2_with (go_at_call 24; refine (hd _).mono ?_; rintro e w' ⟨rfl, hw'⟩; replace hw' := hw'.symm; subst hw')
              go_round
              case rel => exact ⟨k + 1, _, true, by omega, by rw [IntKind.wrap_u64]; omega, by rw [IntKind.wrap_u64]; omega, rfl, rfl, by go_num, HK', fun _ => HBG'.out, fun h => (by cases h)⟩
              case measure => simp [intOf]; omega
          | false =>
              have h1 := HX.out rfl
              have hle : val base ((s.data.toList.drop a).take k) * base + dig s[a + k].toNat ≤ 18446744073709551615 := by
                refine Nat.le_of_not_lt fun h => hgt ?_
                have h2 := hover.2 h
                rw [h1, ← HB.out, ← HDE.out]
                have h3 : ((18446744073709551615 - dig s[a + k].toNat : Nat) : Int) = 18446744073709551615 - (dig s[a + k].toNat : Int) := by have := dig_le s[a + k].toNat; omega
                rw [← h3]
                exact_mod_cast h2
              have HV : Hid (x * B + d = (val base ((s.data.toList.drop a).take (k + 1)) : Int)) := by
                show x * B + d = _
                rw [HS.out, h1, ← HB.out, ← HDE.out, Int.natCast_add, Int.natCast_mul]
              have hsum : x * B + d ≤ 18446744073709551615 := by rw [HV.out, HS.out]; omega
              have hm0 : 0 ≤ x * B := Int.mul_nonneg hx0 (by omega)
              have hm1 : x * B ≤ 18446744073709551615 := by omega
              clear hover HBG HX HS hdg h1 hle
              go_wp2_with (go_at_call 24; refine (hd _).mono ?_; rintro e w' ⟨rfl, hw'⟩; replace hw' := hw'.symm; subst hw')
              go_round
              case rel => exact ⟨k + 1, x * B + d, false, by omega, by omega, by omega, rfl, rfl, by go_num, HK', fun h => (by cases h), fun _ => HV.out⟩
              case measure => simp [intOf]; omega
      · rw [rdig_none hdd] at hd
        have HE : Hid (dl base (s.data.toList.drop a) = (s.data.toList.drop a).take k) := dl_take s a base k hk HK.out (fun _ => hdd)
        clear hdg hdd HK
        go_wp2_with (go_at_call 24; refine (hd _).mono ?_; rintro e w' ⟨rfl, hw'⟩; replace hw' := hw'.symm; subst hw')
        go_ret3
        exact ⟨dg_end HE.out (by have := sizeL s; rw [List.length_drop]; omega) hx0 hx1 HBG.out HX.out, rfl⟩
    · have HE : Hid (dl base (s.data.toList.drop a) = (s.data.toList.drop a).take k) := dl_take s a base k hk HK.out (fun h => absurd h hlt)
      clear hdg HK
      go_wp2
      go_ret3
      exact ⟨dg_end HE.out (by have := sizeL s; rw [List.length_drop]; omega) hx0 hx1 HBG.out HX.out, rfl⟩
end Go.Proofs.Ytlmnlfnodbfgiaa

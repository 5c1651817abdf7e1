/- WC2 -/
import Derived.Test.YtegpnicajlndlaaQaa
namespace Go.Proofs.Ytegpnicajlndlaa
open Go.RowKit M
set_option linter.unusedSimpArgs false
set_option linter.unusedVariables false
def takeV : Option (Int × Nat) → Value
 | some (v, n) => .tuple #[.int .i64 v, .int .i64 n, .int .i64 0]
 | none => .tuple #[.int .i64 0, .int .i64 0, .int .i64 40]
def takeA (s : ByteArray) (at' : Int) : Option (Int × Nat) := if at' < 0 ∨ (s.size : Int) ≤ at' then none else takeO (s.data.toList.drop at'.toNat)
theorem drop_step (s : ByteArray) (a k : Nat) (h : a + k < s.size) : (s.data.toList.drop a).drop k = s[a + k] :: (s.data.toList.drop a).drop (k + 1) := by
 rw [List.drop_drop, List.drop_drop, ← Nat.add_assoc]
 rw [List.drop_eq_getElem_cons (by simpa using h)]
 rfl
theorem wdrop_end (s : ByteArray) (a k : Nat) (h : s.size ≤ a + k) : (s.data.toList.drop a).drop k = [] := by
 rw [List.drop_drop]; apply List.drop_eq_nil_of_le; simpa using h
theorem or_step {X d k : Nat} (hX : X < 2 ^ (7 * k)) (hs : d * 2 ^ (7 * k) < 18446744073709551616) (hk : 7 * k ≤ 63) :
    bits .or .u64 (X : Int) (IntKind.u64.wrap ((d : Int) * 2 ^ (7 * k))) = ((X + d * 2 ^ (7 * k) : Nat) : Int) := by
 have e : (d : Int) * 2 ^ (7 * k) = ((d * 2 ^ (7 * k) : Nat) : Int) := by rw [Int.natCast_mul, Int.natCast_pow]; rfl
 have hp : (2 : Nat) ^ (7 * k) ≤ 2 ^ 63 := Nat.pow_le_pow_right (by omega) hk
 have e63 : (2 : Nat) ^ 63 = 9223372036854775808 := by decide
 rw [e, IntWalk.u64_in _ ⟨by omega, by omega⟩, bits_or_u64_nat _ _ (by omega) hs]
 rw [Nat.or_comm, Nat.mul_comm d, ← Nat.two_pow_add_eq_or_of_lt hX, Nat.add_comm]
theorem digit_lt {k c : Nat} (hk : k < 10) (hc : c < 256) (h9 : k = 9 → c ≤ 1) : (c % 128) * 2 ^ (7 * k) < 18446744073709551616 := by
 by_cases e : k = 9
 · subst e
   have h1 := h9 rfl
   have h2 : (c % 128) * 2 ^ (7 * 9) ≤ 1 * 2 ^ (7 * 9) := Nat.mul_le_mul_right _ (by omega)
   exact Nat.lt_of_le_of_lt h2 (by decide)
 · have h2 : (c % 128) * 2 ^ (7 * k) ≤ 127 * 2 ^ (7 * 8) := Nat.mul_le_mul (by omega) (Nat.pow_le_pow_right (by omega) (by omega))
   exact Nat.lt_of_le_of_lt h2 (by decide)
theorem digit_next {X k d : Nat} (hX : X < 2 ^ (7 * k)) (hd : d < 128) : X + d * 2 ^ (7 * k) < 2 ^ (7 * (k + 1)) := by
 rw [pow7]
 have : d * 2 ^ (7 * k) ≤ 127 * 2 ^ (7 * k) := Nat.mul_le_mul_right _ (by omega)
 omega
theorem sum_lt {X d k : Nat} (hk : 7 * k ≤ 63) (hX : X < 2 ^ (7 * k)) (hd : d * 2 ^ (7 * k) < 18446744073709551616) : X + d * 2 ^ (7 * k) < 18446744073709551616 := by
 have hdv : 2 ^ (7 * k) ∣ 18446744073709551616 := by
  have : (18446744073709551616 : Nat) = 2 ^ 64 := by decide
  rw [this]; exact Nat.pow_dvd_pow 2 (by omega)
 obtain ⟨q, hq⟩ := hdv
 have hlt : d < q := by
  refine Nat.lt_of_mul_lt_mul_right (a := 2 ^ (7 * k)) ?_
  rw [Nat.mul_comm q]; omega
 have : (d + 1) * 2 ^ (7 * k) ≤ q * 2 ^ (7 * k) := Nat.mul_le_mul_right _ hlt
 rw [Nat.add_mul, Nat.one_mul, Nat.mul_comm q] at this
 omega
theorem unfold_int (x : Int) (U : Nat) (hx : x = (U : Int)) (h : U < 18446744073709551616) (w : World) :
    Calls Try.prog 130 #[.int .u64 x] w fun e w' => e = .returned (.int .i64 (unfoldN U)) ∧ w' = w := by rw [hx]; exact unfold_any U h w
def takeF (k X : Nat) (l : List UInt8) : Option (Int × Nat) := (tk k X l).map fun p => (unfoldN p.1, p.2)
theorem takeF_bad {k X : Nat} {c : UInt8} {r : List UInt8} (h : (k = 9 ∧ 1 < c.toNat) ∨ (0 < k ∧ c.toNat = 0)) : takeF k X (c :: r) = none := by
 unfold takeF; rw [tk]
 by_cases hk : 10 ≤ k
 · rw [if_pos hk]; rfl
 · rw [if_neg hk, if_pos h]; rfl
theorem takeF_last {k X : Nat} {c : UInt8} {r : List UInt8} (hk : k < 10) (h : ¬ ((k = 9 ∧ 1 < c.toNat) ∨ (0 < k ∧ c.toNat = 0))) (hc : c.toNat < 128) :
    takeF k X (c :: r) = some (unfoldN (X + (c.toNat % 128) * 2 ^ (7 * k)), k + 1) := by
 unfold takeF; rw [tk, if_neg (by omega), if_neg h, if_pos hc, Nat.mod_eq_of_lt hc]; rfl
theorem takeF_more {k X : Nat} {c : UInt8} {r : List UInt8} (hk : k < 10) (h : ¬ ((k = 9 ∧ 1 < c.toNat) ∨ (0 < k ∧ c.toNat = 0))) (hc : ¬ c.toNat < 128) :
    takeF k X (c :: r) = takeF (k + 1) (X + (c.toNat % 128) * 2 ^ (7 * k)) r := by
 unfold takeF; rw [tk, if_neg (by omega), if_neg h, if_neg hc]
theorem takeF_ten {k X : Nat} {l : List UInt8} (hk : 10 ≤ k) : takeF k X l = none := by
 unfold takeF
 cases l with
 | nil => rfl
 | cons c r => rw [tk, if_pos hk]; rfl
set_option maxRecDepth 100000 in
set_option maxHeartbeats 2000000 in
theorem take_any (s : ByteArray) (at' : Int) (hs : s.size ≤ maxLen) (w : World) :
    Calls Try.prog 128 #[.string s, .int .i64 at'] w fun e w' => e = .returned (takeV (takeA s at')) ∧ w' = w := by
 unfold maxLen at hs
 by_cases h1 : at' < 0
 · go_enter Try.func128, Try.ntmps128
   go_wp2
   go_ret3
   exact ⟨by unfold takeA; rw [if_pos (Or.inl h1)]; rfl, rfl⟩
 by_cases h2 : (s.size : Int) ≤ at'
 · go_enter Try.func128, Try.ntmps128
   go_wp2
   go_ret3
   exact ⟨by unfold takeA; rw [if_pos (Or.inr h2)]; rfl, rfl⟩
 obtain ⟨a, rfl⟩ : ∃ a : Nat, at' = a := ⟨at'.toNat, by omega⟩
 have ha : a < s.size := by omega
 have HT : Hid (takeA s (a : Int) = takeF 0 0 ((s.data.toList.drop a).drop 0)) := by
  show takeA s (a : Int) = _
  unfold takeA; rw [if_neg (by omega)]; rfl
 by_cases h10 : (10 : Int) ≤ (s.size : Int) - (a : Int)
 all_goals
  go_enter Try.func128, Try.ntmps128
  go_wp2
  go_loop [7, 23] (fun u i => ∃ k X : Nat, k ≤ 10 ∧ a + k ≤ s.size ∧ X < 2 ^ (7 * k) ∧ u = .int .u64 X ∧ i = .int .i64 k ∧ Hid (takeA s (a : Int) = takeF k X ((s.data.toList.drop a).drop k))) (fun _ i => 10 - (intOf i).toNat)
  case atStart => exact ⟨0, 0, by omega, by omega, by decide, rfl, rfl, HT⟩
  case round =>
   obtain ⟨k, X, hk, hak, hX, rfl, rfl, HD⟩ := hrel
   clear HT
   have HX : Hid (X < 2 ^ (7 * k)) := hX
   clear hX
   by_cases hlt : k < 10 ∧ a + k < s.size
   · obtain ⟨hk10, hin⟩ := hlt
     have HS : Hid ((s.data.toList.drop a).drop k = s[a + k] :: (s.data.toList.drop a).drop (k + 1)) := drop_step s a k hin
     have hc256 := s[a + k].toNat_lt
     by_cases hA : k = 9 ∧ 1 < s[a + k].toNat
     · have h9 : ((k : Int) == 9) = true := by simp; omega
       have hc1 : 1 < (s[a + k].toNat : Int) := by omega
       have HR : Hid (takeA s (a : Int) = none) := by
        show takeA s (a : Int) = none
        rw [HD.out, HS.out]; exact takeF_bad (Or.inl hA)
       clear HD HS HX hA
       go_wp2
       go_ret3
       exact ⟨by rw [HR.out]; rfl, rfl⟩
     by_cases hB : 0 < k ∧ s[a + k].toNat = 0
     · have HR : Hid (takeA s (a : Int) = none) := by
        show takeA s (a : Int) = none
        rw [HD.out, HS.out]; exact takeF_bad (Or.inr hB)
       have hk0 : (0 : Int) < k := by omega
       have hc0 : ((s[a + k].toNat : Int) == 0) = true := by simp; exact hB.2
       have hc1 : ((s[a + k].toNat : Int) ≤ 1) := by omega
       clear HD HS HX hA hB
       by_cases hk9 : k = 9
       · have h9 : ((k : Int) == 9) = true := by simp; omega
         clear hk9
         go_wp2
         go_ret3
         exact ⟨by rw [HR.out]; rfl, rfl⟩
       · have h9 : ((k : Int) == 9) = false := by simp; omega
         clear hk9
         go_wp2
         go_ret3
         exact ⟨by rw [HR.out]; rfl, rfl⟩
     have hbad : ¬ ((k = 9 ∧ 1 < s[a + k].toNat) ∨ (0 < k ∧ s[a + k].toNat = 0)) := by omega
     have hU := digit_next HX.out (Nat.mod_lt s[a + k].toNat (by decide : 128 > 0))
     obtain ⟨U, hUe⟩ : ∃ U, U = X + (s[a + k].toNat % 128) * 2 ^ (7 * k) := ⟨_, rfl⟩
     obtain ⟨y, hy⟩ : ∃ y : Int, y = (U : Int) := ⟨_, rfl⟩
     have hor : bits .or .u64 (X : Int) (IntKind.u64.wrap ((s[a + k].toNat : Int) % 128 * 2 ^ (7 * k))) = y := by
      have := or_step HX.out (digit_lt hk10 hc256 (by omega)) (by omega : 7 * k ≤ 63)
      rw [hy, hUe, ← this]; rfl
     have HU64 : Hid (U < 18446744073709551616) := by
      show U < 18446744073709551616
      have h1 := digit_lt hk10 hc256 (show k = 9 → s[a + k].toNat ≤ 1 by omega)
      rw [hUe]
      exact sum_lt (by omega) HX.out h1
     rw [← hUe] at hU
     have HU : Hid (U < 2 ^ (7 * (k + 1))) := hU
     have HUe : Hid (U = X + (s[a + k].toNat % 128) * 2 ^ (7 * k)) := hUe
     have Hy : Hid (y = (U : Int)) := hy
     clear hU hUe hy
     by_cases hC : s[a + k].toNat < 128
     · have h128 : (s[a + k].toNat : Int) < 128 := by omega
       have HR : Hid (takeA s (a : Int) = some (unfoldN U, k + 1)) := by
        show takeA s (a : Int) = _
        rw [HD.out, HS.out, HUe.out]; exact takeF_last hk10 hbad hC
       have hx : (k = 9 ∧ s[a + k].toNat = 1) ∨ k = 0 ∨ (0 < k ∧ k ≠ 9 ∧ s[a + k].toNat ≠ 0) := by omega
       clear hbad hA hB HX HD HS HU
       rcases hx with ⟨hx1, hx2⟩ | hx1 | ⟨hx0, hx1, hx2⟩
       · have h9 : ((k : Int) == 9) = true := by simp; omega
         have hc1 : ¬ 1 < (s[a + k].toNat : Int) := by omega
         have hk0 : (0 : Int) < k := by omega
         have hc0 : ((s[a + k].toNat : Int) == 0) = false := by simp; omega
         clear hx1 hx2
         go_wp2_with (go_at_call 130; refine (unfold_int _ U Hy.out HU64.out _).mono ?_; rintro e w' ⟨rfl, rfl⟩)
         go_ret3
         exact ⟨by rw [HR.out]; rfl, rfl⟩
       · have h9 : ((k : Int) == 9) = false := by simp; omega
         have hk0 : ¬ (0 : Int) < k := by omega
         clear hx1
         go_wp2_with (go_at_call 130; refine (unfold_int _ U Hy.out HU64.out _).mono ?_; rintro e w' ⟨rfl, rfl⟩)
         go_ret3
         exact ⟨by rw [HR.out]; rfl, rfl⟩
       · have h9 : ((k : Int) == 9) = false := by simp; omega
         have hk0 : (0 : Int) < k := by omega
         have hc0 : ((s[a + k].toNat : Int) == 0) = false := by simp; omega
         clear hx0 hx1 hx2
         go_wp2_with (go_at_call 130; refine (unfold_int _ U Hy.out HU64.out _).mono ?_; rintro e w' ⟨rfl, rfl⟩)
         go_ret3
         exact ⟨by rw [HR.out]; rfl, rfl⟩
     · have h128 : ¬ (s[a + k].toNat : Int) < 128 := by omega
       have HR : Hid (takeA s (a : Int) = takeF (k + 1) U ((s.data.toList.drop a).drop (k + 1))) := by
        show takeA s (a : Int) = _
        rw [HD.out, HS.out, HUe.out]; exact takeF_more hk10 hbad hC
       have hx : k = 0 ∨ (0 < k ∧ k ≠ 9) := by omega
       have hc0 : ((s[a + k].toNat : Int) == 0) = false := by simp; omega
       clear hbad hA hB HX HD HS
       have h9 : ((k : Int) == 9) = false := by simp; omega
       rcases hx with hx1 | ⟨hx0, hx1⟩
       · have hk0 : ¬ (0 : Int) < k := by omega
         clear hx1
         go_wp2
         go_round
         case rel => exact ⟨k + 1, U, by omega, by omega, HU.out, by rw [Hy.out], by go_num, HR⟩
         case measure => simp [intOf]; omega
       · have hk0 : (0 : Int) < k := by omega
         clear hx0 hx1
         go_wp2
         go_round
         case rel => exact ⟨k + 1, U, by omega, by omega, HU.out, by rw [Hy.out], by go_num, HR⟩
         case measure => simp [intOf]; omega
   · have HR : Hid (takeA s (a : Int) = none) := by
      show takeA s (a : Int) = none
      rw [HD.out]
      by_cases hk9 : k < 10
      · rw [wdrop_end s a k (by omega)]; rfl
      · exact takeF_ten (by omega)
     clear HD HX
     go_wp2
     go_ret3
     exact ⟨by rw [HR.out]; rfl, rfl⟩
end Go.Proofs.Ytegpnicajlndlaa

/- What the functions of sets and of the reference that make no memory answer, each said of plain numbers. -/
import Derived.Test.YtkjaphmcagifpaaDoorRows
import Derived.Test.YtkjaphmcagifpaaDoorMath
import Derived.WalkKit
import Derived.WalkSpells
import Derived.WalkLawsBesides
namespace Go.Proofs.YtkjaphmcagifpaaDoor
open Go.RowKit M
set_option linter.unusedSimpArgs false
set_option linter.unusedVariables false

theorem ret_int {k : IntKind} {a b : Int} (h : a = b) : Ending.returned (.int k a) = .returned (.int k b) := by rw [h]
theorem ret_bool {a b : Bool} (h : a = b) : Ending.returned (.bool a) = .returned (.bool b) := by rw [h]

theorem wrap_nat (x : Nat) (h : x < 18446744073709551616) : IntKind.u64.wrap (x : Int) = (x : Int) := by rw [IntKind.wrap_u64]; omega

theorem wrap_pow (n : Nat) (h : n < 64) : IntKind.u64.wrap ((2 : Int) ^ n) = ((2 ^ n : Nat) : Int) := by
  have h1 : 2 ^ n < 2 ^ 64 := Nat.pow_lt_pow_right (by decide) h
  have e : ((2 : Int) ^ n) = ((2 ^ n : Nat) : Int) := by simp
  rw [e]
  exact wrap_nat _ h1

theorem oneN_in {i : Int} (h0 : 0 ≤ i) (h1 : i < 64) : oneN i = 2 ^ i.toNat := by simp [oneN, h0, h1]
theorem oneN_out {i : Int} (h : i < 0 ∨ 64 ≤ i) : oneN i = 0 := by
  unfold oneN; rw [if_neg]; omega

theorem one_any (i : Int) (w : World) :
    Calls Tryd.prog 43 #[.int .i64 i] w fun e w' => e = .returned (.int .u64 (oneN i : Nat)) ∧ w' = w := by
  by_cases h0 : 0 ≤ i
  · by_cases h1 : i < 64
    · have hw := wrap_pow i.toNat (by omega)
      go_enter Tryd.func43, Tryd.ntmps43
      go_wp2
      go_ret
      exact ⟨ret_int (by rw [oneN_in h0 h1]; first | exact hw | simp), rfl⟩
    · go_enter Tryd.func43, Tryd.ntmps43
      go_wp2
      go_ret
      exact ⟨ret_int (by rw [oneN_out (by omega)]; rfl), rfl⟩
  · go_enter Tryd.func43, Tryd.ntmps43
    go_wp2
    go_ret
    exact ⟨ret_int (by rw [oneN_out (by omega)]; rfl), rfl⟩

theorem has_any (s : Nat) (i : Int) (w : World) (hs : s < 18446744073709551616) :
    Calls Tryd.prog 9 #[.int .u64 s, .int .i64 i] w fun e w' => e = .returned (.bool (hasB s i)) ∧ w' = w := by
  go_enter Tryd.func9, Tryd.ntmps9
  go_wp2_with (go_at_call 43; refine (one_any _ _).mono ?_; rintro e w' ⟨rfl, rfl⟩)
  go_ret
  refine ⟨ret_bool ?_, rfl⟩
  rw [u64_and_nat s _ hs (oneN_lt i)]
  have := hasB_eq s i
  rw [Bool.eq_iff_iff, ← this]
  simp

theorem with_any (s : Nat) (i : Int) (w : World) (hs : s < 18446744073709551616) :
    Calls Tryd.prog 11 #[.int .u64 s, .int .i64 i] w fun e w' => e = .returned (.int .u64 (wthN s i : Nat)) ∧ w' = w := by
  go_enter Tryd.func11, Tryd.ntmps11
  go_wp2_with (go_at_call 43; refine (one_any _ _).mono ?_; rintro e w' ⟨rfl, rfl⟩)
  go_ret
  exact ⟨ret_int (u64_or_nat s _ hs (oneN_lt i)), rfl⟩

theorem without_any (s : Nat) (i : Int) (w : World) (hs : s < 18446744073709551616) :
    Calls Tryd.prog 13 #[.int .u64 s, .int .i64 i] w fun e w' => e = .returned (.int .u64 (wouN s i : Nat)) ∧ w' = w := by
  go_enter Tryd.func13, Tryd.ntmps13
  go_wp2_with (go_at_call 43; refine (one_any _ _).mono ?_; rintro e w' ⟨rfl, rfl⟩)
  go_ret
  exact ⟨ret_int (u64_andNot_nat s _ hs (oneN_lt i)), rfl⟩

theorem below_any (i : Int) (w : World) :
    Calls Tryd.prog 23 #[.int .i64 i] w fun e w' => e = .returned (.int .u64 (bel i : Nat)) ∧ w' = w := by
  by_cases h0 : i < 1
  · go_enter Tryd.func23, Tryd.ntmps23
    go_wp2
    go_ret
    exact ⟨ret_int (by simp [bel, h0]), rfl⟩
  · by_cases h1 : i < 64
    · go_enter Tryd.func23, Tryd.ntmps23
      go_wp2
      go_ret
      refine ⟨ret_int ?_, rfl⟩
      have hp : 0 < 2 ^ i.toNat := Nat.two_pow_pos _
      have hl : 2 ^ i.toNat < 2 ^ 64 := Nat.pow_lt_pow_right (by decide) (by omega)
      rw [wrap_pow _ (by omega), IntKind.wrap_u64]
      unfold bel
      rw [if_neg (by omega), if_neg (by omega)]
      omega
    · go_enter Tryd.func23, Tryd.ntmps23
      go_wp2
      go_ret
      exact ⟨ret_int (by unfold bel; rw [if_neg (by omega), if_pos (by omega)]; rfl), rfl⟩


theorem ones_core (s x1 x2 y0 y1 y2 y3 : Nat) (w : World)
    (a1 : IntKind.u64.wrap (bits BinOp.and IntKind.u64 ((s : Int) / 2) 6148914691236517205 + bits BinOp.and IntKind.u64 (s : Int) 6148914691236517205) = (x1 : Int))
    (a2 : IntKind.u64.wrap (bits BinOp.and IntKind.u64 ((x1 : Int) / 4) 3689348814741910323 + bits BinOp.and IntKind.u64 (x1 : Int) 3689348814741910323) = (x2 : Int))
    (a3 : bits BinOp.and IntKind.u64 (IntKind.u64.wrap ((x2 : Int) / 16 + (x2 : Int))) 1085102592571150095 = (y0 : Int))
    (a4 : IntKind.u64.wrap ((y0 : Int) + (y0 : Int) / 256) = (y1 : Int))
    (a5 : IntKind.u64.wrap ((y1 : Int) + (y1 : Int) / 65536) = (y2 : Int))
    (a6 : IntKind.u64.wrap ((y2 : Int) + (y2 : Int) / 4294967296) = (y3 : Int)) (h3 : y3 < 9223372036854775808) :
    Calls Tryd.prog 44 #[.int .u64 s] w fun e w' => e = .returned (.int .i64 (y3 % 128 : Nat)) ∧ w' = w := by
  go_enter Tryd.func44, Tryd.ntmps44
  go_wp2
  go_ret
  refine ⟨ret_int ?_, rfl⟩
  rw [i64_and127]
  first | omega | (unfold wrap64; omega)

theorem ones_any (s : Nat) (w : World) (hs : s < 18446744073709551616) :
    Calls Tryd.prog 44 #[.int .u64 s] w fun e w' => e = .returned (.int .i64 ((lst s).length : Nat)) ∧ w' = w := by
  have a1 : IntKind.u64.wrap (bits BinOp.and IntKind.u64 ((s : Int) / 2) 6148914691236517205 + bits BinOp.and IntKind.u64 (s : Int) 6148914691236517205) = ((st1 6148914691236517205 s : Nat) : Int) := by
    have l := st1_le 6148914691236517205 s
    have e1 : bits BinOp.and IntKind.u64 ((s : Int) / 2) 6148914691236517205 = ((s / 2 &&& 6148914691236517205 : Nat) : Int) := u64_and_nat (s / 2) 6148914691236517205 (by omega) (by decide)
    have e2 : bits BinOp.and IntKind.u64 (s : Int) 6148914691236517205 = ((s &&& 6148914691236517205 : Nat) : Int) := u64_and_nat s 6148914691236517205 hs (by decide)
    rw [e1, e2, ← Int.natCast_add]
    exact wrap_nat (st1 6148914691236517205 s) (by omega)
  have l1 := st1_le 6148914691236517205 s
  generalize hx1 : st1 6148914691236517205 s = x1 at *
  have a2 : IntKind.u64.wrap (bits BinOp.and IntKind.u64 ((x1 : Int) / 4) 3689348814741910323 + bits BinOp.and IntKind.u64 (x1 : Int) 3689348814741910323) = ((st2 3689348814741910323 x1 : Nat) : Int) := by
    have l := st2_le 3689348814741910323 x1
    have e1 : bits BinOp.and IntKind.u64 ((x1 : Int) / 4) 3689348814741910323 = ((x1 / 4 &&& 3689348814741910323 : Nat) : Int) := u64_and_nat (x1 / 4) 3689348814741910323 (by omega) (by decide)
    have e2 : bits BinOp.and IntKind.u64 (x1 : Int) 3689348814741910323 = ((x1 &&& 3689348814741910323 : Nat) : Int) := u64_and_nat x1 3689348814741910323 (by omega) (by decide)
    rw [e1, e2, ← Int.natCast_add]
    exact wrap_nat (st2 3689348814741910323 x1) (by omega)
  have l2 := st2_le 3689348814741910323 x1
  generalize hx2 : st2 3689348814741910323 x1 = x2 at *
  have a3 : bits BinOp.and IntKind.u64 (IntKind.u64.wrap ((x2 : Int) / 16 + (x2 : Int))) 1085102592571150095 = (((x2 / 16 + x2) &&& 1085102592571150095 : Nat) : Int) := by
    have e0 : IntKind.u64.wrap ((x2 : Int) / 16 + (x2 : Int)) = ((x2 / 16 + x2 : Nat) : Int) := by
      rw [← wrap_nat (x2 / 16 + x2) (by omega)]; congr 1
    rw [e0]
    exact u64_and_nat (x2 / 16 + x2) 1085102592571150095 (by omega) (by decide)
  obtain ⟨key, hb⟩ := ones_eq s ((x2 / 16 + x2) &&& 1085102592571150095) _ _ _ (by rw [hx1, hx2]) rfl rfl rfl
  generalize ((x2 / 16 + x2) &&& 1085102592571150095) = y0 at *
  have a4 : IntKind.u64.wrap ((y0 : Int) + (y0 : Int) / 256) = ((y0 + y0 / 256 : Nat) : Int) := by
    rw [← wrap_nat (y0 + y0 / 256) (by omega)]; congr 1
  generalize (y0 + y0 / 256) = y1 at *
  have a5 : IntKind.u64.wrap ((y1 : Int) + (y1 : Int) / 65536) = ((y1 + y1 / 65536 : Nat) : Int) := by
    rw [← wrap_nat (y1 + y1 / 65536) (by omega)]; congr 1
  generalize (y1 + y1 / 65536) = y2 at *
  have a6 : IntKind.u64.wrap ((y2 : Int) + (y2 : Int) / 4294967296) = ((y2 + y2 / 4294967296 : Nat) : Int) := by
    rw [← wrap_nat (y2 + y2 / 4294967296) (by omega)]; congr 1
  rw [length_lst, ← key]
  exact ones_core s x1 x2 y0 y1 y2 _ w a1 a2 a3 a4 a5 a6 hb

theorem size_any (s : Nat) (w : World) (hs : s < 18446744073709551616) :
    Calls Tryd.prog 15 #[.int .u64 s] w fun e w' => e = .returned (.int .i64 ((lst s).length : Nat)) ∧ w' = w := by
  go_enter Tryd.func15, Tryd.ntmps15
  go_wp2_with (go_at_call 44; refine (ones_any _ _ hs).mono ?_; rintro e w' ⟨rfl, rfl⟩)
  go_ret
  exact ⟨rfl, rfl⟩

/-- The library's table, in its variable. -/
def TabAt (w : World) : Prop := ∀ j, j < 64 → w.cell? ⟨0, j, none⟩ = some (.int .u8 (Lib.deBruijn64tab.getD j 0 : Nat))

theorem tz64_key (x a : Nat) (hx : x < 18446744073709551616) (hx0 : x ≠ 0) (hlow : x &&& (18446744073709551616 - x) = a) :
    IntKind.u64.wrap (bits BinOp.and IntKind.u64 (x : Int) (IntKind.u64.wrap (-(x : Int))) * 285870213051353865) / 288230376151711744 = ((a * 285870213051353865 % 18446744073709551616 / 288230376151711744 : Nat) : Int) := by
  have e1 : IntKind.u64.wrap (-(x : Int)) = ((18446744073709551616 - x : Nat) : Int) := by rw [IntKind.wrap_u64]; omega
  rw [e1, u64_and_nat x _ hx (by omega), hlow, IntKind.wrap_u64]
  omega

theorem tz64_core (x k idx : Nat) (w : World) (hx0 : ((x : Int) == 0) = false)
    (key : IntKind.u64.wrap (bits BinOp.and IntKind.u64 (x : Int) (IntKind.u64.wrap (-(x : Int))) * 285870213051353865) / 288230376151711744 = (idx : Int))
    (hi : idx < 64) (hk : k < 64) (hcell : w.cell? ⟨0, idx, none⟩ = some (.int .u8 k)) :
    Calls Tryd.prog 59 #[.int .u64 x] w fun e w' => e = .returned (.int .i64 k) ∧ w' = w := by
  go_enter Tryd.func59, Tryd.ntmps59
  go_wp2_with (simp only [key])
  go_ret
  exact ⟨rfl, rfl⟩

theorem tz_any (x : Nat) (w : World) (hx : x < 18446744073709551616) (hx0 : x ≠ 0) (hT : TabAt w) :
    Calls Tryd.prog 59 #[.int .u64 x] w fun e w' => e = .returned (.int .i64 (Lib.ctz 64 x : Nat)) ∧ w' = w := by
  obtain ⟨hlow, hk⟩ := Lib.lowest_bit 64 x hx0 hx
  obtain ⟨hi, htab⟩ := Lib.deBruijn64_at _ hk
  have hcell := hT _ hi
  rw [htab] at hcell
  exact tz64_core x _ _ w (by simp; omega) (tz64_key x _ hx hx0 hlow) hi hk hcell

theorem lowest_any (x : Nat) (w : World) (hx : x < 18446744073709551616) (hx0 : x ≠ 0) (hT : TabAt w) :
    Calls Tryd.prog 45 #[.int .u64 x] w fun e w' => e = .returned (.int .i64 (Lib.ctz 64 x : Nat)) ∧ w' = w := by
  have c := tz_any x w hx hx0 hT
  clear hT
  go_enter Tryd.func45, Tryd.ntmps45
  go_wp2_with (go_at_call 59; refine c.mono ?_; rintro e w' ⟨rfl, rfl⟩)
  go_ret
  exact ⟨rfl, rfl⟩

theorem next_any (s : Nat) (i : Int) (w : World) (hs : s < 18446744073709551616) (hT : TabAt w) :
    Calls Tryd.prog 17 #[.int .u64 s, .int .i64 i] w fun e w' => e = .returned (.int .i64 (nxt s i)) ∧ w' = w := by
  have hn := nxt_up s i hs
  have hl := upN_lt s i hs
  have key : bits BinOp.andNot IntKind.u64 (s : Int) ((bel i : Nat) : Int) = ((upN s i : Nat) : Int) := u64_andNot_nat s _ hs (bel_lt i)
  by_cases h0 : upN s i = 0
  · rw [if_pos h0] at hn
    rw [h0] at key
    have key' : bits BinOp.andNot IntKind.u64 (s : Int) ((bel i : Nat) : Int) = 0 := key
    rw [hn]
    clear hT hn key hl h0
    go_enter Tryd.func17, Tryd.ntmps17
    go_wp2_with (go_at_call 23; refine (below_any _ _).mono ?_; rintro e w' ⟨rfl, rfl⟩)
    go_ret
    exact ⟨rfl, rfl⟩
  · rw [if_neg h0] at hn
    have c := lowest_any _ w hl h0 hT
    rw [hn]
    have h1 : (((upN s i : Nat) : Int) == 0) = false := by simp; omega
    clear hT hn hl h0
    generalize upN s i = u at *
    generalize Lib.ctz 64 u = k at *
    go_enter Tryd.func17, Tryd.ntmps17
    go_wp2_with (first
      | (go_at_call 23; refine (below_any _ _).mono ?_; rintro e w' ⟨rfl, rfl⟩)
      | (go_at_call 45; refine c.mono ?_; rintro e w' ⟨rfl, rfl⟩))
    go_ret
    exact ⟨rfl, rfl⟩

theorem rank_any (s : Nat) (i : Int) (w : World) (hs : s < 18446744073709551616) :
    Calls Tryd.prog 21 #[.int .u64 s, .int .i64 i] w fun e w' => e = .returned (.int .i64 (rnk s i : Nat)) ∧ w' = w := by
  have key : bits BinOp.and IntKind.u64 (s : Int) ((bel i : Nat) : Int) = ((s &&& bel i : Nat) : Int) := u64_and_nat s _ hs (bel_lt i)
  have hl : s &&& bel i < 18446744073709551616 := Nat.lt_of_le_of_lt Nat.and_le_left hs
  have hr := rnk_and s i
  generalize s &&& bel i = u at *
  have c := size_any u w hl
  rw [hr] at c
  clear hr hl
  go_enter Tryd.func21, Tryd.ntmps21
  go_wp2_with (first
    | (go_at_call 23; refine (below_any _ _).mono ?_; rintro e w' ⟨rfl, rfl⟩)
    | (go_at_call 15; refine c.mono ?_; rintro e w' ⟨rfl, rfl⟩))
  go_ret
  exact ⟨rfl, rfl⟩
end Go.Proofs.YtkjaphmcagifpaaDoor

/- Several texts in one: M2, Shelf, FD, GF17, GG17. -/
import Derived.Test.YtdjlfpkemdiadaaDoorQA
import Derived.Shelf.Strings.Builder1
import Derived.Shelf.Strconv.Itoa0
import Derived.Shelf.Strconv.Itoa1
import Derived.Shelf.LaysM
import Derived.Shelf.Strconv.Itoa2
import Derived.Shelf.Strconv.Itoa3
import Derived.Test.YtdjlfpkemdiadaaDoorProg
import Derived.Test.YtdjlfpkemdiadaaDoorQZ
import Derived.Lib.Walk
import Derived.Lib.ItoaMem
import Derived.Lib.AppendIntMem
import Derived.WalkKit
import Derived.BigCall
import Derived.BigGuard
import Derived.BigQuiet
import Derived.Test.YtdjlfpkemdiadaaDoorQG
import Derived.Test.YtdjlfpkemdiadaaDoorXM
/-
  Plain mathematics of digits written: a number's digits to a base, highest first; read again they say it. No program is named.
-/
namespace Go.Proofs.YtdjlfpkemdiadaaDoor.M
set_option linter.unusedSimpArgs false
set_option linter.unusedVariables false

/-- A digit's byte. -/
def hexD (d : Nat) : UInt8 := if d < 10 then UInt8.ofNat (48 + d) else UInt8.ofNat (87 + d)
/-- A number's digits to a base, highest first, so many at most and one. -/
def dgsF (b : Nat) : Nat → Nat → List UInt8
  | 0, u => [hexD u]
  | f + 1, u => if u < b ∨ b < 2 then [hexD u] else dgsF b f (u / b) ++ [hexD (u % b)]
/-- A number's digits to a base, highest first. -/
def dgs (b u : Nat) : List UInt8 := dgsF b u u
theorem dgsF_small {b f u : Nat} (h : u < b ∨ b < 2) : dgsF b f u = [hexD u] := by
  cases f with
  | zero => rfl
  | succ f => rw [dgsF, if_pos h]
theorem dgsF_zero (b f : Nat) : dgsF b f 0 = [hexD 0] := dgsF_small (by omega)
theorem dgsF_same (b : Nat) : ∀ (f g u : Nat), u ≤ f → u ≤ g → dgsF b f u = dgsF b g u
  | 0, g, u, hf, hg => by obtain rfl : u = 0 := by omega
                          rw [dgsF_zero, dgsF_zero]
  | f + 1, 0, u, hf, hg => by obtain rfl : u = 0 := by omega
                              rw [dgsF_zero, dgsF_zero]
  | f + 1, g + 1, u, hf, hg => by
      by_cases h : u < b ∨ b < 2
      · rw [dgsF_small h, dgsF_small h]
      · have hlt : u / b < u := Nat.div_lt_self (by omega) (by omega)
        rw [dgsF, dgsF, if_neg h, if_neg h, dgsF_same b f g (u / b) (by omega) (by omega)]
theorem dgs_small {b u : Nat} (h : u < b) : dgs b u = [hexD u] := dgsF_small (Or.inl h)
theorem dgs_great {b u : Nat} (hb : 2 ≤ b) (h : ¬ u < b) : dgs b u = dgs b (u / b) ++ [hexD (u % b)] := by
  unfold dgs
  cases u with
  | zero => omega
  | succ u =>
      have hlt : (u + 1) / b < u + 1 := Nat.div_lt_self (by omega) (by omega)
      rw [dgsF, if_neg (by omega), dgsF_same b u ((u + 1) / b) ((u + 1) / b) (by omega) (Nat.le_refl _)]
theorem dgs_pos (b u : Nat) : 1 ≤ (dgs b u).length := by
  by_cases h : u < b ∨ b < 2
  · unfold dgs; rw [dgsF_small h]; simp
  · rw [dgs_great (by omega) (by omega)]; simp
theorem dgs_len (b : Nat) (hb : 2 ≤ b) : ∀ (k u : Nat), u < b ^ k → 1 ≤ k → (dgs b u).length ≤ k
  | 0, _, _, h => by omega
  | k + 1, u, hu, _ => by
      by_cases h : u < b
      · rw [dgs_small h]; simp
      · rw [dgs_great hb h, List.length_append]
        have hk : 1 ≤ k := by
          rcases Nat.eq_zero_or_pos k with h0 | h0
          · subst h0; simp at hu; omega
          · exact h0
        have := dgs_len b hb k (u / b) (Nat.div_lt_of_lt_mul (by rw [Nat.pow_succ, Nat.mul_comm] at hu; exact hu)) hk
        simp; omega
theorem hexD_toNat {d : Nat} (h : d < 16) : (hexD d).toNat = if d < 10 then 48 + d else 87 + d := by
  unfold hexD; split <;> (rw [UInt8.toNat_ofNat']; omega)
theorem dig_hexD {d : Nat} (h : d < 16) : dig (hexD d).toNat = d := by
  rw [hexD_toNat h]; unfold dig; split
  · rw [if_pos (by omega)]; omega
  · rw [if_neg (by omega), if_pos (by omega)]; omega
theorem isD_hexD {b d : Nat} (hb : b ≤ 16) (h : d < b) : isD b (hexD d) = true := by unfold isD; rw [dig_hexD (by omega)]; exact decide_eq_true h
/-- All of them are digits. -/
theorem dgs_isD (b : Nat) (hb : 2 ≤ b) (hb' : b ≤ 16) (u : Nat) : ∀ c ∈ dgs b u, isD b c = true := by
  induction u using Nat.strongRecOn with
  | _ u ih =>
      intro c hc
      by_cases h : u < b
      · rw [dgs_small h] at hc
        simp at hc; subst hc; exact isD_hexD hb' h
      · rw [dgs_great hb h] at hc
        rcases List.mem_append.1 hc with hc | hc
        · exact ih (u / b) (Nat.div_lt_self (by omega) (by omega)) c hc
        · simp at hc; subst hc; exact isD_hexD hb' (Nat.mod_lt _ (by omega))
/-- Read again they say the number. -/
theorem val_dgs (b : Nat) (hb : 2 ≤ b) (hb' : b ≤ 16) (u : Nat) : val b (dgs b u) = u := by
  induction u using Nat.strongRecOn with
  | _ u ih =>
      by_cases h : u < b
      · rw [dgs_small h]
        have : val b ([] ++ [hexD u]) = val b [] * b + dig (hexD u).toNat := val_snoc b [] (hexD u)
        rw [List.nil_append] at this
        rw [this, dig_hexD (by omega)]; show 0 * b + u = u; omega
      · rw [dgs_great hb h, val_snoc, ih (u / b) (Nat.div_lt_self (by omega) (by omega)), dig_hexD (by have := Nat.mod_lt u (show 0 < b by omega); omega)]
        exact Nat.div_add_mod' u b
end Go.Proofs.YtdjlfpkemdiadaaDoor.M
/- Contracts of the library at this program: each laying is the numbers of its functions and types here, and facts of the program that the kernel compares. -/
namespace Go.Proofs
open Go.Shelf
def Tryd.laysM246_ren : Go.Shelf.Ren := ⟨fun | 246 => 95 | 283 => 99 | 284 => 100 | 285 => 101 | 286 => 102 | 129 => 105 | 317 => 104 | 318 => 106 | 319 => 107 | 320 => 108 | 337 => 109 | 338 => 103 | n => n, fun | 2 => 2 | 3 => 3 | 9 => 9 | 4 => 4 | 171 => 128 | 0 => 0 | 53 => 29 | 37 => 78 | 5 => 5 | 173 => 130 | 212 => 133 | 51 => 134 | 20 => 20 | 213 => 135 | 46 => 36 | 232 => 139 | 233 => 137 | n => n, fun | 17 => 0 | 18 => 2 | 19 => 1 | n => n⟩
theorem Tryd.laysM246 : Go.Proofs.LaysM.n246 Tryd.prog Tryd.laysM246_ren := {
  mixed := by kernel_rfl
  f129 := Tryd.func105.trans (congrArg some (by kernel_rfl))
  f246 := Tryd.func95.trans (congrArg some (by kernel_rfl))
  f283 := Tryd.func99.trans (congrArg some (by kernel_rfl))
  f284 := Tryd.func100.trans (congrArg some (by kernel_rfl))
  f285 := Tryd.func101.trans (congrArg some (by kernel_rfl))
  f286 := Tryd.func102.trans (congrArg some (by kernel_rfl))
  f317 := Tryd.func104.trans (congrArg some (by kernel_rfl))
  f318 := Tryd.func106.trans (congrArg some (by kernel_rfl))
  f319 := Tryd.func107.trans (congrArg some (by kernel_rfl))
  f320 := Tryd.func108.trans (congrArg some (by kernel_rfl))
  f337 := Tryd.func109.trans (congrArg some (by kernel_rfl))
  f338 := Tryd.func103.trans (congrArg some (by kernel_rfl))
  t0 := Tryd.underlying0
  a0 := Tryd.isAgg0
  z0 := Tryd.sizeOf0
  v0 := Tryd.zeroValue0
  t2 := Tryd.underlying2
  a2 := Tryd.isAgg2
  z2 := Tryd.sizeOf2
  v2 := Tryd.zeroValue2
  t3 := Tryd.underlying3
  a3 := Tryd.isAgg3
  z3 := Tryd.sizeOf3
  v3 := Tryd.zeroValue3
  t4 := Tryd.underlying4
  a4 := Tryd.isAgg4
  z4 := Tryd.sizeOf4
  v4 := Tryd.zeroValue4
  t5 := Tryd.underlying5
  a5 := Tryd.isAgg5
  z5 := Tryd.sizeOf5
  v5 := Tryd.zeroValue5
  t9 := Tryd.underlying9
  a9 := Tryd.isAgg9
  z9 := Tryd.sizeOf9
  v9 := Tryd.zeroValue9
  t20 := Tryd.underlying20
  a20 := Tryd.isAgg20
  z20 := Tryd.sizeOf20
  v20 := Tryd.zeroValue20
  t37 := Tryd.underlying78
  a37 := Tryd.isAgg78
  z37 := Tryd.sizeOf78
  v37 := Tryd.zeroValue78
  t46 := Tryd.underlying36
  a46 := Tryd.isAgg36
  z46 := Tryd.sizeOf36
  v46 := Tryd.zeroValue36
  t51 := Tryd.underlying134
  a51 := Tryd.isAgg134
  z51 := Tryd.sizeOf134
  v51 := Tryd.zeroValue134
  t53 := Tryd.underlying29
  a53 := Tryd.isAgg29
  z53 := Tryd.sizeOf29
  v53 := Tryd.zeroValue29
  t171 := Tryd.underlying128
  a171 := Tryd.isAgg128
  z171 := Tryd.sizeOf128
  v171 := Tryd.zeroValue128
  t173 := Tryd.underlying130
  a173 := Tryd.isAgg130
  z173 := Tryd.sizeOf130
  v173 := Tryd.zeroValue130
  t212 := Tryd.underlying133
  a212 := Tryd.isAgg133
  z212 := Tryd.sizeOf133
  v212 := Tryd.zeroValue133
  t213 := Tryd.underlying135
  a213 := Tryd.isAgg135
  z213 := Tryd.sizeOf135
  t232 := Tryd.underlying139
  a232 := Tryd.isAgg139
  z232 := Tryd.sizeOf139
  v232 := Tryd.zeroValue139
  t233 := Tryd.underlying137
  a233 := Tryd.isAgg137
  z233 := Tryd.sizeOf137
  v233 := Tryd.zeroValue137
  g17 := by kernel_rfl
  g18 := by kernel_rfl
  g19 := by kernel_rfl
  i0 := by kernel_rfl
  i2 := by kernel_rfl
  i3 := by kernel_rfl
  i4 := by kernel_rfl
  i5 := by kernel_rfl
  i9 := by kernel_rfl
  i20 := by kernel_rfl
  i37 := by kernel_rfl
  i46 := by kernel_rfl
  i51 := by kernel_rfl
  i53 := by kernel_rfl
  i171 := by kernel_rfl
  i173 := by kernel_rfl
  i212 := by kernel_rfl
  i232 := by kernel_rfl
  i233 := by kernel_rfl
  m17 := by kernel_rfl
  m18 := by kernel_rfl
  m19 := by kernel_rfl }
open Go.RowKit Go.Sort Go.Lib in
theorem Tryd.internal_strconv_FormatInt_10 (n : Int) (h0 : -9223372036854775808 ≤ n) (h1 : n ≤ 9223372036854775807) (w : World) (htab : Lib.TabIs Tryd.prog w "internal/strconv.uint64pow10" .u64 Lib.pow10Tab) :
    Calls Tryd.prog 95 #[.int .i64 n, .int .i64 10] w fun e w' => e = .returned (.string ⟨(Lib.itoa n).toArray⟩) ∧ ∃ k os, w' = grow (w.drewN k) os := Any.internal_strconv_FormatInt_10 Tryd.laysM246 n h0 h1 w htab
def Tryd.laysM171_ren : Go.Shelf.Ren := ⟨fun | 171 => 65 | 243 => 85 | 246 => 95 | 283 => 99 | 284 => 100 | 285 => 101 | 286 => 102 | 129 => 105 | 317 => 104 | 318 => 106 | 319 => 107 | 320 => 108 | 337 => 109 | 338 => 103 | n => n, fun | 3 => 3 | 9 => 9 | 2 => 2 | 4 => 4 | 171 => 128 | 0 => 0 | 53 => 29 | 37 => 78 | 5 => 5 | 173 => 130 | 212 => 133 | 51 => 134 | 20 => 20 | 213 => 135 | 46 => 36 | 232 => 139 | 233 => 137 | n => n, fun | 17 => 0 | 18 => 2 | 19 => 1 | n => n⟩
theorem Tryd.laysM171 : Go.Proofs.LaysM.n171 Tryd.prog Tryd.laysM171_ren := {
  mixed := by kernel_rfl
  f129 := Tryd.func105.trans (congrArg some (by kernel_rfl))
  f171 := Tryd.func65.trans (congrArg some (by kernel_rfl))
  f243 := Tryd.func85.trans (congrArg some (by kernel_rfl))
  f246 := Tryd.func95.trans (congrArg some (by kernel_rfl))
  f283 := Tryd.func99.trans (congrArg some (by kernel_rfl))
  f284 := Tryd.func100.trans (congrArg some (by kernel_rfl))
  f285 := Tryd.func101.trans (congrArg some (by kernel_rfl))
  f286 := Tryd.func102.trans (congrArg some (by kernel_rfl))
  f317 := Tryd.func104.trans (congrArg some (by kernel_rfl))
  f318 := Tryd.func106.trans (congrArg some (by kernel_rfl))
  f319 := Tryd.func107.trans (congrArg some (by kernel_rfl))
  f320 := Tryd.func108.trans (congrArg some (by kernel_rfl))
  f337 := Tryd.func109.trans (congrArg some (by kernel_rfl))
  f338 := Tryd.func103.trans (congrArg some (by kernel_rfl))
  t0 := Tryd.underlying0
  a0 := Tryd.isAgg0
  z0 := Tryd.sizeOf0
  v0 := Tryd.zeroValue0
  t2 := Tryd.underlying2
  a2 := Tryd.isAgg2
  z2 := Tryd.sizeOf2
  v2 := Tryd.zeroValue2
  t3 := Tryd.underlying3
  a3 := Tryd.isAgg3
  z3 := Tryd.sizeOf3
  v3 := Tryd.zeroValue3
  t4 := Tryd.underlying4
  a4 := Tryd.isAgg4
  z4 := Tryd.sizeOf4
  v4 := Tryd.zeroValue4
  t5 := Tryd.underlying5
  a5 := Tryd.isAgg5
  z5 := Tryd.sizeOf5
  v5 := Tryd.zeroValue5
  t9 := Tryd.underlying9
  a9 := Tryd.isAgg9
  z9 := Tryd.sizeOf9
  v9 := Tryd.zeroValue9
  t20 := Tryd.underlying20
  a20 := Tryd.isAgg20
  z20 := Tryd.sizeOf20
  v20 := Tryd.zeroValue20
  t37 := Tryd.underlying78
  a37 := Tryd.isAgg78
  z37 := Tryd.sizeOf78
  v37 := Tryd.zeroValue78
  t46 := Tryd.underlying36
  a46 := Tryd.isAgg36
  z46 := Tryd.sizeOf36
  v46 := Tryd.zeroValue36
  t51 := Tryd.underlying134
  a51 := Tryd.isAgg134
  z51 := Tryd.sizeOf134
  v51 := Tryd.zeroValue134
  t53 := Tryd.underlying29
  a53 := Tryd.isAgg29
  z53 := Tryd.sizeOf29
  v53 := Tryd.zeroValue29
  t171 := Tryd.underlying128
  a171 := Tryd.isAgg128
  z171 := Tryd.sizeOf128
  v171 := Tryd.zeroValue128
  t173 := Tryd.underlying130
  a173 := Tryd.isAgg130
  z173 := Tryd.sizeOf130
  v173 := Tryd.zeroValue130
  t212 := Tryd.underlying133
  a212 := Tryd.isAgg133
  z212 := Tryd.sizeOf133
  v212 := Tryd.zeroValue133
  t213 := Tryd.underlying135
  a213 := Tryd.isAgg135
  z213 := Tryd.sizeOf135
  t232 := Tryd.underlying139
  a232 := Tryd.isAgg139
  z232 := Tryd.sizeOf139
  v232 := Tryd.zeroValue139
  t233 := Tryd.underlying137
  a233 := Tryd.isAgg137
  z233 := Tryd.sizeOf137
  v233 := Tryd.zeroValue137
  g17 := by kernel_rfl
  g18 := by kernel_rfl
  g19 := by kernel_rfl
  i0 := by kernel_rfl
  i2 := by kernel_rfl
  i3 := by kernel_rfl
  i4 := by kernel_rfl
  i5 := by kernel_rfl
  i9 := by kernel_rfl
  i20 := by kernel_rfl
  i37 := by kernel_rfl
  i46 := by kernel_rfl
  i51 := by kernel_rfl
  i53 := by kernel_rfl
  i171 := by kernel_rfl
  i173 := by kernel_rfl
  i212 := by kernel_rfl
  i232 := by kernel_rfl
  i233 := by kernel_rfl
  m17 := by kernel_rfl
  m18 := by kernel_rfl
  m19 := by kernel_rfl }
open Go.RowKit Go.Sort Go.Lib in
theorem Tryd.strconv_Itoa (n : Int) (h0 : -9223372036854775808 ≤ n) (h1 : n ≤ 9223372036854775807) (w : World) (htab : Lib.TabIs Tryd.prog w "internal/strconv.uint64pow10" .u64 Lib.pow10Tab) :
    Calls Tryd.prog 65 #[.int .i64 n] w fun e w' => e = .returned (.string ⟨(Lib.itoa n).toArray⟩) ∧ ∃ k os, w' = grow (w.drewN k) os := Any.strconv_Itoa Tryd.laysM171 n h0 h1 w htab
end Go.Proofs
/- Numbers' texts: FormatInt, Itoa, word.Text; the reference's Text. -/
namespace Go.Proofs.YtdjlfpkemdiadaaDoor
open Go.RowKit M
set_option linter.unusedSimpArgs false
set_option linter.unusedVariables false

/-- The library's table of the powers of ten. -/
def Tab10 (w : World) : Prop := Lib.TabIs Tryd.prog w "internal/strconv.uint64pow10" .u64 Lib.pow10Tab
theorem Tab10.below {w w' : World} (h : Tab10 w) (hb : Below w.heap.size w w') : Tab10 w' := by
  unfold Tab10 Lib.TabIs World.var? at *
  cases hg : Tryd.prog.globalNamed "internal/strconv.uint64pow10" with
  | none => simp [hg] at h
  | some g =>
    simp only [hg, Option.bind_some] at h ⊢
    have hlt : g < w.heap.size := by
      rcases Nat.lt_or_ge g w.heap.size with h' | h'
      · exact h'
      · rw [Array.getElem?_eq_none h'] at h; simp at h
    rw [hb.block g hlt]
    exact h

theorem fmtI10 (n : Int) (h0 : -9223372036854775808 ≤ n) (h1 : n ≤ 9223372036854775807) (w : World) (htab : Tab10 w) :
    Calls Tryd.prog 77 #[.int .i64 n, .int .i64 10] w fun e w' => e = .returned (.string ⟨(Lib.itoa n).toArray⟩) ∧ Below w.heap.size w w' := by
  go_enter Tryd.func77, Tryd.ntmps77
  go_wp2_with (go_at_call 95; refine (Tryd.internal_strconv_FormatInt_10 n h0 h1 _ htab).mono ?_; rintro e w1 ⟨rfl, k, os, hw1⟩; have hb1 : Below w.heap.size w w1 := (by rw [hw1]; exact Lib.below_grow _ w (Nat.le_refl _) k os); clear hw1)
  go_ret
  exact ⟨rfl, hb1⟩
theorem dec_dgs (u : Nat) : Lib.decDigits u = dgs 10 u := by
  induction u using Nat.strongRecOn with
  | _ u ih =>
      by_cases h : u < 10
      · rw [Lib.decDigits, dif_pos h, dgs_small h]; unfold hexD; rw [if_pos h]
      · rw [Lib.decDigits, dif_neg h, dgs_great (by omega) h, ih (u / 10) (by omega)]
        have : u % 10 < 10 := Nat.mod_lt _ (by omega)
        congr 2; unfold hexD; rw [if_pos this]

/-- A value's text. -/
def textL (v : Int) : List UInt8 := if v < 0 then 45 :: dgs 10 v.natAbs else dgs 10 v.toNat
theorem itoa_text (v : Int) : Lib.itoa v = textL v := by unfold Lib.itoa textL; rw [dec_dgs, dec_dgs]
set_option maxRecDepth 100000 in
theorem text_any (v : Int) (h0 : -9223372036854775808 ≤ v) (h1 : v ≤ 9223372036854775807) (w : World) (hT : Tab10 w) : Calls Tryd.prog 45 #[.int .i64 v] w fun e w' => e = .returned (.string ⟨(textL v).toArray⟩) ∧ Below w.heap.size w w' := by
  have hc := fmtI10 v h0 h1 w hT
  rw [itoa_text] at hc
  go_enter Tryd.func45, Tryd.ntmps45
  go_wp2_with (go_at_call 77; refine hc.mono ?_; rintro e w1 ⟨rfl, hb1⟩)
  go_ret
  exact ⟨rfl, hb1⟩
theorem itoa_any (v : Int) (h0 : -9223372036854775808 ≤ v) (h1 : v ≤ 9223372036854775807) (w : World) (hT : Tab10 w) : Calls Tryd.prog 65 #[.int .i64 v] w fun e w' => e = .returned (.string ⟨(textL v).toArray⟩) ∧ Below w.heap.size w w' := by
  have := Tryd.strconv_Itoa v h0 h1 w hT
  refine this.mono ?_
  rintro e w1 ⟨rfl, k, os, hw1⟩
  exact ⟨by rw [itoa_text], by rw [hw1]; exact Lib.below_grow _ w (Nat.le_refl _) k os⟩
theorem add_mk (a b : List UInt8) : (ByteArray.mk a.toArray) ++ (ByteArray.mk b.toArray) = ByteArray.mk (a ++ b).toArray := by
  rw [ByteArray.mk_append_mk]
theorem size_mk (a : List UInt8) : (ByteArray.mk a.toArray).size = a.length := by show a.toArray.size = _; simp
/-- The reference's digits. -/
def tbl16 : ByteArray := ⟨#[48, 49, 50, 51, 52, 53, 54, 55, 56, 57, 97, 98, 99, 100, 101, 102]⟩
theorem tbl16_all : ∀ d : Fin 16, (tbl16.extract d.val (d.val + 1)).data.toList = [hexD d.val] := by decide
theorem tbl16_at {d : Nat} (h : d < 16) : tbl16.extract d (d + 1) = ⟨[hexD d].toArray⟩ := by
  have := tbl16_all ⟨d, h⟩
  cases e : tbl16.extract d (d + 1) with
  | mk a =>
    have h2 : (tbl16.extract d (d + 1)).data.toList = [hexD d] := this
    rw [e] at h2
    have : a = [hexD d].toArray := by
      apply Array.toList_inj.mp
      simpa using h2
    rw [this]

set_option maxRecDepth 100000 in
set_option maxHeartbeats 2000000 in
theorem in_any (u b : Nat) (hu : u < 18446744073709551616) (hb : b = 10 ∨ b = 16) (w : World) :
    Calls Tryd.prog 78 #[.int .u64 u, .int .u64 b] w fun e w' => e = .returned (.string ⟨(dgs b u).toArray⟩) ∧ Below w.heap.size w w' := by
  have hb2 : 2 ≤ b := by omega
  have hb16 : b ≤ 16 := by omega
  have HL : Hid ((dgs b u).length ≤ 64) := dgs_len b hb2 64 u (Nat.lt_of_lt_of_le hu (Nat.le_trans (by decide : 18446744073709551616 ≤ 2 ^ 64) (Nat.pow_le_pow_left hb2 64))) (by omega)
  clear hb
  go_enter Tryd.func78, Tryd.ntmps78
  go_wp2
  go_loopw [0, 5] (fun v s wr => ∃ (U : Nat) (l : List UInt8), v = .int .u64 (U : Int) ∧ s = .string ⟨l.toArray⟩ ∧ U < 18446744073709551616 ∧ Below w.heap.size w wr ∧ Hid (dgs b u = dgs b U ++ l)) (fun v _ _ => (intOf v).toNat)
  case atStart => exact ⟨u, [], rfl, rfl, hu, Below.refl _ _, by show _ = _; simp⟩
  case round =>
    obtain ⟨U, l, rfl, rfl, hU, B2, HE⟩ := hrel
    have hlen : (dgs b U).length + l.length ≤ 64 := by have h1 := HL.out; rw [HE.out, List.length_append] at h1; exact h1
    by_cases hlt : U < b
    · have hlt' : ¬ (b : Int) ≤ U := by omega
      go_wp2
      go_ret
      refine ⟨?_, B2⟩
      have e : tbl16.extract U (U + 1) ++ ⟨l.toArray⟩ = ⟨(dgs b u).toArray⟩ := by
        rw [tbl16_at (by omega), add_mk, HE.out, dgs_small hlt]
      exact congrArg (fun x => Ending.returned (Value.string x)) e
    · have hlt' : (b : Int) ≤ U := by omega
      have hdm : U % b < b := Nat.mod_lt _ (by omega)
      have hb0 : (b : Int) ≠ 0 := by omega
      obtain ⟨d, hd⟩ : ∃ d, U % b = d := ⟨_, rfl⟩
      have hrem : (U : Int) % (b : Int) = (d : Int) := by rw [← hd]; rfl
      have hd16 : d < 16 := by omega
      obtain ⟨q, hq⟩ : ∃ q : Int, q = ((U / b : Nat) : Int) := ⟨_, rfl⟩
      have hwq : IntKind.u64.wrap ((U : Int) / (b : Int)) = q := by
        have h2 : U / b ≤ U := Nat.div_le_self _ _
        rw [show (U : Int) / (b : Int) = ((U / b : Nat) : Int) from rfl, IntKind.wrap_u64, hq]
        generalize U / b = z at h2
        omega
      have HQ : Hid (q = ((U / b : Nat) : Int)) := hq
      clear hq
      go_wp2
      go_quiet (fail)
      go_wp2
      go_roundw
      case rel =>
        refine ⟨U / b, hexD d :: l, by rw [HQ.out], ?_, Nat.lt_of_le_of_lt (Nat.div_le_self _ _) hU, ⟨B2.os, B2.tape, B2.output, B2.size, B2.block⟩, ?_⟩
        · have e : tbl16.extract d (d + 1) ++ ⟨l.toArray⟩ = ⟨(hexD d :: l).toArray⟩ := by rw [tbl16_at hd16, add_mk]; rfl
          exact congrArg Value.string e
        · show _ = _
          rw [HE.out, dgs_great hb2 hlt, List.append_assoc, hd]; rfl
      case measure =>
        have : U / b < U := Nat.div_lt_self (by omega) (by omega)
        have h2 := HQ.out
        simp only [intOf]; omega

set_option maxRecDepth 100000 in
theorem rtext_any (v : Int) (h0 : -9223372036854775808 ≤ v) (h1 : v ≤ 9223372036854775807) (w : World) : Calls Tryd.prog 53 #[.int .i64 v] w fun e w' => e = .returned (.string ⟨(textL v).toArray⟩) ∧ Below w.heap.size w w' := by
  by_cases hv : v < 0
  · obtain ⟨u, rfl⟩ : ∃ u : Nat, v = -(u : Int) := ⟨v.natAbs, by omega⟩
    have hwr : IntKind.u64.wrap (-IntKind.u64.wrap (-(u : Int))) = (u : Int) := by rw [IntKind.wrap_u64, IntKind.wrap_u64]; omega
    have hc := fun W => in_any u 10 (by omega) (Or.inl rfl) W
    have hl := dgs_len 10 (by omega) 20 u (by omega) (by omega)
    have HT : Hid (textL (-(u : Int)) = 45 :: dgs 10 u) := by
      show textL _ = _
      unfold textL; rw [if_pos hv]; congr 2; omega
    have hadd : ∀ W, (Op.stringOp .add (ByteArray.mk #[45]) ⟨(dgs 10 u).toArray⟩).run Tryd.prog W = .ok (.string ⟨(45 :: dgs 10 u).toArray⟩) W := fun W => by
      rw [run_string_add_sum W _ _ (by rw [size_mk (dgs 10 u)]; show 1 + _ ≤ _; omega)]
      have := add_mk [45] (dgs 10 u)
      show Result.ok (Value.string (ByteArray.mk [45].toArray ++ _)) W = _
      rw [this]; rfl
    go_enter Tryd.func53, Tryd.ntmps53
    go_wp2_with (go_at_call 78; refine (hc _).mono ?_; rintro e w1 ⟨rfl, hb1⟩)
    go_ret
    exact ⟨by rw [HT.out]; rfl, hb1⟩
  · obtain ⟨u, rfl⟩ : ∃ u : Nat, v = (u : Int) := ⟨v.toNat, by omega⟩
    have hc := fun W => in_any u 10 (by omega) (Or.inl rfl) W
    have HT : Hid (textL (u : Int) = dgs 10 u) := by
      show textL _ = _
      unfold textL; rw [if_neg hv]; rfl
    have hv' : (0 : Int) ≤ u := by omega
    go_enter Tryd.func53, Tryd.ntmps53
    go_wp2_with (go_at_call 78; refine (hc _).mono ?_; rintro e w1 ⟨rfl, hb1⟩)
    go_ret
    exact ⟨by rw [HT.out]; rfl, hb1⟩
end Go.Proofs.YtdjlfpkemdiadaaDoor
/- Texts of events: place and kind. -/
namespace Go.Proofs.YtdjlfpkemdiadaaDoor
open Go.RowKit M
set_option linter.unusedSimpArgs false
set_option linter.unusedVariables false

/-- A place's text. -/
def lcT (ls : List ByteArray) (l : Int) : ByteArray := if 0 ≤ l ∧ l < ls.length then (ls[l.toNat]?).getD ⟨#[]⟩ else ⟨#[63]⟩
theorem lcT_le {ls : List ByteArray} (hs : ∀ s ∈ ls, s.size ≤ 1048576) (l : Int) : (lcT ls l).size ≤ 1048576 := by
  unfold lcT
  split
  · rename_i h
    have hl : l.toNat < ls.length := by omega
    rw [List.getElem?_eq_getElem hl]
    exact hs _ (List.getElem_mem hl)
  · show 1 ≤ 1048576; omega
set_option maxRecDepth 100000 in
theorem locText_any (p : PG) (l : Int) (vt vr vl vi vj : Value) (w : World) (hp : PGV w vt vr vl vi vj p) :
    Calls Tryd.prog 64 #[.agg #[vt, vr, vl, vi, vj], .int .i64 l] w fun e w' => e = .returned (.string (lcT p.locs l)) ∧ Below w.heap.size w w' := by
  obtain ⟨al, cl, rfl, hsl, _⟩ := hp.l
  by_cases h : 0 ≤ l ∧ l < p.locs.length
  · obtain ⟨k, rfl⟩ : ∃ k : Nat, l = (k : Int) := ⟨l.toNat, by omega⟩
    have hk : k < p.locs.length := by omega
    have hki : (k : Int) < p.locs.length := by omega
    obtain ⟨s, hs⟩ : ∃ s, p.locs[k]? = some s := ⟨_, List.getElem?_eq_getElem hk⟩
    obtain ⟨b, o, rfl, hb, hc0⟩ := Seg.str hsl hs
    have HT : Hid (lcT p.locs (k : Int) = s) := by show _ = _; unfold lcT; rw [if_pos h, Int.toNat_natCast, hs]; rfl
    have cp := fun W => place_yes (k : Int) p.locs.length h W
    clear hp hsl hs h
    go_enter Tryd.func64, Tryd.ntmps64
    go_wp2_with (first
      | (refine wpList_boxS rfl 28 _ rfl [vt, vr, .slice (some ⟨b, o, none⟩) p.locs.length cl, vi, vj] rfl ?_; intro W1 b1 F1 C1; have B1 := F_b F1; clear F1; have hc := (B1.cell (p := ⟨b, o + k, none⟩) hb).trans hc0; have y2 : W1.cell? ⟨b1, 2, none⟩ = some (.slice (some ⟨b, o, none⟩) p.locs.length cl) := C1.cell 2)
      | (go_at_call 36; refine (cp _).mono ?_; rintro e W2 ⟨rfl, rfl⟩))
    go_ret
    exact ⟨by rw [HT.out]; rfl, B1⟩
  · have HT : Hid (lcT p.locs l = ⟨#[63]⟩) := by show _ = _; unfold lcT; rw [if_neg h]
    have cp := fun W => place_no l p.locs.length h W
    clear hp hsl h
    go_enter Tryd.func64, Tryd.ntmps64
    go_wp2_with (first
      | (refine wpList_boxS rfl 28 _ rfl [vt, vr, .slice al p.locs.length cl, vi, vj] rfl ?_; intro W1 b1 F1 C1; have B1 := F_b F1; clear F1; have y2 : W1.cell? ⟨b1, 2, none⟩ = some (.slice al p.locs.length cl) := C1.cell 2)
      | (go_at_call 36; refine (cp _).mono ?_; rintro e W2 ⟨rfl, rfl⟩))
    go_ret
    exact ⟨by rw [HT.out]; rfl, B1⟩
/-- What an event does, in text. -/
def kdT (ls : List ByteArray) (e : EV) : ByteArray :=
  if e.kind = 3 then ⟨#[82]⟩ ++ lcT ls e.loc else if e.kind = 2 then ⟨#[87]⟩ ++ lcT ls e.loc else if e.kind = 4 then ⟨#[70]⟩ else ⟨#[63]⟩
theorem kdT_le {ls : List ByteArray} (hs : ∀ s ∈ ls, s.size ≤ 1048576) (e : EV) : (kdT ls e).size ≤ 1048577 := by
  have := lcT_le hs e.loc
  unfold kdT
  split
  · rw [ByteArray.size_append]; show 1 + _ ≤ _; omega
  split
  · rw [ByteArray.size_append]; show 1 + _ ≤ _; omega
  split
  · show 1 ≤ _; omega
  · show 1 ≤ _; omega
set_option maxRecDepth 100000 in
theorem kindText_any (p : PG) (hs : ∀ s ∈ p.locs, s.size ≤ 1048576) (e : EV) (vt vr vl vi vj : Value) (w : World) (hp : PGV w vt vr vl vi vj p) :
    Calls Tryd.prog 66 #[.agg #[vt, vr, vl, vi, vj], .agg (evL e).toArray] w fun en w' => en = .returned (.string (kdT p.locs e)) ∧ Below w.heap.size w w' := by
  have hl := lcT_le hs e.loc
  have ca := fun W (h : Below w.heap.size w W) => locText_any p e.loc vt vr vl vi vj W (hp.below h)
  have h1 : ∀ W, (Op.stringOp .add (ByteArray.mk #[82]) (lcT p.locs e.loc)).run Tryd.prog W = .ok (.string (⟨#[82]⟩ ++ lcT p.locs e.loc)) W := fun W => run_string_add_sum W _ _ (by show 1 + _ ≤ _; omega)
  have h2 : ∀ W, (Op.stringOp .add (ByteArray.mk #[87]) (lcT p.locs e.loc)).run Tryd.prog W = .ok (.string (⟨#[87]⟩ ++ lcT p.locs e.loc)) W := fun W => run_string_add_sum W _ _ (by show 1 + _ ≤ _; omega)
  have HT : Hid (kdT p.locs e = if e.kind = 3 then ⟨#[82]⟩ ++ lcT p.locs e.loc else if e.kind = 2 then ⟨#[87]⟩ ++ lcT p.locs e.loc else if e.kind = 4 then ⟨#[70]⟩ else ⟨#[63]⟩) := rfl
  generalize kdT p.locs e = KT at *
  generalize lcT p.locs e.loc = LT at *
  clear hp hs
  go_enter Tryd.func66, Tryd.ntmps66
  go_upto_region 2 with (first
    | (refine wpList_boxS rfl 28 _ rfl [vt, vr, vl, vi, vj] rfl ?_; intro W1 b1 F1 C1; have B1 := F_b F1; clear F1)
    | (refine wpList_boxS rfl 46 _ rfl (evL e) rfl ?_; intro W2 b2 F2 C2; have B2 := Below.then B1 (F_b F2); replace C1 := C1.fresh F2; clear F2 B1; have y0 : W2.cell? ⟨b2, 0, none⟩ = some (.int .i64 e.kind) := C2.cell 0; have y3 : W2.cell? ⟨b2, 3, none⟩ = some (.int .i64 e.loc) := C2.cell 3))
  rcases (show e.kind = 3 ∨ e.kind = 2 ∨ e.kind = 4 ∨ (e.kind ≠ 3 ∧ e.kind ≠ 2 ∧ e.kind ≠ 4) by omega) with hk | hk | hk | ⟨k3, k2, k4⟩
  · have HM : KT = ⟨#[82]⟩ ++ LT := by rw [HT.out]; simp [hk]
    clear HT
    go_wp2_with (first
      | (refine wpList_loadW rfl 28 _ rfl rfl C1 _ Tryd.underlying28 rfl infoPg ?_)
      | (go_at_call 64; refine (ca _ B2).mono ?_; rintro en W3 ⟨rfl, B3⟩; have B4 := Below.then B2 B3; clear B3 C1 C2 y0 y3))
    go_ret
    exact ⟨by rw [HM]; rfl, B4⟩
  · have HM : KT = ⟨#[87]⟩ ++ LT := by rw [HT.out]; simp [hk]
    clear HT
    go_wp2_with (first
      | (refine wpList_loadW rfl 28 _ rfl rfl C1 _ Tryd.underlying28 rfl infoPg ?_)
      | (go_at_call 64; refine (ca _ B2).mono ?_; rintro en W3 ⟨rfl, B3⟩; have B4 := Below.then B2 B3; clear B3 C1 C2 y0 y3))
    go_ret
    exact ⟨by rw [HM]; rfl, B4⟩
  · have HM : KT = ⟨#[70]⟩ := by rw [HT.out]; simp [hk]
    clear HT
    go_wp2
    go_ret
    exact ⟨by rw [HM]; rfl, B2⟩
  · have HM : KT = ⟨#[63]⟩ := by rw [HT.out]; simp [k3, k2, k4]
    clear HT
    go_wp2
    go_ret
    exact ⟨by rw [HM]; rfl, B2⟩
end Go.Proofs.YtdjlfpkemdiadaaDoor
/- Text of an event, of both sides. -/
namespace Go.Proofs.YtdjlfpkemdiadaaDoor
open Go.RowKit M
set_option linter.unusedSimpArgs false
set_option linter.unusedVariables false

theorem textL_le (v : Int) (h0 : -9223372036854775808 ≤ v) (h1 : v ≤ 9223372036854775807) : (textL v).length ≤ 21 := by
  unfold textL
  split
  · have := dgs_len 10 (by omega) 20 v.natAbs (by omega) (by omega)
    rw [List.length_cons]; omega
  · have := dgs_len 10 (by omega) 20 v.toNat (by omega) (by omega)
    omega
/-- An event's text. -/
def txS (ls : List ByteArray) (e : EV) : ByteArray :=
  if e.kind = 1 then ⟨#[105, 58]⟩ ++ lcT ls e.loc else ((⟨(textL e.thr).toArray⟩ ++ ⟨#[58]⟩) ++ ⟨(textL e.idx).toArray⟩ ++ ⟨#[58]⟩) ++ kdT ls e
def txT (ls : List ByteArray) (e : EV) : ByteArray := cond e.lck (txS ls e ++ ⟨#[42]⟩) (txS ls e)
/-- An event whose numbers are of 64 bits. -/
def EvN (e : EV) : Prop := -9223372036854775808 ≤ e.thr ∧ e.thr ≤ 9223372036854775807 ∧ -9223372036854775808 ≤ e.idx ∧ e.idx ≤ 9223372036854775807
theorem addS (A B : ByteArray) (h : A.size + B.size ≤ 9223372036854775807) : ∀ W, (Op.stringOp .add A B).run Tryd.prog W = .ok (.string (A ++ B)) W := fun W => run_string_add_sum W A B h
set_option maxRecDepth 100000 in
set_option maxHeartbeats 8000000 in
theorem text_ev (p : PG) (hs : ∀ s ∈ p.locs, s.size ≤ 1048576) (e : EV) (he : EvN e) (vt vr vl vi vj : Value) (w : World) (hp : PGV w vt vr vl vi vj p) (hT : Tab10 w) :
    Calls Tryd.prog 23 #[.agg #[vt, vr, vl, vi, vj], .agg (evL e).toArray] w fun en w' => en = .returned (.string (txT p.locs e)) ∧ Below w.heap.size w w' := by
  have hl := lcT_le hs e.loc
  have hkd := kdT_le hs e
  have ht1 : (ByteArray.mk (textL e.thr).toArray).size ≤ 21 := by rw [size_mk]; exact textL_le _ he.1 he.2.1
  have ht2 : (ByteArray.mk (textL e.idx).toArray).size ≤ 21 := by rw [size_mk]; exact textL_le _ he.2.2.1 he.2.2.2
  have ca := fun W (h : Below w.heap.size w W) => locText_any p e.loc vt vr vl vi vj W (hp.below h)
  have c1 : Hid (∀ W, Below w.heap.size w W → Calls Tryd.prog 65 #[.int .i64 e.thr] W fun en w' => en = .returned (.string ⟨(textL e.thr).toArray⟩) ∧ Below W.heap.size W w') := fun W h => itoa_any e.thr he.1 he.2.1 W (hT.below h)
  have c2 : Hid (∀ W, Below w.heap.size w W → Calls Tryd.prog 65 #[.int .i64 e.idx] W fun en w' => en = .returned (.string ⟨(textL e.idx).toArray⟩) ∧ Below W.heap.size W w') := fun W h => itoa_any e.idx he.2.2.1 he.2.2.2 W (hT.below h)
  have c3 : Hid (∀ W, Below w.heap.size w W → Calls Tryd.prog 66 #[.agg #[vt, vr, vl, vi, vj], .agg (evL e).toArray] W fun en w' => en = .returned (.string (kdT p.locs e)) ∧ Below W.heap.size W w') := fun W h => kindText_any p hs e vt vr vl vi vj W (hp.below h)
  have HT : Hid (txT p.locs e = cond e.lck (txS p.locs e ++ ⟨#[42]⟩) (txS p.locs e)) := rfl
  have HS : Hid (txS p.locs e = if e.kind = 1 then ⟨#[105, 58]⟩ ++ lcT p.locs e.loc else ((⟨(textL e.thr).toArray⟩ ++ ⟨#[58]⟩) ++ ⟨(textL e.idx).toArray⟩ ++ ⟨#[58]⟩) ++ kdT p.locs e) := rfl
  generalize txT p.locs e = TT at *
  generalize txS p.locs e = SS at *
  generalize kdT p.locs e = KT at *
  generalize lcT p.locs e.loc = LT at *
  generalize ByteArray.mk (textL e.thr).toArray = T1 at *
  generalize ByteArray.mk (textL e.idx).toArray = T2 at *
  have h0 := addS ⟨#[105, 58]⟩ LT (by show 2 + _ ≤ _; omega)
  clear hp hs hT he
  go_enter Tryd.func23, Tryd.ntmps23
  go_upto_region 2 with (first
    | (refine wpList_boxS rfl 28 _ rfl [vt, vr, vl, vi, vj] rfl ?_; intro W1 b1 F1 C1; have B1 := F_b F1; clear F1)
    | (refine wpList_boxS rfl 46 _ rfl (evL e) rfl ?_; intro W2 b2 F2 C2; have B2 := Below.then B1 (F_b F2); replace C1 := C1.fresh F2; clear F2 B1; have y3 : W2.cell? ⟨b2, 3, none⟩ = some (.int .i64 e.loc) := C2.cell 3)
    | (refine wpList_loadW rfl 28 _ rfl rfl C1 _ Tryd.underlying28 rfl infoPg ?_)
    | (go_at_call 64; refine (ca _ B2).mono ?_; rintro en W3 ⟨rfl, B3⟩; replace C1 := C1.grown B3; replace C2 := C2.grown B3; have B4 := Below.then B2 B3; clear B3 y3 B2 ca))
  have y0 : W3.cell? ⟨b2, 0, none⟩ = some (.int .i64 e.kind) := C2.cell 0
  have HB : Hid (Below w.heap.size w W3) := B4
  have y4 : W3.cell? ⟨b2, 4, none⟩ = some (.bool e.lck) := C2.cell 4
  clear B4
  by_cases hk : e.kind = 1
  · have HM : Hid (SS = ⟨#[105, 58]⟩ ++ LT) := by show _ = _; rw [HS.out, if_pos hk]
    have h5 := addS (⟨#[105, 58]⟩ ++ LT) ⟨#[42]⟩ (by rw [ByteArray.size_append]; show 2 + _ + 1 ≤ _; omega)
    clear HS
    obtain ⟨lk, hlk⟩ : ∃ lk, e.lck = lk := ⟨_, rfl⟩
    rw [hlk] at y4 HT
    cases lk with
    | true =>
      go_wp2
      go_ret
      exact ⟨by rw [HT.out, HM.out]; rfl, HB.out⟩
    | false =>
      go_wp2
      go_ret
      exact ⟨by rw [HT.out, HM.out]; rfl, HB.out⟩
  · have HM : Hid (SS = ((T1 ++ ⟨#[58]⟩) ++ T2 ++ ⟨#[58]⟩) ++ KT) := by show _ = _; rw [HS.out, if_neg hk]
    have e1 := addS T1 ⟨#[58]⟩ (by show _ + 1 ≤ _; omega)
    have e2 := addS (T1 ++ ⟨#[58]⟩) T2 (by rw [ByteArray.size_append]; show _ + 1 + _ ≤ _; omega)
    have e3 := addS (T1 ++ ⟨#[58]⟩ ++ T2) ⟨#[58]⟩ (by rw [ByteArray.size_append, ByteArray.size_append]; show _ + 1 + _ + 1 ≤ _; omega)
    have e4 := addS (T1 ++ ⟨#[58]⟩ ++ T2 ++ ⟨#[58]⟩) KT (by rw [ByteArray.size_append, ByteArray.size_append, ByteArray.size_append]; show _ + 1 + _ + 1 + _ ≤ _; omega)
    have e5 := addS (T1 ++ ⟨#[58]⟩ ++ T2 ++ ⟨#[58]⟩ ++ KT) ⟨#[42]⟩ (by rw [ByteArray.size_append, ByteArray.size_append, ByteArray.size_append, ByteArray.size_append]; show _ + 1 + _ + 1 + _ + 1 ≤ _; omega)
    have y1 : W3.cell? ⟨b2, 1, none⟩ = some (.int .i64 e.thr) := C2.cell 1
    have y2 : W3.cell? ⟨b2, 2, none⟩ = some (.int .i64 e.idx) := C2.cell 2
    have HC1 : Hid (IsS W3 b1 28 [vt, vr, vl, vi, vj]) := C1
    have HC2 : Hid (IsS W3 b2 46 (evL e)) := C2
    have hb2 := C2.lt
    clear HS C1 C2 h0
    go_wp2
    refine grow_allW (by kernel_rfl) (by kernel_rfl) ?_
    refine WG.put rfl (v := .pointer (some ⟨b2, 1, none⟩)) (fun w => by first | rfl | (go_simp; done) | (simp [go_sem]; done)) ?_
    simp only [Act.put, List.setIfInBounds_toArray, List.set_cons_succ, List.set_cons_zero]
    refine WG.cell rfl 3 _ rfl rfl y1 (fun w h => by first | (simp [go_sem, h]; done) | (go_simp; done)) ?_
    simp only [Act.put, List.setIfInBounds_toArray, List.set_cons_succ, List.set_cons_zero]
    refine WG.call rfl (fun w' hw' => c1.out w' (Below.then HB.out hw')) (fun w => by first | rfl | (go_simp; done)) ?_
    simp only [Act.put, List.setIfInBounds_toArray, List.set_cons_succ, List.set_cons_zero]
    refine WG.put rfl (v := .string (T1 ++ ⟨#[58]⟩)) (fun w => by first | rfl | (go_simp; done) | (simp [go_sem, e1]; done)) ?_
    simp only [Act.put, List.setIfInBounds_toArray, List.set_cons_succ, List.set_cons_zero]
    refine WG.put rfl (v := .pointer (some ⟨b2, 2, none⟩)) (fun w => by first | rfl | (go_simp; done) | (simp [go_sem]; done)) ?_
    simp only [Act.put, List.setIfInBounds_toArray, List.set_cons_succ, List.set_cons_zero]
    refine WG.cell rfl 3 _ rfl rfl y2 (fun w h => by first | (simp [go_sem, h]; done) | (go_simp; done)) ?_
    simp only [Act.put, List.setIfInBounds_toArray, List.set_cons_succ, List.set_cons_zero]
    refine WG.call rfl (fun w' hw' => c2.out w' (Below.then HB.out hw')) (fun w => by first | rfl | (go_simp; done)) ?_
    simp only [Act.put, List.setIfInBounds_toArray, List.set_cons_succ, List.set_cons_zero]
    refine WG.put rfl (v := .string (T1 ++ ⟨#[58]⟩ ++ T2)) (fun w => by first | rfl | (go_simp; done) | (simp [go_sem, e2]; done)) ?_
    simp only [Act.put, List.setIfInBounds_toArray, List.set_cons_succ, List.set_cons_zero]
    refine WG.put rfl (v := .string (T1 ++ ⟨#[58]⟩ ++ T2 ++ ⟨#[58]⟩)) (fun w => by first | rfl | (go_simp; done) | (simp [go_sem, e3]; done)) ?_
    simp only [Act.put, List.setIfInBounds_toArray, List.set_cons_succ, List.set_cons_zero]
    refine WG.row rfl 28 _ rfl rfl HC1.out _ rfl _ Tryd.underlying28 rfl infoPg ?_
    simp only [Act.put, List.setIfInBounds_toArray, List.set_cons_succ, List.set_cons_zero]
    refine WG.row rfl 46 _ rfl rfl HC2.out _ rfl _ Tryd.underlying46 rfl infoEv ?_
    simp only [Act.put, List.setIfInBounds_toArray, List.set_cons_succ, List.set_cons_zero]
    refine WG.call rfl (fun w' hw' => c3.out w' (Below.then HB.out hw')) (fun w => by first | rfl | (go_simp; done)) ?_
    simp only [Act.put, List.setIfInBounds_toArray, List.set_cons_succ, List.set_cons_zero]
    refine WG.put rfl (v := .string (T1 ++ ⟨#[58]⟩ ++ T2 ++ ⟨#[58]⟩ ++ KT)) (fun w => by first | rfl | (go_simp; done) | (simp [go_sem, e4]; done)) ?_
    simp only [Act.put, List.setIfInBounds_toArray, List.set_cons_succ, List.set_cons_zero]
    refine WG.put rfl (v := .string (T1 ++ ⟨#[58]⟩ ++ T2 ++ ⟨#[58]⟩ ++ KT)) (fun w => by first | rfl | (go_simp; done) | (simp [go_sem]; done)) ?_
    simp only [Act.put, List.setIfInBounds_toArray, List.set_cons_succ, List.set_cons_zero]
    refine WG.nil (fun W4 hw4 => ?_)
    have B5 := Below.then HB.out hw4
    have z4 : W4.cell? ⟨b2, 4, none⟩ = some (.bool e.lck) := (hw4.cell (p := ⟨b2, 4, none⟩) hb2).trans y4
    clear y0 y1 y2 y4 hw4 e1 e2 e3 e4
    obtain ⟨lk, hlk⟩ : ∃ lk, e.lck = lk := ⟨_, rfl⟩
    rw [hlk] at z4 HT
    cases lk with
    | true =>
      go_wp2
      go_ret
      exact ⟨by rw [HT.out, HM.out]; rfl, B5⟩
    | false =>
      go_wp2
      go_ret
      exact ⟨by rw [HT.out, HM.out]; rfl, B5⟩
set_option maxRecDepth 100000 in
set_option maxHeartbeats 8000000 in
theorem rtext_ev (p : PG) (hs : ∀ s ∈ p.locs, s.size ≤ 1048576) (e : EV) (he : EvN e) (vt vr vl vi vj : Value) (w : World) (hp : PGV w vt vr vl vi vj p) :
    Calls Tryd.prog 52 #[.agg #[vt, vr, vl, vi, vj], .agg (evL e).toArray] w fun en w' => en = .returned (.string (txT p.locs e)) ∧ Below w.heap.size w w' := by
  have hl := lcT_le hs e.loc
  have hkd := kdT_le hs e
  have ht1 : (ByteArray.mk (textL e.thr).toArray).size ≤ 21 := by rw [size_mk]; exact textL_le _ he.1 he.2.1
  have ht2 : (ByteArray.mk (textL e.idx).toArray).size ≤ 21 := by rw [size_mk]; exact textL_le _ he.2.2.1 he.2.2.2
  have c1 : Hid (∀ W, Below w.heap.size w W → Calls Tryd.prog 53 #[.int .i64 e.thr] W fun en w' => en = .returned (.string ⟨(textL e.thr).toArray⟩) ∧ Below W.heap.size W w') := fun W h => rtext_any e.thr he.1 he.2.1 W
  have c2 : Hid (∀ W, Below w.heap.size w W → Calls Tryd.prog 53 #[.int .i64 e.idx] W fun en w' => en = .returned (.string ⟨(textL e.idx).toArray⟩) ∧ Below W.heap.size W w') := fun W h => rtext_any e.idx he.2.2.1 he.2.2.2 W
  have HT : Hid (txT p.locs e = cond e.lck (txS p.locs e ++ ⟨#[42]⟩) (txS p.locs e)) := rfl
  have HS : Hid (txS p.locs e = if e.kind = 1 then ⟨#[105, 58]⟩ ++ lcT p.locs e.loc else ((⟨(textL e.thr).toArray⟩ ++ ⟨#[58]⟩) ++ ⟨(textL e.idx).toArray⟩ ++ ⟨#[58]⟩) ++ (if e.kind = 3 then ⟨#[82]⟩ ++ lcT p.locs e.loc else if e.kind = 2 then ⟨#[87]⟩ ++ lcT p.locs e.loc else if e.kind = 4 then ⟨#[70]⟩ else ⟨#[63]⟩)) := rfl
  have HL0 : Hid (lcT p.locs e.loc = if 0 ≤ e.loc ∧ e.loc < p.locs.length then (p.locs[e.loc.toNat]?).getD ⟨#[]⟩ else ⟨#[63]⟩) := rfl
  clear hkd
  generalize txT p.locs e = TT at *
  generalize txS p.locs e = SS at *
  generalize lcT p.locs e.loc = LT at *
  generalize ByteArray.mk (textL e.thr).toArray = T1 at *
  generalize ByteArray.mk (textL e.idx).toArray = T2 at *
  obtain ⟨al, cl, rfl, hsl, _⟩ := hp.l
  have HSL : Hid (Seg w al (p.locs.flatMap strE)) := hsl
  clear hp hs he hsl
  obtain ⟨nl, hnl⟩ : ∃ n, p.locs.length = n := ⟨_, rfl⟩
  rw [hnl] at HL0 ⊢
  have HNL : Hid (p.locs.length = nl) := hnl
  clear hnl
  obtain ⟨bb, hbb⟩ : ∃ bb, decide (0 ≤ e.loc ∧ e.loc < nl) = bb := ⟨_, rfl⟩
  have HBB : Hid (decide (0 ≤ e.loc ∧ e.loc < nl) = bb) := hbb
  clear hbb
  have a0 := addS ⟨#[105, 58]⟩ LT (by show 2 + _ ≤ _; omega)
  have a5 := addS (⟨#[105, 58]⟩ ++ LT) ⟨#[42]⟩ (by rw [ByteArray.size_append]; show 2 + _ + 1 ≤ _; omega)
  go_enter Tryd.func52, Tryd.ntmps52
  go_upto_region 2 with (first
    | (refine wpList_boxS rfl 28 _ rfl [vt, vr, .slice al nl cl, vi, vj] rfl ?_; intro W1 b1 F1 C1; have B1 := F_b F1; clear F1)
    | (refine wpList_boxS rfl 46 _ rfl (evL e) rfl ?_; intro W2 b2 F2 C2; have B2 := Below.then B1 (F_b F2); replace C1 := C1.fresh F2; clear F2 B1; have y3 : W2.cell? ⟨b2, 3, none⟩ = some (.int .i64 e.loc) := C2.cell 3))
  have HB : Hid (Below w.heap.size w W2) := B2
  have HC1 : Hid (IsS W2 b1 28 [vt, vr, .slice al nl cl, vi, vj]) := C1
  have HC2 : Hid (IsS W2 b2 46 (evL e)) := C2
  have q2 : W2.cell? ⟨b1, 2, none⟩ = some (.slice al nl cl) := C1.cell 2
  clear B2 C1 C2
  go_cut [18] from 8 to 17 (fun v wx => v = .bool bb ∧ wx = W2)
  case first =>
    clear a0 a5
    by_cases g0 : 0 ≤ e.loc
    · by_cases g1 : e.loc < nl
      · go_wp2
        go_meet
        exact ⟨by rw [← HBB.out, decide_eq_true ⟨g0, g1⟩], rfl⟩
      · go_wp2
        go_meet
        exact ⟨by rw [← HBB.out, decide_eq_false (show ¬ (0 ≤ e.loc ∧ e.loc < (nl : Int)) by omega)], rfl⟩
    · go_wp2
      go_meet
      exact ⟨by rw [← HBB.out, decide_eq_false (show ¬ (0 ≤ e.loc ∧ e.loc < (nl : Int)) by omega)], rfl⟩
  case rest =>
    obtain ⟨rfl, rfl⟩ := hcut
    have y0 : wc.cell? ⟨b2, 0, none⟩ = some (.int .i64 e.kind) := HC2.out.cell 0
    have y4 : wc.cell? ⟨b2, 4, none⟩ = some (.bool e.lck) := HC2.out.cell 4
    have hb2 := HC2.out.lt
    cases bb with
    | true =>
      have hin : 0 ≤ e.loc ∧ e.loc < nl := of_decide_eq_true HBB.out
      obtain ⟨k, hk⟩ : ∃ k : Nat, e.loc = (k : Int) := ⟨e.loc.toNat, by omega⟩
      have hkl : k < p.locs.length := by rw [HNL.out]; omega
      obtain ⟨s, hs⟩ : ∃ s, p.locs[k]? = some s := ⟨_, List.getElem?_eq_getElem hkl⟩
      obtain ⟨bs, os, rfl, hbs, hc0⟩ := Seg.str HSL.out hs
      have hls : LT = s := by rw [HL0.out, if_pos hin, hk, Int.toNat_natCast, hs]; rfl
      subst hls
      have hki : (k : Int) < nl := by omega
      rw [hk] at y3
      have hc := (HB.out.cell (p := ⟨bs, os + k, none⟩) hbs).trans hc0
      clear hin hkl hs hc0 HL0 HBB hk
      go_upto_region 4 with (fail)
      clear y3 hc q2
      by_cases hk : e.kind = 1
      · have HM : Hid (SS = ⟨#[105, 58]⟩ ++ LT) := by show _ = _; rw [HS.out, if_pos hk]
        clear HS
        obtain ⟨lk, hlk⟩ : ∃ lk, e.lck = lk := ⟨_, rfl⟩
        rw [hlk] at y4 HT
        cases lk with
        | true =>
          go_wp2
          go_ret
          exact ⟨by rw [HT.out, HM.out]; rfl, HB.out⟩
        | false =>
          go_wp2
          go_ret
          exact ⟨by rw [HT.out, HM.out]; rfl, HB.out⟩
      · clear a0 a5
        have e1 := addS T1 ⟨#[58]⟩ (by show _ + 1 ≤ _; omega)
        have e2 := addS (T1 ++ ⟨#[58]⟩) T2 (by rw [ByteArray.size_append]; show _ + 1 + _ ≤ _; omega)
        have e3 := addS (T1 ++ ⟨#[58]⟩ ++ T2) ⟨#[58]⟩ (by rw [ByteArray.size_append, ByteArray.size_append]; show _ + 1 + _ + 1 ≤ _; omega)
        have y1 : wc.cell? ⟨b2, 1, none⟩ = some (.int .i64 e.thr) := HC2.out.cell 1
        have y2 : wc.cell? ⟨b2, 2, none⟩ = some (.int .i64 e.idx) := HC2.out.cell 2
        go_wp2
        refine grow_allW (by kernel_rfl) (by kernel_rfl) ?_
        refine WG.put rfl (v := .pointer (some ⟨b2, 1, none⟩)) (fun w => by first | rfl | (go_simp; done) | (simp [go_sem]; done)) ?_
        simp only [Act.put, List.setIfInBounds_toArray, List.set_cons_succ, List.set_cons_zero]
        refine WG.cell rfl 3 _ rfl rfl y1 (fun w h => by first | (simp [go_sem, h]; done) | (go_simp; done)) ?_
        simp only [Act.put, List.setIfInBounds_toArray, List.set_cons_succ, List.set_cons_zero]
        refine WG.call rfl (fun w' hw' => c1.out w' (Below.then HB.out hw')) (fun w => by first | rfl | (go_simp; done)) ?_
        simp only [Act.put, List.setIfInBounds_toArray, List.set_cons_succ, List.set_cons_zero]
        refine WG.put rfl (v := .string (T1 ++ ⟨#[58]⟩)) (fun w => by first | rfl | (go_simp; done) | (simp [go_sem, e1]; done)) ?_
        simp only [Act.put, List.setIfInBounds_toArray, List.set_cons_succ, List.set_cons_zero]
        refine WG.put rfl (v := .pointer (some ⟨b2, 2, none⟩)) (fun w => by first | rfl | (go_simp; done) | (simp [go_sem]; done)) ?_
        simp only [Act.put, List.setIfInBounds_toArray, List.set_cons_succ, List.set_cons_zero]
        refine WG.cell rfl 3 _ rfl rfl y2 (fun w h => by first | (simp [go_sem, h]; done) | (go_simp; done)) ?_
        simp only [Act.put, List.setIfInBounds_toArray, List.set_cons_succ, List.set_cons_zero]
        refine WG.call rfl (fun w' hw' => c2.out w' (Below.then HB.out hw')) (fun w => by first | rfl | (go_simp; done)) ?_
        simp only [Act.put, List.setIfInBounds_toArray, List.set_cons_succ, List.set_cons_zero]
        refine WG.put rfl (v := .string (T1 ++ ⟨#[58]⟩ ++ T2)) (fun w => by first | rfl | (go_simp; done) | (simp [go_sem, e2]; done)) ?_
        simp only [Act.put, List.setIfInBounds_toArray, List.set_cons_succ, List.set_cons_zero]
        refine WG.put rfl (v := .string (T1 ++ ⟨#[58]⟩ ++ T2 ++ ⟨#[58]⟩)) (fun w => by first | rfl | (go_simp; done) | (simp [go_sem, e3]; done)) ?_
        simp only [Act.put, List.setIfInBounds_toArray, List.set_cons_succ, List.set_cons_zero]
        refine WG.put rfl (v := .string (T1 ++ ⟨#[58]⟩ ++ T2 ++ ⟨#[58]⟩)) (fun w => by first | rfl | (go_simp; done) | (simp [go_sem]; done)) ?_
        simp only [Act.put, List.setIfInBounds_toArray, List.set_cons_succ, List.set_cons_zero]
        refine WG.nil (fun W4 hw4 => ?_)
        have B5 := Below.then HB.out hw4
        have z4 : W4.cell? ⟨b2, 4, none⟩ = some (.bool e.lck) := (hw4.cell (p := ⟨b2, 4, none⟩) hb2).trans y4
        have z0 : W4.cell? ⟨b2, 0, none⟩ = some (.int .i64 e.kind) := (hw4.cell (p := ⟨b2, 0, none⟩) hb2).trans y0
        clear y0 y1 y2 y4 hw4 e1 e2 e3
        have hPP : (T1 ++ ⟨#[58]⟩ ++ T2 ++ ⟨#[58]⟩).size ≤ 100 := by rw [ByteArray.size_append, ByteArray.size_append, ByteArray.size_append]; show _ + 1 + _ + 1 ≤ _; omega
        generalize T1 ++ ⟨#[58]⟩ ++ T2 ++ ⟨#[58]⟩ = PP at *
        rcases (show e.kind = 3 ∨ e.kind = 2 ∨ e.kind = 4 ∨ (e.kind ≠ 3 ∧ e.kind ≠ 2 ∧ e.kind ≠ 4) by omega) with hk3 | hk3 | hk3 | ⟨k3, k2, k4⟩
        · have f1 := addS PP ⟨#[82]⟩ (by show _ + 1 ≤ _; omega)
          have f2 := addS (PP ++ ⟨#[82]⟩) LT (by rw [ByteArray.size_append]; show _ + 1 + _ ≤ _; omega)
          have f3 := addS (PP ++ ⟨#[82]⟩ ++ LT) ⟨#[42]⟩ (by rw [ByteArray.size_append, ByteArray.size_append]; show _ + 1 + _ + 1 ≤ _; omega)
          have HM : Hid (SS = PP ++ ⟨#[82]⟩ ++ LT) := by show _ = _; rw [HS.out, ByteArray.append_assoc]; simp [hk, hk3]
          clear HS
          obtain ⟨lk, hlk⟩ : ∃ lk, e.lck = lk := ⟨_, rfl⟩
          rw [hlk] at z4 HT
          cases lk with
          | true =>
            go_wp2
            go_ret
            exact ⟨by rw [HT.out, HM.out]; rfl, B5⟩
          | false =>
            go_wp2
            go_ret
            exact ⟨by rw [HT.out, HM.out]; rfl, B5⟩
        · have f1 := addS PP ⟨#[87]⟩ (by show _ + 1 ≤ _; omega)
          have f2 := addS (PP ++ ⟨#[87]⟩) LT (by rw [ByteArray.size_append]; show _ + 1 + _ ≤ _; omega)
          have f3 := addS (PP ++ ⟨#[87]⟩ ++ LT) ⟨#[42]⟩ (by rw [ByteArray.size_append, ByteArray.size_append]; show _ + 1 + _ + 1 ≤ _; omega)
          have HM : Hid (SS = PP ++ ⟨#[87]⟩ ++ LT) := by show _ = _; rw [HS.out, ByteArray.append_assoc]; simp [hk, hk3]
          clear HS
          obtain ⟨lk, hlk⟩ : ∃ lk, e.lck = lk := ⟨_, rfl⟩
          rw [hlk] at z4 HT
          cases lk with
          | true =>
            go_wp2
            go_ret
            exact ⟨by rw [HT.out, HM.out]; rfl, B5⟩
          | false =>
            go_wp2
            go_ret
            exact ⟨by rw [HT.out, HM.out]; rfl, B5⟩
        · have f1 := addS PP ⟨#[70]⟩ (by show _ + 1 ≤ _; omega)
          have f3 := addS (PP ++ ⟨#[70]⟩) ⟨#[42]⟩ (by rw [ByteArray.size_append]; show _ + 1 + 1 ≤ _; omega)
          have HM : Hid (SS = PP ++ ⟨#[70]⟩) := by show _ = _; rw [HS.out]; simp [hk, hk3]
          clear HS
          obtain ⟨lk, hlk⟩ : ∃ lk, e.lck = lk := ⟨_, rfl⟩
          rw [hlk] at z4 HT
          cases lk with
          | true =>
            go_wp2
            go_ret
            exact ⟨by rw [HT.out, HM.out]; rfl, B5⟩
          | false =>
            go_wp2
            go_ret
            exact ⟨by rw [HT.out, HM.out]; rfl, B5⟩
        · have f1 := addS PP ⟨#[63]⟩ (by show _ + 1 ≤ _; omega)
          have f3 := addS (PP ++ ⟨#[63]⟩) ⟨#[42]⟩ (by rw [ByteArray.size_append]; show _ + 1 + 1 ≤ _; omega)
          have HM : Hid (SS = PP ++ ⟨#[63]⟩) := by show _ = _; rw [HS.out]; simp [hk, k3, k2, k4]
          clear HS
          obtain ⟨lk, hlk⟩ : ∃ lk, e.lck = lk := ⟨_, rfl⟩
          rw [hlk] at z4 HT
          cases lk with
          | true =>
            go_wp2
            go_ret
            exact ⟨by rw [HT.out, HM.out]; rfl, B5⟩
          | false =>
            go_wp2
            go_ret
            exact ⟨by rw [HT.out, HM.out]; rfl, B5⟩
    | false =>
      have hin : ¬ (0 ≤ e.loc ∧ e.loc < nl) := of_decide_eq_false HBB.out
      have hls : LT = ⟨#[63]⟩ := by rw [HL0.out, if_neg hin]
      subst hls
      clear hin HL0 HBB
      go_upto_region 4 with (fail)
      clear y3 q2
      by_cases hk : e.kind = 1
      · have HM : Hid (SS = ⟨#[105, 58]⟩ ++ ⟨#[63]⟩) := by show _ = _; rw [HS.out, if_pos hk]
        clear HS
        obtain ⟨lk, hlk⟩ : ∃ lk, e.lck = lk := ⟨_, rfl⟩
        rw [hlk] at y4 HT
        cases lk with
        | true =>
          go_wp2
          go_ret
          exact ⟨by rw [HT.out, HM.out]; rfl, HB.out⟩
        | false =>
          go_wp2
          go_ret
          exact ⟨by rw [HT.out, HM.out]; rfl, HB.out⟩
      · clear a0 a5
        have e1 := addS T1 ⟨#[58]⟩ (by show _ + 1 ≤ _; omega)
        have e2 := addS (T1 ++ ⟨#[58]⟩) T2 (by rw [ByteArray.size_append]; show _ + 1 + _ ≤ _; omega)
        have e3 := addS (T1 ++ ⟨#[58]⟩ ++ T2) ⟨#[58]⟩ (by rw [ByteArray.size_append, ByteArray.size_append]; show _ + 1 + _ + 1 ≤ _; omega)
        have y1 : wc.cell? ⟨b2, 1, none⟩ = some (.int .i64 e.thr) := HC2.out.cell 1
        have y2 : wc.cell? ⟨b2, 2, none⟩ = some (.int .i64 e.idx) := HC2.out.cell 2
        go_wp2
        refine grow_allW (by kernel_rfl) (by kernel_rfl) ?_
        refine WG.put rfl (v := .pointer (some ⟨b2, 1, none⟩)) (fun w => by first | rfl | (go_simp; done) | (simp [go_sem]; done)) ?_
        simp only [Act.put, List.setIfInBounds_toArray, List.set_cons_succ, List.set_cons_zero]
        refine WG.cell rfl 3 _ rfl rfl y1 (fun w h => by first | (simp [go_sem, h]; done) | (go_simp; done)) ?_
        simp only [Act.put, List.setIfInBounds_toArray, List.set_cons_succ, List.set_cons_zero]
        refine WG.call rfl (fun w' hw' => c1.out w' (Below.then HB.out hw')) (fun w => by first | rfl | (go_simp; done)) ?_
        simp only [Act.put, List.setIfInBounds_toArray, List.set_cons_succ, List.set_cons_zero]
        refine WG.put rfl (v := .string (T1 ++ ⟨#[58]⟩)) (fun w => by first | rfl | (go_simp; done) | (simp [go_sem, e1]; done)) ?_
        simp only [Act.put, List.setIfInBounds_toArray, List.set_cons_succ, List.set_cons_zero]
        refine WG.put rfl (v := .pointer (some ⟨b2, 2, none⟩)) (fun w => by first | rfl | (go_simp; done) | (simp [go_sem]; done)) ?_
        simp only [Act.put, List.setIfInBounds_toArray, List.set_cons_succ, List.set_cons_zero]
        refine WG.cell rfl 3 _ rfl rfl y2 (fun w h => by first | (simp [go_sem, h]; done) | (go_simp; done)) ?_
        simp only [Act.put, List.setIfInBounds_toArray, List.set_cons_succ, List.set_cons_zero]
        refine WG.call rfl (fun w' hw' => c2.out w' (Below.then HB.out hw')) (fun w => by first | rfl | (go_simp; done)) ?_
        simp only [Act.put, List.setIfInBounds_toArray, List.set_cons_succ, List.set_cons_zero]
        refine WG.put rfl (v := .string (T1 ++ ⟨#[58]⟩ ++ T2)) (fun w => by first | rfl | (go_simp; done) | (simp [go_sem, e2]; done)) ?_
        simp only [Act.put, List.setIfInBounds_toArray, List.set_cons_succ, List.set_cons_zero]
        refine WG.put rfl (v := .string (T1 ++ ⟨#[58]⟩ ++ T2 ++ ⟨#[58]⟩)) (fun w => by first | rfl | (go_simp; done) | (simp [go_sem, e3]; done)) ?_
        simp only [Act.put, List.setIfInBounds_toArray, List.set_cons_succ, List.set_cons_zero]
        refine WG.put rfl (v := .string (T1 ++ ⟨#[58]⟩ ++ T2 ++ ⟨#[58]⟩)) (fun w => by first | rfl | (go_simp; done) | (simp [go_sem]; done)) ?_
        simp only [Act.put, List.setIfInBounds_toArray, List.set_cons_succ, List.set_cons_zero]
        refine WG.nil (fun W4 hw4 => ?_)
        have B5 := Below.then HB.out hw4
        have z4 : W4.cell? ⟨b2, 4, none⟩ = some (.bool e.lck) := (hw4.cell (p := ⟨b2, 4, none⟩) hb2).trans y4
        have z0 : W4.cell? ⟨b2, 0, none⟩ = some (.int .i64 e.kind) := (hw4.cell (p := ⟨b2, 0, none⟩) hb2).trans y0
        clear y0 y1 y2 y4 hw4 e1 e2 e3
        have hPP : (T1 ++ ⟨#[58]⟩ ++ T2 ++ ⟨#[58]⟩).size ≤ 100 := by rw [ByteArray.size_append, ByteArray.size_append, ByteArray.size_append]; show _ + 1 + _ + 1 ≤ _; omega
        generalize T1 ++ ⟨#[58]⟩ ++ T2 ++ ⟨#[58]⟩ = PP at *
        rcases (show e.kind = 3 ∨ e.kind = 2 ∨ e.kind = 4 ∨ (e.kind ≠ 3 ∧ e.kind ≠ 2 ∧ e.kind ≠ 4) by omega) with hk3 | hk3 | hk3 | ⟨k3, k2, k4⟩
        · have f1 := addS PP ⟨#[82]⟩ (by show _ + 1 ≤ _; omega)
          have f2 := addS (PP ++ ⟨#[82]⟩) ⟨#[63]⟩ (by rw [ByteArray.size_append]; show _ + 1 + _ ≤ _; omega)
          have f3 := addS (PP ++ ⟨#[82]⟩ ++ ⟨#[63]⟩) ⟨#[42]⟩ (by rw [ByteArray.size_append, ByteArray.size_append]; show _ + 1 + _ + 1 ≤ _; omega)
          have HM : Hid (SS = PP ++ ⟨#[82]⟩ ++ ⟨#[63]⟩) := by show _ = _; rw [HS.out, ByteArray.append_assoc]; simp [hk, hk3]
          clear HS
          obtain ⟨lk, hlk⟩ : ∃ lk, e.lck = lk := ⟨_, rfl⟩
          rw [hlk] at z4 HT
          cases lk with
          | true =>
            go_wp2
            go_ret
            exact ⟨by rw [HT.out, HM.out]; rfl, B5⟩
          | false =>
            go_wp2
            go_ret
            exact ⟨by rw [HT.out, HM.out]; rfl, B5⟩
        · have f1 := addS PP ⟨#[87]⟩ (by show _ + 1 ≤ _; omega)
          have f2 := addS (PP ++ ⟨#[87]⟩) ⟨#[63]⟩ (by rw [ByteArray.size_append]; show _ + 1 + _ ≤ _; omega)
          have f3 := addS (PP ++ ⟨#[87]⟩ ++ ⟨#[63]⟩) ⟨#[42]⟩ (by rw [ByteArray.size_append, ByteArray.size_append]; show _ + 1 + _ + 1 ≤ _; omega)
          have HM : Hid (SS = PP ++ ⟨#[87]⟩ ++ ⟨#[63]⟩) := by show _ = _; rw [HS.out, ByteArray.append_assoc]; simp [hk, hk3]
          clear HS
          obtain ⟨lk, hlk⟩ : ∃ lk, e.lck = lk := ⟨_, rfl⟩
          rw [hlk] at z4 HT
          cases lk with
          | true =>
            go_wp2
            go_ret
            exact ⟨by rw [HT.out, HM.out]; rfl, B5⟩
          | false =>
            go_wp2
            go_ret
            exact ⟨by rw [HT.out, HM.out]; rfl, B5⟩
        · have f1 := addS PP ⟨#[70]⟩ (by show _ + 1 ≤ _; omega)
          have f3 := addS (PP ++ ⟨#[70]⟩) ⟨#[42]⟩ (by rw [ByteArray.size_append]; show _ + 1 + 1 ≤ _; omega)
          have HM : Hid (SS = PP ++ ⟨#[70]⟩) := by show _ = _; rw [HS.out]; simp [hk, hk3]
          clear HS
          obtain ⟨lk, hlk⟩ : ∃ lk, e.lck = lk := ⟨_, rfl⟩
          rw [hlk] at z4 HT
          cases lk with
          | true =>
            go_wp2
            go_ret
            exact ⟨by rw [HT.out, HM.out]; rfl, B5⟩
          | false =>
            go_wp2
            go_ret
            exact ⟨by rw [HT.out, HM.out]; rfl, B5⟩
        · have f1 := addS PP ⟨#[63]⟩ (by show _ + 1 ≤ _; omega)
          have f3 := addS (PP ++ ⟨#[63]⟩) ⟨#[42]⟩ (by rw [ByteArray.size_append]; show _ + 1 + 1 ≤ _; omega)
          have HM : Hid (SS = PP ++ ⟨#[63]⟩) := by show _ = _; rw [HS.out]; simp [hk, k3, k2, k4]
          clear HS
          obtain ⟨lk, hlk⟩ : ∃ lk, e.lck = lk := ⟨_, rfl⟩
          rw [hlk] at z4 HT
          cases lk with
          | true =>
            go_wp2
            go_ret
            exact ⟨by rw [HT.out, HM.out]; rfl, B5⟩
          | false =>
            go_wp2
            go_ret
            exact ⟨by rw [HT.out, HM.out]; rfl, B5⟩
end Go.Proofs.YtdjlfpkemdiadaaDoor

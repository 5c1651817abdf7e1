/- Text, Hex and Unsigned; the law's examples. -/
import Derived.Test.YtlmnlfnodbfgiaaDoorF2
import Derived.Test.YtlmnlfnodbfgiaaDoorC4d
import Derived.Test.YtlmnlfnodbfgiaaDoorD5
namespace Go.Proofs.YtlmnlfnodbfgiaaDoor
open Go.RowKit M
set_option linter.unusedSimpArgs false
set_option linter.unusedVariables false

/-- Both tables of the library. -/
def Tabs (w : World) : Prop := Tab10 w ∧ TabAt w
theorem Tabs.below {w w' : World} (h : Tabs w) (hb : Below w.heap.size w w') : Tabs w' := ⟨h.1.below hb, h.2.below hb⟩

set_option maxRecDepth 100000 in
theorem fmtU16_in (u : Nat) (hu : u < 18446744073709551616) (w : World) (hT : TabAt w) :
    Calls Tryd.prog 28 #[.int .u64 u, .int .i64 16] w fun e w' => e = .returned (.string ⟨(dgs 16 u).toArray⟩) ∧ Below w.heap.size w w' := by
  go_enter Tryd.func28, Tryd.ntmps28
  go_wp2_with (go_at_call 36; refine (bits16 u hu _ hT).mono ?_; rintro e w1 ⟨rfl, hb1⟩)
  go_ret
  exact ⟨rfl, hb1⟩
set_option maxRecDepth 100000 in
theorem fmtU16 (u : Nat) (hu : u < 18446744073709551616) (w : World) (hT : TabAt w) :
    Calls Tryd.prog 22 #[.int .u64 u, .int .i64 16] w fun e w' => e = .returned (.string ⟨(dgs 16 u).toArray⟩) ∧ Below w.heap.size w w' := by
  go_enter Tryd.func22, Tryd.ntmps22
  go_wp2_with (go_at_call 28; refine (fmtU16_in u hu _ hT).mono ?_; rintro e w1 ⟨rfl, hb1⟩)
  go_ret
  exact ⟨rfl, hb1⟩

theorem dec_dgs (u : Nat) : Lib.decDigits u = dgs 10 u := by
  induction u using Nat.strongRecOn with
  | _ u ih =>
      by_cases h : u < 10
      · rw [Lib.decDigits, dif_pos h, dgs_small h]; unfold hexD; rw [if_pos h]
      · rw [Lib.decDigits, dif_neg h, dgs_great (by omega) h, ih (u / 10) (by omega)]
        have : u % 10 < 10 := Nat.mod_lt _ (by omega)
        congr 2; unfold hexD; rw [if_pos this]

/-- A value's 64 bits as a number. -/
def uv (v : Int) : Nat := (v % 18446744073709551616).toNat
theorem uv_lt (v : Int) : uv v < 18446744073709551616 := by unfold uv; omega
theorem uv_wrap (v : Int) : IntKind.u64.wrap v = (uv v : Int) := by rw [IntKind.wrap_u64]; unfold uv; omega
/-- A value's three texts. -/
def textL (v : Int) : List UInt8 := if v < 0 then 45 :: dgs 10 v.natAbs else dgs 10 v.toNat
def hexT (v : Int) : List UInt8 := 48 :: 120 :: dgs 16 (uv v)
def unsL (v : Int) : List UInt8 := dgs 10 (uv v)
theorem itoa_text (v : Int) : Lib.itoa v = textL v := by unfold Lib.itoa textL; rw [dec_dgs, dec_dgs]

set_option maxRecDepth 100000 in
theorem text_any (v : Int) (h0 : -9223372036854775808 ≤ v) (h1 : v ≤ 9223372036854775807) (w : World) (hT : Tabs w) : Calls Tryd.prog 7 #[.int .i64 v] w fun e w' => e = .returned (.string ⟨(textL v).toArray⟩) ∧ Below w.heap.size w w' := by
  have hc := fmtI10 v h0 h1 w hT.1
  rw [itoa_text] at hc
  go_enter Tryd.func7, Tryd.ntmps7
  go_wp2_with (go_at_call 20; refine hc.mono ?_; rintro e w1 ⟨rfl, hb1⟩)
  go_ret
  exact ⟨rfl, hb1⟩
set_option maxRecDepth 100000 in
theorem uns_any (v : Int) (h0 : -9223372036854775808 ≤ v) (h1 : v ≤ 9223372036854775807) (w : World) (hT : Tabs w) : Calls Tryd.prog 11 #[.int .i64 v] w fun e w' => e = .returned (.string ⟨(unsL v).toArray⟩) ∧ Below w.heap.size w w' := by
  have hc := fmtU10 (uv v) (uv_lt v) w hT.1
  rw [dec_dgs] at hc
  have hw := uv_wrap v
  by_cases hv : v < 0
  · go_enter Tryd.func11, Tryd.ntmps11
    go_wp2_with (go_at_call 22; refine hc.mono ?_; rintro e w1 ⟨rfl, hb1⟩)
    go_ret
    exact ⟨rfl, hb1⟩
  · have hv' : 0 ≤ v := by omega
    have he : (uv v : Int) = v := by unfold uv; omega
    rw [he] at hc
    clear hw he
    go_enter Tryd.func11, Tryd.ntmps11
    go_wp2_with (go_at_call 22; refine hc.mono ?_; rintro e w1 ⟨rfl, hb1⟩)
    go_ret
    exact ⟨rfl, hb1⟩
theorem add_mk (a b : List UInt8) : (ByteArray.mk a.toArray) ++ (ByteArray.mk b.toArray) = ByteArray.mk (a ++ b).toArray := by
  rw [ByteArray.mk_append_mk]
theorem size_mk (a : List UInt8) : (ByteArray.mk a.toArray).size = a.length := by show a.toArray.size = _; simp
set_option maxRecDepth 100000 in
theorem hex_any (v : Int) (h0 : -9223372036854775808 ≤ v) (h1 : v ≤ 9223372036854775807) (w : World) (hT : Tabs w) : Calls Tryd.prog 9 #[.int .i64 v] w fun e w' => e = .returned (.string ⟨(hexT v).toArray⟩) ∧ Below w.heap.size w w' := by
  have hc := fmtU16 (uv v) (uv_lt v) w hT.2
  have hl := dgs_len 16 (by omega) 16 (uv v) (Nat.lt_of_lt_of_le (uv_lt v) (by decide)) (by omega)
  have hadd : ∀ W, (Op.stringOp .add (ByteArray.mk #[48, 120]) ⟨(dgs 16 (uv v)).toArray⟩).run Tryd.prog W = .ok (.string ⟨(hexT v).toArray⟩) W := fun W => by
    rw [run_string_add_sum W _ _ (by rw [size_mk (dgs 16 (uv v))]; show 2 + _ ≤ _; omega)]
    have := add_mk [48, 120] (dgs 16 (uv v))
    show Result.ok (Value.string (ByteArray.mk [48, 120].toArray ++ _)) W = _
    rw [this]; rfl
  have hw := uv_wrap v
  by_cases hv : v < 0
  · go_enter Tryd.func9, Tryd.ntmps9
    go_wp2_with (go_at_call 22; refine hc.mono ?_; rintro e w1 ⟨rfl, hb1⟩)
    go_ret
    exact ⟨rfl, hb1⟩
  · have hv' : 0 ≤ v := by omega
    have he : (uv v : Int) = v := by unfold uv; omega
    rw [he] at hc
    clear hw he
    go_enter Tryd.func9, Tryd.ntmps9
    go_wp2_with (go_at_call 22; refine hc.mono ?_; rintro e w1 ⟨rfl, hb1⟩)
    go_ret
    exact ⟨rfl, hb1⟩

theorem parse_ex : parseO [45, 48, 120, 49, 48] = (-16, 0) := by decide
theorem text_ex : textL (-1) = [45, 49] := by decide +kernel
theorem hex_ex : hexT 255 = [48, 120, 102, 102] := by decide +kernel
theorem uns_ex : unsL (-1) = [49, 56, 52, 52, 54, 55, 52, 52, 48, 55, 51, 55, 48, 57, 53, 53, 49, 54, 49, 53] := by decide +kernel
theorem put_ex : putL 64 = [128, 1] := by decide +kernel
theorem next_ex : nextO [49, 50, 44] = (12, 2, 0) := by decide
set_option maxRecDepth 100000 in
set_option maxHeartbeats 2000000 in
theorem works_any (w : World) (hT : Tabs w) : Calls Tryd.prog 13 #[] w fun e w' => e = .returned (.bool true) ∧ Below w.heap.size w w' := by
  have c1 : ∀ W, Calls Tryd.prog 15 #[.string ⟨#[45, 48, 120, 49, 48]⟩] W fun e w' => e = .returned (.tuple #[.int .i64 (-16), .int .i64 0]) ∧ Below W.heap.size W w' := fun W => by
    have := parse_any ⟨#[45, 48, 120, 49, 48]⟩ (by decide) W
    have e : parseV (parseO (ByteArray.mk #[45, 48, 120, 49, 48]).data.toList) = .tuple #[.int .i64 (-16), .int .i64 0] := by
      show parseV (parseO [45, 48, 120, 49, 48]) = _
      rw [parse_ex]; rfl
    rwa [e] at this
  have c2 : ∀ W, Calls Tryd.prog 16 #[.string ⟨#[49, 50, 44]⟩, .int .i64 0] W fun e w' => e = .returned (.tuple #[.int .i64 12, .int .i64 2, .int .i64 0]) ∧ Below W.heap.size W w' := fun W => by
    have := next_any ⟨#[49, 50, 44]⟩ (by decide) 0 W
    have e : nextV (nextA ⟨#[49, 50, 44]⟩ 0) = .tuple #[.int .i64 12, .int .i64 2, .int .i64 0] := by
      show nextV (nextO [49, 50, 44]) = _
      rw [next_ex]; rfl
    rwa [e] at this
  have c3 : ∀ W, Tabs W → Calls Tryd.prog 7 #[.int .i64 (-1)] W fun e w' => e = .returned (.string ⟨#[45, 49]⟩) ∧ Below W.heap.size W w' := fun W h => by have := text_any (-1) (by omega) (by omega) W h; rw [text_ex] at this; exact this
  have c4 : ∀ W, Tabs W → Calls Tryd.prog 9 #[.int .i64 255] W fun e w' => e = .returned (.string ⟨#[48, 120, 102, 102]⟩) ∧ Below W.heap.size W w' := fun W h => by have := hex_any 255 (by omega) (by omega) W h; rw [hex_ex] at this; exact this
  have c5 : ∀ W, Tabs W → Calls Tryd.prog 11 #[.int .i64 (-1)] W fun e w' => e = .returned (.string ⟨#[49, 56, 52, 52, 54, 55, 52, 52, 48, 55, 51, 55, 48, 57, 53, 53, 49, 54, 49, 53]⟩) ∧ Below W.heap.size W w' := fun W h => by have := uns_any (-1) (by omega) (by omega) W h; rw [uns_ex] at this; exact this
  have c6 : ∀ W, Calls Tryd.prog 18 #[.int .i64 64] W fun e w' => e = .returned (.string ⟨#[128, 1]⟩) ∧ Below W.heap.size W w' := fun W => by have := put_any 64 (by omega) (by omega) W; rw [put_ex] at this; exact this
  go_enter Tryd.func13, Tryd.ntmps13
  go_wp2_with (first
    | (go_at_call 15; refine (c1 _).mono ?_; rintro e w1 ⟨rfl, B⟩)
    | (go_at_call 16; refine (c2 _).mono ?_; rintro e w2 ⟨rfl, b2⟩; replace B := B.trans (b2.mono B.size); clear b2)
    | (go_at_call 17; refine (num_any _ _).mono ?_; rintro e w' ⟨rfl, hw'⟩; replace hw' := hw'.symm; subst hw')
    | (go_at_call 7; refine (c3 _ (hT.below B)).mono ?_; rintro e w3 ⟨rfl, b3⟩; replace B := B.trans (b3.mono B.size); clear b3)
    | (go_at_call 9; refine (c4 _ (hT.below B)).mono ?_; rintro e w4 ⟨rfl, b4⟩; replace B := B.trans (b4.mono B.size); clear b4)
    | (go_at_call 11; refine (c5 _ (hT.below B)).mono ?_; rintro e w5 ⟨rfl, b5⟩; replace B := B.trans (b5.mono B.size); clear b5)
    | (go_at_call 18; refine (c6 _).mono ?_; rintro e w6 ⟨rfl, b6⟩; replace B := B.trans (b6.mono B.size); clear b6))
  go_ret
  exact ⟨rfl, B⟩
end Go.Proofs.YtlmnlfnodbfgiaaDoor

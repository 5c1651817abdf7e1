/- The reference's digits, and its three texts. -/
import Derived.Test.YtlmnlfnodbfgiaaDoorF3
import Derived.BigQuiet
namespace Go.Proofs.YtlmnlfnodbfgiaaDoor
open Go.RowKit M
set_option linter.unusedSimpArgs false
set_option linter.unusedVariables false

/-- The reference's digits. -/
def tbl16 : ByteArray := ⟨#[48, 49, 50, 51, 52, 53, 54, 55, 56, 57, 97, 98, 99, 100, 101, 102]⟩
theorem tbl16_all : ∀ d : Fin 16, (tbl16.extract d.val (d.val + 1)).data.toList = [hexD d.val] := by decide
theorem tbl16_at {d : Nat} (h : d < 16) : tbl16.extract d (d + 1) = ⟨[hexD d].toArray⟩ := by
  have := tbl16_all ⟨d, h⟩
  cases e : tbl16.extract d (d + 1) with
  | mk a =>
    have h2 : (tbl16.extract d (d + 1)).data.toList = [hexD d] := this
    rw [e] at h2
    have : a = [hexD d].toArray := by
      apply Array.toList_inj.mp
      simpa using h2
    rw [this]

set_option maxRecDepth 100000 in
set_option maxHeartbeats 2000000 in
theorem in_any (u b : Nat) (hu : u < 18446744073709551616) (hb : b = 10 ∨ b = 16) (w : World) :
    Calls Tryd.prog 21 #[.int .u64 u, .int .u64 b] w fun e w' => e = .returned (.string ⟨(dgs b u).toArray⟩) ∧ Below w.heap.size w w' := by
  have hb2 : 2 ≤ b := by omega
  have hb16 : b ≤ 16 := by omega
  have HL : Hid ((dgs b u).length ≤ 64) := dgs_len b hb2 64 u (Nat.lt_of_lt_of_le hu (Nat.le_trans (by decide : 18446744073709551616 ≤ 2 ^ 64) (Nat.pow_le_pow_left hb2 64))) (by omega)
  clear hb
  go_enter Tryd.func21, Tryd.ntmps21
  go_wp2
  go_loopw [0, 5] (fun v s wr => ∃ (U : Nat) (l : List UInt8), v = .int .u64 (U : Int) ∧ s = .string ⟨l.toArray⟩ ∧ U < 18446744073709551616 ∧ Below w.heap.size w wr ∧ Hid (dgs b u = dgs b U ++ l)) (fun v _ _ => (intOf v).toNat)
  case atStart => exact ⟨u, [], rfl, rfl, hu, Below.refl _ _, by show _ = _; simp⟩
  case round =>
    obtain ⟨U, l, rfl, rfl, hU, B2, HE⟩ := hrel
    have hlen : (dgs b U).length + l.length ≤ 64 := by have h1 := HL.out; rw [HE.out, List.length_append] at h1; exact h1
    by_cases hlt : U < b
    · have hlt' : ¬ (b : Int) ≤ U := by omega
      go_wp2
      go_ret
      refine ⟨?_, B2⟩
      have e : tbl16.extract U (U + 1) ++ ⟨l.toArray⟩ = ⟨(dgs b u).toArray⟩ := by
        rw [tbl16_at (by omega), add_mk, HE.out, dgs_small hlt]
      exact congrArg (fun x => Ending.returned (Value.string x)) e
    · have hlt' : (b : Int) ≤ U := by omega
      have hdm : U % b < b := Nat.mod_lt _ (by omega)
      have hb0 : (b : Int) ≠ 0 := by omega
      obtain ⟨d, hd⟩ : ∃ d, U % b = d := ⟨_, rfl⟩
      have hrem : (U : Int) % (b : Int) = (d : Int) := by rw [← hd]; rfl
      have hd16 : d < 16 := by omega
      obtain ⟨q, hq⟩ : ∃ q : Int, q = ((U / b : Nat) : Int) := ⟨_, rfl⟩
      have hwq : IntKind.u64.wrap ((U : Int) / (b : Int)) = q := by
        have h2 : U / b ≤ U := Nat.div_le_self _ _
        rw [show (U : Int) / (b : Int) = ((U / b : Nat) : Int) from rfl, IntKind.wrap_u64, hq]
        generalize U / b = z at h2
        omega
      have HQ : Hid (q = ((U / b : Nat) : Int)) := hq
      clear hq
      go_wp2
      go_quiet (fail)
      go_wp2
      go_roundw
      case rel =>
        refine ⟨U / b, hexD d :: l, by rw [HQ.out], ?_, Nat.lt_of_le_of_lt (Nat.div_le_self _ _) hU, ⟨B2.os, B2.tape, B2.output, B2.size, B2.block⟩, ?_⟩
        · have e : tbl16.extract d (d + 1) ++ ⟨l.toArray⟩ = ⟨(hexD d :: l).toArray⟩ := by rw [tbl16_at hd16, add_mk]; rfl
          exact congrArg Value.string e
        · show _ = _
          rw [HE.out, dgs_great hb2 hlt, List.append_assoc, hd]; rfl
      case measure =>
        have : U / b < U := Nat.div_lt_self (by omega) (by omega)
        have h2 := HQ.out
        simp only [intOf]; omega

set_option maxRecDepth 100000 in
theorem rtext_any (v : Int) (h0 : -9223372036854775808 ≤ v) (h1 : v ≤ 9223372036854775807) (w : World) : Calls Tryd.prog 8 #[.int .i64 v] w fun e w' => e = .returned (.string ⟨(textL v).toArray⟩) ∧ Below w.heap.size w w' := by
  by_cases hv : v < 0
  · obtain ⟨u, rfl⟩ : ∃ u : Nat, v = -(u : Int) := ⟨v.natAbs, by omega⟩
    have hwr : IntKind.u64.wrap (-IntKind.u64.wrap (-(u : Int))) = (u : Int) := by rw [IntKind.wrap_u64, IntKind.wrap_u64]; omega
    have hc := fun W => in_any u 10 (by omega) (Or.inl rfl) W
    have hl := dgs_len 10 (by omega) 20 u (by omega) (by omega)
    have HT : Hid (textL (-(u : Int)) = 45 :: dgs 10 u) := by
      show textL _ = _
      unfold textL; rw [if_pos hv]; congr 2; omega
    have hadd : ∀ W, (Op.stringOp .add (ByteArray.mk #[45]) ⟨(dgs 10 u).toArray⟩).run Tryd.prog W = .ok (.string ⟨(45 :: dgs 10 u).toArray⟩) W := fun W => by
      rw [run_string_add_sum W _ _ (by rw [size_mk (dgs 10 u)]; show 1 + _ ≤ _; omega)]
      have := add_mk [45] (dgs 10 u)
      show Result.ok (Value.string (ByteArray.mk [45].toArray ++ _)) W = _
      rw [this]; rfl
    go_enter Tryd.func8, Tryd.ntmps8
    go_wp2_with (go_at_call 21; refine (hc _).mono ?_; rintro e w1 ⟨rfl, hb1⟩)
    go_ret
    exact ⟨by rw [HT.out]; rfl, hb1⟩
  · obtain ⟨u, rfl⟩ : ∃ u : Nat, v = (u : Int) := ⟨v.toNat, by omega⟩
    have hc := fun W => in_any u 10 (by omega) (Or.inl rfl) W
    have HT : Hid (textL (u : Int) = dgs 10 u) := by
      show textL _ = _
      unfold textL; rw [if_neg hv]; rfl
    have hv' : (0 : Int) ≤ u := by omega
    go_enter Tryd.func8, Tryd.ntmps8
    go_wp2_with (go_at_call 21; refine (hc _).mono ?_; rintro e w1 ⟨rfl, hb1⟩)
    go_ret
    exact ⟨by rw [HT.out]; rfl, hb1⟩
set_option maxRecDepth 100000 in
theorem runs_any (v : Int) (h0 : -9223372036854775808 ≤ v) (h1 : v ≤ 9223372036854775807) (w : World) : Calls Tryd.prog 12 #[.int .i64 v] w fun e w' => e = .returned (.string ⟨(unsL v).toArray⟩) ∧ Below w.heap.size w w' := by
  have hc := fun W => in_any (uv v) 10 (uv_lt v) (Or.inl rfl) W
  have hw := uv_wrap v
  by_cases hv : v < 0
  · go_enter Tryd.func12, Tryd.ntmps12
    go_wp2_with (go_at_call 21; refine (hc _).mono ?_; rintro e w1 ⟨rfl, hb1⟩)
    go_ret
    exact ⟨rfl, hb1⟩
  · have hv' : 0 ≤ v := by omega
    have he : (uv v : Int) = v := by unfold uv; omega
    rw [he] at hc
    clear hw he
    go_enter Tryd.func12, Tryd.ntmps12
    go_wp2_with (go_at_call 21; refine (hc _).mono ?_; rintro e w1 ⟨rfl, hb1⟩)
    go_ret
    exact ⟨rfl, hb1⟩
set_option maxRecDepth 100000 in
theorem rhex_any (v : Int) (h0 : -9223372036854775808 ≤ v) (h1 : v ≤ 9223372036854775807) (w : World) : Calls Tryd.prog 10 #[.int .i64 v] w fun e w' => e = .returned (.string ⟨(hexT v).toArray⟩) ∧ Below w.heap.size w w' := by
  have hc := fun W => in_any (uv v) 16 (uv_lt v) (Or.inr rfl) W
  have hl := dgs_len 16 (by omega) 16 (uv v) (Nat.lt_of_lt_of_le (uv_lt v) (by decide)) (by omega)
  have hadd : ∀ W, (Op.stringOp .add (ByteArray.mk #[48, 120]) ⟨(dgs 16 (uv v)).toArray⟩).run Tryd.prog W = .ok (.string ⟨(hexT v).toArray⟩) W := fun W => by
    rw [run_string_add_sum W _ _ (by rw [size_mk (dgs 16 (uv v))]; show 2 + _ ≤ _; omega)]
    have := add_mk [48, 120] (dgs 16 (uv v))
    show Result.ok (Value.string (ByteArray.mk [48, 120].toArray ++ _)) W = _
    rw [this]; rfl
  have hw := uv_wrap v
  by_cases hv : v < 0
  · go_enter Tryd.func10, Tryd.ntmps10
    go_wp2_with (go_at_call 21; refine (hc _).mono ?_; rintro e w1 ⟨rfl, hb1⟩)
    go_ret
    exact ⟨rfl, hb1⟩
  · have hv' : 0 ≤ v := by omega
    have he : (uv v : Int) = v := by unfold uv; omega
    rw [he] at hc
    clear hw he
    go_enter Tryd.func10, Tryd.ntmps10
    go_wp2_with (go_at_call 21; refine (hc _).mono ?_; rintro e w1 ⟨rfl, hb1⟩)
    go_ret
    exact ⟨rfl, hb1⟩

set_option maxRecDepth 100000 in
set_option maxHeartbeats 2000000 in
theorem texts_any (v : Int) (h0 : -9223372036854775808 ≤ v) (h1 : v ≤ 9223372036854775807) (w : World) (hT : Tabs w) :
    Calls Tryd.prog 3 #[.int .i64 v] w fun e w' => e = .returned (.bool true) ∧ Below w.heap.size w w' := by
  have c1 := text_any v h0 h1 w hT
  have c2 := fun W => rtext_any v h0 h1 W
  have c3 := fun W (h : Tabs W) => hex_any v h0 h1 W h
  have c4 := fun W => rhex_any v h0 h1 W
  have c5 := fun W (h : Tabs W) => uns_any v h0 h1 W h
  have c6 := fun W => runs_any v h0 h1 W
  obtain ⟨T, hTe⟩ : ∃ T, ByteArray.mk (textL v).toArray = T := ⟨_, rfl⟩
  obtain ⟨X, hX⟩ : ∃ X, ByteArray.mk (hexT v).toArray = X := ⟨_, rfl⟩
  obtain ⟨U, hU⟩ : ∃ U, ByteArray.mk (unsL v).toArray = U := ⟨_, rfl⟩
  rw [hTe] at c1 c2
  rw [hX] at c3 c4
  rw [hU] at c5 c6
  clear hTe hX hU
  go_enter Tryd.func3, Tryd.ntmps3
  go_wp2_with (first
    | (go_at_call 7; refine c1.mono ?_; rintro e w1 ⟨rfl, B⟩)
    | (go_at_call 8; refine (c2 _).mono ?_; rintro e w2 ⟨rfl, b2⟩; replace B := B.trans (b2.mono B.size); clear b2)
    | (go_at_call 9; refine (c3 _ (hT.below B)).mono ?_; rintro e w3 ⟨rfl, b3⟩; replace B := B.trans (b3.mono B.size); clear b3)
    | (go_at_call 10; refine (c4 _).mono ?_; rintro e w4 ⟨rfl, b4⟩; replace B := B.trans (b4.mono B.size); clear b4)
    | (go_at_call 11; refine (c5 _ (hT.below B)).mono ?_; rintro e w5 ⟨rfl, b5⟩; replace B := B.trans (b5.mono B.size); clear b5)
    | (go_at_call 12; refine (c6 _).mono ?_; rintro e w6 ⟨rfl, b6⟩; replace B := B.trans (b6.mono B.size); clear b6))
  go_ret
  exact ⟨rfl, B⟩
end Go.Proofs.YtlmnlfnodbfgiaaDoor

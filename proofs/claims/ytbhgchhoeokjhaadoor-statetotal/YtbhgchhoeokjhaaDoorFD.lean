/- Numbers' texts: FormatInt, Itoa, word.Text; the reference's Text. -/
import Derived.Test.YtbhgchhoeokjhaaDoorS1
import Derived.Test.YtbhgchhoeokjhaaDoorM2
import Derived.Test.YtbhgchhoeokjhaaDoorShelf
import Derived.Lib.Walk
import Derived.Lib.ItoaMem
import Derived.Lib.AppendIntMem
import Derived.WalkKit
import Derived.BigCall
import Derived.BigGuard
import Derived.BigQuiet
namespace Go.Proofs.YtbhgchhoeokjhaaDoor
open Go.RowKit M
set_option linter.unusedSimpArgs false
set_option linter.unusedVariables false

/-- The library's table of the powers of ten. -/
def Tab10 (w : World) : Prop := Lib.TabIs Tryd.prog w "internal/strconv.uint64pow10" .u64 Lib.pow10Tab
theorem Tab10.below {w w' : World} (h : Tab10 w) (hb : Below w.heap.size w w') : Tab10 w' := by
  unfold Tab10 Lib.TabIs World.var? at *
  cases hg : Tryd.prog.globalNamed "internal/strconv.uint64pow10" with
  | none => simp [hg] at h
  | some g =>
    simp only [hg, Option.bind_some] at h ⊢
    have hlt : g < w.heap.size := by
      rcases Nat.lt_or_ge g w.heap.size with h' | h'
      · exact h'
      · rw [Array.getElem?_eq_none h'] at h; simp at h
    rw [hb.block g hlt]
    exact h

theorem fmtI10 (n : Int) (h0 : -9223372036854775808 ≤ n) (h1 : n ≤ 9223372036854775807) (w : World) (htab : Tab10 w) :
    Calls Tryd.prog 27 #[.int .i64 n, .int .i64 10] w fun e w' => e = .returned (.string ⟨(Lib.itoa n).toArray⟩) ∧ Below w.heap.size w w' := by
  go_enter Tryd.func27, Tryd.ntmps27
  go_wp2_with (go_at_call 39; refine (Tryd.internal_strconv_FormatInt_10 n h0 h1 _ htab).mono ?_; rintro e w1 ⟨rfl, k, os, hw1⟩; have hb1 : Below w.heap.size w w1 := (by rw [hw1]; exact Lib.below_grow _ w (Nat.le_refl _) k os); clear hw1)
  go_ret
  exact ⟨rfl, hb1⟩
theorem dec_dgs (u : Nat) : Lib.decDigits u = dgs 10 u := by
  induction u using Nat.strongRecOn with
  | _ u ih =>
      by_cases h : u < 10
      · rw [Lib.decDigits, dif_pos h, dgs_small h]; unfold hexD; rw [if_pos h]
      · rw [Lib.decDigits, dif_neg h, dgs_great (by omega) h, ih (u / 10) (by omega)]
        have : u % 10 < 10 := Nat.mod_lt _ (by omega)
        congr 2; unfold hexD; rw [if_pos this]

/-- A value's text. -/
def textL (v : Int) : List UInt8 := if v < 0 then 45 :: dgs 10 v.natAbs else dgs 10 v.toNat
theorem itoa_text (v : Int) : Lib.itoa v = textL v := by unfold Lib.itoa textL; rw [dec_dgs, dec_dgs]
set_option maxRecDepth 100000 in
theorem text_any (v : Int) (h0 : -9223372036854775808 ≤ v) (h1 : v ≤ 9223372036854775807) (w : World) (hT : Tab10 w) : Calls Tryd.prog 14 #[.int .i64 v] w fun e w' => e = .returned (.string ⟨(textL v).toArray⟩) ∧ Below w.heap.size w w' := by
  have hc := fmtI10 v h0 h1 w hT
  rw [itoa_text] at hc
  go_enter Tryd.func14, Tryd.ntmps14
  go_wp2_with (go_at_call 27; refine hc.mono ?_; rintro e w1 ⟨rfl, hb1⟩)
  go_ret
  exact ⟨rfl, hb1⟩
theorem itoa_any (v : Int) (h0 : -9223372036854775808 ≤ v) (h1 : v ≤ 9223372036854775807) (w : World) (hT : Tab10 w) : Calls Tryd.prog 26 #[.int .i64 v] w fun e w' => e = .returned (.string ⟨(textL v).toArray⟩) ∧ Below w.heap.size w w' := by
  have := Tryd.strconv_Itoa v h0 h1 w hT
  refine this.mono ?_
  rintro e w1 ⟨rfl, k, os, hw1⟩
  exact ⟨by rw [itoa_text], by rw [hw1]; exact Lib.below_grow _ w (Nat.le_refl _) k os⟩
theorem add_mk (a b : List UInt8) : (ByteArray.mk a.toArray) ++ (ByteArray.mk b.toArray) = ByteArray.mk (a ++ b).toArray := by
  rw [ByteArray.mk_append_mk]
theorem size_mk (a : List UInt8) : (ByteArray.mk a.toArray).size = a.length := by show a.toArray.size = _; simp
/-- The reference's digits. -/
def tbl16 : ByteArray := ⟨#[48, 49, 50, 51, 52, 53, 54, 55, 56, 57, 97, 98, 99, 100, 101, 102]⟩
theorem tbl16_all : ∀ d : Fin 16, (tbl16.extract d.val (d.val + 1)).data.toList = [hexD d.val] := by decide
theorem tbl16_at {d : Nat} (h : d < 16) : tbl16.extract d (d + 1) = ⟨[hexD d].toArray⟩ := by
  have := tbl16_all ⟨d, h⟩
  cases e : tbl16.extract d (d + 1) with
  | mk a =>
    have h2 : (tbl16.extract d (d + 1)).data.toList = [hexD d] := this
    rw [e] at h2
    have : a = [hexD d].toArray := by
      apply Array.toList_inj.mp
      simpa using h2
    rw [this]

set_option maxRecDepth 100000 in
set_option maxHeartbeats 2000000 in
theorem in_any (u b : Nat) (hu : u < 18446744073709551616) (hb : b = 10 ∨ b = 16) (w : World) :
    Calls Tryd.prog 28 #[.int .u64 u, .int .u64 b] w fun e w' => e = .returned (.string ⟨(dgs b u).toArray⟩) ∧ Below w.heap.size w w' := by
  have hb2 : 2 ≤ b := by omega
  have hb16 : b ≤ 16 := by omega
  have HL : Hid ((dgs b u).length ≤ 64) := dgs_len b hb2 64 u (Nat.lt_of_lt_of_le hu (Nat.le_trans (by decide : 18446744073709551616 ≤ 2 ^ 64) (Nat.pow_le_pow_left hb2 64))) (by omega)
  clear hb
  go_enter Tryd.func28, Tryd.ntmps28
  go_wp2
  go_loopw [0, 5] (fun v s wr => ∃ (U : Nat) (l : List UInt8), v = .int .u64 (U : Int) ∧ s = .string ⟨l.toArray⟩ ∧ U < 18446744073709551616 ∧ Below w.heap.size w wr ∧ Hid (dgs b u = dgs b U ++ l)) (fun v _ _ => (intOf v).toNat)
  case atStart => exact ⟨u, [], rfl, rfl, hu, Below.refl _ _, by show _ = _; simp⟩
  case round =>
    obtain ⟨U, l, rfl, rfl, hU, B2, HE⟩ := hrel
    have hlen : (dgs b U).length + l.length ≤ 64 := by have h1 := HL.out; rw [HE.out, List.length_append] at h1; exact h1
    by_cases hlt : U < b
    · have hlt' : ¬ (b : Int) ≤ U := by omega
      go_wp2
      go_ret
      refine ⟨?_, B2⟩
      have e : tbl16.extract U (U + 1) ++ ⟨l.toArray⟩ = ⟨(dgs b u).toArray⟩ := by
        rw [tbl16_at (by omega), add_mk, HE.out, dgs_small hlt]
      exact congrArg (fun x => Ending.returned (Value.string x)) e
    · have hlt' : (b : Int) ≤ U := by omega
      have hdm : U % b < b := Nat.mod_lt _ (by omega)
      have hb0 : (b : Int) ≠ 0 := by omega
      obtain ⟨d, hd⟩ : ∃ d, U % b = d := ⟨_, rfl⟩
      have hrem : (U : Int) % (b : Int) = (d : Int) := by rw [← hd]; rfl
      have hd16 : d < 16 := by omega
      obtain ⟨q, hq⟩ : ∃ q : Int, q = ((U / b : Nat) : Int) := ⟨_, rfl⟩
      have hwq : IntKind.u64.wrap ((U : Int) / (b : Int)) = q := by
        have h2 : U / b ≤ U := Nat.div_le_self _ _
        rw [show (U : Int) / (b : Int) = ((U / b : Nat) : Int) from rfl, IntKind.wrap_u64, hq]
        generalize U / b = z at h2
        omega
      have HQ : Hid (q = ((U / b : Nat) : Int)) := hq
      clear hq
      go_wp2
      go_quiet (fail)
      go_wp2
      go_roundw
      case rel =>
        refine ⟨U / b, hexD d :: l, by rw [HQ.out], ?_, Nat.lt_of_le_of_lt (Nat.div_le_self _ _) hU, ⟨B2.os, B2.tape, B2.output, B2.size, B2.block⟩, ?_⟩
        · have e : tbl16.extract d (d + 1) ++ ⟨l.toArray⟩ = ⟨(hexD d :: l).toArray⟩ := by rw [tbl16_at hd16, add_mk]; rfl
          exact congrArg Value.string e
        · show _ = _
          rw [HE.out, dgs_great hb2 hlt, List.append_assoc, hd]; rfl
      case measure =>
        have : U / b < U := Nat.div_lt_self (by omega) (by omega)
        have h2 := HQ.out
        simp only [intOf]; omega

set_option maxRecDepth 100000 in
theorem rtext_any (v : Int) (h0 : -9223372036854775808 ≤ v) (h1 : v ≤ 9223372036854775807) (w : World) : Calls Tryd.prog 18 #[.int .i64 v] w fun e w' => e = .returned (.string ⟨(textL v).toArray⟩) ∧ Below w.heap.size w w' := by
  by_cases hv : v < 0
  · obtain ⟨u, rfl⟩ : ∃ u : Nat, v = -(u : Int) := ⟨v.natAbs, by omega⟩
    have hwr : IntKind.u64.wrap (-IntKind.u64.wrap (-(u : Int))) = (u : Int) := by rw [IntKind.wrap_u64, IntKind.wrap_u64]; omega
    have hc := fun W => in_any u 10 (by omega) (Or.inl rfl) W
    have hl := dgs_len 10 (by omega) 20 u (by omega) (by omega)
    have HT : Hid (textL (-(u : Int)) = 45 :: dgs 10 u) := by
      show textL _ = _
      unfold textL; rw [if_pos hv]; congr 2; omega
    have hadd : ∀ W, (Op.stringOp .add (ByteArray.mk #[45]) ⟨(dgs 10 u).toArray⟩).run Tryd.prog W = .ok (.string ⟨(45 :: dgs 10 u).toArray⟩) W := fun W => by
      rw [run_string_add_sum W _ _ (by rw [size_mk (dgs 10 u)]; show 1 + _ ≤ _; omega)]
      have := add_mk [45] (dgs 10 u)
      show Result.ok (Value.string (ByteArray.mk [45].toArray ++ _)) W = _
      rw [this]; rfl
    go_enter Tryd.func18, Tryd.ntmps18
    go_wp2_with (go_at_call 28; refine (hc _).mono ?_; rintro e w1 ⟨rfl, hb1⟩)
    go_ret
    exact ⟨by rw [HT.out]; rfl, hb1⟩
  · obtain ⟨u, rfl⟩ : ∃ u : Nat, v = (u : Int) := ⟨v.toNat, by omega⟩
    have hc := fun W => in_any u 10 (by omega) (Or.inl rfl) W
    have HT : Hid (textL (u : Int) = dgs 10 u) := by
      show textL _ = _
      unfold textL; rw [if_neg hv]; rfl
    have hv' : (0 : Int) ≤ u := by omega
    go_enter Tryd.func18, Tryd.ntmps18
    go_wp2_with (go_at_call 28; refine (hc _).mono ?_; rintro e w1 ⟨rfl, hb1⟩)
    go_ret
    exact ⟨by rw [HT.out]; rfl, hb1⟩
end Go.Proofs.YtbhgchhoeokjhaaDoor

/- Numbers' texts: FormatInt, Itoa, word.Text; the reference's Text. -/
import Derived.Test.YtbhgchhoeokjhabDoorS1
import Derived.Test.YtbhgchhoeokjhabDoorM2
import Derived.Test.YtbhgchhoeokjhabDoorShelf
import Derived.Lib.Walk
import Derived.Lib.ItoaMem
import Derived.Lib.AppendIntMem
import Derived.WalkKit
import Derived.BigCall
import Derived.BigGuard
import Derived.BigQuiet
namespace Go.Proofs.YtbhgchhoeokjhabDoor
open Go.RowKit M
set_option linter.unusedSimpArgs false
set_option linter.unusedVariables false

/-- The library's table of the powers of ten. -/
def Tab10 (w : World) : Prop := Lib.TabIs Tryd.prog w "internal/strconv.uint64pow10" .u64 Lib.pow10Tab
theorem Tab10.below {w w' : World} (h : Tab10 w) (hb : Below w.heap.size w w') : Tab10 w' := by
  unfold Tab10 Lib.TabIs World.var? at *
  cases hg : Tryd.prog.globalNamed "internal/strconv.uint64pow10" with
  | none => simp [hg] at h
  | some g =>
    simp only [hg, Option.bind_some] at h ⊢
    have hlt : g < w.heap.size := by
      rcases Nat.lt_or_ge g w.heap.size with h' | h'
      · exact h'
      · rw [Array.getElem?_eq_none h'] at h; simp at h
    rw [hb.block g hlt]
    exact h

theorem fmtI10 (n : Int) (h0 : -9223372036854775808 ≤ n) (h1 : n ≤ 9223372036854775807) (w : World) (htab : Tab10 w) :
    Calls Tryd.prog 48 #[.int .i64 n, .int .i64 10] w fun e w' => e = .returned (.string ⟨(Lib.itoa n).toArray⟩) ∧ Below w.heap.size w w' := by
  go_enter Tryd.func48, Tryd.ntmps48
  go_wp2_with (go_at_call 63; refine (Tryd.internal_strconv_FormatInt_10 n h0 h1 _ htab).mono ?_; rintro e w1 ⟨rfl, k, os, hw1⟩; have hb1 : Below w.heap.size w w1 := (by rw [hw1]; exact Lib.below_grow _ w (Nat.le_refl _) k os); clear hw1)
  go_ret
  exact ⟨rfl, hb1⟩
theorem dec_dgs (u : Nat) : Lib.decDigits u = dgs 10 u := by
  induction u using Nat.strongRecOn with
  | _ u ih =>
      by_cases h : u < 10
      · rw [Lib.decDigits, dif_pos h, dgs_small h]; unfold hexD; rw [if_pos h]
      · rw [Lib.decDigits, dif_neg h, dgs_great (by omega) h, ih (u / 10) (by omega)]
        have : u % 10 < 10 := Nat.mod_lt _ (by omega)
        congr 2; unfold hexD; rw [if_pos this]

/-- A value's text. -/
def textL (v : Int) : List UInt8 := if v < 0 then 45 :: dgs 10 v.natAbs else dgs 10 v.toNat
theorem itoa_text (v : Int) : Lib.itoa v = textL v := by unfold Lib.itoa textL; rw [dec_dgs, dec_dgs]
set_option maxRecDepth 100000 in
theorem text_any (v : Int) (h0 : -9223372036854775808 ≤ v) (h1 : v ≤ 9223372036854775807) (w : World) (hT : Tab10 w) : Calls Tryd.prog 37 #[.int .i64 v] w fun e w' => e = .returned (.string ⟨(textL v).toArray⟩) ∧ Below w.heap.size w w' := by
  have hc := fmtI10 v h0 h1 w hT
  rw [itoa_text] at hc
  go_enter Tryd.func37, Tryd.ntmps37
  go_wp2_with (go_at_call 48; refine hc.mono ?_; rintro e w1 ⟨rfl, hb1⟩)
  go_ret
  exact ⟨rfl, hb1⟩
theorem itoa_any (v : Int) (h0 : -9223372036854775808 ≤ v) (h1 : v ≤ 9223372036854775807) (w : World) (hT : Tab10 w) : Calls Tryd.prog 47 #[.int .i64 v] w fun e w' => e = .returned (.string ⟨(textL v).toArray⟩) ∧ Below w.heap.size w w' := by
  have := Tryd.strconv_Itoa v h0 h1 w hT
  refine this.mono ?_
  rintro e w1 ⟨rfl, k, os, hw1⟩
  exact ⟨by rw [itoa_text], by rw [hw1]; exact Lib.below_grow _ w (Nat.le_refl _) k os⟩
theorem add_mk (a b : List UInt8) : (ByteArray.mk a.toArray) ++ (ByteArray.mk b.toArray) = ByteArray.mk (a ++ b).toArray := by
  rw [ByteArray.mk_append_mk]
theorem size_mk (a : List UInt8) : (ByteArray.mk a.toArray).size = a.length := by show a.toArray.size = _; simp
/-- The reference's digits. -/
def tbl16 : ByteArray := ⟨#[48, 49, 50, 51, 52, 53, 54, 55, 56, 57, 97, 98, 99, 100, 101, 102]⟩
theorem tbl16_all : ∀ d : Fin 16, (tbl16.extract d.val (d.val + 1)).data.toList = [hexD d.val] := by decide
theorem tbl16_at {d : Nat} (h : d < 16) : tbl16.extract d (d + 1) = ⟨[hexD d].toArray⟩ := by
  have := tbl16_all ⟨d, h⟩
  cases e : tbl16.extract d (d + 1) with
  | mk a =>
    have h2 : (tbl16.extract d (d + 1)).data.toList = [hexD d] := this
    rw [e] at h2
    have : a = [hexD d].toArray := by
      apply Array.toList_inj.mp
      simpa using h2
    rw [this]

end Go.Proofs.YtbhgchhoeokjhabDoor

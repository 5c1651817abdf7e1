/- strconv.FormatUint at base 16. -/
import Derived.Test.YtlmnlfnodbfgiaaDoorF1
import Derived.Test.YtlmnlfnodbfgiaaDoorM2
import Derived.Test.YtlmnlfnodbfgiaaDoorS0
import Derived.Lib.TrailingZeros
import Derived.Laws.Bits64b
namespace Go.Proofs.YtlmnlfnodbfgiaaDoor
open Go.RowKit M
set_option linter.unusedSimpArgs false
set_option linter.unusedVariables false

/-- The library's table of trailing noughts. -/
def TabAt (w : World) : Prop := ∀ j, j < 64 → w.cell? ⟨2, j, none⟩ = some (.int .u8 (Lib.deBruijn64tab.getD j 0 : Nat))
theorem TabAt.pos {w : World} (h : TabAt w) : 2 < w.heap.size := by
  have := h 0 (by decide)
  by_cases hz : 2 < w.heap.size
  · exact hz
  · exfalso
    have hn : w.heap[2]? = none := Array.getElem?_eq_none (by omega)
    simp [World.cell?, hn] at this
theorem TabAt.below {w w' : World} (h : TabAt w) (hb : Below w.heap.size w w') : TabAt w' := fun j hj => (hb.cell (p := ⟨2, j, none⟩) h.pos).trans (h j hj)

theorem tz16_in (w : World) (hT : TabAt w) : Calls Tryd.prog 45 #[.int .u64 16] w fun e w' => e = .returned (.int .i64 4) ∧ w' = w := by
  have hc : w.cell? ⟨2, 15, none⟩ = some (.int .u8 4) := hT 15 (by decide)
  have key : IntKind.u64.wrap (bits BinOp.and IntKind.u64 16 (IntKind.u64.wrap (-16)) * 285870213051353865) / 288230376151711744 = 15 := by decide
  go_enter Tryd.func45, Tryd.ntmps45
  go_wp2
  go_ret
  exact ⟨rfl, rfl⟩
theorem tz16 (w : World) (hT : TabAt w) : Calls Tryd.prog 43 #[.int .u64 16] w fun e w' => e = .returned (.int .i64 4) ∧ w' = w := by
  go_enter Tryd.func43, Tryd.ntmps43
  go_wp2_with (go_at_call 45; refine (tz16_in _ hT).mono ?_; rintro e w' ⟨rfl, hw'⟩; replace hw' := hw'.symm; subst hw')
  go_ret
  exact ⟨rfl, rfl⟩
theorem pow16 (w : World) : Calls Tryd.prog 42 #[.int .i64 16] w fun e w' => e = .returned (.bool true) ∧ w' = w := by
  have key : bits .and .i64 16 15 = 0 := by decide
  go_enter Tryd.func42, Tryd.ntmps42
  go_wp2
  go_ret
  exact ⟨rfl, rfl⟩

/-- Sixty-five bytes lie in a block of their own. -/
def Arr (w : World) (b : Nat) (cs : Array Value) : Prop := w.heap[b]? = some (.cells cs 64) ∧ cs.size = 65
theorem Arr.cell {w : World} {b : Nat} {cs : Array Value} (h : Arr w b cs) (j : Nat) : w.cell? ⟨b, j, none⟩ = cs[j]? := cell_of_row w b j cs 64 (0, 0) h.1
theorem Arr.frozen {w : World} {b : Nat} {cs : Array Value} (h : Arr w b cs) (j : Nat) : w.frozen? ⟨b, j, none⟩ = false := by
  have h' : w.heap[b]? = some (.cells cs 64 (0, 0)) := h.1
  simp [World.frozen?, h']
theorem Arr.set {w : World} {b : Nat} {cs : Array Value} (h : Arr w b cs) (j : Nat) (v : Value) : Arr (w.setCell ⟨b, j, none⟩ v) b (cs.setIfInBounds j v) := by
  have h' : w.heap[b]? = some (.cells cs 64 (0, 0)) := h.1
  refine ⟨?_, by rw [Array.size_setIfInBounds]; exact h.2⟩
  show (w.heap.modify b _)[b]? = _
  rw [Array.getElem?_modify, if_pos rfl, h']
  rfl
theorem z64 : Tryd.t64.zero = some (.agg (Array.replicate 65 (.int .u8 0))) := by kernel_rfl
theorem zero64 (w : World) : (zeroValue 64).run Tryd.prog w = .ok (.agg (Array.replicate 65 (.int .u8 0))) w := by
  unfold zeroValue
  simp [z64]
section
variable {ops : Array Oper} {rest : List Oper} {op : Oper} {a : Act} {w : World} {Q : Exit → Act → World → Prop}
theorem wpList_storeA (hgd : op.guard = none) (x y : Operand) (ho : op.op = .store 5 x y) {b j : Nat} (hx : a.eval x = .pointer (some ⟨b, j, none⟩)) {z : Int} (hy : a.eval y = .int .u8 z) {cs : Array Value} (hc : Arr w b cs) (hj : j < 65)
    (h : ∀ W, Upd w W b → Arr W b (cs.setIfInBounds j (.int .u8 z)) → wpList Tryd.prog ops Q rest (a.put op.dst undef) W) : wpList Tryd.prog ops Q (op :: rest) a w := by
  refine wpList_plain hgd fun K hK => ?_
  unfold Oper.wp execOp
  have h1 : w.cell? ⟨b, j, none⟩ = some cs[j]! := by
    rw [hc.cell j, Array.getElem?_eq_getElem (by rw [hc.2]; exact hj), getElem!_pos cs j (by rw [hc.2]; exact hj)]
  have h2 := hc.frozen j
  simp only [ho, hx, hy]
  simp [go_sem, Value.cells, h1, h2]
  exact hK _ _ (h _ (Upd.setCell w b j _) (hc.set j _))
theorem wpList_allocA (hgd : op.guard = none) (ho : op.op = .alloc 64)
    (h : ∀ W b, Fresh w W b → Arr W b (Array.replicate 65 (.int .u8 0)) → wpList Tryd.prog ops Q rest (a.put op.dst (.pointer (some ⟨b, 0, none⟩))) W) : wpList Tryd.prog ops Q (op :: rest) a w := by
  refine wpList_plain hgd fun K hK => ?_
  unfold Oper.wp execOp
  have hz := zero64 w
  simp only [ho, Instr.alloc, Sem.run_bind, hz, Result.andThen_ok]
  simp [go_sem, Value.cells]
  exact hK _ _ (h _ _ (Fresh.alloc w _) ⟨heap_alloc_last w _, by simp⟩)
end

/-- The digits l stand in the bytes from k on. -/
def DigAt (cs : Array Value) (k : Nat) (l : List UInt8) : Prop := ∀ j (hj : j < l.length), cs[k + j]? = some (.int .u8 (l[j].toNat : Int))

/-- The library's digits. -/
def tbl36 : ByteArray := ⟨#[48, 49, 50, 51, 52, 53, 54, 55, 56, 57, 97, 98, 99, 100, 101, 102, 103, 104, 105, 106, 107, 108, 109, 110, 111, 112, 113, 114, 115, 116, 117, 118, 119, 120, 121, 122]⟩
theorem tbl_all : ∀ d : Fin 16, (tbl36.data.toList.getD d.val 0) = hexD d.val := by decide
theorem tbl_at {d : Nat} (h : d < 16) (h' : d < tbl36.size) : ((tbl36[d]'h').toNat : Int) = ((hexD d).toNat : Int) := by
  have := tbl_all ⟨d, h⟩
  have e : tbl36[d]'h' = tbl36.data.toList.getD d 0 := by
    rw [List.getD_eq_getElem?_getD, List.getElem?_eq_getElem (by simpa using h')]; rfl
  rw [e, this]
theorem DigAt.cons {cs : Array Value} {k : Nat} {l : List UInt8} {c : UInt8} {z : Int} (hs : cs.size = 65) (hk : k < 65) (h : DigAt cs (k + 1) l) (hz : z = (c.toNat : Int)) : DigAt (cs.setIfInBounds k (.int .u8 z)) k (c :: l) := by
  intro j hj
  cases j with
  | zero => rw [Array.getElem?_setIfInBounds]; simp [hs, hk, hz]
  | succ j =>
      rw [Array.getElem?_setIfInBounds, if_neg (by omega)]
      have := h j (by simpa using hj)
      rw [show k + (j + 1) = k + 1 + j by omega, this]; rfl

set_option maxRecDepth 100000 in
set_option maxHeartbeats 4000000 in
theorem bits16 (u : Nat) (hu : u < 18446744073709551616) (w : World) (hT : TabAt w) :
    Calls Tryd.prog 36 #[.slice none 0 0, .int .u64 u, .int .i64 16, .bool false, .bool false] w fun e w' => e = .returned (.tuple #[.slice none 0 0, .string ⟨(dgs 16 u).toArray⟩]) ∧ Below w.heap.size w w' := by
  have HL : Hid ((dgs 16 u).length ≤ 16) := dgs_len 16 (by omega) 16 u (Nat.lt_of_lt_of_le hu (by decide)) (by omega)
  go_enter Tryd.func36, Tryd.ntmps36
  go_wp2_with (first
    | (refine wpList_allocA rfl rfl ?_; intro W1 b F1 A1; have B1 := F1.trans (Below.refl _ _) (Nat.le_refl _); have hb1 : w.heap.size ≤ b := Nat.le_of_eq F1.at'.symm; have hT1 := hT.below B1; clear F1)
    | (go_at_call 42; refine (pow16 _).mono ?_; rintro e w' ⟨rfl, hw'⟩; replace hw' := hw'.symm; subst hw')
    | (go_at_call 43; refine (tz16 _ hT1).mono ?_; rintro e w' ⟨rfl, hw'⟩; replace hw' := hw'.symm; subst hw'))
  go_loopw [1, 13] (fun v i wr => ∃ (U k : Nat) (l : List UInt8) (cs : Array Value), v = .int .u64 (U : Int) ∧ i = .int .i64 (k : Int) ∧ U < 18446744073709551616 ∧ k + l.length = 65 ∧ Arr wr b cs ∧ Below w.heap.size w wr ∧ Hid (DigAt cs k l) ∧ Hid (dgs 16 u = dgs 16 U ++ l)) (fun v _ _ => (intOf v).toNat)
  case atStart => exact ⟨u, 65, [], _, rfl, rfl, hu, rfl, A1, B1, fun j hj => absurd hj (by simp), by show _ = _; simp⟩
  case round =>
    obtain ⟨U, k, l, cs, rfl, rfl, hU, hk, A2, B2, HD, HE⟩ := hrel
    have hlen : (dgs 16 U).length + l.length ≤ 16 := by have h1 := HL.out; rw [HE.out, List.length_append] at h1; exact h1
    have hp := dgs_pos 16 U
    obtain ⟨k, rfl⟩ : ∃ k', k = k' + 1 := ⟨k - 1, by omega⟩
    have hsz := A2.2
    by_cases h16 : U < 16
    · have h16' : ¬ (16 : Int) ≤ U := by omega
      go_wp2_with (first
        | (refine wpList_storeA rfl _ _ rfl rfl rfl A2 (by omega) ?_; intro W3 U3 A3; clear A2; refine Hid.out ?_))
      refine Lib.hid ?_
      have hdg : DigAt (cs.setIfInBounds k (.int .u8 _)) k (hexD U :: l) := HD.out.cons hsz (by omega) (tbl_at h16 (Nat.lt_of_lt_of_le h16 (by decide)))
      have HL2 : Hid (dgs 16 u = hexD U :: l) := by show _ = _; rw [HE.out, dgs_small h16]; rfl
      obtain ⟨L, hL⟩ : ∃ L, hexD U :: l = L := ⟨_, rfl⟩
      have hLl : k + L.length = 65 := by rw [← hL, List.length_cons]; omega
      rw [hL] at hdg HL2
      have hal : Tryd.prog.arrayLen 64 = 65 := by simp [Program.arrayLen, Tryd.underlying64]
      have hsl : ∀ W, (Instr.sliceAt 64 (.pointer (some ⟨b, 0, none⟩)) (some (.int .i64 (k : Int))) none none).run Tryd.prog W = .ok (.slice (some ⟨b, k, none⟩) L.length L.length) W := fun W => by
        rw [run_sliceAt_array_l W 64 ⟨b, 0, none⟩ (by simp [Program.arrayLen, Program.elem, Tryd.underlying64]) .i64 (k : Int) (by omega) (by rw [hal]; omega)]
        go_simp
        omega
      have hcv := run_convert_bytes_back (P := Tryd.prog) W3 46 9 5 ⟨b, k, none⟩ L.length L Tryd.underlying46 Tryd.underlying5 Tryd.underlying9 (fun j hj => by rw [Lib.add_plain, A3.cell]; exact hdg j hj)
      clear hal hL hdg HD HE
      go_wp2
      go_ret2
      exact ⟨by rw [HL2.out]; rfl, U3.trans B2 hb1⟩
    · have h16' : (16 : Int) ≤ U := by omega
      have hand : bits .and .u64 (U : Int) 15 = ((U % 16 : Nat) : Int) := by
        have := bits_mask .u64 64 (by decide) wraps_u64 4 (by decide) (U : Int) (by omega) (by omega)
        simpa using this
      go_wp2_with (first
        | (refine wpList_storeA rfl _ _ rfl rfl rfl A2 (by omega) ?_; intro W3 U3 A3; clear A2))
      go_roundw
      case rel =>
        refine ⟨U / 16, k, hexD (U % 16) :: l, _, rfl, rfl, by omega, by rw [List.length_cons]; omega, A3, U3.trans B2 hb1, HD.out.cons hsz (by omega) (tbl_at (Nat.mod_lt _ (by decide)) _), ?_⟩
        show _ = _
        rw [HE.out, dgs_great (by omega) h16, List.append_assoc]; rfl
      case measure => simp [intOf]; omega
end Go.Proofs.YtlmnlfnodbfgiaaDoor

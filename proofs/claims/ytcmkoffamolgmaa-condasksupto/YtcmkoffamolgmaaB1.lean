/- Compare at int, Or, strings.Compare; compareRefs. -/
import Derived.Test.YtcmkoffamolgmaaA6
import Derived.Test.YtcmkoffamolgmaaShelf
import Derived.Deep.QuietTactic
import Derived.BigQuiet
import Derived.Sort.Grow
import Derived.Lib.Bytealg
namespace Go.Proofs.Ytcmkoffamolgmaa
open Go Go.RowKit M
set_option linter.unusedSimpArgs false
set_option linter.unusedVariables false

/-- Draws and new blocks alone. -/
def Grew (w w' : World) : Prop := ∃ q os, w' = Go.Sort.grow (w.drewN q) os
theorem Grew.refl (w : World) : Grew w w := ⟨0, #[], by rw [Go.Sort.grow_empty]; rfl⟩
theorem Grew.alloc (w : World) (o : Obj) : Grew w (w.alloc o) := ⟨0, #[o], by rw [Go.Sort.alloc_eq_grow]; rfl⟩
theorem Grew.drewN (w : World) (n : Nat) : Grew w (w.drewN n) := ⟨n, #[], by rw [Go.Sort.grow_empty]⟩
theorem Grew.trans {a b c : World} (h : Grew a b) (k : Grew b c) : Grew a c := by
  obtain ⟨q, os, rfl⟩ := h
  obtain ⟨q', os', rfl⟩ := k
  refine ⟨q + q', os ++ os', ?_⟩
  rw [← Go.Sort.grow_grow]
  simp [Go.Sort.grow, World.drewN, Nat.add_assoc]
section
variable {w : World} {ops : Array Oper} {rest : List Oper} {op : Oper} {a : Act} {Q : Exit → Act → World → Prop}
theorem wpList_boxGr (hgd : op.guard = none) (ty : TypeId) (x : Operand) (ho : op.op = .box ty x) (vs : List Value) (hx : a.eval x = .agg vs.toArray)
    (h : ∀ W b, Fresh w W b → Grew w W → IsS W b ty vs → wpList Try.prog ops Q rest (a.put op.dst (.pointer (some ⟨b, 0, none⟩))) W) : wpList Try.prog ops Q (op :: rest) a w := by
  refine wpList_plain hgd fun K hK => ?_
  unfold Oper.wp execOp
  simp only [ho, hx]
  have hb : (Instr.box ty (.agg vs.toArray)).run Try.prog w = .ok (.pointer (some ⟨w.heap.size, 0, none⟩)) (w.alloc (.cells vs.toArray ty)) := by
    simp [go_sem, Value.cells]
  simp only [Sem.run_bind, hb, Result.andThen_ok, Sem.run_pure]
  exact hK _ _ (h _ _ (Fresh.alloc w _) (Grew.alloc w _) (IsS.new w ty vs))
/-- A row of two numbers. -/
theorem wpList_build2I (hgd : op.guard = none) (x y : Operand) (ho : op.op = .buildSlice 64 2 #[(0, x), (1, y)]) (n m : Int) (hx : a.eval x = .int .i64 n) (hy : a.eval y = .int .i64 m)
    (h : ∀ W b, Grew w W → IsS W b 3 [.int .i64 n, .int .i64 m] → wpList Try.prog ops Q rest (a.put op.dst (.slice (some ⟨b, 0, none⟩) 2 2)) W) : wpList Try.prog ops Q (op :: rest) a w := by
  obtain ⟨i, hi, hz, hk, _⟩ := eInt.info
  refine wpList_plain hgd fun K hK => ?_
  unfold Oper.wp
  have he : (execOp a.eval op).run Try.prog w = .ok (.value (.slice (some ⟨w.heap.size, 0, none⟩) 2 2)) (w.alloc (.cells #[.int .i64 n, .int .i64 m] 3)) := by
    generalize a.eval = ev at hx hy ⊢
    unfold execOp
    simp only [ho]
    simp [Instr.buildSlice, Instr.fill, run_underlying eInt.und, sizeOf, typeInfo, zeroValue, hi, hk, hz, hx, hy, Value.cells, newRow, show Array.range 2 = #[0, 1] from rfl]
  rw [he]
  exact hK _ _ (h _ _ (Grew.alloc w _) (IsS.new w 3 _))
end
theorem compI (x y : Int) : Lib.compareInt x y = cmI x y := by
  unfold Lib.compareInt cmI
  by_cases h1 : x < y
  · simp [h1]
  · by_cases h2 : y < x <;> simp [h1, h2]
theorem compareN_any (x y : Int) (w : World) : Calls Try.prog 27 #[.int .i64 x, .int .i64 y] w fun e w' => e = .returned (.int .i64 (cmI x y)) ∧ w' = w := by
  rw [← compI]; exact Try.cmp_Compare_int x y w
set_option maxHeartbeats 1000000 in
theorem cmpString_any (a b : ByteArray) (w : World) : Calls Try.prog 48 #[.string a, .string b] w fun e w' => e = .returned (.int .i64 (cmS a b)) ∧ w' = w := by
  go_enter Try.func48, Try.ntmps48
  go_wp2
  rw [run_callFunc_extern Try.func57 (by kernel_rfl) (by kernel_rfl) (by kernel_rfl) (e := Extern.BytealgCompare.compare) (by kernel_rfl), Lib.run_compareString]
  simp only [Result.andThen]
  rw [Oper.upon_value]
  go_wp2
  go_ret
  exact ⟨rfl, rfl⟩
set_option maxHeartbeats 1000000 in
theorem compareS_any (a b : ByteArray) (w : World) : Calls Try.prog 29 #[.string a, .string b] w fun e w' => e = .returned (.int .i64 (cmS a b)) ∧ w' = w := by
  go_enter Try.func29, Try.ntmps29
  go_wp2_with (go_at_call 48; refine (cmpString_any _ _ _).mono ?_; rintro e w' ⟨rfl, hw'⟩; replace hw' := hw'.symm; subst hw')
  go_ret
  exact ⟨rfl, rfl⟩
set_option maxRecDepth 100000 in
set_option maxHeartbeats 1000000 in
theorem or2_any (b : Nat) (x y : Int) (w : World) (I : IsS w b 3 [.int .i64 x, .int .i64 y]) : Calls Try.prog 28 #[.slice (some ⟨b, 0, none⟩) 2 2] w fun e w' => e = .returned (.int .i64 (if x ≠ 0 then x else y)) ∧ w' = w := by
  have c0 : w.cell? ⟨b, 0, none⟩ = some (.int .i64 x) := I.cell 0
  have c1 : w.cell? ⟨b, 1, none⟩ = some (.int .i64 y) := I.cell 1
  go_enter Try.func28, Try.ntmps28
  go_wp2
  go_loop [8] (fun i => ∃ k : Nat, k ≤ 2 ∧ i = .int .i64 (k : Int) ∧ Hid (0 < k → x = 0) ∧ Hid (1 < k → y = 0)) (fun i => 2 - (intOf i).toNat)
  case atStart => exact ⟨0, Nat.zero_le _, rfl, fun h => absurd h (Nat.lt_irrefl _), fun h => absurd h (by omega)⟩
  case round =>
    obtain ⟨k, hk, rfl, H0, H1⟩ := hrel
    by_cases e0 : k = 0
    · subst e0
      by_cases hx : x = 0
      · have HX : Hid (x = 0) := hx
        subst hx
        go_wp2
        go_round
        case rel => exact ⟨1, by omega, by go_num, fun _ => trivial, fun h => absurd h (by omega)⟩
        case measure => simp [intOf]
      · have HX : Hid ((if x ≠ 0 then x else y) = x) := if_pos hx
        have hb : (x != 0) = true := by simpa using hx
        go_wp2
        go_ret
        exact ⟨ret_int rfl, rfl⟩
    · by_cases e1 : k = 1
      · subst e1
        have hx : x = 0 := H0.out (by omega)
        subst hx
        by_cases hy : y = 0
        · subst hy
          go_wp2
          go_round
          case rel => exact ⟨2, by omega, by go_num, fun _ => trivial, fun _ => trivial⟩
          case measure => simp [intOf]
        · have hb : (y != 0) = true := by simpa using hy
          clear H0 H1
          go_wp2
          go_ret
          exact ⟨by simp, rfl⟩
      · have e2 : k = 2 := by omega
        subst e2
        have hx : x = 0 := H0.out (by omega)
        have hy : y = 0 := H1.out (by omega)
        subst hx hy
        clear H0 H1
        go_wp2
        go_ret
        exact ⟨rfl, rfl⟩
end Go.Proofs.Ytcmkoffamolgmaa

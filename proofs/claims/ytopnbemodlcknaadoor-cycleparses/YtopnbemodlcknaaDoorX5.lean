/- Both Names; front, behind, both Places. -/
import Derived.Test.YtopnbemodlcknaaDoorX4
import Derived.Test.YtopnbemodlcknaaDoorD3
import Derived.Test.YtopnbemodlcknaaDoorShelf
import Derived.Test.YtopnbemodlcknaaDoorS1
namespace Go.Proofs.YtopnbemodlcknaaDoor
open Go.RowKit M
set_option linter.unusedSimpArgs false
set_option linter.unusedVariables false

/-- Whether a text is a name. -/
def nameB (l : List UInt8) : Bool := decide (0 < l.length ∧ l.length ≤ 64 ∧ nameLen l = l.length)

/-- A spot as a value. -/
def spotV (p : Nat × Nat) : Value := .agg #[.int .i64 (p.1 : Nat), .int .i64 (p.2 : Nat)]

set_option maxRecDepth 100000 in
set_option maxHeartbeats 1000000 in
theorem front_any (w : World) : Calls Tryd.prog 25 #[] w fun e w' => e = .returned (spotV (1, 1)) ∧ Below w.heap.size w w' := by
  go_enter Tryd.func25, Tryd.ntmps25
  go_wp2
  exact bodyPost_ret (v := .agg #[.int .i64 1, .int .i64 1]) (by simp [results, Tryd.results25, go_sem]) rfl ⟨rfl, (Below.refl _ _).alloc (Nat.le_refl _) _⟩

set_option maxRecDepth 100000 in
set_option maxHeartbeats 1000000 in
theorem behind_any (a b : Nat) (s : ByteArray) (hs : s.size < 4611686018427387904) (ha : a < 2305843009213693952) (hb : b < 2305843009213693952) (w : World) :
    Calls Tryd.prog 42 #[.agg #[.int .i64 (a : Int), .int .i64 (b : Int)], .string s] w fun e w' => e = .returned (spotV (spotF (a, b) s.data.toList)) ∧ Below w.heap.size w w' := by
  have hLast := fun w => Tryd.strings_LastIndexByte s 10 hs w
  rcases spot_lib s (a, b) with ⟨h1, h2⟩ | ⟨i, hi, h1, h2⟩
  · rw [h1] at hLast
    have hE : Hid (spotF (a, b) s.data.toList = (a, b + s.size)) := h2
    clear h1 h2
    go_enter Tryd.func42, Tryd.ntmps42
    go_wp2_with (go_at_call 53; refine (hLast _).mono ?_; rintro e w' ⟨rfl, hw'⟩; replace hw' := hw'.symm; subst hw')
    refine bodyPost_ret (v := .agg #[.int .i64 (a : Int), .int .i64 ((b : Int) + s.size)]) (by simp [results, Tryd.results42, go_sem]) rfl ⟨?_, ((Below.refl _ _).alloc (Nat.le_refl _) _).alloc (by simp) _⟩
    rw [hE.out, spotV]
    simp
  · rw [h1] at hLast
    have hCnt := fun w => Tryd.strings_Count_one s 10 w
    have hcl : Lib.countByte s.data.toList 10 ≤ s.size := (by rw [sizeL]; exact List.count_le_length)
    have hE : Hid (spotF (a, b) s.data.toList = (a + Lib.countByte s.data.toList 10, s.size - i)) := h2
    clear h1 h2
    generalize Lib.countByte s.data.toList 10 = k at *
    have hj : ¬ ((i : Int) < 0) := by omega
    have hw1 : IntKind.i64.wrap ((a : Int) + k) = (a : Int) + k := by rw [IntKind.wrap_i64]; omega
    have hw2 : IntKind.i64.wrap ((s.size : Int) - i) = (s.size : Int) - i := by rw [IntKind.wrap_i64]; omega
    go_enter Tryd.func42, Tryd.ntmps42
    go_wp2_with (go_at_call 53; refine (hLast _).mono ?_; rintro e w' ⟨rfl, hw'⟩; replace hw' := hw'.symm; subst hw')
    go_region_with (go_at_call 54; refine (hCnt _).mono ?_; rintro e w' ⟨rfl, hw'⟩; replace hw' := hw'.symm; subst hw')
    all_goals go_wp2
    all_goals
      refine bodyPost_ret (v := .agg #[.int .i64 ((a : Int) + k), .int .i64 ((s.size : Int) - i)]) (by simp [results, Tryd.results42, go_sem, hw1, hw2]) rfl ⟨?_, ?_⟩
    all_goals first
      | (rw [hE.out, spotV]; simp; omega)
      | exact below_drew (((Below.refl _ _).alloc (Nat.le_refl _) _).alloc (by simp) _)

theorem info63 : (Tryd.prog.info? 75).map (·.size) = some 2 := by kernel_rfl
end Go.Proofs.YtopnbemodlcknaaDoor

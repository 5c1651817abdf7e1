/- OdoBack where the space is refused, or is not countable. -/
import Derived.Test.YtghfomammdbgoaaB4
namespace Go.Proofs.Ytghfomammdbgoaa
open Go.RowKit Go.Shelf Go.Sort K
set_option linter.unusedSimpArgs false
set_option linter.unusedVariables false

set_option maxRecDepth 100000 in
set_option maxHeartbeats 1000000 in
theorem back_bad (K N : Int) (a : Option Addr) (n cap : Nat) (p q : Int) (v : Value) (w : World) (er : Int) (her : (er == 0) = false) (hs : Hid (SpBad w (.agg #[.int .i64 K, .slice a n cap, .int .i64 N]) er)) :
    Calls Try.prog 5 #[.agg #[.int .i64 K, .slice a n cap, .int .i64 N], .int .u64 p, .int .u64 q, v] w fun e w' => e = .returned (.bool true) ∧ Below w.heap.size w w' := by
  have hB0 : Hid (Below w.heap.size w (w.alloc (.cells #[.int .i64 K, .slice a n cap, .int .i64 N] 24))) := (Below.refl _ w).alloc (Nat.le_refl _) _
  have her2 : ¬ (er = 0) := by simpa using her
  go_enter Try.func5, Try.ntmps5
  go_wp2_with (first
    | (go_at_call 20; refine (awake_any _).mono ?_; rintro e w1 ⟨rfl, hB1⟩
       have hB2 : Hid (Below w.heap.size w w1) := Below.then hB0.out hB1
       have hcel : ∀ i, w1.cell? ⟨w.heap.size, i, none⟩ = (w.alloc (.cells #[.int .i64 K, .slice a n cap, .int .i64 N] 24)).cell? ⟨w.heap.size, i, none⟩ := fun i => hB1.cell (p := ⟨w.heap.size, i, none⟩) (by simp)
       have hc0 : w1.cell? ⟨w.heap.size, 0, none⟩ = some (.int .i64 K) := (hcel 0).trans (by simp)
       have hc1 : w1.cell? ⟨w.heap.size, 1, none⟩ = some (.slice a n cap) := (hcel 1).trans (by simp)
       have hc2 : w1.cell? ⟨w.heap.size, 2, none⟩ = some (.int .i64 N) := (hcel 2).trans (by simp)
       clear hcel hB1)
    | (go_at_call 21; refine (hs.out _ hB2.out).mono ?_; rintro e w2 ⟨rfl, hB3⟩))
  go_ret
  exact ⟨rfl, Below.then hB2.out hB3⟩
set_option maxRecDepth 100000 in
set_option maxHeartbeats 1000000 in
theorem back_long (K N : Int) (a : Option Addr) (n cap : Nat) (p q : Int) (v : Value) (w : World) (m d : Nat) (In : List Int → Prop) (at' : Nat → List Int) (rk : List Int → Nat) (hm : ¬ m < 18446744073709551616) (hs : Hid (SpOk w (.agg #[.int .i64 K, .slice a n cap, .int .i64 N]) m d In at' rk)) :
    Calls Try.prog 5 #[.agg #[.int .i64 K, .slice a n cap, .int .i64 N], .int .u64 p, .int .u64 q, v] w fun e w' => e = .returned (.bool true) ∧ Below w.heap.size w w' := by
  have hB0 : Hid (Below w.heap.size w (w.alloc (.cells #[.int .i64 K, .slice a n cap, .int .i64 N] 24))) := (Below.refl _ w).alloc (Nat.le_refl _) _
  go_enter Try.func5, Try.ntmps5
  go_wp2_with (first
    | (go_at_call 20; refine (awake_any _).mono ?_; rintro e w1 ⟨rfl, hB1⟩
       have hB2 : Hid (Below w.heap.size w w1) := Below.then hB0.out hB1
       have hcel : ∀ i, w1.cell? ⟨w.heap.size, i, none⟩ = (w.alloc (.cells #[.int .i64 K, .slice a n cap, .int .i64 N] 24)).cell? ⟨w.heap.size, i, none⟩ := fun i => hB1.cell (p := ⟨w.heap.size, i, none⟩) (by simp)
       have hc0 : w1.cell? ⟨w.heap.size, 0, none⟩ = some (.int .i64 K) := (hcel 0).trans (by simp)
       have hc1 : w1.cell? ⟨w.heap.size, 1, none⟩ = some (.slice a n cap) := (hcel 1).trans (by simp)
       have hc2 : w1.cell? ⟨w.heap.size, 2, none⟩ = some (.int .i64 N) := (hcel 2).trans (by simp)
       clear hcel hB1)
    | (go_at_call 21; refine (hs.out _ hB2.out).mono ?_; rintro e w2 ⟨⟨b, rfl, F, _⟩, hB3⟩
       have hlen := F.len w2 (Below.refl _ _)
       rw [lenV, if_neg hm] at hlen
       clear F)
    | (go_at_call 9; refine hlen.mono ?_; rintro e w4 ⟨rfl, hB4⟩; clear hlen))
  go_ret
  exact ⟨rfl, Below.then (Below.then hB2.out hB3) hB4⟩
end Go.Proofs.Ytghfomammdbgoaa

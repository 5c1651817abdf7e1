/- The space that a law's kind names. -/
import Derived.Test.YtghfomammdbgoaaA6
import Derived.Test.YtghfomammdbgoaaL1
namespace Go.Proofs.Ytghfomammdbgoaa
open Go.RowKit Go.Shelf Go.Sort K
set_option linter.unusedSimpArgs false
set_option linter.unusedVariables false

set_option maxRecDepth 100000 in
set_option maxHeartbeats 1000000 in
theorem space_0 (K N : Int) (a : Option Addr) (n cap : Nat) (w : World) (R : Value → Int → World → Prop) (h : ((IntKind.u64.wrap K).tmod 3 == 0) = true)
    (c : Hid (∀ W, Below w.heap.size w W → Calls Try.prog 22 #[.slice a n cap] W fun e w' => (∃ p er, e = .returned (.tuple #[p, .int .i64 er]) ∧ R p er w') ∧ Below W.heap.size W w')) :
    Calls Try.prog 21 #[.agg #[.int .i64 K, .slice a n cap, .int .i64 N]] w fun e w' => (∃ p er, e = .returned (.tuple #[p, .int .i64 er]) ∧ R p er w') ∧ Below w.heap.size w w' := by
  have hB0 : Hid (Below w.heap.size w (w.alloc (.cells #[.int .i64 K, .slice a n cap, .int .i64 N] 24))) := (Below.refl _ w).alloc (Nat.le_refl _) _
  go_enter Try.func21, Try.ntmps21
  go_wp2_with (first
    | (go_at_call 22; refine (c.out _ hB0.out).mono ?_; rintro e w1 ⟨⟨p, er, rfl, hR⟩, hB1⟩; replace hR : Hid _ := hR))
  go_ret2
  exact ⟨⟨p, er, rfl, hR.out⟩, Below.then hB0.out hB1⟩

set_option maxRecDepth 100000 in
set_option maxHeartbeats 1000000 in
theorem space_1 (K N : Int) (a : Option Addr) (n cap : Nat) (w : World) (R : Value → Int → World → Prop) (h : ((IntKind.u64.wrap K).tmod 3 == 0) = false) (h1 : ((IntKind.u64.wrap K).tmod 3 == 1) = true)
    (c : Hid (∀ W, Below w.heap.size w W → Calls Try.prog 23 #[.int .i64 N] W fun e w' => (∃ p er, e = .returned (.tuple #[p, .int .i64 er]) ∧ R p er w') ∧ Below W.heap.size W w')) :
    Calls Try.prog 21 #[.agg #[.int .i64 K, .slice a n cap, .int .i64 N]] w fun e w' => (∃ p er, e = .returned (.tuple #[p, .int .i64 er]) ∧ R p er w') ∧ Below w.heap.size w w' := by
  have hB0 : Hid (Below w.heap.size w (w.alloc (.cells #[.int .i64 K, .slice a n cap, .int .i64 N] 24))) := (Below.refl _ w).alloc (Nat.le_refl _) _
  go_enter Try.func21, Try.ntmps21
  go_wp2_with (first
    | (go_at_call 23; refine (c.out _ hB0.out).mono ?_; rintro e w1 ⟨⟨p, er, rfl, hR⟩, hB1⟩; replace hR : Hid _ := hR))
  go_ret2
  exact ⟨⟨p, er, rfl, hR.out⟩, Below.then hB0.out hB1⟩

set_option maxRecDepth 100000 in
set_option maxHeartbeats 1000000 in
theorem space_2 (K N : Int) (a : Option Addr) (n cap : Nat) (w : World) (R : Value → Int → World → Prop) (h : ((IntKind.u64.wrap K).tmod 3 == 0) = false) (h1 : ((IntKind.u64.wrap K).tmod 3 == 1) = false)
    (c : Hid (∀ W, Below w.heap.size w W → Calls Try.prog 26 #[.slice a n cap] W fun e w' => (∃ p er, e = .returned (.tuple #[p, .int .i64 er]) ∧ R p er w') ∧ Below W.heap.size W w')) :
    Calls Try.prog 21 #[.agg #[.int .i64 K, .slice a n cap, .int .i64 N]] w fun e w' => (∃ p er, e = .returned (.tuple #[p, .int .i64 er]) ∧ R p er w') ∧ Below w.heap.size w w' := by
  have hB0 : Hid (Below w.heap.size w (w.alloc (.cells #[.int .i64 K, .slice a n cap, .int .i64 N] 24))) := (Below.refl _ w).alloc (Nat.le_refl _) _
  go_enter Try.func21, Try.ntmps21
  go_wp2_with (first
    | (go_at_call 26; refine (c.out _ hB0.out).mono ?_; rintro e w1 ⟨⟨p, er, rfl, hR⟩, hB1⟩; replace hR : Hid _ := hR))
  go_ret2
  exact ⟨⟨p, er, rfl, hR.out⟩, Below.then hB0.out hB1⟩

end Go.Proofs.Ytghfomammdbgoaa

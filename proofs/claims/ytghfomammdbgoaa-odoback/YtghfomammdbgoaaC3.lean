/- OdoBack where the space is countable: no list, a list that is in it, a list that is not. -/
import Derived.Test.YtghfomammdbgoaaC2
namespace Go.Proofs.Ytghfomammdbgoaa
open Go.RowKit Go.Shelf Go.Sort K
set_option linter.unusedSimpArgs false
set_option linter.unusedVariables false

set_option maxRecDepth 100000 in
set_option maxHeartbeats 1000000 in
theorem back_zero (K N : Int) (a : Option Addr) (n cap : Nat) (p q : Int) (al : Option Addr) (cl : Nat) (xs : List Int) (w : World) (m d : Nat) (In : List Int → Prop) (at' : Nat → List Int) (rk : List Int → Nat) (hm : m = 0) (hs : Hid (SpOk w (.agg #[.int .i64 K, .slice a n cap, .int .i64 N]) m d In at' rk)) (hNx : Hid (Nums w al xs)) (hax : Hid (al = none → xs = [])) :
    Calls Try.prog 5 #[.agg #[.int .i64 K, .slice a n cap, .int .i64 N], .int .u64 p, .int .u64 q, .slice al xs.length cl] w fun e w' => e = .returned (.bool true) ∧ Below w.heap.size w w' := by
  have hB0 : Hid (Below w.heap.size w (w.alloc (.cells #[.int .i64 K, .slice a n cap, .int .i64 N] 24))) := (Below.refl _ w).alloc (Nat.le_refl _) _
  subst hm
  go_enter Try.func5, Try.ntmps5
  go_wp2_with (first
    | (go_at_call 20; refine (awake_any _).mono ?_; rintro e w1 ⟨rfl, hB1⟩
       have hB2 : Hid (Below w.heap.size w w1) := Below.then hB0.out hB1
       have hcel : ∀ i, w1.cell? ⟨w.heap.size, i, none⟩ = (w.alloc (.cells #[.int .i64 K, .slice a n cap, .int .i64 N] 24)).cell? ⟨w.heap.size, i, none⟩ := fun i => hB1.cell (p := ⟨w.heap.size, i, none⟩) (by simp)
       have hc0 : w1.cell? ⟨w.heap.size, 0, none⟩ = some (.int .i64 K) := (hcel 0).trans (by simp)
       have hc1 : w1.cell? ⟨w.heap.size, 1, none⟩ = some (.slice a n cap) := (hcel 1).trans (by simp)
       have hc2 : w1.cell? ⟨w.heap.size, 2, none⟩ = some (.int .i64 N) := (hcel 2).trans (by simp)
       clear hcel hB1)
    | (go_at_call 21; refine (hs.out _ hB2.out).mono ?_; rintro e w2 ⟨⟨b, rfl, F0, _⟩, hB3⟩
       clear hc0 hc1 hc2
       have F : Hid (Face w2 b 0 d In at' rk) := F0
       have G2 : Hid (Below w.heap.size w w2) := Below.then hB2.out hB3
       have hno : ¬ In xs := fun h => absurd (F0.there xs h).1 (by omega)
       have hlen := F0.len w2 (Below.refl _ _)
       rw [lenV, if_pos (by omega)] at hlen
       clear F0 hB3)
    | (go_at_call 9; refine hlen.mono ?_; rintro e w4 ⟨rfl, hB4⟩; clear hlen; have H4 : Hid (Below w2.heap.size w2 w4) := hB4; clear hB4)
    | (go_at_call 14; refine (F.out.none (by omega) _ H4.out al cl xs ((hNx.out.below G2.out).below H4.out) hax.out hno).mono ?_; rintro e w5 ⟨rfl, hB5⟩; have H5 : Hid (Below w2.heap.size w2 w5) := Below.then H4.out hB5; clear hB5))
  go_ret
  exact ⟨rfl, Below.then G2.out H5.out⟩
end Go.Proofs.Ytghfomammdbgoaa

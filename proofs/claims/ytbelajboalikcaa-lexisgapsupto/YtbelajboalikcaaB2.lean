/- awake. -/
import Derived.Test.YtbelajboalikcaaB1
namespace Go.Proofs.Ytbelajboalikcaa
open Go.RowKit Go.Shelf M
set_option linter.unusedSimpArgs false
set_option linter.unusedVariables false

def awT : List Tok := [⟨2, [48], 0, 1, 1, 0, 1⟩, ⟨4, [58], 0, 1, 2, 1, 2⟩, ⟨1, [69, 65, 88], 0, 1, 3, 2, 5⟩, ⟨4, [61], 0, 1, 6, 5, 6⟩, ⟨2, [45, 49], -1, 1, 7, 6, 8⟩]
theorem aw_rounds : rounds [48, 58, 69, 65, 88, 61, 45, 49] = awT.map Rd.tok ++ (none : Option Rd).toList := by kernel_rfl

set_option maxRecDepth 100000 in
set_option maxHeartbeats 2000000 in
theorem awake_any (w : World) : Calls Try.prog 24 #[] w fun e w' => e = .returned (.bool true) ∧ Below w.heap.size w w' := by
  have cA : ∀ w, Calls Try.prog 10 #[.string ⟨#[48, 58, 69, 65, 88, 61, 45, 49]⟩] w fun e w' => (∃ v, e = .returned (.tuple #[v, .nilIface]) ∧ w'.ownsRow w.heap.size 38 7 v 5 (cellsT awT)) ∧ Below w.heap.size w w' := fun w =>
    all_any ⟨#[48, 58, 69, 65, 88, 61, 45, 49]⟩ (by decide) awT none aw_rounds (fun t e => by cases e) (by decide) w
  go_enter Try.func24, Try.ntmps24
  go_wp2_with (first
    | (go_at_call 10; refine (cA _).mono ?_; rintro e W1 ⟨⟨v, rfl, hown⟩, B1⟩; clear cA; obtain ⟨aa, cp, rfl, hT⟩ := own_toks (gs := awT.map toG) (by rw [← cellsT_G]; exact hown) rfl; obtain ⟨b2, o2, rfl, _, r2⟩ := hT 2 (toG ⟨1, [69, 65, 88], 0, 1, 3, 2, 5⟩) rfl; obtain ⟨b4, o4, e4, _, r4⟩ := hT 4 (toG ⟨2, [45, 49], -1, 1, 7, 6, 8⟩) rfl; cases e4; clear hT hown; have c42 : W1.cell? ⟨b2, o2 + 28 + 2, none⟩ = some (.int .i64 (-1)) := r4 2 _ rfl; clear r4; have k0 : W1.cell? ⟨b2, o2 + 14, none⟩ = some (.int .i64 1) := r2 0 _ rfl; have k1 : W1.cell? ⟨b2, o2 + 14 + 1, none⟩ = some (.string ⟨#[69, 65, 88]⟩) := r2 1 _ rfl; have k2 : W1.cell? ⟨b2, o2 + 14 + 2, none⟩ = some (.int .i64 0) := r2 2 _ rfl; have k3 : W1.cell? ⟨b2, o2 + 14 + 3, none⟩ = some (.int .i64 1) := r2 3 _ rfl; have k4 : W1.cell? ⟨b2, o2 + 14 + 4, none⟩ = some (.int .i64 3) := r2 4 _ rfl; have k5 : W1.cell? ⟨b2, o2 + 14 + 5, none⟩ = some (.int .i64 2) := r2 5 _ rfl; have k6 : W1.cell? ⟨b2, o2 + 14 + 6, none⟩ = some (.int .i64 5) := r2 6 _ rfl))
  go_ret
  exact ⟨rfl, B1⟩
end Go.Proofs.Ytbelajboalikcaa

/- Several texts in one: K4, K6. -/
import Derived.Test.YtjnbhcakfenbhaaGreatDoorQam
/- number: one must stand next. -/
namespace Go.Proofs.YtjnbhcakfenbhaaGreatDoor
open Go.RowKit Go.Shelf M
set_option linter.unusedSimpArgs false
set_option linter.unusedVariables false

set_option maxRecDepth 100000 in
set_option maxHeartbeats 1000000 in
theorem number_yes (a : Option Addr) (cap k d : Nat) (v : Value) (gs : List GT) (g : GT) (hn : gs.length ≤ 1099511627776) (hk : k ≤ gs.length) (hg : gAt gs k = g) (hs : g.kind = 2) (br : Nat) (w : World) (hT : Toks w a gs) (hR : IsS w br 94 (rdL a gs.length cap k d v)) :
    Calls Tryz.prog 139 #[.pointer (some ⟨br, 0, none⟩)] w fun en w' => en = .returned (.int .i64 g.value) ∧ IsS w' br 94 (rdL a gs.length cap (k + 1) d v) ∧ ∀ row, (∀ b, row = some b → b < w.heap.size) → Step (some br) row row w w' := by
  have cN := next_any a cap k d 0 v gs hn hk (by omega) br w hT hR
  rw [Nat.add_zero, hg] at cN
  have hbr := hR.lt
  clear hg
  obtain ⟨gk, gt, gv, gl, gc, ga, gf⟩ := g
  dsimp only at hs ⊢
  have hs' : (gk == 2) = true := by simp [hs]
  clear hs
  go_enter Tryz.func139, Tryz.ntmps139
  go_wp2_with (first
    | (go_at_call 109; refine cN.mono ?_; rintro en W1 ⟨rfl, B1⟩; have R1 := hR.grown B1)
    | (refine wpList_allocS rfl 49 rfl (gtL noGT) Tryz.zeroValue49 ?_; intro W2 b3 F2 M2; have R2 := R1.fresh F2; have B2 := F2.trans B1 B1.size; have h3 : w.heap.size ≤ b3 := Nat.le_trans B1.size (Nat.le_of_eq F2.at'.symm); have hne : br ≠ b3 := (by omega); clear F2 R1)
    | (refine wpList_storeS rfl 49 _ _ rfl rfl (gtL ⟨gk, gt, gv, gl, gc, ga, gf⟩) rfl M2 (by simp [gtL, noGT]) infoTok (gt_one _) ?_; intro W3 U3 M3x; have M3 : IsS W3 b3 49 (gtL ⟨gk, gt, gv, gl, gc, ga, gf⟩) := M3x; have R3 := R2.upd U3 hne; have B3 := U3.trans B2 h3; have m0 : W3.cell? ⟨b3, 0, none⟩ = some (.int .i64 gk) := M3.cell 0; have c1 : W3.cell? ⟨br, 1, none⟩ = some (.int .i64 (k : Int)) := R3.cell 1; clear U3 M3x M2 R2 B2)
    | (go_at_call 137; refine (must_true br _).mono ?_; rintro en w' ⟨rfl, hw'⟩; replace hw' := hw'.symm; subst hw')
    | (refine wpList_store1 rfl 3 _ _ rfl rfl (.int .i64 ((k : Int) + 1)) rfl R3 (by simp [rdL]) info3 rfl ?_; intro W4 U4 R4; have M4 := M3.upd U4 (Ne.symm hne); have m2 : W4.cell? ⟨b3, 2, none⟩ = some (.int .i64 gv) := M4.cell 2))
  go_ret
  exact ⟨rfl, by simpa [rdL] using R4, fun row _ => (Step.of_below B3).comp (Step.of_upd U4)⟩
set_option maxRecDepth 100000 in
set_option maxHeartbeats 1000000 in
theorem number_no (a : Option Addr) (cap k d : Nat) (v : Value) (gs : List GT) (g : GT) (hn : gs.length ≤ 1099511627776) (hk : k ≤ gs.length) (hg : gAt gs k = g) (hs : g.kind ≠ 2) (br : Nat) (w : World) (hT : Toks w a gs) (hR : IsS w br 94 (rdL a gs.length cap k d v)) :
    Calls Tryz.prog 139 #[.pointer (some ⟨br, 0, none⟩)] w fun en w' => Thrown w (gEnd gs k).line (gEnd gs k).col 70 en w' ∧ Below w.heap.size w w' := by
  have cN := next_any a cap k d 0 v gs hn hk (by omega) br w hT hR
  rw [Nat.add_zero, hg] at cN
  have hbr := hR.lt
  clear hg
  obtain ⟨gk, gt, gv, gl, gc, ga, gf⟩ := g
  dsimp only at hs ⊢
  have hs' : (gk == 2) = false := by simpa using hs
  clear hs
  go_enter Tryz.func139, Tryz.ntmps139
  go_wp2_with (first
    | (go_at_call 109; refine cN.mono ?_; rintro en W1 ⟨rfl, B1⟩; have R1 := hR.grown B1)
    | (refine wpList_allocS rfl 49 rfl (gtL noGT) Tryz.zeroValue49 ?_; intro W2 b3 F2 M2; have R2 := R1.fresh F2; have B2 := F2.trans B1 B1.size; have h3 : w.heap.size ≤ b3 := Nat.le_trans B1.size (Nat.le_of_eq F2.at'.symm); have hne : br ≠ b3 := (by omega); clear F2 R1)
    | (refine wpList_storeS rfl 49 _ _ rfl rfl (gtL ⟨gk, gt, gv, gl, gc, ga, gf⟩) rfl M2 (by simp [gtL, noGT]) infoTok (gt_one _) ?_; intro W3 U3 M3x; have M3 : IsS W3 b3 49 (gtL ⟨gk, gt, gv, gl, gc, ga, gf⟩) := M3x; have R3 := R2.upd U3 hne; have B3 := U3.trans B2 h3; have m0 : W3.cell? ⟨b3, 0, none⟩ = some (.int .i64 gk) := M3.cell 0; clear U3 M3x M2 R2 B2)
    | (go_at_call 137; refine (must_false a cap k d v gs hn (by omega) br _ (hT.below B3) R3).mono ?_; rintro en W4 ⟨⟨bp, rfl, hb, hI⟩, B4⟩))
  exact ⟨rfl, ⟨bp, rfl, Nat.le_trans B3.size hb, hI⟩, Below.then B3 B4⟩
end Go.Proofs.YtjnbhcakfenbhaaGreatDoor
/- open: a ( or ~ is gone over. -/
namespace Go.Proofs.YtjnbhcakfenbhaaGreatDoor
open Go.RowKit Go.Shelf M
set_option linter.unusedSimpArgs false
set_option linter.unusedVariables false

set_option maxRecDepth 100000 in
set_option maxHeartbeats 1000000 in
theorem open_yes (a : Option Addr) (n cap k d : Nat) (v : Value) (hk : k ≤ 1099511627776) (hd : d < 64) (br : Nat) (w : World) (hR : IsS w br 94 (rdL a n cap k d v)) :
    Calls Tryz.prog 111 #[.pointer (some ⟨br, 0, none⟩)] w fun en w' => en = .returned (.tuple #[]) ∧ IsS w' br 94 (rdL a n cap (k + 1) (d + 1) v) ∧ ∀ row, Step (some br) row row w w' := by
  have c2 : w.cell? ⟨br, 2, none⟩ = some (.int .i64 (d : Int)) := hR.cell 2
  have hd' : ((d : Int) == 64) = false := beq_eq_false_iff_ne.2 (by omega)
  go_enter Tryz.func111, Tryz.ntmps111
  go_wp2_with (first
    | (refine wpList_store1 rfl 3 _ _ rfl rfl (.int .i64 ((k : Int) + 1)) rfl R1 (by simp [rdL]) info3 rfl ?_; intro W2 U2 R2)
    | (refine wpList_store1 rfl 3 _ _ rfl rfl (.int .i64 ((d : Int) + 1)) rfl hR (by simp [rdL]) info3 rfl ?_; intro W1 U1 R1x; have R1 : IsS W1 br 94 (rdL a n cap k (d + 1) v) := (by simpa [rdL] using R1x); have c1 : W1.cell? ⟨br, 1, none⟩ = some (.int .i64 (k : Int)) := R1.cell 1; clear R1x))
  exact ⟨rfl, .tuple #[], (by simp [results, Tryz.results111, go_sem]), rfl, by simpa [rdL] using R2, fun row => (Step.of_upd U1).comp (Step.of_upd U2)⟩
set_option maxRecDepth 100000 in
set_option maxHeartbeats 1000000 in
theorem open_no (a : Option Addr) (cap k : Nat) (v : Value) (gs : List GT) (hn : gs.length ≤ 1099511627776) (hk : k ≤ 1099511627776) (br : Nat) (w : World) (hT : Toks w a gs) (hR : IsS w br 94 (rdL a gs.length cap k 64 v)) :
    Calls Tryz.prog 111 #[.pointer (some ⟨br, 0, none⟩)] w fun en w' => Thrown w (gEnd gs k).line (gEnd gs k).col 2 en w' ∧ Below w.heap.size w w' := by
  have cT := throw_any a cap k 64 v gs hn k hk 2 br w hT hR
  have c2 : w.cell? ⟨br, 2, none⟩ = some (.int .i64 64) := hR.cell 2
  have c1 : w.cell? ⟨br, 1, none⟩ = some (.int .i64 (k : Int)) := hR.cell 1
  go_enter Tryz.func111, Tryz.ntmps111
  go_wp2_with (first
    | (go_at_call 110; refine cT.mono ?_; rintro en W1 ⟨⟨bp, rfl, hb, hI⟩, B1⟩))
  exact ⟨rfl, ⟨bp, rfl, hb, hI⟩, B1⟩
end Go.Proofs.YtjnbhcakfenbhaaGreatDoor

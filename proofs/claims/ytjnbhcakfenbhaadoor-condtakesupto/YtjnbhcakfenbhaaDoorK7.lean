/- add, where there are too many nodes already. -/
import Derived.Test.YtjnbhcakfenbhaaDoorKG
namespace Go.Proofs.YtjnbhcakfenbhaaDoor
open Go.RowKit Go.Shelf M
set_option linter.unusedSimpArgs false
set_option linter.unusedVariables false

theorem ldCd {b o : Nat} {v : Value} (w : World) (h : w.cell? ⟨b, o, none⟩ = some v) : (Instr.loadAt 23 (.pointer (some ⟨b, o, none⟩))).run Tryd.prog w = .ok v w := by simp [go_sem, h]
set_option maxRecDepth 100000 in
set_option maxHeartbeats 1000000 in
theorem add_no (a : Option Addr) (cap k d : Nat) (a0 : Option Addr) (c0 : Nat) (nd : Nd) (gs : List GT) (hn : gs.length ≤ 1099511627776) (hk : k ≤ 1099511627776) (br : Nat) (w : World) (hT : Toks w a gs) (hR : IsS w br 71 (rdL a gs.length cap (k + 1) d (.slice a0 1024 c0))) :
    Calls Tryd.prog 65 #[.pointer (some ⟨br, 0, none⟩), .agg (ndL nd).toArray] w fun en w' => Thrown w (gEnd gs k).line (gEnd gs k).col 1 en w' ∧ Below w.heap.size w w' := by
  have cT := fun W h1 h2 => throw_any a cap (k + 1) d (.slice a0 1024 c0) gs hn k hk 1 br W h1 h2
  have hbr := hR.lt
  go_enter Tryd.func65, Tryd.ntmps65
  go_wp2_with (first
    | (refine wpList_boxS rfl 52 _ rfl (ndL nd) rfl ?_; intro W1 b3 F1 N1; have B1 := F1.trans (Below.refl _ w) (Nat.le_refl _); have R1 := hR.fresh F1; have c3 : W1.cell? ⟨br, 3, none⟩ = some (.slice a0 1024 c0) := R1.cell 3; have c1 : W1.cell? ⟨br, 1, none⟩ = some (.int .i64 ((k : Int) + 1)) := R1.cell 1; clear F1)
    | (go_at_call 81; refine (cT W1 (hT.below B1) R1).mono ?_; rintro en W2 ⟨⟨bp, rfl, hb, hI⟩, B2⟩))
  exact ⟨rfl, ⟨bp, rfl, Nat.le_trans B1.size hb, hI⟩, Below.then B1 B2⟩
end Go.Proofs.YtjnbhcakfenbhaaDoor

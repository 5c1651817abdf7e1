/- How the reader gives up: throw, must. -/
import Derived.Test.YtjnbhcakfenbhaaDoorK1
namespace Go.Proofs.YtjnbhcakfenbhaaDoor
open Go.RowKit Go.Shelf M
set_option linter.unusedSimpArgs false
set_option linter.unusedVariables false

/-- The place at which the reader gives up: that token, the last one behind the list's end. -/
def gEnd (gs : List GT) (k : Nat) : GT := if gs.length = 0 then noGT else gAt gs (min k (gs.length - 1))
/-- What is thrown. -/
def Thrown (w : World) (l c e : Int) (en : Ending) (w' : World) : Prop :=
  ∃ bp, en = .panicked [{ v := .iface 77 (.pointer (some ⟨bp, 0, none⟩)), recovered := false }] ∧ w.heap.size ≤ bp ∧ IsS w' bp 81 [.int .i64 l, .int .i64 c, .iface 25 (.int .i64 e)]

set_option maxRecDepth 100000 in
set_option maxHeartbeats 1000000 in
theorem throw_none (a : Option Addr) (cap k d : Nat) (v : Value) (x : Nat) (e : Int) (br : Nat) (w : World) (hR : IsS w br 71 (rdL a 0 cap k d v)) :
    Calls Tryd.prog 81 #[.pointer (some ⟨br, 0, none⟩), .int .i64 (x : Int), .int .i64 e] w fun en w' => Thrown w 0 0 e en w' ∧ Below w.heap.size w w' := by
  go_enter Tryd.func81, Tryd.ntmps81
  go_wp2_with (first
    | (refine wpList_allocS rfl 37 rfl (gtL noGT) Tryd.zeroValue37 ?_; intro W1 b4 F1 M1; have B1 := F1.trans (Below.refl _ w) (Nat.le_refl _); have R1 := hR.fresh F1; have c0 : W1.cell? ⟨br, 0, none⟩ = some (.slice a 0 cap) := R1.cell 0; have m3 : W1.cell? ⟨b4, 3, none⟩ = some (.int .i64 0) := M1.cell 3; have m4 : W1.cell? ⟨b4, 4, none⟩ = some (.int .i64 0) := M1.cell 4; clear F1)
    | (refine wpList_boxS rfl 81 _ rfl [.int .i64 0, .int .i64 0, .iface 25 (.int .i64 e)] rfl ?_; intro W2 b5 F2 N2; have B2 := F2.trans B1 B1.size; have hb5 : w.heap.size ≤ b5 := (by have := B1.size; have := F2.at'; omega)))
  exact ⟨rfl, ⟨b5, rfl, hb5, N2⟩, B2⟩
set_option maxRecDepth 100000 in
set_option maxHeartbeats 1000000 in
theorem throw_some (b o cap k d m i : Nat) (v : Value) (x : Nat) (e : Int) (g : GT) (hm : m ≤ 1099511627776) (hx : x ≤ 1099511627776) (hi : min x m = i) (br : Nat) (w : World) (hg : ∀ W, Below w.heap.size w W → b < W.heap.size ∧ W.rangeAt b (o + i * 7) (gtL g)) (hR : IsS w br 71 (rdL (some ⟨b, o, none⟩) (m + 1) cap k d v)) :
    Calls Tryd.prog 81 #[.pointer (some ⟨br, 0, none⟩), .int .i64 (x : Int), .int .i64 e] w fun en w' => Thrown w g.line g.col e en w' ∧ Below w.heap.size w w' := by
  have hmn : min (x : Int) (m : Int) = (i : Int) := by omega
  have hix : (i : Int) < (m : Int) + 1 := by omega
  have HG : Hid (∀ W, Below w.heap.size w W → b < W.heap.size ∧ W.rangeAt b (o + i * 7) (gtL g)) := hg
  obtain ⟨gk, gt, gv, gl, gc, ga, gf⟩ := g
  dsimp only
  clear hg hi
  go_enter Tryd.func81, Tryd.ntmps81
  go_wp2_with (first
    | (refine wpList_allocS rfl 37 rfl (gtL noGT) Tryd.zeroValue37 ?_; intro W1 b4 F1 M1; have B1 := F1.trans (Below.refl _ w) (Nat.le_refl _); have R1 := hR.fresh F1; have hb4 : w.heap.size ≤ b4 := Nat.le_of_eq F1.at'.symm; have c0 : W1.cell? ⟨br, 0, none⟩ = some (.slice (some ⟨b, o, none⟩) (m + 1) cap) := R1.cell 0; have r1 := (HG.out W1 B1).2; clear F1)
    | (refine wpList_load_mid rfl 37 _ rfl b _ rfl (gtL ⟨gk, gt, gv, gl, gc, ga, gf⟩) _ r1 Tryd.underlying37 rfl infoTok ?_)
    | (refine wpList_storeS rfl 37 _ _ rfl rfl (gtL ⟨gk, gt, gv, gl, gc, ga, gf⟩) rfl M1 (by simp [gtL, noGT]) infoTok (gt_one _) ?_; intro W3 U3 M3x; have M3 : IsS W3 b4 37 (gtL ⟨gk, gt, gv, gl, gc, ga, gf⟩) := M3x; have B3 := U3.trans B1 hb4; have m3 : W3.cell? ⟨b4, 3, none⟩ = some (.int .i64 gl) := M3.cell 3; have m4 : W3.cell? ⟨b4, 4, none⟩ = some (.int .i64 gc) := M3.cell 4; clear U3 M3x M1 R1 c0)
    | (refine wpList_boxS rfl 81 _ rfl [.int .i64 gl, .int .i64 gc, .iface 25 (.int .i64 e)] rfl ?_; intro W4 b5 F4 N4; have B4 := F4.trans B3 B3.size; have hb5 : w.heap.size ≤ b5 := (by have := B3.size; have := F4.at'; omega)))
  exact ⟨rfl, ⟨b5, rfl, hb5, N4⟩, B4⟩
theorem throw_any (a : Option Addr) (cap k d : Nat) (v : Value) (gs : List GT) (hn : gs.length ≤ 1099511627776) (x : Nat) (hx : x ≤ 1099511627776) (e : Int) (br : Nat) (w : World) (hT : Toks w a gs) (hR : IsS w br 71 (rdL a gs.length cap k d v)) :
    Calls Tryd.prog 81 #[.pointer (some ⟨br, 0, none⟩), .int .i64 (x : Int), .int .i64 e] w fun en w' => Thrown w (gEnd gs x).line (gEnd gs x).col e en w' ∧ Below w.heap.size w w' := by
  by_cases h0 : gs.length = 0
  · rw [h0] at hR
    have : gEnd gs x = noGT := if_pos h0
    rw [this]
    exact throw_none a cap k d v x e br w hR
  · obtain ⟨m, hm⟩ : ∃ m, gs.length = m + 1 := ⟨gs.length - 1, by omega⟩
    obtain ⟨i, hi⟩ : ∃ i, min x m = i := ⟨_, rfl⟩
    obtain ⟨g, hg⟩ : ∃ g, gs[i]? = some g := ⟨_, List.getElem?_eq_getElem (by omega)⟩
    have : gEnd gs x = g := by unfold gEnd gAt; rw [if_neg h0, show min x (gs.length - 1) = i by omega, hg]; rfl
    rw [this]
    obtain ⟨b, o, rfl, _, _⟩ := hT i g hg
    rw [hm] at hR
    refine throw_some b o cap k d m i v x e g (by omega) hx hi br w (fun W hB => ?_) hR
    obtain ⟨b', o', e', h2, h3⟩ := hT.below hB i g hg
    cases e'
    exact ⟨h2, h3⟩
set_option maxRecDepth 100000 in
set_option maxHeartbeats 1000000 in
theorem must_true (br : Nat) (w : World) : Calls Tryd.prog 97 #[.pointer (some ⟨br, 0, none⟩), .bool true] w fun en w' => en = .returned (.tuple #[]) ∧ w' = w := by
  go_enter Tryd.func97, Tryd.ntmps97
  go_wp2_with fail
  exact ⟨rfl, .tuple #[], (by simp [results, Tryd.results97, go_sem]), rfl, rfl⟩
set_option maxRecDepth 100000 in
set_option maxHeartbeats 1000000 in
theorem must_false (a : Option Addr) (cap k d : Nat) (v : Value) (gs : List GT) (hn : gs.length ≤ 1099511627776) (hk : k ≤ 1099511627776) (br : Nat) (w : World) (hT : Toks w a gs) (hR : IsS w br 71 (rdL a gs.length cap k d v)) :
    Calls Tryd.prog 97 #[.pointer (some ⟨br, 0, none⟩), .bool false] w fun en w' => Thrown w (gEnd gs k).line (gEnd gs k).col 70 en w' ∧ Below w.heap.size w w' := by
  have cT := throw_any a cap k d v gs hn k hk 70 br w hT hR
  have c1 : w.cell? ⟨br, 1, none⟩ = some (.int .i64 (k : Int)) := hR.cell 1
  go_enter Tryd.func97, Tryd.ntmps97
  go_wp2_with (first
    | (go_at_call 81; refine cT.mono ?_; rintro en W1 ⟨⟨bp, rfl, hb, hI⟩, B1⟩))
  exact ⟨rfl, ⟨bp, rfl, hb, hI⟩, B1⟩
end Go.Proofs.YtjnbhcakfenbhaaDoor

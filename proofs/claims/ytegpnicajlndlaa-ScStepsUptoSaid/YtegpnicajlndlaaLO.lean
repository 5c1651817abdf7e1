/- LO -/
import Derived.Test.YtegpnicajlndlaaFP
namespace Go.Proofs.Ytegpnicajlndlaa
open Go.RowKit M
set_option linter.unusedSimpArgs false
set_option linter.unusedVariables false
structure One (w W : World) (b : Nat) : Prop where
 os : W.os = w.os
 tape : W.tape = w.tape
 output : W.output = w.output
 size : w.heap.size ≤ W.heap.size
 block : ∀ k, k < w.heap.size → k ≠ b → W.heap[k]? = w.heap[k]?
theorem One.of_below {w W : World} (h : Below w.heap.size w W) (b : Nat) : One w W b := ⟨h.os, h.tape, h.output, h.size, fun k hk _ => h.block k hk⟩
theorem One.of_upd {w W : World} {b : Nat} (h : Upd w W b) : One w W b := ⟨h.os, h.tape, h.output, by rw [h.size]; exact Nat.le_refl _, fun k _ hk => h.block k hk⟩
theorem One.trans {w W W' : World} {b : Nat} (h : One w W b) (h' : One W W' b) : One w W' b :=
 ⟨h'.os.trans h.os, h'.tape.trans h.tape, h'.output.trans h.output, Nat.le_trans h.size h'.size, fun k hk hb => (h'.block k (Nat.lt_of_lt_of_le hk h.size) hb).trans (h.block k hk hb)⟩
theorem info2' : (Try.prog.info? 2).map (·.size) = some 1 := by kernel_rfl
set_option maxRecDepth 100000 in
set_option maxHeartbeats 8000000 in
theorem local_one (src loc imm : Int) (r nr c t b o : Nat) (cs : List Value) (hr : r < nr) (hn : o + nr ≤ cs.length) (hl : nr ≤ 1048576) (w : World) (hc : IsS w b t cs) :
    Calls Try.prog 64 #[.agg #[.int .i64 1, .int .i64 (r : Int), .int .i64 src, .int .i64 loc, .int .i64 imm], (.slice (some ⟨b, o, none⟩) nr c)] w fun en w' => en = .returned (.tuple #[]) ∧ IsS w' b t (cs.set (o + r) (.int .i64 imm)) ∧ One w w' b := by
 have t1 : True := trivial
 have HC : Hid (IsS w b t cs) := hc
 have hbl := hc.lt
 have hri : (r : Int) < nr := by omega
 have hk : o + r < cs.length := by omega
 clear hc hn
 go_enter Try.func64, Try.ntmps64
 go_wp2_with (first
  | (clear t1; refine wpList_boxS rfl 63 _ rfl [.int .i64 1, .int .i64 (r : Int), .int .i64 src, .int .i64 loc, .int .i64 imm] rfl ?_; intro W1 bb F1 C1; have B1 : Below w.heap.size w W1 := F1.trans (Below.refl _ w) (Nat.le_refl _); have D1 := HC.out.grown B1; obtain ⟨x0, x1, x2, x3, x4⟩ := five C1; clear F1)
  | (refine wpList_store1 rfl 2 _ _ rfl rfl (.int .i64 imm) rfl D1 hk infoI2 rfl ?_; intro W2 U2 D2; have T2 := (One.of_below B1 b).trans (One.of_upd U2); clear U2 x0 x1 x2 x3 x4))
 exact ⟨rfl, .tuple #[], (by simp [results, Try.results64, go_sem]), rfl, D2, T2⟩
set_option maxRecDepth 100000 in
set_option maxHeartbeats 8000000 in
theorem local_two (loc imm v : Int) (r s nr c t b o : Nat) (cs : List Value) (hr : r < nr) (hs : s < nr) (hn : o + nr ≤ cs.length) (hl : nr ≤ 1048576) (hv : cs[o + s]? = some (.int .i64 v)) (w : World) (hc : IsS w b t cs) :
    Calls Try.prog 64 #[.agg #[.int .i64 2, .int .i64 (r : Int), .int .i64 (s : Int), .int .i64 loc, .int .i64 imm], (.slice (some ⟨b, o, none⟩) nr c)] w fun en w' => en = .returned (.tuple #[]) ∧ IsS w' b t (cs.set (o + r) (.int .i64 v)) ∧ One w w' b := by
 have t1 : True := trivial
 have HC : Hid (IsS w b t cs) := hc
 have hbl := hc.lt
 have hri : (r : Int) < nr := by omega
 have hsi : (s : Int) < nr := by omega
 have hk : o + r < cs.length := by omega
 have hcv : w.cell? ⟨b, o + s, none⟩ = some (.int .i64 v) := (hc.cell _).trans hv
 clear hc hn hv
 go_enter Try.func64, Try.ntmps64
 go_wp2_with (first
  | (clear t1; refine wpList_boxS rfl 63 _ rfl [.int .i64 2, .int .i64 (r : Int), .int .i64 (s : Int), .int .i64 loc, .int .i64 imm] rfl ?_; intro W1 bb F1 C1; have B1 : Below w.heap.size w W1 := F1.trans (Below.refl _ w) (Nat.le_refl _); have D1 := HC.out.grown B1; have y : W1.cell? ⟨b, o + s, none⟩ = some (.int .i64 v) := (by rw [B1.cell (p := ⟨b, o + s, none⟩) hbl]; exact hcv); obtain ⟨x0, x1, x2, x3, x4⟩ := five C1; clear F1))
 refine grow_tailV 9 (by kernel_rfl) (by kernel_rfl) ?_
 refine WG.pu rfl (v := (.slice (some ⟨b, o, none⟩) nr c)) ?_; simp only [sP]
 refine WG.pu rfl (v := .pointer (some ⟨bb, 1, none⟩)) ?_; simp only [sP]
 refine WG.cell rfl 3 _ rfl rfl x1 (fun w h => ld3' w h) ?_; simp only [sP]
 refine WG.pu rfl (v := (.slice (some ⟨b, o, none⟩) nr c)) ?_; simp only [sP]
 refine WG.pu rfl (v := .pointer (some ⟨bb, 2, none⟩)) ?_; simp only [sP]
 refine WG.cell rfl 3 _ rfl rfl x2 (fun w h => ld3' w h) ?_; simp only [sP]
 refine WG.pu rfl (v := .pointer (some ⟨b, o + s, none⟩)) ?_; simp only [sP]
 refine WG.cell rfl 2 _ rfl rfl y (fun w h => ld2 w h) ?_; simp only [sP]
 refine WG.pu rfl (v := .pointer (some ⟨b, o + r, none⟩)) ?_; simp only [sP]
 refine WG.nil ?_
 intro W4 B4x
 have D4 := IsS.grown D1 B4x
 have B4 := Below.then B1 B4x
 clear B4x
 simp only [List.drop_succ_cons, List.drop_zero]
 go_wp2_with (refine wpList_store1 rfl 2 _ _ rfl rfl (.int .i64 v) rfl D4 hk infoI2 rfl ?_; intro W2 U2 D2; have T2 := (One.of_below B4 b).trans (One.of_upd U2); clear U2 x0 x1 x2 x3 x4)
 exact ⟨rfl, .tuple #[], (by simp [results, Try.results64, go_sem]), rfl, D2, T2⟩
set_option maxRecDepth 100000 in
set_option maxHeartbeats 8000000 in
theorem local_none (k reg src loc imm : Int) (a : Option Addr) (nr c : Nat) (h1 : k ≠ 1) (h2 : k ≠ 2) (w : World) :
    Calls Try.prog 64 #[.agg #[.int .i64 k, .int .i64 reg, .int .i64 src, .int .i64 loc, .int .i64 imm], .slice a nr c] w fun en w' => en = .returned (.tuple #[]) ∧ Below w.heap.size w w' := by
 have t1 : True := trivial
 go_enter Try.func64, Try.ntmps64
 go_wp2_with (first
  | (clear t1; refine wpList_boxS rfl 63 _ rfl [.int .i64 k, .int .i64 reg, .int .i64 src, .int .i64 loc, .int .i64 imm] rfl ?_; intro W1 bb F1 C1; have B1 : Below w.heap.size w W1 := F1.trans (Below.refl _ w) (Nat.le_refl _); obtain ⟨x0, x1, x2, x3, x4⟩ := five C1; clear F1))
 exact ⟨rfl, .tuple #[], (by simp [results, Try.results64, go_sem]), rfl, B1⟩
set_option maxRecDepth 100000 in
set_option maxHeartbeats 8000000 in
theorem atomic_load (src loc imm old : Int) (r s nr c t b o : Nat) (cs : List Value) (hr : r < nr) (hn : o + nr ≤ cs.length) (hl : nr ≤ 1048576) (w : World) (hc : IsS w b t cs) :
    Calls Try.prog 63 #[.agg #[.int .i64 3, .int .i64 (r : Int), .int .i64 src, .int .i64 loc, .int .i64 imm], (.slice (some ⟨b, o, none⟩) nr c), .int .i64 old] w fun en w' => en = .returned (.tuple #[.int .i64 old, .bool false]) ∧ IsS w' b t (cs.set (o + r) (.int .i64 old)) ∧ One w w' b := by
 have t1 : True := trivial
 have HC : Hid (IsS w b t cs) := hc
 have hbl := hc.lt
 have hri : (r : Int) < nr := by omega
 have hk : o + r < cs.length := by omega
 clear hc hn
 go_enter Try.func63, Try.ntmps63
 go_wp2_with (first
  | (clear t1; refine wpList_boxS rfl 63 _ rfl [.int .i64 3, .int .i64 (r : Int), .int .i64 src, .int .i64 loc, .int .i64 imm] rfl ?_; intro W1 bb F1 C1; have B1 : Below w.heap.size w W1 := F1.trans (Below.refl _ w) (Nat.le_refl _); have D1 := HC.out.grown B1; obtain ⟨x0, x1, x2, x3, x4⟩ := five C1; clear F1)
  | (refine wpList_store1 rfl 2 _ _ rfl rfl (.int .i64 old) rfl D1 hk infoI2 rfl ?_; intro W2 U2 D2; have T2 := (One.of_below B1 b).trans (One.of_upd U2); clear U2 x0 x1 x2 x3 x4))
 exact ⟨rfl, .tuple #[.int .i64 old, .bool false], (by simp [results, Try.results63, go_sem]), rfl, D2, T2⟩
set_option maxRecDepth 100000 in
set_option maxHeartbeats 8000000 in
theorem atomic_reg (reg loc v imm old : Int) (r s nr c t b o : Nat) (cs : List Value) (hs : s < nr) (hv : cs[o + s]? = some (.int .i64 v)) (hn : o + nr ≤ cs.length) (hl : nr ≤ 1048576) (w : World) (hc : IsS w b t cs) :
    Calls Try.prog 63 #[.agg #[.int .i64 5, .int .i64 reg, .int .i64 (s : Int), .int .i64 loc, .int .i64 imm], (.slice (some ⟨b, o, none⟩) nr c), .int .i64 old] w fun en w' => en = .returned (.tuple #[.int .i64 v, .bool true]) ∧ Below w.heap.size w w' := by
 have t1 : True := trivial
 have HC : Hid (IsS w b t cs) := hc
 have hbl := hc.lt
 have hsi : (s : Int) < nr := by omega
 have hcv : w.cell? ⟨b, o + s, none⟩ = some (.int .i64 v) := (hc.cell _).trans hv
 clear hc hn
 go_enter Try.func63, Try.ntmps63
 go_wp2_with (first
  | (clear t1; refine wpList_boxS rfl 63 _ rfl [.int .i64 5, .int .i64 reg, .int .i64 (s : Int), .int .i64 loc, .int .i64 imm] rfl ?_; intro W1 bb F1 C1; have B1 : Below w.heap.size w W1 := F1.trans (Below.refl _ w) (Nat.le_refl _); have D1 := HC.out.grown B1; have y : W1.cell? ⟨b, o + s, none⟩ = some (.int .i64 v) := (by rw [B1.cell (p := ⟨b, o + s, none⟩) hbl]; exact hcv); obtain ⟨x0, x1, x2, x3, x4⟩ := five C1; clear F1))
 exact ⟨rfl, .tuple #[.int .i64 v, .bool true], (by simp [results, Try.results63, go_sem]), rfl, B1⟩
set_option maxRecDepth 100000 in
set_option maxHeartbeats 8000000 in
theorem atomic_xchg (src loc v imm old : Int) (r s nr c t b o : Nat) (cs : List Value) (hr : r < nr) (hv : cs[o + r]? = some (.int .i64 v)) (hn : o + nr ≤ cs.length) (hl : nr ≤ 1048576) (w : World) (hc : IsS w b t cs) :
    Calls Try.prog 63 #[.agg #[.int .i64 7, .int .i64 (r : Int), .int .i64 src, .int .i64 loc, .int .i64 imm], (.slice (some ⟨b, o, none⟩) nr c), .int .i64 old] w fun en w' => en = .returned (.tuple #[.int .i64 v, .bool true]) ∧ IsS w' b t (cs.set (o + r) (.int .i64 old)) ∧ One w w' b := by
 have t1 : True := trivial
 have HC : Hid (IsS w b t cs) := hc
 have hbl := hc.lt
 have hri : (r : Int) < nr := by omega
 have hk : o + r < cs.length := by omega
 have hcv : w.cell? ⟨b, o + r, none⟩ = some (.int .i64 v) := (hc.cell _).trans hv
 clear hc hn
 go_enter Try.func63, Try.ntmps63
 go_wp2_with (first
  | (clear t1; refine wpList_boxS rfl 63 _ rfl [.int .i64 7, .int .i64 (r : Int), .int .i64 src, .int .i64 loc, .int .i64 imm] rfl ?_; intro W1 bb F1 C1; have B1 : Below w.heap.size w W1 := F1.trans (Below.refl _ w) (Nat.le_refl _); have D1 := HC.out.grown B1; have yr : W1.cell? ⟨b, o + r, none⟩ = some (.int .i64 v) := (by rw [B1.cell (p := ⟨b, o + r, none⟩) hbl]; exact hcv); obtain ⟨x0, x1, x2, x3, x4⟩ := five C1; clear F1)
  | (refine wpList_store1 rfl 2 _ _ rfl rfl (.int .i64 old) rfl D1 hk infoI2 rfl ?_; intro W2 U2 D2; have T2 := (One.of_below B1 b).trans (One.of_upd U2); clear U2 x0 x1 x2 x3 x4))
 exact ⟨rfl, .tuple #[.int .i64 v, .bool true], (by simp [results, Try.results63, go_sem]), rfl, D2, T2⟩
set_option maxRecDepth 100000 in
set_option maxHeartbeats 8000000 in
theorem atomic_cmp (loc v imm old : Int) (r s nr c t b o : Nat) (cs : List Value) (hr : r < nr) (hs : s < nr) (hq : cs[o + r]? = some (.int .i64 old)) (hv : cs[o + s]? = some (.int .i64 v)) (hn : o + nr ≤ cs.length) (hl : nr ≤ 1048576) (w : World) (hc : IsS w b t cs) :
    Calls Try.prog 63 #[.agg #[.int .i64 8, .int .i64 (r : Int), .int .i64 (s : Int), .int .i64 loc, .int .i64 imm], (.slice (some ⟨b, o, none⟩) nr c), .int .i64 old] w fun en w' => en = .returned (.tuple #[.int .i64 v, .bool true]) ∧ Below w.heap.size w w' := by
 have t1 : True := trivial
 have HC : Hid (IsS w b t cs) := hc
 have hbl := hc.lt
 have hri : (r : Int) < nr := by omega
 have hk : o + r < cs.length := by omega
 have hsi : (s : Int) < nr := by omega
 have hcv : w.cell? ⟨b, o + s, none⟩ = some (.int .i64 v) := (hc.cell _).trans hv
 have hcr : w.cell? ⟨b, o + r, none⟩ = some (.int .i64 old) := (hc.cell _).trans hq
 clear hc hn
 go_enter Try.func63, Try.ntmps63
 go_wp2_with (first
  | (clear t1; refine wpList_boxS rfl 63 _ rfl [.int .i64 8, .int .i64 (r : Int), .int .i64 (s : Int), .int .i64 loc, .int .i64 imm] rfl ?_; intro W1 bb F1 C1; have B1 : Below w.heap.size w W1 := F1.trans (Below.refl _ w) (Nat.le_refl _); have D1 := HC.out.grown B1; have yq : W1.cell? ⟨b, o + r, none⟩ = some (.int .i64 old) := (by rw [B1.cell (p := ⟨b, o + r, none⟩) hbl]; exact hcr); have y : W1.cell? ⟨b, o + s, none⟩ = some (.int .i64 v) := (by rw [B1.cell (p := ⟨b, o + s, none⟩) hbl]; exact hcv); obtain ⟨x0, x1, x2, x3, x4⟩ := five C1; clear F1))
 exact ⟨rfl, .tuple #[.int .i64 v, .bool true], (by simp [results, Try.results63, go_sem]), rfl, B1⟩
set_option maxRecDepth 100000 in
set_option maxHeartbeats 8000000 in
theorem atomic_ncmp (loc q imm old : Int) (r s nr c t b o : Nat) (cs : List Value) (hr : r < nr) (hq : cs[o + r]? = some (.int .i64 q)) (hne : old ≠ q) (hn : o + nr ≤ cs.length) (hl : nr ≤ 1048576) (w : World) (hc : IsS w b t cs) :
    Calls Try.prog 63 #[.agg #[.int .i64 8, .int .i64 (r : Int), .int .i64 (s : Int), .int .i64 loc, .int .i64 imm], (.slice (some ⟨b, o, none⟩) nr c), .int .i64 old] w fun en w' => en = .returned (.tuple #[.int .i64 old, .bool false]) ∧ IsS w' b t (cs.set (o + r) (.int .i64 old)) ∧ One w w' b := by
 have t1 : True := trivial
 have HC : Hid (IsS w b t cs) := hc
 have hbl := hc.lt
 have hri : (r : Int) < nr := by omega
 have hk : o + r < cs.length := by omega
 have hcr : w.cell? ⟨b, o + r, none⟩ = some (.int .i64 q) := (hc.cell _).trans hq
 clear hc hn
 go_enter Try.func63, Try.ntmps63
 go_wp2_with (first
  | (clear t1; refine wpList_boxS rfl 63 _ rfl [.int .i64 8, .int .i64 (r : Int), .int .i64 (s : Int), .int .i64 loc, .int .i64 imm] rfl ?_; intro W1 bb F1 C1; have B1 : Below w.heap.size w W1 := F1.trans (Below.refl _ w) (Nat.le_refl _); have D1 := HC.out.grown B1; have yq : W1.cell? ⟨b, o + r, none⟩ = some (.int .i64 q) := (by rw [B1.cell (p := ⟨b, o + r, none⟩) hbl]; exact hcr); obtain ⟨x0, x1, x2, x3, x4⟩ := five C1; clear F1)
  | (refine wpList_store1 rfl 2 _ _ rfl rfl (.int .i64 old) rfl D1 hk infoI2 rfl ?_; intro W2 U2 D2; have T2 := (One.of_below B1 b).trans (One.of_upd U2); clear U2 x0 x1 x2 x3 x4))
 exact ⟨rfl, .tuple #[.int .i64 old, .bool false], (by simp [results, Try.results63, go_sem]), rfl, D2, T2⟩
set_option maxRecDepth 100000 in
set_option maxHeartbeats 8000000 in
theorem atomic_xadd (src loc v imm old : Int) (r s nr c t b o : Nat) (cs : List Value) (hr : r < nr) (hv : cs[o + r]? = some (.int .i64 v)) (hn : o + nr ≤ cs.length) (hl : nr ≤ 1048576) (w : World) (hc : IsS w b t cs) :
    Calls Try.prog 63 #[.agg #[.int .i64 9, .int .i64 (r : Int), .int .i64 src, .int .i64 loc, .int .i64 imm], (.slice (some ⟨b, o, none⟩) nr c), .int .i64 old] w fun en w' => en = .returned (.tuple #[.int .i64 (wrap64 (old + v)), .bool true]) ∧ IsS w' b t (cs.set (o + r) (.int .i64 old)) ∧ One w w' b := by
 have t1 : True := trivial
 have HC : Hid (IsS w b t cs) := hc
 have hbl := hc.lt
 have hri : (r : Int) < nr := by omega
 have hk : o + r < cs.length := by omega
 have hcv : w.cell? ⟨b, o + r, none⟩ = some (.int .i64 v) := (hc.cell _).trans hv
 clear hc hn
 go_enter Try.func63, Try.ntmps63
 go_wp2_with (first
  | (clear t1; refine wpList_boxS rfl 63 _ rfl [.int .i64 9, .int .i64 (r : Int), .int .i64 src, .int .i64 loc, .int .i64 imm] rfl ?_; intro W1 bb F1 C1; have B1 : Below w.heap.size w W1 := F1.trans (Below.refl _ w) (Nat.le_refl _); have D1 := HC.out.grown B1; have yr : W1.cell? ⟨b, o + r, none⟩ = some (.int .i64 v) := (by rw [B1.cell (p := ⟨b, o + r, none⟩) hbl]; exact hcv); obtain ⟨x0, x1, x2, x3, x4⟩ := five C1; clear F1)
  | (refine wpList_store1 rfl 2 _ _ rfl rfl (.int .i64 old) rfl D1 hk infoI2 rfl ?_; intro W2 U2 D2; have T2 := (One.of_below B1 b).trans (One.of_upd U2); clear U2 x0 x1 x2 x3 x4))
 exact ⟨rfl, .tuple #[.int .i64 (wrap64 (old + v)), .bool true], (by simp [results, Try.results63, go_sem]), rfl, D2, T2⟩
end Go.Proofs.Ytegpnicajlndlaa

/- run. -/
import Derived.Test.YtcmkoffamolgmaaC1
namespace Go.Proofs.Ytcmkoffamolgmaa
open Go.RowKit M
set_option linter.unusedSimpArgs false
set_option linter.unusedVariables false

/-- Numbers in memory, from a block's front on. -/
def Ints (w : World) (g : Nat) (f : List Int) : Prop := g < w.heap.size ∧ ∀ j k, f[j]? = some k → w.cell? ⟨g, j, none⟩ = some (.int .i64 k)
theorem Ints.below {w W : World} {g : Nat} {f : List Int} (h : Ints w g f) (hB : Below w.heap.size w W) : Ints W g f :=
  ⟨Nat.lt_of_lt_of_le h.1 hB.size, fun j k hk => (hB.cell (p := ⟨g, j, none⟩) h.1).trans (h.2 j k hk)⟩
/-- run's answer. -/
def runV : Option Int → Value
  | none => .tuple #[.int .i64 0, .bool false]
  | some k => .tuple #[.int .i64 k, .bool true]

set_option maxRecDepth 100000 in
set_option maxHeartbeats 1000000 in
theorem run_leaf (op a b th : Int) (nm : ByteArray) (val : Int) (h3 : op ≠ 3) (h4 : op ≠ 4) (h5 : op ≠ 5) (g cap i : Nat) (w : World) :
    Calls Try.prog 33 #[.slice (some ⟨g, 0, none⟩) i cap, .agg (ndL ⟨op, a, b, th, nm, val⟩).toArray] w fun e w' => e = .returned (runV (some (i : Int))) ∧ Below w.heap.size w w' := by
  have e3 : (op == 3) = false := by simpa using h3
  have e4 : (op == 4) = false := by simpa using h4
  have e5 : (op == 5) = false := by simpa using h5
  clear h3 h4 h5
  dsimp only [ndL, runV]
  go_enter Try.func33, Try.ntmps33
  go_wp2_with (first
    | (refine wpList_boxS rfl 46 _ rfl (ndL ⟨op, a, b, th, nm, val⟩) rfl ?_; intro W1 b1 F1 N1; have B1 := F1.trans (Below.refl _ w) (Nat.le_refl _); have c0 : W1.cell? ⟨b1, 0, none⟩ = some (.int .i64 op) := N1.cell 0; clear F1))
  all_goals go_ret2
  all_goals exact ⟨rfl, B1⟩

set_option maxRecDepth 100000 in
set_option maxHeartbeats 1000000 in
theorem run_not0 (a b th : Int) (nm : ByteArray) (val : Int) (g cap : Nat) (w : World) :
    Calls Try.prog 33 #[.slice (some ⟨g, 0, none⟩) 0 cap, .agg (ndL ⟨3, a, b, th, nm, val⟩).toArray] w fun e w' => e = .returned (runV none) ∧ Below w.heap.size w w' := by
  dsimp only [ndL, runV]
  go_enter Try.func33, Try.ntmps33
  go_wp2_with (first
    | (refine wpList_boxS rfl 46 _ rfl (ndL ⟨3, a, b, th, nm, val⟩) rfl ?_; intro W1 b1 F1 N1; have B1 := F1.trans (Below.refl _ w) (Nat.le_refl _); have c0 : W1.cell? ⟨b1, 0, none⟩ = some (.int .i64 3) := N1.cell 0; clear F1))
  all_goals go_ret2
  all_goals exact ⟨rfl, B1⟩
set_option maxRecDepth 100000 in
set_option maxHeartbeats 1000000 in
theorem run_not1 (a b th : Int) (nm : ByteArray) (val : Int) (g cap m : Nat) (hm : m < 1024) (ha : a ≠ (m : Int)) (w : World) :
    Calls Try.prog 33 #[.slice (some ⟨g, 0, none⟩) (m + 1) cap, .agg (ndL ⟨3, a, b, th, nm, val⟩).toArray] w fun e w' => e = .returned (runV none) ∧ Below w.heap.size w w' := by
  dsimp only [ndL, runV]
  have ha' : (a != (m : Int)) = true := by simpa using ha
  have hm0 : ((m : Int) + 1 == 0) = false := by simp; omega
  clear ha
  go_enter Try.func33, Try.ntmps33
  go_wp2_with (first
    | (refine wpList_boxS rfl 46 _ rfl (ndL ⟨3, a, b, th, nm, val⟩) rfl ?_; intro W1 b1 F1 N1; have B1 := F1.trans (Below.refl _ w) (Nat.le_refl _); have c0 : W1.cell? ⟨b1, 0, none⟩ = some (.int .i64 3) := N1.cell 0; have c1 : W1.cell? ⟨b1, 1, none⟩ = some (.int .i64 a) := N1.cell 1; clear F1))
  all_goals go_ret2
  all_goals exact ⟨rfl, B1⟩
set_option maxRecDepth 100000 in
set_option maxHeartbeats 1000000 in
theorem run_not2 (b th : Int) (nm : ByteArray) (val : Int) (g cap m : Nat) (hm : m < 1024) (k : Int) (w : World) (hg : g < w.heap.size) (hk : w.cell? ⟨g, m, none⟩ = some (.int .i64 k)) :
    Calls Try.prog 33 #[.slice (some ⟨g, 0, none⟩) (m + 1) cap, .agg (ndL ⟨3, (m : Int), b, th, nm, val⟩).toArray] w fun e w' => e = .returned (runV (some k)) ∧ Below w.heap.size w w' := by
  dsimp only [ndL, runV]
  have hm0 : ((m : Int) + 1 == 0) = false := by simp; omega
  go_enter Try.func33, Try.ntmps33
  go_wp2_with (first
    | (refine wpList_boxS rfl 46 _ rfl (ndL ⟨3, (m : Int), b, th, nm, val⟩) rfl ?_; intro W1 b1 F1 N1; have B1 := F1.trans (Below.refl _ w) (Nat.le_refl _); have c0 : W1.cell? ⟨b1, 0, none⟩ = some (.int .i64 3) := N1.cell 0; have c1 : W1.cell? ⟨b1, 1, none⟩ = some (.int .i64 (m : Int)) := N1.cell 1; have hk1 := (B1.cell (p := ⟨g, m, none⟩) hg).trans hk; clear F1))
  all_goals go_ret2
  all_goals exact ⟨rfl, B1⟩



set_option maxRecDepth 100000 in
set_option maxHeartbeats 1000000 in
theorem run_two4a (a b th : Int) (nm : ByteArray) (val : Int) (g cap : Nat) (w : World) :
    Calls Try.prog 33 #[.slice (some ⟨g, 0, none⟩) 0 cap, .agg (ndL ⟨4, a, b, th, nm, val⟩).toArray] w fun e w' => e = .returned (runV none) ∧ Below w.heap.size w w' := by
  dsimp only [ndL, runV]
  go_enter Try.func33, Try.ntmps33
  go_wp2_with (first
    | (refine wpList_boxS rfl 46 _ rfl (ndL ⟨4, a, b, th, nm, val⟩) rfl ?_; intro W1 b1 F1 N1; have B1 := F1.trans (Below.refl _ w) (Nat.le_refl _); have c0 : W1.cell? ⟨b1, 0, none⟩ = some (.int .i64 4) := N1.cell 0; have c1 : W1.cell? ⟨b1, 1, none⟩ = some (.int .i64 a) := N1.cell 1; have c2 : W1.cell? ⟨b1, 2, none⟩ = some (.int .i64 b) := N1.cell 2; clear F1))
  go_quiet (fail)
  all_goals go_wp2_with fail
  all_goals go_ret2
  all_goals exact ⟨rfl, below_drewN B1 _⟩

set_option maxRecDepth 100000 in
set_option maxHeartbeats 1000000 in
theorem run_two4b (a b th : Int) (nm : ByteArray) (val : Int) (g cap m : Nat) (hm : m < 1024) (hb : b ≠ (m : Int)) (w : World) :
    Calls Try.prog 33 #[.slice (some ⟨g, 0, none⟩) (m + 1) cap, .agg (ndL ⟨4, a, b, th, nm, val⟩).toArray] w fun e w' => e = .returned (runV none) ∧ Below w.heap.size w w' := by
  dsimp only [ndL, runV]
  have hb' : (b != (m : Int)) = true := by simpa using hb
  have hm0 : ((m : Int) + 1 == 0) = false := by simp; omega
  clear hb
  go_enter Try.func33, Try.ntmps33
  go_wp2_with (first
    | (refine wpList_boxS rfl 46 _ rfl (ndL ⟨4, a, b, th, nm, val⟩) rfl ?_; intro W1 b1 F1 N1; have B1 := F1.trans (Below.refl _ w) (Nat.le_refl _); have c0 : W1.cell? ⟨b1, 0, none⟩ = some (.int .i64 4) := N1.cell 0; have c1 : W1.cell? ⟨b1, 1, none⟩ = some (.int .i64 a) := N1.cell 1; have c2 : W1.cell? ⟨b1, 2, none⟩ = some (.int .i64 b) := N1.cell 2; clear F1))
  go_quiet (fail)
  all_goals go_wp2_with fail
  all_goals go_ret2
  all_goals exact ⟨rfl, below_drewN B1 _⟩

set_option maxRecDepth 100000 in
set_option maxHeartbeats 1000000 in
theorem run_two4c (a th : Int) (nm : ByteArray) (val : Int) (g cap m : Nat) (hm : m < 1024) (w : World) (hg : g < w.heap.size) (hk : w.cell? ⟨g, m, none⟩ = some (.int .i64 0)) :
    Calls Try.prog 33 #[.slice (some ⟨g, 0, none⟩) (m + 1) cap, .agg (ndL ⟨4, a, (m : Int), th, nm, val⟩).toArray] w fun e w' => e = .returned (runV none) ∧ Below w.heap.size w w' := by
  dsimp only [ndL, runV]
  have hm0 : ((m : Int) + 1 == 0) = false := by simp; omega
  go_enter Try.func33, Try.ntmps33
  go_wp2_with (first
    | (refine wpList_boxS rfl 46 _ rfl (ndL ⟨4, a, (m : Int), th, nm, val⟩) rfl ?_; intro W1 b1 F1 N1; have B1 := F1.trans (Below.refl _ w) (Nat.le_refl _); have c0 : W1.cell? ⟨b1, 0, none⟩ = some (.int .i64 4) := N1.cell 0; have c1 : W1.cell? ⟨b1, 1, none⟩ = some (.int .i64 a) := N1.cell 1; have c2 : W1.cell? ⟨b1, 2, none⟩ = some (.int .i64 (m : Int)) := N1.cell 2; have hk1 := (B1.cell (p := ⟨g, m, none⟩) hg).trans hk; clear F1))
  go_quiet (fail)
  all_goals go_wp2_with fail
  all_goals go_ret2
  all_goals exact ⟨rfl, below_drewN B1 _⟩

set_option maxRecDepth 100000 in
set_option maxHeartbeats 1000000 in
theorem run_two4d (a th : Int) (nm : ByteArray) (val : Int) (g cap m k : Nat) (hm : m < 1024) (hkm : k + 1 ≤ m) (ha : a ≠ (k : Int)) (w : World) (hg : g < w.heap.size) (hk : w.cell? ⟨g, m, none⟩ = some (.int .i64 ((k : Int) + 1))) :
    Calls Try.prog 33 #[.slice (some ⟨g, 0, none⟩) (m + 1) cap, .agg (ndL ⟨4, a, (m : Int), th, nm, val⟩).toArray] w fun e w' => e = .returned (runV none) ∧ Below w.heap.size w w' := by
  dsimp only [ndL, runV]
  have hm0 : ((m : Int) + 1 == 0) = false := by simp; omega
  have hk0 : ((k : Int) + 1 == 0) = false := by simp; omega
  have ha' : (a != (k : Int)) = true := by simpa using ha
  clear ha
  go_enter Try.func33, Try.ntmps33
  go_wp2_with (first
    | (refine wpList_boxS rfl 46 _ rfl (ndL ⟨4, a, (m : Int), th, nm, val⟩) rfl ?_; intro W1 b1 F1 N1; have B1 := F1.trans (Below.refl _ w) (Nat.le_refl _); have c0 : W1.cell? ⟨b1, 0, none⟩ = some (.int .i64 4) := N1.cell 0; have c1 : W1.cell? ⟨b1, 1, none⟩ = some (.int .i64 a) := N1.cell 1; have c2 : W1.cell? ⟨b1, 2, none⟩ = some (.int .i64 (m : Int)) := N1.cell 2; have hk1 := (B1.cell (p := ⟨g, m, none⟩) hg).trans hk; clear F1))
  go_quiet (fail)
  all_goals go_wp2_with fail
  all_goals go_ret2
  all_goals exact ⟨rfl, below_drewN B1 _⟩

set_option maxRecDepth 100000 in
set_option maxHeartbeats 1000000 in
theorem run_two4e (v th : Int) (nm : ByteArray) (val : Int) (g cap m k : Nat) (hm : m < 1024) (hkm : k + 1 ≤ m) (w : World) (hg : g < w.heap.size) (hk : w.cell? ⟨g, m, none⟩ = some (.int .i64 ((k : Int) + 1))) (hv : w.cell? ⟨g, k, none⟩ = some (.int .i64 v)) :
    Calls Try.prog 33 #[.slice (some ⟨g, 0, none⟩) (m + 1) cap, .agg (ndL ⟨4, (k : Int), (m : Int), th, nm, val⟩).toArray] w fun e w' => e = .returned (runV (some v)) ∧ Below w.heap.size w w' := by
  dsimp only [ndL, runV]
  have hm0 : ((m : Int) + 1 == 0) = false := by simp; omega
  have hk0 : ((k : Int) + 1 == 0) = false := by simp; omega
  go_enter Try.func33, Try.ntmps33
  go_wp2_with (first
    | (refine wpList_boxS rfl 46 _ rfl (ndL ⟨4, (k : Int), (m : Int), th, nm, val⟩) rfl ?_; intro W1 b1 F1 N1; have B1 := F1.trans (Below.refl _ w) (Nat.le_refl _); have c0 : W1.cell? ⟨b1, 0, none⟩ = some (.int .i64 4) := N1.cell 0; have c1 : W1.cell? ⟨b1, 1, none⟩ = some (.int .i64 (k : Int)) := N1.cell 1; have c2 : W1.cell? ⟨b1, 2, none⟩ = some (.int .i64 (m : Int)) := N1.cell 2; have hk1 := (B1.cell (p := ⟨g, m, none⟩) hg).trans hk; have hv1 := (B1.cell (p := ⟨g, k, none⟩) hg).trans hv; clear F1))
  go_quiet (fail)
  all_goals go_wp2_with fail
  all_goals go_ret2
  all_goals exact ⟨rfl, below_drewN B1 _⟩

set_option maxRecDepth 100000 in
set_option maxHeartbeats 1000000 in
theorem run_two5a (a b th : Int) (nm : ByteArray) (val : Int) (g cap : Nat) (w : World) :
    Calls Try.prog 33 #[.slice (some ⟨g, 0, none⟩) 0 cap, .agg (ndL ⟨5, a, b, th, nm, val⟩).toArray] w fun e w' => e = .returned (runV none) ∧ Below w.heap.size w w' := by
  dsimp only [ndL, runV]
  go_enter Try.func33, Try.ntmps33
  go_wp2_with (first
    | (refine wpList_boxS rfl 46 _ rfl (ndL ⟨5, a, b, th, nm, val⟩) rfl ?_; intro W1 b1 F1 N1; have B1 := F1.trans (Below.refl _ w) (Nat.le_refl _); have c0 : W1.cell? ⟨b1, 0, none⟩ = some (.int .i64 5) := N1.cell 0; have c1 : W1.cell? ⟨b1, 1, none⟩ = some (.int .i64 a) := N1.cell 1; have c2 : W1.cell? ⟨b1, 2, none⟩ = some (.int .i64 b) := N1.cell 2; clear F1))
  go_quiet (fail)
  all_goals go_wp2_with fail
  all_goals go_ret2
  all_goals exact ⟨rfl, below_drewN B1 _⟩

set_option maxRecDepth 100000 in
set_option maxHeartbeats 1000000 in
theorem run_two5b (a b th : Int) (nm : ByteArray) (val : Int) (g cap m : Nat) (hm : m < 1024) (hb : b ≠ (m : Int)) (w : World) :
    Calls Try.prog 33 #[.slice (some ⟨g, 0, none⟩) (m + 1) cap, .agg (ndL ⟨5, a, b, th, nm, val⟩).toArray] w fun e w' => e = .returned (runV none) ∧ Below w.heap.size w w' := by
  dsimp only [ndL, runV]
  have hb' : (b != (m : Int)) = true := by simpa using hb
  have hm0 : ((m : Int) + 1 == 0) = false := by simp; omega
  clear hb
  go_enter Try.func33, Try.ntmps33
  go_wp2_with (first
    | (refine wpList_boxS rfl 46 _ rfl (ndL ⟨5, a, b, th, nm, val⟩) rfl ?_; intro W1 b1 F1 N1; have B1 := F1.trans (Below.refl _ w) (Nat.le_refl _); have c0 : W1.cell? ⟨b1, 0, none⟩ = some (.int .i64 5) := N1.cell 0; have c1 : W1.cell? ⟨b1, 1, none⟩ = some (.int .i64 a) := N1.cell 1; have c2 : W1.cell? ⟨b1, 2, none⟩ = some (.int .i64 b) := N1.cell 2; clear F1))
  go_quiet (fail)
  all_goals go_wp2_with fail
  all_goals go_ret2
  all_goals exact ⟨rfl, below_drewN B1 _⟩

set_option maxRecDepth 100000 in
set_option maxHeartbeats 1000000 in
theorem run_two5c (a th : Int) (nm : ByteArray) (val : Int) (g cap m : Nat) (hm : m < 1024) (w : World) (hg : g < w.heap.size) (hk : w.cell? ⟨g, m, none⟩ = some (.int .i64 0)) :
    Calls Try.prog 33 #[.slice (some ⟨g, 0, none⟩) (m + 1) cap, .agg (ndL ⟨5, a, (m : Int), th, nm, val⟩).toArray] w fun e w' => e = .returned (runV none) ∧ Below w.heap.size w w' := by
  dsimp only [ndL, runV]
  have hm0 : ((m : Int) + 1 == 0) = false := by simp; omega
  go_enter Try.func33, Try.ntmps33
  go_wp2_with (first
    | (refine wpList_boxS rfl 46 _ rfl (ndL ⟨5, a, (m : Int), th, nm, val⟩) rfl ?_; intro W1 b1 F1 N1; have B1 := F1.trans (Below.refl _ w) (Nat.le_refl _); have c0 : W1.cell? ⟨b1, 0, none⟩ = some (.int .i64 5) := N1.cell 0; have c1 : W1.cell? ⟨b1, 1, none⟩ = some (.int .i64 a) := N1.cell 1; have c2 : W1.cell? ⟨b1, 2, none⟩ = some (.int .i64 (m : Int)) := N1.cell 2; have hk1 := (B1.cell (p := ⟨g, m, none⟩) hg).trans hk; clear F1))
  go_quiet (fail)
  all_goals go_wp2_with fail
  all_goals go_ret2
  all_goals exact ⟨rfl, below_drewN B1 _⟩

set_option maxRecDepth 100000 in
set_option maxHeartbeats 1000000 in
theorem run_two5d (a th : Int) (nm : ByteArray) (val : Int) (g cap m k : Nat) (hm : m < 1024) (hkm : k + 1 ≤ m) (ha : a ≠ (k : Int)) (w : World) (hg : g < w.heap.size) (hk : w.cell? ⟨g, m, none⟩ = some (.int .i64 ((k : Int) + 1))) :
    Calls Try.prog 33 #[.slice (some ⟨g, 0, none⟩) (m + 1) cap, .agg (ndL ⟨5, a, (m : Int), th, nm, val⟩).toArray] w fun e w' => e = .returned (runV none) ∧ Below w.heap.size w w' := by
  dsimp only [ndL, runV]
  have hm0 : ((m : Int) + 1 == 0) = false := by simp; omega
  have hk0 : ((k : Int) + 1 == 0) = false := by simp; omega
  have ha' : (a != (k : Int)) = true := by simpa using ha
  clear ha
  go_enter Try.func33, Try.ntmps33
  go_wp2_with (first
    | (refine wpList_boxS rfl 46 _ rfl (ndL ⟨5, a, (m : Int), th, nm, val⟩) rfl ?_; intro W1 b1 F1 N1; have B1 := F1.trans (Below.refl _ w) (Nat.le_refl _); have c0 : W1.cell? ⟨b1, 0, none⟩ = some (.int .i64 5) := N1.cell 0; have c1 : W1.cell? ⟨b1, 1, none⟩ = some (.int .i64 a) := N1.cell 1; have c2 : W1.cell? ⟨b1, 2, none⟩ = some (.int .i64 (m : Int)) := N1.cell 2; have hk1 := (B1.cell (p := ⟨g, m, none⟩) hg).trans hk; clear F1))
  go_quiet (fail)
  all_goals go_wp2_with fail
  all_goals go_ret2
  all_goals exact ⟨rfl, below_drewN B1 _⟩

set_option maxRecDepth 100000 in
set_option maxHeartbeats 1000000 in
theorem run_two5e (v th : Int) (nm : ByteArray) (val : Int) (g cap m k : Nat) (hm : m < 1024) (hkm : k + 1 ≤ m) (w : World) (hg : g < w.heap.size) (hk : w.cell? ⟨g, m, none⟩ = some (.int .i64 ((k : Int) + 1))) (hv : w.cell? ⟨g, k, none⟩ = some (.int .i64 v)) :
    Calls Try.prog 33 #[.slice (some ⟨g, 0, none⟩) (m + 1) cap, .agg (ndL ⟨5, (k : Int), (m : Int), th, nm, val⟩).toArray] w fun e w' => e = .returned (runV (some v)) ∧ Below w.heap.size w w' := by
  dsimp only [ndL, runV]
  have hm0 : ((m : Int) + 1 == 0) = false := by simp; omega
  have hk0 : ((k : Int) + 1 == 0) = false := by simp; omega
  go_enter Try.func33, Try.ntmps33
  go_wp2_with (first
    | (refine wpList_boxS rfl 46 _ rfl (ndL ⟨5, (k : Int), (m : Int), th, nm, val⟩) rfl ?_; intro W1 b1 F1 N1; have B1 := F1.trans (Below.refl _ w) (Nat.le_refl _); have c0 : W1.cell? ⟨b1, 0, none⟩ = some (.int .i64 5) := N1.cell 0; have c1 : W1.cell? ⟨b1, 1, none⟩ = some (.int .i64 (k : Int)) := N1.cell 1; have c2 : W1.cell? ⟨b1, 2, none⟩ = some (.int .i64 (m : Int)) := N1.cell 2; have hk1 := (B1.cell (p := ⟨g, m, none⟩) hg).trans hk; have hv1 := (B1.cell (p := ⟨g, k, none⟩) hg).trans hv; clear F1))
  go_quiet (fail)
  all_goals go_wp2_with fail
  all_goals go_ret2
  all_goals exact ⟨rfl, below_drewN B1 _⟩

theorem run_any (n : Nd) (g cap i : Nat) (hi : i ≤ 1024) (f : List Int) (hb : ∀ j, j < i → ∃ k : Nat, f[j]? = some (k : Int) ∧ k ≤ j) (w : World) (hF : Ints w g f) :
    Calls Try.prog 33 #[.slice (some ⟨g, 0, none⟩) i cap, .agg (ndL n).toArray] w fun e w' => e = .returned (runV (runF f i n)) ∧ Below w.heap.size w w' := by
  obtain ⟨op, a, b, th, nm, val⟩ := n
  by_cases h3 : op = 3
  · subst h3
    rcases i with _ | m
    · rw [show runF f 0 ⟨3, a, b, th, nm, val⟩ = none by unfold runF; simp]
      exact run_not0 a b th nm val g cap w
    · by_cases ha : a = (m : Int)
      · subst ha
        obtain ⟨k, hk, _⟩ := hb m (by omega)
        rw [show runF f (m + 1) ⟨3, (m : Int), b, th, nm, val⟩ = some (k : Int) by unfold runF; simp; exact hk]
        exact run_not2 b th nm val g cap m (by omega) k w hF.1 (hF.2 m _ hk)
      · rw [show runF f (m + 1) ⟨3, a, b, th, nm, val⟩ = none by unfold runF; simp; intro h; exact absurd h ha]
        exact run_not1 a b th nm val g cap m (by omega) ha w
  · by_cases h45 : op = 4 ∨ op = 5
    · have key : ∀ a b : Int, runF f i ⟨op, a, b, th, nm, val⟩ = (if i = 0 ∨ b ≠ (i : Int) - 1 then none else match f[i - 1]? with | none => none | some k => if k = 0 ∨ a ≠ k - 1 then none else f[(k - 1).toNat]?) := fun a b => by
        unfold runF
        rw [if_neg h3, if_pos h45]
        rfl
      rw [key]
      clear key
      rcases i with _ | m
      · rw [if_pos (.inl rfl)]
        rcases h45 with rfl | rfl
        · exact run_two4a a b th nm val g cap w
        · exact run_two5a a b th nm val g cap w
      · by_cases hbm : b = (m : Int)
        · subst hbm
          rw [if_neg (by omega)]
          obtain ⟨k, hk, hkm⟩ := hb m (by omega)
          rw [show m + 1 - 1 = m by omega, hk]
          dsimp only
          rcases k with _ | k
          · rw [if_pos (.inl rfl)]
            rcases h45 with rfl | rfl
            · exact run_two4c a th nm val g cap m (by omega) w hF.1 (hF.2 m _ hk)
            · exact run_two5c a th nm val g cap m (by omega) w hF.1 (hF.2 m _ hk)
          · have hc : w.cell? ⟨g, m, none⟩ = some (.int .i64 ((k : Int) + 1)) := (by have := hF.2 m _ hk; simpa using this)
            by_cases ha : a = (k : Int)
            · subst ha
              obtain ⟨v, hv, _⟩ := hb k (by omega)
              rw [if_neg (by omega), show (((k + 1 : Nat) : Int) - 1).toNat = k by omega, hv]
              rcases h45 with rfl | rfl
              · exact run_two4e v th nm val g cap m k (by omega) hkm w hF.1 hc (hF.2 k _ hv)
              · exact run_two5e v th nm val g cap m k (by omega) hkm w hF.1 hc (hF.2 k _ hv)
            · rw [if_pos (.inr (by omega))]
              rcases h45 with rfl | rfl
              · exact run_two4d a th nm val g cap m k (by omega) hkm ha w hF.1 hc
              · exact run_two5d a th nm val g cap m k (by omega) hkm ha w hF.1 hc
        · rw [if_pos (.inr (by omega))]
          rcases h45 with rfl | rfl
          · exact run_two4b a b th nm val g cap m (by omega) hbm w
          · exact run_two5b a b th nm val g cap m (by omega) hbm w
    · rw [show runF f i ⟨op, a, b, th, nm, val⟩ = some (i : Int) by unfold runF; rw [if_neg h3, if_neg h45]]
      exact run_leaf op a b th nm val h3 (fun e => h45 (.inl e)) (fun e => h45 (.inr e)) g cap i w
end Go.Proofs.Ytcmkoffamolgmaa

/- What instructions use; numbers; whether an instruction can be made: the program's side. -/
import Derived.Test.YtdjlfpkemdiadaaDoorXP
import Derived.Test.YtdjlfpkemdiadaaDoorQX
namespace Go.Proofs.YtdjlfpkemdiadaaDoor
open Go.RowKit M
set_option linter.unusedSimpArgs false
set_option linter.unusedVariables false

def uReg (k : Int) : Bool := decide (k = 1 ∨ k = 2 ∨ k = 3 ∨ k = 7 ∨ k = 9)
def uSrc (k : Int) : Bool := decide (k = 2 ∨ k = 5 ∨ k = 8)
def uLoc (k : Int) : Bool := decide (k = 3 ∨ k = 4 ∨ k = 5 ∨ k = 7 ∨ k = 8 ∨ k = 9)
def uImm (k : Int) : Bool := decide (k = 1 ∨ k = 4)
def uOk (k : Int) : Bool := decide (1 ≤ k ∧ k ≤ 9)
def useL (k : Int) : List Value := [.bool (uReg k), .bool (uSrc k), .bool (uLoc k), .bool (uImm k)]
theorem useL_one (k : Int) : ∀ v ∈ useL k, v.oneCell' = true := by simp [useL, Value.oneCell']
theorem infoUse : (Tryd.prog.info? 116).map (·.size) = some 4 := by kernel_rfl
set_option maxRecDepth 100000 in
set_option maxHeartbeats 4000000 in
theorem usesOf_any (k : Int) (w : World) : Calls Tryd.prog 89 #[.int .i64 k] w fun en w' => en = .returned (.tuple #[.agg (useL k).toArray, .bool (uOk k)]) ∧ Below w.heap.size w w' := by
  have t1 : True := trivial
  have t2 : True := trivial
  by_cases h1 : k = 1
  · subst h1
    go_enter Tryd.func89, Tryd.ntmps89
    go_wp2_with (first
      | (clear t1; refine wpList_allocS rfl 116 rfl [.bool false, .bool false, .bool false, .bool false] Tryd.zeroValue116 ?_; intro W1 b1 F1 C1; have B1 := F1.trans (Below.refl _ w) (Nat.le_refl _); have h1 : w.heap.size ≤ b1 := Nat.le_of_eq F1.at'.symm; clear F1)
      | (clear t2; refine wpList_storeS rfl 116 _ _ rfl rfl [.bool true, .bool false, .bool false, .bool true] rfl C1 (by decide) infoUse (by simp [Value.oneCell']) ?_; intro W2 U2 C2x; have C2 : IsS W2 b1 116 [.bool true, .bool false, .bool false, .bool true] := C2x; have B2 := U2.trans B1 h1; have c0 : W2.cell? ⟨b1, 0, none⟩ = some (.bool true) := C2.cell 0; have c1 : W2.cell? ⟨b1, 1, none⟩ = some (.bool false) := C2.cell 1; have c2 : W2.cell? ⟨b1, 2, none⟩ = some (.bool false) := C2.cell 2; have c3 : W2.cell? ⟨b1, 3, none⟩ = some (.bool true) := C2.cell 3; clear U2 C1 C2x))
    refine bodyPost_ret (v := .tuple #[.agg [.bool true, .bool false, .bool false, .bool true].toArray, .bool true]) (by simp [results, Tryd.results89, go_sem, c0, c1, c2, c3]) rfl ⟨?_, B2⟩
    rfl
  have g1 : (k == 1) = false := by simpa using h1
  by_cases h2 : k = 2
  · subst h2
    go_enter Tryd.func89, Tryd.ntmps89
    go_wp2_with (first
      | (clear t1; refine wpList_allocS rfl 116 rfl [.bool false, .bool false, .bool false, .bool false] Tryd.zeroValue116 ?_; intro W1 b1 F1 C1; have B1 := F1.trans (Below.refl _ w) (Nat.le_refl _); have h1 : w.heap.size ≤ b1 := Nat.le_of_eq F1.at'.symm; clear F1)
      | (clear t2; refine wpList_storeS rfl 116 _ _ rfl rfl [.bool true, .bool true, .bool false, .bool false] rfl C1 (by decide) infoUse (by simp [Value.oneCell']) ?_; intro W2 U2 C2x; have C2 : IsS W2 b1 116 [.bool true, .bool true, .bool false, .bool false] := C2x; have B2 := U2.trans B1 h1; have c0 : W2.cell? ⟨b1, 0, none⟩ = some (.bool true) := C2.cell 0; have c1 : W2.cell? ⟨b1, 1, none⟩ = some (.bool true) := C2.cell 1; have c2 : W2.cell? ⟨b1, 2, none⟩ = some (.bool false) := C2.cell 2; have c3 : W2.cell? ⟨b1, 3, none⟩ = some (.bool false) := C2.cell 3; clear U2 C1 C2x))
    refine bodyPost_ret (v := .tuple #[.agg [.bool true, .bool true, .bool false, .bool false].toArray, .bool true]) (by simp [results, Tryd.results89, go_sem, c0, c1, c2, c3]) rfl ⟨?_, B2⟩
    rfl
  have g2 : (k == 2) = false := by simpa using h2
  by_cases h3 : k = 3
  · subst h3
    go_enter Tryd.func89, Tryd.ntmps89
    go_wp2_with (first
      | (clear t1; refine wpList_allocS rfl 116 rfl [.bool false, .bool false, .bool false, .bool false] Tryd.zeroValue116 ?_; intro W1 b1 F1 C1; have B1 := F1.trans (Below.refl _ w) (Nat.le_refl _); have h1 : w.heap.size ≤ b1 := Nat.le_of_eq F1.at'.symm; clear F1)
      | (clear t2; refine wpList_storeS rfl 116 _ _ rfl rfl [.bool true, .bool false, .bool true, .bool false] rfl C1 (by decide) infoUse (by simp [Value.oneCell']) ?_; intro W2 U2 C2x; have C2 : IsS W2 b1 116 [.bool true, .bool false, .bool true, .bool false] := C2x; have B2 := U2.trans B1 h1; have c0 : W2.cell? ⟨b1, 0, none⟩ = some (.bool true) := C2.cell 0; have c1 : W2.cell? ⟨b1, 1, none⟩ = some (.bool false) := C2.cell 1; have c2 : W2.cell? ⟨b1, 2, none⟩ = some (.bool true) := C2.cell 2; have c3 : W2.cell? ⟨b1, 3, none⟩ = some (.bool false) := C2.cell 3; clear U2 C1 C2x))
    refine bodyPost_ret (v := .tuple #[.agg [.bool true, .bool false, .bool true, .bool false].toArray, .bool true]) (by simp [results, Tryd.results89, go_sem, c0, c1, c2, c3]) rfl ⟨?_, B2⟩
    rfl
  have g3 : (k == 3) = false := by simpa using h3
  by_cases h4 : k = 4
  · subst h4
    go_enter Tryd.func89, Tryd.ntmps89
    go_wp2_with (first
      | (clear t1; refine wpList_allocS rfl 116 rfl [.bool false, .bool false, .bool false, .bool false] Tryd.zeroValue116 ?_; intro W1 b1 F1 C1; have B1 := F1.trans (Below.refl _ w) (Nat.le_refl _); have h1 : w.heap.size ≤ b1 := Nat.le_of_eq F1.at'.symm; clear F1)
      | (clear t2; refine wpList_storeS rfl 116 _ _ rfl rfl [.bool false, .bool false, .bool true, .bool true] rfl C1 (by decide) infoUse (by simp [Value.oneCell']) ?_; intro W2 U2 C2x; have C2 : IsS W2 b1 116 [.bool false, .bool false, .bool true, .bool true] := C2x; have B2 := U2.trans B1 h1; have c0 : W2.cell? ⟨b1, 0, none⟩ = some (.bool false) := C2.cell 0; have c1 : W2.cell? ⟨b1, 1, none⟩ = some (.bool false) := C2.cell 1; have c2 : W2.cell? ⟨b1, 2, none⟩ = some (.bool true) := C2.cell 2; have c3 : W2.cell? ⟨b1, 3, none⟩ = some (.bool true) := C2.cell 3; clear U2 C1 C2x))
    refine bodyPost_ret (v := .tuple #[.agg [.bool false, .bool false, .bool true, .bool true].toArray, .bool true]) (by simp [results, Tryd.results89, go_sem, c0, c1, c2, c3]) rfl ⟨?_, B2⟩
    rfl
  have g4 : (k == 4) = false := by simpa using h4
  by_cases h5 : k = 5
  · subst h5
    go_enter Tryd.func89, Tryd.ntmps89
    go_wp2_with (first
      | (clear t1; refine wpList_allocS rfl 116 rfl [.bool false, .bool false, .bool false, .bool false] Tryd.zeroValue116 ?_; intro W1 b1 F1 C1; have B1 := F1.trans (Below.refl _ w) (Nat.le_refl _); have h1 : w.heap.size ≤ b1 := Nat.le_of_eq F1.at'.symm; clear F1)
      | (clear t2; refine wpList_storeS rfl 116 _ _ rfl rfl [.bool false, .bool true, .bool true, .bool false] rfl C1 (by decide) infoUse (by simp [Value.oneCell']) ?_; intro W2 U2 C2x; have C2 : IsS W2 b1 116 [.bool false, .bool true, .bool true, .bool false] := C2x; have B2 := U2.trans B1 h1; have c0 : W2.cell? ⟨b1, 0, none⟩ = some (.bool false) := C2.cell 0; have c1 : W2.cell? ⟨b1, 1, none⟩ = some (.bool true) := C2.cell 1; have c2 : W2.cell? ⟨b1, 2, none⟩ = some (.bool true) := C2.cell 2; have c3 : W2.cell? ⟨b1, 3, none⟩ = some (.bool false) := C2.cell 3; clear U2 C1 C2x))
    refine bodyPost_ret (v := .tuple #[.agg [.bool false, .bool true, .bool true, .bool false].toArray, .bool true]) (by simp [results, Tryd.results89, go_sem, c0, c1, c2, c3]) rfl ⟨?_, B2⟩
    rfl
  have g5 : (k == 5) = false := by simpa using h5
  by_cases h6 : k = 6
  · subst h6
    go_enter Tryd.func89, Tryd.ntmps89
    go_wp2_with (first
      | (clear t1; refine wpList_allocS rfl 116 rfl [.bool false, .bool false, .bool false, .bool false] Tryd.zeroValue116 ?_; intro W1 b1 F1 C1; have B1 := F1.trans (Below.refl _ w) (Nat.le_refl _); have h1 : w.heap.size ≤ b1 := Nat.le_of_eq F1.at'.symm; clear F1)
      | (clear t2; refine wpList_storeS rfl 116 _ _ rfl rfl [.bool false, .bool false, .bool false, .bool false] rfl C1 (by decide) infoUse (by simp [Value.oneCell']) ?_; intro W2 U2 C2x; have C2 : IsS W2 b1 116 [.bool false, .bool false, .bool false, .bool false] := C2x; have B2 := U2.trans B1 h1; have c0 : W2.cell? ⟨b1, 0, none⟩ = some (.bool false) := C2.cell 0; have c1 : W2.cell? ⟨b1, 1, none⟩ = some (.bool false) := C2.cell 1; have c2 : W2.cell? ⟨b1, 2, none⟩ = some (.bool false) := C2.cell 2; have c3 : W2.cell? ⟨b1, 3, none⟩ = some (.bool false) := C2.cell 3; clear U2 C1 C2x))
    refine bodyPost_ret (v := .tuple #[.agg [.bool false, .bool false, .bool false, .bool false].toArray, .bool true]) (by simp [results, Tryd.results89, go_sem, c0, c1, c2, c3]) rfl ⟨?_, B2⟩
    rfl
  have g6 : (k == 6) = false := by simpa using h6
  by_cases h7 : k = 7
  · subst h7
    go_enter Tryd.func89, Tryd.ntmps89
    go_wp2_with (first
      | (clear t1; refine wpList_allocS rfl 116 rfl [.bool false, .bool false, .bool false, .bool false] Tryd.zeroValue116 ?_; intro W1 b1 F1 C1; have B1 := F1.trans (Below.refl _ w) (Nat.le_refl _); have h1 : w.heap.size ≤ b1 := Nat.le_of_eq F1.at'.symm; clear F1)
      | (clear t2; refine wpList_storeS rfl 116 _ _ rfl rfl [.bool true, .bool false, .bool true, .bool false] rfl C1 (by decide) infoUse (by simp [Value.oneCell']) ?_; intro W2 U2 C2x; have C2 : IsS W2 b1 116 [.bool true, .bool false, .bool true, .bool false] := C2x; have B2 := U2.trans B1 h1; have c0 : W2.cell? ⟨b1, 0, none⟩ = some (.bool true) := C2.cell 0; have c1 : W2.cell? ⟨b1, 1, none⟩ = some (.bool false) := C2.cell 1; have c2 : W2.cell? ⟨b1, 2, none⟩ = some (.bool true) := C2.cell 2; have c3 : W2.cell? ⟨b1, 3, none⟩ = some (.bool false) := C2.cell 3; clear U2 C1 C2x))
    refine bodyPost_ret (v := .tuple #[.agg [.bool true, .bool false, .bool true, .bool false].toArray, .bool true]) (by simp [results, Tryd.results89, go_sem, c0, c1, c2, c3]) rfl ⟨?_, B2⟩
    rfl
  have g7 : (k == 7) = false := by simpa using h7
  by_cases h8 : k = 8
  · subst h8
    go_enter Tryd.func89, Tryd.ntmps89
    go_wp2_with (first
      | (clear t1; refine wpList_allocS rfl 116 rfl [.bool false, .bool false, .bool false, .bool false] Tryd.zeroValue116 ?_; intro W1 b1 F1 C1; have B1 := F1.trans (Below.refl _ w) (Nat.le_refl _); have h1 : w.heap.size ≤ b1 := Nat.le_of_eq F1.at'.symm; clear F1)
      | (clear t2; refine wpList_storeS rfl 116 _ _ rfl rfl [.bool false, .bool true, .bool true, .bool false] rfl C1 (by decide) infoUse (by simp [Value.oneCell']) ?_; intro W2 U2 C2x; have C2 : IsS W2 b1 116 [.bool false, .bool true, .bool true, .bool false] := C2x; have B2 := U2.trans B1 h1; have c0 : W2.cell? ⟨b1, 0, none⟩ = some (.bool false) := C2.cell 0; have c1 : W2.cell? ⟨b1, 1, none⟩ = some (.bool true) := C2.cell 1; have c2 : W2.cell? ⟨b1, 2, none⟩ = some (.bool true) := C2.cell 2; have c3 : W2.cell? ⟨b1, 3, none⟩ = some (.bool false) := C2.cell 3; clear U2 C1 C2x))
    refine bodyPost_ret (v := .tuple #[.agg [.bool false, .bool true, .bool true, .bool false].toArray, .bool true]) (by simp [results, Tryd.results89, go_sem, c0, c1, c2, c3]) rfl ⟨?_, B2⟩
    rfl
  have g8 : (k == 8) = false := by simpa using h8
  by_cases h9 : k = 9
  · subst h9
    go_enter Tryd.func89, Tryd.ntmps89
    go_wp2_with (first
      | (clear t1; refine wpList_allocS rfl 116 rfl [.bool false, .bool false, .bool false, .bool false] Tryd.zeroValue116 ?_; intro W1 b1 F1 C1; have B1 := F1.trans (Below.refl _ w) (Nat.le_refl _); have h1 : w.heap.size ≤ b1 := Nat.le_of_eq F1.at'.symm; clear F1)
      | (clear t2; refine wpList_storeS rfl 116 _ _ rfl rfl [.bool true, .bool false, .bool true, .bool false] rfl C1 (by decide) infoUse (by simp [Value.oneCell']) ?_; intro W2 U2 C2x; have C2 : IsS W2 b1 116 [.bool true, .bool false, .bool true, .bool false] := C2x; have B2 := U2.trans B1 h1; have c0 : W2.cell? ⟨b1, 0, none⟩ = some (.bool true) := C2.cell 0; have c1 : W2.cell? ⟨b1, 1, none⟩ = some (.bool false) := C2.cell 1; have c2 : W2.cell? ⟨b1, 2, none⟩ = some (.bool true) := C2.cell 2; have c3 : W2.cell? ⟨b1, 3, none⟩ = some (.bool false) := C2.cell 3; clear U2 C1 C2x))
    refine bodyPost_ret (v := .tuple #[.agg [.bool true, .bool false, .bool true, .bool false].toArray, .bool true]) (by simp [results, Tryd.results89, go_sem, c0, c1, c2, c3]) rfl ⟨?_, B2⟩
    rfl
  have g9 : (k == 9) = false := by simpa using h9
  have e : useL k = [.bool false, .bool false, .bool false, .bool false] := by simp [useL, uReg, uSrc, uLoc, uImm, *]
  have e2 : uOk k = false := by simp only [uOk, decide_eq_false_iff_not]; omega
  have HE : Hid (useL k = [.bool false, .bool false, .bool false, .bool false]) := e
  have HE2 : Hid (uOk k = false) := e2
  clear e e2 h1 h2 h3 h4 h5 h6 h7 h8 h9
  go_enter Tryd.func89, Tryd.ntmps89
  go_wp2_with (first
    | (clear t1; refine wpList_allocS rfl 116 rfl [.bool false, .bool false, .bool false, .bool false] Tryd.zeroValue116 ?_; intro W1 b1 F1 C1; have B1 := F1.trans (Below.refl _ w) (Nat.le_refl _); have h1 : w.heap.size ≤ b1 := Nat.le_of_eq F1.at'.symm; clear F1)
    | (clear t2; refine wpList_storeS rfl 116 _ _ rfl rfl [.bool false, .bool false, .bool false, .bool false] rfl C1 (by decide) infoUse (by simp [Value.oneCell']) ?_; intro W2 U2 C2x; have C2 : IsS W2 b1 116 [.bool false, .bool false, .bool false, .bool false] := C2x; have B2 := U2.trans B1 h1; have c0 : W2.cell? ⟨b1, 0, none⟩ = some (.bool false) := C2.cell 0; have c1 : W2.cell? ⟨b1, 1, none⟩ = some (.bool false) := C2.cell 1; have c2 : W2.cell? ⟨b1, 2, none⟩ = some (.bool false) := C2.cell 2; have c3 : W2.cell? ⟨b1, 3, none⟩ = some (.bool false) := C2.cell 3; clear U2 C1 C2x))
  refine bodyPost_ret (v := .tuple #[.agg [.bool false, .bool false, .bool false, .bool false].toArray, .bool false]) (by simp [results, Tryd.results89, go_sem, c0, c1, c2, c3]) rfl ⟨?_, B2⟩
  rw [HE.out, HE2.out]
def numOk (n : Int) (used : Bool) (m : Int) : Bool := if used then decide (0 ≤ n) && decide (n < m) else (n == 0)
set_option maxRecDepth 100000 in
set_option maxHeartbeats 1000000 in
theorem validNumber_any (n : Int) (used : Bool) (m : Int) (w : World) : Calls Tryd.prog 90 #[.int .i64 n, .bool used, .int .i64 m] w fun en w' => en = .returned (.bool (numOk n used m)) ∧ w' = w := by
  cases used with
  | false =>
    go_enter Tryd.func90, Tryd.ntmps90
    go_wp2_with fail
    go_ret
    exact ⟨rfl, rfl⟩
  | true =>
    go_enter Tryd.func90, Tryd.ntmps90
    go_wp2_with fail
    all_goals
      go_ret
      refine ⟨?_, rfl⟩
      first | (simp [numOk, *]; done) | (simp [numOk, *]; omega)
end Go.Proofs.YtdjlfpkemdiadaaDoor

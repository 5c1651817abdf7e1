/- Instructions: whether they can be written: the reference's side. -/
import Derived.Test.YtjoppgilmlhfbaaDoorP3
namespace Go.Proofs.YtjoppgilmlhfbaaDoor
open Go.RowKit M
set_option linter.unusedSimpArgs false
set_option linter.unusedVariables false

def b4 (f : Bool × Bool × Bool × Bool) : List Value := [.bool f.1, .bool f.2.1, .bool f.2.2.1, .bool f.2.2.2]
theorem b4_one (f : Bool × Bool × Bool × Bool) : ∀ v ∈ b4 f, v.oneCell' = true := by simp [b4, Value.oneCell']
theorem infoB4 : (Tryd.prog.info? 50).map (·.size) = some 4 := by kernel_rfl
def f4 (a b c d : Bool) : Bool × Bool × Bool × Bool := (a, b, c, d)
def no4 := f4 false false false false
/-- The fields that a kind of instruction uses. -/
def fsV (op : Int) : (Bool × Bool × Bool × Bool) × Bool :=
  if op = 1 then (f4 true false false true, true) else if op = 2 then (f4 true true false false, true)
  else if op = 3 ∨ op = 7 ∨ op = 9 then (f4 true false true false, true) else if op = 4 then (f4 false false true true, true)
  else if op = 5 ∨ op = 8 then (f4 false true true false, true) else if op = 6 then (no4, true) else (no4, false)
theorem ld4 {b o : Nat} {v : Value} (w : World) (h : w.cell? ⟨b, o, none⟩ = some v) : (Instr.loadAt 4 (.pointer (some ⟨b, o, none⟩))).run Tryd.prog w = .ok v w := by simp [go_sem, h]
set_option maxRecDepth 100000 in
set_option maxHeartbeats 2000000 in
theorem fs_1 (w : World) : Calls Tryd.prog 25 #[.int .i64 1] w fun e w' => e = .returned (.tuple #[.agg (b4 (fsV 1).1).toArray, .bool (fsV 1).2]) ∧ Below w.heap.size w w' := by
  have HF : Hid (fsV 1 = (f4 true false false true, true)) := (by show fsV _ = _; simp [fsV, no4])
  generalize fsV 1 = R at *
  have tk : True := trivial
  have tl : True := trivial
  go_enter Tryd.func25, Tryd.ntmps25
  go_wp2_with (first
    | (clear tk; refine wpList_allocS rfl 50 rfl (b4 no4) Tryd.zeroValue50 ?_; intro W1 b1 F1 N1; have B1 := F1.trans (Below.refl _ w) (Nat.le_refl _); have h1 : w.heap.size ≤ b1 := Nat.le_of_eq F1.at'.symm; clear F1)
    | (clear tl; refine wpList_storeS rfl 50 _ _ rfl rfl (b4 (f4 true false false true)) rfl N1 (by simp [b4]) infoB4 (b4_one _) ?_; intro W2 U2 N2x; have N2 : IsS W2 b1 50 (b4 (f4 true false false true)) := N2x; have B2 := U2.trans B1 h1; clear U2 N1 N2x))
  have c0 := N2.cell 0
  have c1 := N2.cell 1
  have c2 := N2.cell 2
  have c3 := N2.cell 3
  simp [b4, f4] at c0 c1 c2 c3
  refine ⟨rfl, .tuple #[.agg (b4 (f4 true false false true)).toArray, .bool true], ?_, ?_, B2⟩
  · simp [results, Tryd.results25, go_sem, c0, c1, c2, c3, b4, f4]
  · rw [HF.out]
set_option maxRecDepth 100000 in
set_option maxHeartbeats 2000000 in
theorem fs_2 (w : World) : Calls Tryd.prog 25 #[.int .i64 2] w fun e w' => e = .returned (.tuple #[.agg (b4 (fsV 2).1).toArray, .bool (fsV 2).2]) ∧ Below w.heap.size w w' := by
  have HF : Hid (fsV 2 = (f4 true true false false, true)) := (by show fsV _ = _; simp [fsV, no4])
  generalize fsV 2 = R at *
  have tk : True := trivial
  have tl : True := trivial
  go_enter Tryd.func25, Tryd.ntmps25
  go_wp2_with (first
    | (clear tk; refine wpList_allocS rfl 50 rfl (b4 no4) Tryd.zeroValue50 ?_; intro W1 b1 F1 N1; have B1 := F1.trans (Below.refl _ w) (Nat.le_refl _); have h1 : w.heap.size ≤ b1 := Nat.le_of_eq F1.at'.symm; clear F1)
    | (clear tl; refine wpList_storeS rfl 50 _ _ rfl rfl (b4 (f4 true true false false)) rfl N1 (by simp [b4]) infoB4 (b4_one _) ?_; intro W2 U2 N2x; have N2 : IsS W2 b1 50 (b4 (f4 true true false false)) := N2x; have B2 := U2.trans B1 h1; clear U2 N1 N2x))
  have c0 := N2.cell 0
  have c1 := N2.cell 1
  have c2 := N2.cell 2
  have c3 := N2.cell 3
  simp [b4, f4] at c0 c1 c2 c3
  refine ⟨rfl, .tuple #[.agg (b4 (f4 true true false false)).toArray, .bool true], ?_, ?_, B2⟩
  · simp [results, Tryd.results25, go_sem, c0, c1, c2, c3, b4, f4]
  · rw [HF.out]
set_option maxRecDepth 100000 in
set_option maxHeartbeats 2000000 in
theorem fs_3 (w : World) : Calls Tryd.prog 25 #[.int .i64 3] w fun e w' => e = .returned (.tuple #[.agg (b4 (fsV 3).1).toArray, .bool (fsV 3).2]) ∧ Below w.heap.size w w' := by
  have HF : Hid (fsV 3 = (f4 true false true false, true)) := (by show fsV _ = _; simp [fsV, no4])
  generalize fsV 3 = R at *
  have tk : True := trivial
  have tl : True := trivial
  go_enter Tryd.func25, Tryd.ntmps25
  go_wp2_with (first
    | (clear tk; refine wpList_allocS rfl 50 rfl (b4 no4) Tryd.zeroValue50 ?_; intro W1 b1 F1 N1; have B1 := F1.trans (Below.refl _ w) (Nat.le_refl _); have h1 : w.heap.size ≤ b1 := Nat.le_of_eq F1.at'.symm; clear F1)
    | (clear tl; refine wpList_storeS rfl 50 _ _ rfl rfl (b4 (f4 true false true false)) rfl N1 (by simp [b4]) infoB4 (b4_one _) ?_; intro W2 U2 N2x; have N2 : IsS W2 b1 50 (b4 (f4 true false true false)) := N2x; have B2 := U2.trans B1 h1; clear U2 N1 N2x))
  have c0 := N2.cell 0
  have c1 := N2.cell 1
  have c2 := N2.cell 2
  have c3 := N2.cell 3
  simp [b4, f4] at c0 c1 c2 c3
  refine ⟨rfl, .tuple #[.agg (b4 (f4 true false true false)).toArray, .bool true], ?_, ?_, B2⟩
  · simp [results, Tryd.results25, go_sem, c0, c1, c2, c3, b4, f4]
  · rw [HF.out]
set_option maxRecDepth 100000 in
set_option maxHeartbeats 2000000 in
theorem fs_4 (w : World) : Calls Tryd.prog 25 #[.int .i64 4] w fun e w' => e = .returned (.tuple #[.agg (b4 (fsV 4).1).toArray, .bool (fsV 4).2]) ∧ Below w.heap.size w w' := by
  have HF : Hid (fsV 4 = (f4 false false true true, true)) := (by show fsV _ = _; simp [fsV, no4])
  generalize fsV 4 = R at *
  have tk : True := trivial
  have tl : True := trivial
  go_enter Tryd.func25, Tryd.ntmps25
  go_wp2_with (first
    | (clear tk; refine wpList_allocS rfl 50 rfl (b4 no4) Tryd.zeroValue50 ?_; intro W1 b1 F1 N1; have B1 := F1.trans (Below.refl _ w) (Nat.le_refl _); have h1 : w.heap.size ≤ b1 := Nat.le_of_eq F1.at'.symm; clear F1)
    | (clear tl; refine wpList_storeS rfl 50 _ _ rfl rfl (b4 (f4 false false true true)) rfl N1 (by simp [b4]) infoB4 (b4_one _) ?_; intro W2 U2 N2x; have N2 : IsS W2 b1 50 (b4 (f4 false false true true)) := N2x; have B2 := U2.trans B1 h1; clear U2 N1 N2x))
  have c0 := N2.cell 0
  have c1 := N2.cell 1
  have c2 := N2.cell 2
  have c3 := N2.cell 3
  simp [b4, f4] at c0 c1 c2 c3
  refine ⟨rfl, .tuple #[.agg (b4 (f4 false false true true)).toArray, .bool true], ?_, ?_, B2⟩
  · simp [results, Tryd.results25, go_sem, c0, c1, c2, c3, b4, f4]
  · rw [HF.out]
set_option maxRecDepth 100000 in
set_option maxHeartbeats 2000000 in
theorem fs_5 (w : World) : Calls Tryd.prog 25 #[.int .i64 5] w fun e w' => e = .returned (.tuple #[.agg (b4 (fsV 5).1).toArray, .bool (fsV 5).2]) ∧ Below w.heap.size w w' := by
  have HF : Hid (fsV 5 = (f4 false true true false, true)) := (by show fsV _ = _; simp [fsV, no4])
  generalize fsV 5 = R at *
  have tk : True := trivial
  have tl : True := trivial
  go_enter Tryd.func25, Tryd.ntmps25
  go_wp2_with (first
    | (clear tk; refine wpList_allocS rfl 50 rfl (b4 no4) Tryd.zeroValue50 ?_; intro W1 b1 F1 N1; have B1 := F1.trans (Below.refl _ w) (Nat.le_refl _); have h1 : w.heap.size ≤ b1 := Nat.le_of_eq F1.at'.symm; clear F1)
    | (clear tl; refine wpList_storeS rfl 50 _ _ rfl rfl (b4 (f4 false true true false)) rfl N1 (by simp [b4]) infoB4 (b4_one _) ?_; intro W2 U2 N2x; have N2 : IsS W2 b1 50 (b4 (f4 false true true false)) := N2x; have B2 := U2.trans B1 h1; clear U2 N1 N2x))
  have c0 := N2.cell 0
  have c1 := N2.cell 1
  have c2 := N2.cell 2
  have c3 := N2.cell 3
  simp [b4, f4] at c0 c1 c2 c3
  refine ⟨rfl, .tuple #[.agg (b4 (f4 false true true false)).toArray, .bool true], ?_, ?_, B2⟩
  · simp [results, Tryd.results25, go_sem, c0, c1, c2, c3, b4, f4]
  · rw [HF.out]
set_option maxRecDepth 100000 in
set_option maxHeartbeats 2000000 in
theorem fs_6 (w : World) : Calls Tryd.prog 25 #[.int .i64 6] w fun e w' => e = .returned (.tuple #[.agg (b4 (fsV 6).1).toArray, .bool (fsV 6).2]) ∧ Below w.heap.size w w' := by
  have HF : Hid (fsV 6 = (f4 false false false false, true)) := (by show fsV _ = _; simp [fsV, no4])
  generalize fsV 6 = R at *
  have tk : True := trivial
  have tl : True := trivial
  go_enter Tryd.func25, Tryd.ntmps25
  go_wp2_with (first
    | (clear tk; refine wpList_allocS rfl 50 rfl (b4 no4) Tryd.zeroValue50 ?_; intro W1 b1 F1 N1; have B1 := F1.trans (Below.refl _ w) (Nat.le_refl _); have h1 : w.heap.size ≤ b1 := Nat.le_of_eq F1.at'.symm; clear F1)
    | (clear tl; refine wpList_storeS rfl 50 _ _ rfl rfl (b4 (f4 false false false false)) rfl N1 (by simp [b4]) infoB4 (b4_one _) ?_; intro W2 U2 N2x; have N2 : IsS W2 b1 50 (b4 (f4 false false false false)) := N2x; have B2 := U2.trans B1 h1; clear U2 N1 N2x))
  have c0 := N2.cell 0
  have c1 := N2.cell 1
  have c2 := N2.cell 2
  have c3 := N2.cell 3
  simp [b4, f4] at c0 c1 c2 c3
  refine ⟨rfl, .tuple #[.agg (b4 (f4 false false false false)).toArray, .bool true], ?_, ?_, B2⟩
  · simp [results, Tryd.results25, go_sem, c0, c1, c2, c3, b4, f4]
  · rw [HF.out]
set_option maxRecDepth 100000 in
set_option maxHeartbeats 2000000 in
theorem fs_7 (w : World) : Calls Tryd.prog 25 #[.int .i64 7] w fun e w' => e = .returned (.tuple #[.agg (b4 (fsV 7).1).toArray, .bool (fsV 7).2]) ∧ Below w.heap.size w w' := by
  have HF : Hid (fsV 7 = (f4 true false true false, true)) := (by show fsV _ = _; simp [fsV, no4])
  generalize fsV 7 = R at *
  have tk : True := trivial
  have tl : True := trivial
  go_enter Tryd.func25, Tryd.ntmps25
  go_wp2_with (first
    | (clear tk; refine wpList_allocS rfl 50 rfl (b4 no4) Tryd.zeroValue50 ?_; intro W1 b1 F1 N1; have B1 := F1.trans (Below.refl _ w) (Nat.le_refl _); have h1 : w.heap.size ≤ b1 := Nat.le_of_eq F1.at'.symm; clear F1)
    | (clear tl; refine wpList_storeS rfl 50 _ _ rfl rfl (b4 (f4 true false true false)) rfl N1 (by simp [b4]) infoB4 (b4_one _) ?_; intro W2 U2 N2x; have N2 : IsS W2 b1 50 (b4 (f4 true false true false)) := N2x; have B2 := U2.trans B1 h1; clear U2 N1 N2x))
  have c0 := N2.cell 0
  have c1 := N2.cell 1
  have c2 := N2.cell 2
  have c3 := N2.cell 3
  simp [b4, f4] at c0 c1 c2 c3
  refine ⟨rfl, .tuple #[.agg (b4 (f4 true false true false)).toArray, .bool true], ?_, ?_, B2⟩
  · simp [results, Tryd.results25, go_sem, c0, c1, c2, c3, b4, f4]
  · rw [HF.out]
set_option maxRecDepth 100000 in
set_option maxHeartbeats 2000000 in
theorem fs_8 (w : World) : Calls Tryd.prog 25 #[.int .i64 8] w fun e w' => e = .returned (.tuple #[.agg (b4 (fsV 8).1).toArray, .bool (fsV 8).2]) ∧ Below w.heap.size w w' := by
  have HF : Hid (fsV 8 = (f4 false true true false, true)) := (by show fsV _ = _; simp [fsV, no4])
  generalize fsV 8 = R at *
  have tk : True := trivial
  have tl : True := trivial
  go_enter Tryd.func25, Tryd.ntmps25
  go_wp2_with (first
    | (clear tk; refine wpList_allocS rfl 50 rfl (b4 no4) Tryd.zeroValue50 ?_; intro W1 b1 F1 N1; have B1 := F1.trans (Below.refl _ w) (Nat.le_refl _); have h1 : w.heap.size ≤ b1 := Nat.le_of_eq F1.at'.symm; clear F1)
    | (clear tl; refine wpList_storeS rfl 50 _ _ rfl rfl (b4 (f4 false true true false)) rfl N1 (by simp [b4]) infoB4 (b4_one _) ?_; intro W2 U2 N2x; have N2 : IsS W2 b1 50 (b4 (f4 false true true false)) := N2x; have B2 := U2.trans B1 h1; clear U2 N1 N2x))
  have c0 := N2.cell 0
  have c1 := N2.cell 1
  have c2 := N2.cell 2
  have c3 := N2.cell 3
  simp [b4, f4] at c0 c1 c2 c3
  refine ⟨rfl, .tuple #[.agg (b4 (f4 false true true false)).toArray, .bool true], ?_, ?_, B2⟩
  · simp [results, Tryd.results25, go_sem, c0, c1, c2, c3, b4, f4]
  · rw [HF.out]
set_option maxRecDepth 100000 in
set_option maxHeartbeats 2000000 in
theorem fs_9 (w : World) : Calls Tryd.prog 25 #[.int .i64 9] w fun e w' => e = .returned (.tuple #[.agg (b4 (fsV 9).1).toArray, .bool (fsV 9).2]) ∧ Below w.heap.size w w' := by
  have HF : Hid (fsV 9 = (f4 true false true false, true)) := (by show fsV _ = _; simp [fsV, no4])
  generalize fsV 9 = R at *
  have tk : True := trivial
  have tl : True := trivial
  go_enter Tryd.func25, Tryd.ntmps25
  go_wp2_with (first
    | (clear tk; refine wpList_allocS rfl 50 rfl (b4 no4) Tryd.zeroValue50 ?_; intro W1 b1 F1 N1; have B1 := F1.trans (Below.refl _ w) (Nat.le_refl _); have h1 : w.heap.size ≤ b1 := Nat.le_of_eq F1.at'.symm; clear F1)
    | (clear tl; refine wpList_storeS rfl 50 _ _ rfl rfl (b4 (f4 true false true false)) rfl N1 (by simp [b4]) infoB4 (b4_one _) ?_; intro W2 U2 N2x; have N2 : IsS W2 b1 50 (b4 (f4 true false true false)) := N2x; have B2 := U2.trans B1 h1; clear U2 N1 N2x))
  have c0 := N2.cell 0
  have c1 := N2.cell 1
  have c2 := N2.cell 2
  have c3 := N2.cell 3
  simp [b4, f4] at c0 c1 c2 c3
  refine ⟨rfl, .tuple #[.agg (b4 (f4 true false true false)).toArray, .bool true], ?_, ?_, B2⟩
  · simp [results, Tryd.results25, go_sem, c0, c1, c2, c3, b4, f4]
  · rw [HF.out]
set_option maxRecDepth 100000 in
set_option maxHeartbeats 2000000 in
theorem fs_0 (op : Int) (h1 : op ≠ 1) (h2 : op ≠ 2) (h3 : op ≠ 3) (h4 : op ≠ 4) (h5 : op ≠ 5) (h6 : op ≠ 6) (h7 : op ≠ 7) (h8 : op ≠ 8) (h9 : op ≠ 9) (w : World) : Calls Tryd.prog 25 #[.int .i64 op] w fun e w' => e = .returned (.tuple #[.agg (b4 (fsV op).1).toArray, .bool (fsV op).2]) ∧ Below w.heap.size w w' := by
  have HF : Hid (fsV op = (f4 false false false false, false)) := (by show fsV _ = _; simp [fsV, h1, h2, h3, h4, h5, h6, h7, h8, h9, no4])
  generalize fsV op = R at *
  have e1 : (op == 1) = false := by simpa using h1
  have e2 : (op == 2) = false := by simpa using h2
  have e3 : (op == 3) = false := by simpa using h3
  have e4 : (op == 4) = false := by simpa using h4
  have e5 : (op == 5) = false := by simpa using h5
  have e6 : (op == 6) = false := by simpa using h6
  have e7 : (op == 7) = false := by simpa using h7
  have e8 : (op == 8) = false := by simpa using h8
  have e9 : (op == 9) = false := by simpa using h9
  clear h1 h2 h3 h4 h5 h6 h7 h8 h9
  have tk : True := trivial
  have tl : True := trivial
  go_enter Tryd.func25, Tryd.ntmps25
  go_wp2_with (first
    | (clear tk; refine wpList_allocS rfl 50 rfl (b4 no4) Tryd.zeroValue50 ?_; intro W1 b1 F1 N1; have B1 := F1.trans (Below.refl _ w) (Nat.le_refl _); have h1 : w.heap.size ≤ b1 := Nat.le_of_eq F1.at'.symm; clear F1)
    | (clear tl; refine wpList_storeS rfl 50 _ _ rfl rfl (b4 (f4 false false false false)) rfl N1 (by simp [b4]) infoB4 (b4_one _) ?_; intro W2 U2 N2x; have N2 : IsS W2 b1 50 (b4 (f4 false false false false)) := N2x; have B2 := U2.trans B1 h1; clear U2 N1 N2x))
  have c0 := N2.cell 0
  have c1 := N2.cell 1
  have c2 := N2.cell 2
  have c3 := N2.cell 3
  simp [b4, f4] at c0 c1 c2 c3
  refine ⟨rfl, .tuple #[.agg (b4 (f4 false false false false)).toArray, .bool false], ?_, ?_, B2⟩
  · simp [results, Tryd.results25, go_sem, c0, c1, c2, c3, b4, f4]
  · rw [HF.out]
theorem fs_any (op : Int) (w : World) : Calls Tryd.prog 25 #[.int .i64 op] w fun e w' => e = .returned (.tuple #[.agg (b4 (fsV op).1).toArray, .bool (fsV op).2]) ∧ Below w.heap.size w w' := by
  by_cases h1 : op = 1
  · subst h1; exact fs_1 w
  by_cases h2 : op = 2
  · subst h2; exact fs_2 w
  by_cases h3 : op = 3
  · subst h3; exact fs_3 w
  by_cases h4 : op = 4
  · subst h4; exact fs_4 w
  by_cases h5 : op = 5
  · subst h5; exact fs_5 w
  by_cases h6 : op = 6
  · subst h6; exact fs_6 w
  by_cases h7 : op = 7
  · subst h7; exact fs_7 w
  by_cases h8 : op = 8
  · subst h8; exact fs_8 w
  by_cases h9 : op = 9
  · subst h9; exact fs_9 w
  exact fs_0 op h1 h2 h3 h4 h5 h6 h7 h8 h9 w
set_option maxRecDepth 100000 in
set_option maxHeartbeats 2000000 in
theorem field_any (u : Bool) (s : ByteArray) (hs : s.size ≤ maxLen) (w : World) : Calls Tryd.prog 26 #[.bool u, .string s] w fun e w' => e = .returned (.bool (if u = true then nB s else decide (s.toList = []))) ∧ w' = w := by
  have cN := fun w => rName_any s hs w
  cases u with
  | true =>
    unfold nB
    generalize nameB s.data.toList = q at *
    go_enter Tryd.func26, Tryd.ntmps26
    go_wp2_with (go_at_call 21; refine (cN _).mono ?_; rintro e w' ⟨rfl, hw'⟩; replace hw' := hw'.symm; subst hw')
    go_ret
    exact ⟨rfl, rfl⟩
  | false =>
    by_cases h : s.toList = []
    · have hd : decide (s.toList = []) = true := by simpa using h
      have he : s.toList.isEmpty = true := by rw [h]; rfl
      clear cN hs
      simp only [hd]
      go_enter Tryd.func26, Tryd.ntmps26
      go_wp2_with fail
      go_ret
      exact ⟨ret_bool (by simp [*]), rfl⟩
    · have hd : decide (s.toList = []) = false := by simpa using h
      have he : s.toList.isEmpty = false := by simpa using h
      clear cN hs
      simp only [hd]
      go_enter Tryd.func26, Tryd.ntmps26
      go_wp2_with fail
      go_ret
      exact ⟨ret_bool (by simp [*]), rfl⟩
end Go.Proofs.YtjoppgilmlhfbaaDoor

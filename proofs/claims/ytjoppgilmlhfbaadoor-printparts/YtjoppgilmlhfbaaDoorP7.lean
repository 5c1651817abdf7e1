/- Instructions: whether they can be written: the reference's side, whole. -/
import Derived.Test.YtjoppgilmlhfbaaDoorP6
namespace Go.Proofs.YtjoppgilmlhfbaaDoor
open Go.RowKit M
set_option linter.unusedSimpArgs false
set_option linter.unusedVariables false

set_option maxRecDepth 100000 in
set_option maxHeartbeats 4000000 in
theorem ri_A (op imm : Int) (reg src loc : ByteArray) (f0 f1 f2 f3 r0 r1 r2 : Bool)
    (cF : ∀ w, Calls Tryd.prog 25 #[.int .i64 op] w fun e w' => e = .returned (.tuple #[.agg #[.bool f0, .bool f1, .bool f2, .bool f3], .bool false]) ∧ Below w.heap.size w w')
    (k0 : ∀ w, Calls Tryd.prog 26 #[.bool f0, .string reg] w fun e w' => e = .returned (.bool r0) ∧ w' = w)
    (k1 : ∀ w, Calls Tryd.prog 26 #[.bool f1, .string src] w fun e w' => e = .returned (.bool r1) ∧ w' = w)
    (k2 : ∀ w, Calls Tryd.prog 26 #[.bool f2, .string loc] w fun e w' => e = .returned (.bool r2) ∧ w' = w) (w : World) :
    Calls Tryd.prog 18 #[.agg (ibL ⟨op, reg, src, loc, imm⟩).toArray] w fun e w' => e = .returned (.bool false) ∧ Below w.heap.size w w' := by
  clear k0 k1 k2
  have tk : True := trivial
  have tl : True := trivial
  have tm : True := trivial
  dsimp only [ibL]
  go_enter Tryd.func18, Tryd.ntmps18
  go_wp2_with (first
    | (clear tk; refine wpList_boxS rfl 27 _ rfl (ibL ⟨op, reg, src, loc, imm⟩) rfl ?_; intro W1 b1 F1 N1; have B1 := F1.trans (Below.refl _ w) (Nat.le_refl _); have c0 : W1.cell? ⟨b1, 0, none⟩ = some (.int .i64 op) := N1.cell 0; clear F1)
    | (go_at_call 25; refine (cF _).mono ?_; rintro e W2 ⟨rfl, B2x⟩; have N2 := N1.grown B2x; have B2 := Below.then B1 B2x; clear cF B2x N1 c0)
    | (clear tl; refine wpList_allocS rfl 50 rfl (b4 no4) Tryd.zeroValue50 ?_; intro W3 b3 F3 A3; have N3 := N2.fresh F3; have B3 := F3.trans B2 B2.size; have h3 : w.heap.size ≤ b3 := Nat.le_trans B2.size (Nat.le_of_eq F3.at'.symm); have n13 : b1 ≠ b3 := (by have := N2.lt; have := F3.at'; omega); clear F3 N2)
    | (clear tm; refine wpList_storeS rfl 50 _ _ rfl rfl (b4 (f0, f1, f2, f3)) rfl A3 (by simp [b4]) infoB4 (b4_one _) ?_; intro W4 U4 A4x; have A4 : IsS W4 b3 50 (b4 (f0, f1, f2, f3)) := A4x; have N4 := N3.upd U4 n13; have B4 := U4.trans B3 h3; have e0 : W4.cell? ⟨b3, 0, none⟩ = some (.bool f0) := A4.cell 0; have e1 : W4.cell? ⟨b3, 1, none⟩ = some (.bool f1) := A4.cell 1; have e2 : W4.cell? ⟨b3, 2, none⟩ = some (.bool f2) := A4.cell 2; have e3 : W4.cell? ⟨b3, 3, none⟩ = some (.bool f3) := A4.cell 3; have d1 : W4.cell? ⟨b1, 1, none⟩ = some (.string reg) := N4.cell 1; have d2 : W4.cell? ⟨b1, 2, none⟩ = some (.string src) := N4.cell 2; have d3 : W4.cell? ⟨b1, 3, none⟩ = some (.string loc) := N4.cell 3; have d4 : W4.cell? ⟨b1, 4, none⟩ = some (.int .i64 imm) := N4.cell 4; clear U4 A3 A4x A4 N4 N3))
  go_ret
  exact ⟨by first | rfl | (simp [*]; done), B4⟩
set_option maxRecDepth 100000 in
set_option maxHeartbeats 4000000 in
theorem ri_B (op imm : Int) (reg src loc : ByteArray) (f0 f1 f2 f3 r1 r2 : Bool)
    (cF : ∀ w, Calls Tryd.prog 25 #[.int .i64 op] w fun e w' => e = .returned (.tuple #[.agg #[.bool f0, .bool f1, .bool f2, .bool f3], .bool true]) ∧ Below w.heap.size w w')
    (k0 : ∀ w, Calls Tryd.prog 26 #[.bool f0, .string reg] w fun e w' => e = .returned (.bool false) ∧ w' = w)
    (k1 : ∀ w, Calls Tryd.prog 26 #[.bool f1, .string src] w fun e w' => e = .returned (.bool r1) ∧ w' = w)
    (k2 : ∀ w, Calls Tryd.prog 26 #[.bool f2, .string loc] w fun e w' => e = .returned (.bool r2) ∧ w' = w) (w : World) :
    Calls Tryd.prog 18 #[.agg (ibL ⟨op, reg, src, loc, imm⟩).toArray] w fun e w' => e = .returned (.bool false) ∧ Below w.heap.size w w' := by
  clear k1 k2
  have tk : True := trivial
  have tl : True := trivial
  have tm : True := trivial
  dsimp only [ibL]
  go_enter Tryd.func18, Tryd.ntmps18
  go_wp2_with (first
    | (clear tk; refine wpList_boxS rfl 27 _ rfl (ibL ⟨op, reg, src, loc, imm⟩) rfl ?_; intro W1 b1 F1 N1; have B1 := F1.trans (Below.refl _ w) (Nat.le_refl _); have c0 : W1.cell? ⟨b1, 0, none⟩ = some (.int .i64 op) := N1.cell 0; clear F1)
    | (go_at_call 25; refine (cF _).mono ?_; rintro e W2 ⟨rfl, B2x⟩; have N2 := N1.grown B2x; have B2 := Below.then B1 B2x; clear cF B2x N1 c0)
    | (clear tl; refine wpList_allocS rfl 50 rfl (b4 no4) Tryd.zeroValue50 ?_; intro W3 b3 F3 A3; have N3 := N2.fresh F3; have B3 := F3.trans B2 B2.size; have h3 : w.heap.size ≤ b3 := Nat.le_trans B2.size (Nat.le_of_eq F3.at'.symm); have n13 : b1 ≠ b3 := (by have := N2.lt; have := F3.at'; omega); clear F3 N2)
    | (clear tm; refine wpList_storeS rfl 50 _ _ rfl rfl (b4 (f0, f1, f2, f3)) rfl A3 (by simp [b4]) infoB4 (b4_one _) ?_; intro W4 U4 A4x; have A4 : IsS W4 b3 50 (b4 (f0, f1, f2, f3)) := A4x; have N4 := N3.upd U4 n13; have B4 := U4.trans B3 h3; have e0 : W4.cell? ⟨b3, 0, none⟩ = some (.bool f0) := A4.cell 0; have e1 : W4.cell? ⟨b3, 1, none⟩ = some (.bool f1) := A4.cell 1; have e2 : W4.cell? ⟨b3, 2, none⟩ = some (.bool f2) := A4.cell 2; have e3 : W4.cell? ⟨b3, 3, none⟩ = some (.bool f3) := A4.cell 3; have d1 : W4.cell? ⟨b1, 1, none⟩ = some (.string reg) := N4.cell 1; have d2 : W4.cell? ⟨b1, 2, none⟩ = some (.string src) := N4.cell 2; have d3 : W4.cell? ⟨b1, 3, none⟩ = some (.string loc) := N4.cell 3; have d4 : W4.cell? ⟨b1, 4, none⟩ = some (.int .i64 imm) := N4.cell 4; clear U4 A3 A4x A4 N4 N3)
    | (go_at_call 26; refine (k0 _).mono ?_; rintro e W5 ⟨rfl, hw⟩; replace hw := hw.symm; subst hw; clear k0))
  go_ret
  exact ⟨by first | rfl | (simp [*]; done), B4⟩
set_option maxRecDepth 100000 in
set_option maxHeartbeats 4000000 in
theorem ri_C (op imm : Int) (reg src loc : ByteArray) (f0 f1 f2 f3 r2 : Bool)
    (cF : ∀ w, Calls Tryd.prog 25 #[.int .i64 op] w fun e w' => e = .returned (.tuple #[.agg #[.bool f0, .bool f1, .bool f2, .bool f3], .bool true]) ∧ Below w.heap.size w w')
    (k0 : ∀ w, Calls Tryd.prog 26 #[.bool f0, .string reg] w fun e w' => e = .returned (.bool true) ∧ w' = w)
    (k1 : ∀ w, Calls Tryd.prog 26 #[.bool f1, .string src] w fun e w' => e = .returned (.bool false) ∧ w' = w)
    (k2 : ∀ w, Calls Tryd.prog 26 #[.bool f2, .string loc] w fun e w' => e = .returned (.bool r2) ∧ w' = w) (w : World) :
    Calls Tryd.prog 18 #[.agg (ibL ⟨op, reg, src, loc, imm⟩).toArray] w fun e w' => e = .returned (.bool false) ∧ Below w.heap.size w w' := by
  clear k2
  have tk : True := trivial
  have tl : True := trivial
  have tm : True := trivial
  dsimp only [ibL]
  go_enter Tryd.func18, Tryd.ntmps18
  go_wp2_with (first
    | (clear tk; refine wpList_boxS rfl 27 _ rfl (ibL ⟨op, reg, src, loc, imm⟩) rfl ?_; intro W1 b1 F1 N1; have B1 := F1.trans (Below.refl _ w) (Nat.le_refl _); have c0 : W1.cell? ⟨b1, 0, none⟩ = some (.int .i64 op) := N1.cell 0; clear F1)
    | (go_at_call 25; refine (cF _).mono ?_; rintro e W2 ⟨rfl, B2x⟩; have N2 := N1.grown B2x; have B2 := Below.then B1 B2x; clear cF B2x N1 c0)
    | (clear tl; refine wpList_allocS rfl 50 rfl (b4 no4) Tryd.zeroValue50 ?_; intro W3 b3 F3 A3; have N3 := N2.fresh F3; have B3 := F3.trans B2 B2.size; have h3 : w.heap.size ≤ b3 := Nat.le_trans B2.size (Nat.le_of_eq F3.at'.symm); have n13 : b1 ≠ b3 := (by have := N2.lt; have := F3.at'; omega); clear F3 N2)
    | (clear tm; refine wpList_storeS rfl 50 _ _ rfl rfl (b4 (f0, f1, f2, f3)) rfl A3 (by simp [b4]) infoB4 (b4_one _) ?_; intro W4 U4 A4x; have A4 : IsS W4 b3 50 (b4 (f0, f1, f2, f3)) := A4x; have N4 := N3.upd U4 n13; have B4 := U4.trans B3 h3; have e0 : W4.cell? ⟨b3, 0, none⟩ = some (.bool f0) := A4.cell 0; have e1 : W4.cell? ⟨b3, 1, none⟩ = some (.bool f1) := A4.cell 1; have e2 : W4.cell? ⟨b3, 2, none⟩ = some (.bool f2) := A4.cell 2; have e3 : W4.cell? ⟨b3, 3, none⟩ = some (.bool f3) := A4.cell 3; have d1 : W4.cell? ⟨b1, 1, none⟩ = some (.string reg) := N4.cell 1; have d2 : W4.cell? ⟨b1, 2, none⟩ = some (.string src) := N4.cell 2; have d3 : W4.cell? ⟨b1, 3, none⟩ = some (.string loc) := N4.cell 3; have d4 : W4.cell? ⟨b1, 4, none⟩ = some (.int .i64 imm) := N4.cell 4; clear U4 A3 A4x A4 N4 N3)
    | (go_at_call 26; refine (k0 _).mono ?_; rintro e W5 ⟨rfl, hw⟩; replace hw := hw.symm; subst hw; clear k0)
    | (go_at_call 26; refine (k1 _).mono ?_; rintro e W6 ⟨rfl, hw⟩; replace hw := hw.symm; subst hw; clear k1))
  go_ret
  exact ⟨by first | rfl | (simp [*]; done), B4⟩
set_option maxRecDepth 100000 in
set_option maxHeartbeats 4000000 in
theorem ri_D (op imm : Int) (reg src loc : ByteArray) (f0 f1 f2 f3 : Bool)
    (cF : ∀ w, Calls Tryd.prog 25 #[.int .i64 op] w fun e w' => e = .returned (.tuple #[.agg #[.bool f0, .bool f1, .bool f2, .bool f3], .bool true]) ∧ Below w.heap.size w w')
    (k0 : ∀ w, Calls Tryd.prog 26 #[.bool f0, .string reg] w fun e w' => e = .returned (.bool true) ∧ w' = w)
    (k1 : ∀ w, Calls Tryd.prog 26 #[.bool f1, .string src] w fun e w' => e = .returned (.bool true) ∧ w' = w)
    (k2 : ∀ w, Calls Tryd.prog 26 #[.bool f2, .string loc] w fun e w' => e = .returned (.bool false) ∧ w' = w) (w : World) :
    Calls Tryd.prog 18 #[.agg (ibL ⟨op, reg, src, loc, imm⟩).toArray] w fun e w' => e = .returned (.bool false) ∧ Below w.heap.size w w' := by
  have tk : True := trivial
  have tl : True := trivial
  have tm : True := trivial
  dsimp only [ibL]
  go_enter Tryd.func18, Tryd.ntmps18
  go_wp2_with (first
    | (clear tk; refine wpList_boxS rfl 27 _ rfl (ibL ⟨op, reg, src, loc, imm⟩) rfl ?_; intro W1 b1 F1 N1; have B1 := F1.trans (Below.refl _ w) (Nat.le_refl _); have c0 : W1.cell? ⟨b1, 0, none⟩ = some (.int .i64 op) := N1.cell 0; clear F1)
    | (go_at_call 25; refine (cF _).mono ?_; rintro e W2 ⟨rfl, B2x⟩; have N2 := N1.grown B2x; have B2 := Below.then B1 B2x; clear cF B2x N1 c0)
    | (clear tl; refine wpList_allocS rfl 50 rfl (b4 no4) Tryd.zeroValue50 ?_; intro W3 b3 F3 A3; have N3 := N2.fresh F3; have B3 := F3.trans B2 B2.size; have h3 : w.heap.size ≤ b3 := Nat.le_trans B2.size (Nat.le_of_eq F3.at'.symm); have n13 : b1 ≠ b3 := (by have := N2.lt; have := F3.at'; omega); clear F3 N2)
    | (clear tm; refine wpList_storeS rfl 50 _ _ rfl rfl (b4 (f0, f1, f2, f3)) rfl A3 (by simp [b4]) infoB4 (b4_one _) ?_; intro W4 U4 A4x; have A4 : IsS W4 b3 50 (b4 (f0, f1, f2, f3)) := A4x; have N4 := N3.upd U4 n13; have B4 := U4.trans B3 h3; have e0 : W4.cell? ⟨b3, 0, none⟩ = some (.bool f0) := A4.cell 0; have e1 : W4.cell? ⟨b3, 1, none⟩ = some (.bool f1) := A4.cell 1; have e2 : W4.cell? ⟨b3, 2, none⟩ = some (.bool f2) := A4.cell 2; have e3 : W4.cell? ⟨b3, 3, none⟩ = some (.bool f3) := A4.cell 3; have d1 : W4.cell? ⟨b1, 1, none⟩ = some (.string reg) := N4.cell 1; have d2 : W4.cell? ⟨b1, 2, none⟩ = some (.string src) := N4.cell 2; have d3 : W4.cell? ⟨b1, 3, none⟩ = some (.string loc) := N4.cell 3; have d4 : W4.cell? ⟨b1, 4, none⟩ = some (.int .i64 imm) := N4.cell 4; clear U4 A3 A4x A4 N4 N3)
    | (go_at_call 26; refine (k0 _).mono ?_; rintro e W5 ⟨rfl, hw⟩; replace hw := hw.symm; subst hw; clear k0)
    | (go_at_call 26; refine (k1 _).mono ?_; rintro e W6 ⟨rfl, hw⟩; replace hw := hw.symm; subst hw; clear k1)
    | (go_at_call 26; refine (k2 _).mono ?_; rintro e W7 ⟨rfl, hw⟩; replace hw := hw.symm; subst hw; clear k2))
  go_ret
  exact ⟨by first | rfl | (simp [*]; done), B4⟩
set_option maxRecDepth 100000 in
set_option maxHeartbeats 4000000 in
theorem ri_E (op imm : Int) (reg src loc : ByteArray) (f0 f1 f2 f3 : Bool)
    (cF : ∀ w, Calls Tryd.prog 25 #[.int .i64 op] w fun e w' => e = .returned (.tuple #[.agg #[.bool f0, .bool f1, .bool f2, .bool f3], .bool true]) ∧ Below w.heap.size w w')
    (k0 : ∀ w, Calls Tryd.prog 26 #[.bool f0, .string reg] w fun e w' => e = .returned (.bool true) ∧ w' = w)
    (k1 : ∀ w, Calls Tryd.prog 26 #[.bool f1, .string src] w fun e w' => e = .returned (.bool true) ∧ w' = w)
    (k2 : ∀ w, Calls Tryd.prog 26 #[.bool f2, .string loc] w fun e w' => e = .returned (.bool true) ∧ w' = w) (w : World) :
    Calls Tryd.prog 18 #[.agg (ibL ⟨op, reg, src, loc, imm⟩).toArray] w fun e w' => e = .returned (.bool (f3 || decide (imm = 0))) ∧ Below w.heap.size w w' := by
  cases f3 with
  | true =>
    have tk : True := trivial
    have tl : True := trivial
    have tm : True := trivial
    dsimp only [ibL]
    go_enter Tryd.func18, Tryd.ntmps18
    go_wp2_with (first
      | (clear tk; refine wpList_boxS rfl 27 _ rfl (ibL ⟨op, reg, src, loc, imm⟩) rfl ?_; intro W1 b1 F1 N1; have B1 := F1.trans (Below.refl _ w) (Nat.le_refl _); have c0 : W1.cell? ⟨b1, 0, none⟩ = some (.int .i64 op) := N1.cell 0; clear F1)
      | (go_at_call 25; refine (cF _).mono ?_; rintro e W2 ⟨rfl, B2x⟩; have N2 := N1.grown B2x; have B2 := Below.then B1 B2x; clear cF B2x N1 c0)
      | (clear tl; refine wpList_allocS rfl 50 rfl (b4 no4) Tryd.zeroValue50 ?_; intro W3 b3 F3 A3; have N3 := N2.fresh F3; have B3 := F3.trans B2 B2.size; have h3 : w.heap.size ≤ b3 := Nat.le_trans B2.size (Nat.le_of_eq F3.at'.symm); have n13 : b1 ≠ b3 := (by have := N2.lt; have := F3.at'; omega); clear F3 N2)
      | (clear tm; refine wpList_storeS rfl 50 _ _ rfl rfl (b4 (f0, f1, f2, true)) rfl A3 (by simp [b4]) infoB4 (b4_one _) ?_; intro W4 U4 A4x; have A4 : IsS W4 b3 50 (b4 (f0, f1, f2, true)) := A4x; have N4 := N3.upd U4 n13; have B4 := U4.trans B3 h3; have e0 : W4.cell? ⟨b3, 0, none⟩ = some (.bool f0) := A4.cell 0; have e1 : W4.cell? ⟨b3, 1, none⟩ = some (.bool f1) := A4.cell 1; have e2 : W4.cell? ⟨b3, 2, none⟩ = some (.bool f2) := A4.cell 2; have e3 : W4.cell? ⟨b3, 3, none⟩ = some (.bool true) := A4.cell 3; have d1 : W4.cell? ⟨b1, 1, none⟩ = some (.string reg) := N4.cell 1; have d2 : W4.cell? ⟨b1, 2, none⟩ = some (.string src) := N4.cell 2; have d3 : W4.cell? ⟨b1, 3, none⟩ = some (.string loc) := N4.cell 3; have d4 : W4.cell? ⟨b1, 4, none⟩ = some (.int .i64 imm) := N4.cell 4; clear U4 A3 A4x A4 N4 N3)
      | (go_at_call 26; refine (k0 _).mono ?_; rintro e W5 ⟨rfl, hw⟩; replace hw := hw.symm; subst hw; clear k0)
      | (go_at_call 26; refine (k1 _).mono ?_; rintro e W6 ⟨rfl, hw⟩; replace hw := hw.symm; subst hw; clear k1)
      | (go_at_call 26; refine (k2 _).mono ?_; rintro e W7 ⟨rfl, hw⟩; replace hw := hw.symm; subst hw; clear k2))
    go_ret
    exact ⟨by first | rfl | (simp [*]; done), B4⟩
  | false =>
    by_cases hi : imm = 0
    · subst hi
      have tk : True := trivial
      have tl : True := trivial
      have tm : True := trivial
      dsimp only [ibL]
      go_enter Tryd.func18, Tryd.ntmps18
      go_wp2_with (first
        | (clear tk; refine wpList_boxS rfl 27 _ rfl (ibL ⟨op, reg, src, loc, 0⟩) rfl ?_; intro W1 b1 F1 N1; have B1 := F1.trans (Below.refl _ w) (Nat.le_refl _); have c0 : W1.cell? ⟨b1, 0, none⟩ = some (.int .i64 op) := N1.cell 0; clear F1)
        | (go_at_call 25; refine (cF _).mono ?_; rintro e W2 ⟨rfl, B2x⟩; have N2 := N1.grown B2x; have B2 := Below.then B1 B2x; clear cF B2x N1 c0)
        | (clear tl; refine wpList_allocS rfl 50 rfl (b4 no4) Tryd.zeroValue50 ?_; intro W3 b3 F3 A3; have N3 := N2.fresh F3; have B3 := F3.trans B2 B2.size; have h3 : w.heap.size ≤ b3 := Nat.le_trans B2.size (Nat.le_of_eq F3.at'.symm); have n13 : b1 ≠ b3 := (by have := N2.lt; have := F3.at'; omega); clear F3 N2)
        | (clear tm; refine wpList_storeS rfl 50 _ _ rfl rfl (b4 (f0, f1, f2, false)) rfl A3 (by simp [b4]) infoB4 (b4_one _) ?_; intro W4 U4 A4x; have A4 : IsS W4 b3 50 (b4 (f0, f1, f2, false)) := A4x; have N4 := N3.upd U4 n13; have B4 := U4.trans B3 h3; have e0 : W4.cell? ⟨b3, 0, none⟩ = some (.bool f0) := A4.cell 0; have e1 : W4.cell? ⟨b3, 1, none⟩ = some (.bool f1) := A4.cell 1; have e2 : W4.cell? ⟨b3, 2, none⟩ = some (.bool f2) := A4.cell 2; have e3 : W4.cell? ⟨b3, 3, none⟩ = some (.bool false) := A4.cell 3; have d1 : W4.cell? ⟨b1, 1, none⟩ = some (.string reg) := N4.cell 1; have d2 : W4.cell? ⟨b1, 2, none⟩ = some (.string src) := N4.cell 2; have d3 : W4.cell? ⟨b1, 3, none⟩ = some (.string loc) := N4.cell 3; have d4 : W4.cell? ⟨b1, 4, none⟩ = some (.int .i64 0) := N4.cell 4; clear U4 A3 A4x A4 N4 N3)
        | (go_at_call 26; refine (k0 _).mono ?_; rintro e W5 ⟨rfl, hw⟩; replace hw := hw.symm; subst hw; clear k0)
        | (go_at_call 26; refine (k1 _).mono ?_; rintro e W6 ⟨rfl, hw⟩; replace hw := hw.symm; subst hw; clear k1)
        | (go_at_call 26; refine (k2 _).mono ?_; rintro e W7 ⟨rfl, hw⟩; replace hw := hw.symm; subst hw; clear k2))
      go_ret
      exact ⟨by first | rfl | (simp [*]; done), B4⟩
    · have hi' : (imm == 0) = false := by simpa using hi
      have tk : True := trivial
      have tl : True := trivial
      have tm : True := trivial
      dsimp only [ibL]
      go_enter Tryd.func18, Tryd.ntmps18
      go_wp2_with (first
      | (clear tk; refine wpList_boxS rfl 27 _ rfl (ibL ⟨op, reg, src, loc, imm⟩) rfl ?_; intro W1 b1 F1 N1; have B1 := F1.trans (Below.refl _ w) (Nat.le_refl _); have c0 : W1.cell? ⟨b1, 0, none⟩ = some (.int .i64 op) := N1.cell 0; clear F1)
      | (go_at_call 25; refine (cF _).mono ?_; rintro e W2 ⟨rfl, B2x⟩; have N2 := N1.grown B2x; have B2 := Below.then B1 B2x; clear cF B2x N1 c0)
      | (clear tl; refine wpList_allocS rfl 50 rfl (b4 no4) Tryd.zeroValue50 ?_; intro W3 b3 F3 A3; have N3 := N2.fresh F3; have B3 := F3.trans B2 B2.size; have h3 : w.heap.size ≤ b3 := Nat.le_trans B2.size (Nat.le_of_eq F3.at'.symm); have n13 : b1 ≠ b3 := (by have := N2.lt; have := F3.at'; omega); clear F3 N2)
      | (clear tm; refine wpList_storeS rfl 50 _ _ rfl rfl (b4 (f0, f1, f2, false)) rfl A3 (by simp [b4]) infoB4 (b4_one _) ?_; intro W4 U4 A4x; have A4 : IsS W4 b3 50 (b4 (f0, f1, f2, false)) := A4x; have N4 := N3.upd U4 n13; have B4 := U4.trans B3 h3; have e0 : W4.cell? ⟨b3, 0, none⟩ = some (.bool f0) := A4.cell 0; have e1 : W4.cell? ⟨b3, 1, none⟩ = some (.bool f1) := A4.cell 1; have e2 : W4.cell? ⟨b3, 2, none⟩ = some (.bool f2) := A4.cell 2; have e3 : W4.cell? ⟨b3, 3, none⟩ = some (.bool false) := A4.cell 3; have d1 : W4.cell? ⟨b1, 1, none⟩ = some (.string reg) := N4.cell 1; have d2 : W4.cell? ⟨b1, 2, none⟩ = some (.string src) := N4.cell 2; have d3 : W4.cell? ⟨b1, 3, none⟩ = some (.string loc) := N4.cell 3; have d4 : W4.cell? ⟨b1, 4, none⟩ = some (.int .i64 imm) := N4.cell 4; clear U4 A3 A4x A4 N4 N3)
      | (go_at_call 26; refine (k0 _).mono ?_; rintro e W5 ⟨rfl, hw⟩; replace hw := hw.symm; subst hw; clear k0)
      | (go_at_call 26; refine (k1 _).mono ?_; rintro e W6 ⟨rfl, hw⟩; replace hw := hw.symm; subst hw; clear k1)
      | (go_at_call 26; refine (k2 _).mono ?_; rintro e W7 ⟨rfl, hw⟩; replace hw := hw.symm; subst hw; clear k2))
      go_ret
      exact ⟨by first | rfl | (simp [*]; done), B4⟩

end Go.Proofs.YtjoppgilmlhfbaaDoor

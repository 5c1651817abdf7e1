/- Instructions: whether they can be written: the program's side, kind by kind. -/
import Derived.Test.YtjoppgilmlhfbaaDoorP3
namespace Go.Proofs.YtjoppgilmlhfbaaDoor
open Go.RowKit M
set_option linter.unusedSimpArgs false
set_option linter.unusedVariables false

theorem wpList_loadG {w : World} {b t o : Nat} {cs : List Value} {ops : Array Oper} {rest : List Oper} {op : Oper} {a : Act} {Q : Exit → Act → World → Prop} (hw : Region.wanted op (yielded ops a.tmps) = true) (ty : TypeId) (x : Operand) (ho : op.op = .load ty x) (hx : a.eval x = .pointer (some ⟨b, o, none⟩)) (hc : IsS w b t cs) (k : Nat) (sub : List Value) (hsub : (cs.drop o).take k = sub) (d : TypeDesc)
    (hu : Tryd.prog.underlying ty = some d) (hd : d.isRow = true) (hi : (Tryd.prog.info? ty).map (·.size) = some sub.length)
    (h : wpList Tryd.prog ops Q rest (a.put op.dst (.agg sub.toArray)) w) : wpList Tryd.prog ops Q (op :: rest) a w := by
  subst hsub
  refine wpList_step fun K hK => ?_
  simp only [hw, if_true]
  unfold Oper.wp execOp
  simp only [ho, hx, Sem.run_bind, run_loadAt_mid w b o ty _ d (hc.range o k) hu hd hi, Result.andThen_ok, Sem.run_pure]
  exact hK _ _ h
set_option maxRecDepth 100000 in
set_option maxHeartbeats 2000000 in
theorem wins_1 (reg src loc : ByteArray) (imm : Int) (hr : reg.size ≤ maxLen) (hs : src.size ≤ maxLen) (hl : loc.size ≤ maxLen) (w : World) : Calls Tryd.prog 16 #[.agg (ibL ⟨1, reg, src, loc, imm⟩).toArray] w fun e w' => e = .returned (.bool (insOk ⟨1, reg, src, loc, imm⟩)) ∧ Below w.heap.size w w' := by
  have cN := fun w (b : Nat) hI => names_1 reg hr b w hI
  have HF : Hid (insOk ⟨1, reg, src, loc, imm⟩ = decide (nB reg = true ∧ src.toList = [] ∧ loc.toList = [])) := (by show insOk _ = _; simp [insOk, and_assoc])
  generalize insOk ⟨1, reg, src, loc, imm⟩ = V at *
  clear hr hs hl
  generalize nB reg = q at *
  have tk : True := trivial
  have tl : True := trivial
  dsimp only [ibL]
  cases q with
  | false =>
    go_enter Tryd.func16, Tryd.ntmps16
    go_wp2_with (first
      | (clear tk; refine wpList_boxS rfl 27 _ rfl (ibL ⟨1, reg, src, loc, imm⟩) rfl ?_; intro W1 b1 F1 N1; have B1 := F1.trans (Below.refl _ w) (Nat.le_refl _); have c0 : W1.cell? ⟨b1, 0, none⟩ = some (.int .i64 (1)) := N1.cell 0; have c1 : W1.cell? ⟨b1, 1, none⟩ = some (.string reg) := N1.cell 1; have c2 : W1.cell? ⟨b1, 2, none⟩ = some (.string src) := N1.cell 2; have c3 : W1.cell? ⟨b1, 3, none⟩ = some (.string loc) := N1.cell 3; have c4 : W1.cell? ⟨b1, 4, none⟩ = some (.int .i64 imm) := N1.cell 4; clear F1)
      | (clear tl; refine wpList_build1 rfl _ rfl reg rfl ?_; intro W2 b2 F2 S2; have N2 := N1.fresh F2; have B2 := F2.trans B1 B1.size; clear F2 N1)
      | (go_at_call 24; refine (cN _ b2 S2).mono ?_; rintro e w' ⟨rfl, hw'⟩; replace hw' := hw'.symm; subst hw'; clear cN))
    all_goals go_ret
    all_goals refine ⟨ret_bool ?_, B2⟩
    all_goals (rw [HF.out]; symm; simp; done)
  | true =>
    go_enter Tryd.func16, Tryd.ntmps16
    go_wp2_with (first
      | (clear tk; refine wpList_boxS rfl 27 _ rfl (ibL ⟨1, reg, src, loc, imm⟩) rfl ?_; intro W1 b1 F1 N1; have B1 := F1.trans (Below.refl _ w) (Nat.le_refl _); have c0 : W1.cell? ⟨b1, 0, none⟩ = some (.int .i64 (1)) := N1.cell 0; have c1 : W1.cell? ⟨b1, 1, none⟩ = some (.string reg) := N1.cell 1; have c2 : W1.cell? ⟨b1, 2, none⟩ = some (.string src) := N1.cell 2; have c3 : W1.cell? ⟨b1, 3, none⟩ = some (.string loc) := N1.cell 3; have c4 : W1.cell? ⟨b1, 4, none⟩ = some (.int .i64 imm) := N1.cell 4; clear F1)
      | (clear tl; refine wpList_build1 rfl _ rfl reg rfl ?_; intro W2 b2 F2 S2; have N2 := N1.fresh F2; have B2 := F2.trans B1 B1.size; clear F2 N1)
      | (go_at_call 24; refine (cN _ b2 S2).mono ?_; rintro e w' ⟨rfl, hw'⟩; replace hw' := hw'.symm; subst hw'; clear cN; have d0 : W2.cell? ⟨b1, 0, none⟩ = some (.int .i64 1) := N2.cell 0; have d1 : W2.cell? ⟨b1, 1, none⟩ = some (.string reg) := N2.cell 1; have d2 : W2.cell? ⟨b1, 2, none⟩ = some (.string src) := N2.cell 2; have d3 : W2.cell? ⟨b1, 3, none⟩ = some (.string loc) := N2.cell 3; have d4 : W2.cell? ⟨b1, 4, none⟩ = some (.int .i64 imm) := N2.cell 4)
      | (refine wpList_loadG (by rfl) 27 _ rfl rfl N2 5 (ibL ⟨1, reg, src, loc, imm⟩) rfl _ Tryd.underlying27 rfl infoIb ?_; dsimp only [ibL]))
    all_goals go_ret
    all_goals refine ⟨ret_bool ?_, B2⟩
    all_goals (rw [HF.out]; symm; simp [*]; done)
set_option maxRecDepth 100000 in
set_option maxHeartbeats 2000000 in
theorem wins_2 (reg src loc : ByteArray) (imm : Int) (hr : reg.size ≤ maxLen) (hs : src.size ≤ maxLen) (hl : loc.size ≤ maxLen) (w : World) : Calls Tryd.prog 16 #[.agg (ibL ⟨2, reg, src, loc, imm⟩).toArray] w fun e w' => e = .returned (.bool (insOk ⟨2, reg, src, loc, imm⟩)) ∧ Below w.heap.size w w' := by
  have cN := fun w (b : Nat) hI => names_2 reg src hr hs b w hI
  have HF : Hid (insOk ⟨2, reg, src, loc, imm⟩ = decide ((nB reg && nB src) = true ∧ loc.toList = [] ∧ imm = 0)) := (by show insOk _ = _; simp [insOk, and_assoc])
  generalize insOk ⟨2, reg, src, loc, imm⟩ = V at *
  clear hr hs hl
  generalize (nB reg && nB src) = q at *
  have tk : True := trivial
  have tl : True := trivial
  dsimp only [ibL]
  cases q with
  | false =>
    go_enter Tryd.func16, Tryd.ntmps16
    go_wp2_with (first
      | (clear tk; refine wpList_boxS rfl 27 _ rfl (ibL ⟨2, reg, src, loc, imm⟩) rfl ?_; intro W1 b1 F1 N1; have B1 := F1.trans (Below.refl _ w) (Nat.le_refl _); have c0 : W1.cell? ⟨b1, 0, none⟩ = some (.int .i64 (2)) := N1.cell 0; have c1 : W1.cell? ⟨b1, 1, none⟩ = some (.string reg) := N1.cell 1; have c2 : W1.cell? ⟨b1, 2, none⟩ = some (.string src) := N1.cell 2; have c3 : W1.cell? ⟨b1, 3, none⟩ = some (.string loc) := N1.cell 3; have c4 : W1.cell? ⟨b1, 4, none⟩ = some (.int .i64 imm) := N1.cell 4; clear F1)
      | (clear tl; refine wpList_build2 rfl _ _ rfl reg src rfl rfl ?_; intro W2 b2 F2 S2; have N2 := N1.fresh F2; have B2 := F2.trans B1 B1.size; clear F2 N1)
      | (go_at_call 24; refine (cN _ b2 S2).mono ?_; rintro e w' ⟨rfl, hw'⟩; replace hw' := hw'.symm; subst hw'; clear cN))
    all_goals go_ret
    all_goals refine ⟨ret_bool ?_, B2⟩
    all_goals (rw [HF.out]; symm; simp; done)
  | true =>
    go_enter Tryd.func16, Tryd.ntmps16
    go_wp2_with (first
      | (clear tk; refine wpList_boxS rfl 27 _ rfl (ibL ⟨2, reg, src, loc, imm⟩) rfl ?_; intro W1 b1 F1 N1; have B1 := F1.trans (Below.refl _ w) (Nat.le_refl _); have c0 : W1.cell? ⟨b1, 0, none⟩ = some (.int .i64 (2)) := N1.cell 0; have c1 : W1.cell? ⟨b1, 1, none⟩ = some (.string reg) := N1.cell 1; have c2 : W1.cell? ⟨b1, 2, none⟩ = some (.string src) := N1.cell 2; have c3 : W1.cell? ⟨b1, 3, none⟩ = some (.string loc) := N1.cell 3; have c4 : W1.cell? ⟨b1, 4, none⟩ = some (.int .i64 imm) := N1.cell 4; clear F1)
      | (clear tl; refine wpList_build2 rfl _ _ rfl reg src rfl rfl ?_; intro W2 b2 F2 S2; have N2 := N1.fresh F2; have B2 := F2.trans B1 B1.size; clear F2 N1)
      | (go_at_call 24; refine (cN _ b2 S2).mono ?_; rintro e w' ⟨rfl, hw'⟩; replace hw' := hw'.symm; subst hw'; clear cN; have d0 : W2.cell? ⟨b1, 0, none⟩ = some (.int .i64 2) := N2.cell 0; have d1 : W2.cell? ⟨b1, 1, none⟩ = some (.string reg) := N2.cell 1; have d2 : W2.cell? ⟨b1, 2, none⟩ = some (.string src) := N2.cell 2; have d3 : W2.cell? ⟨b1, 3, none⟩ = some (.string loc) := N2.cell 3; have d4 : W2.cell? ⟨b1, 4, none⟩ = some (.int .i64 imm) := N2.cell 4)
      | (refine wpList_loadG (by rfl) 27 _ rfl rfl N2 5 (ibL ⟨2, reg, src, loc, imm⟩) rfl _ Tryd.underlying27 rfl infoIb ?_; dsimp only [ibL]))
    all_goals go_ret
    all_goals refine ⟨ret_bool ?_, B2⟩
    all_goals (rw [HF.out]; symm; simp [*]; done)
set_option maxRecDepth 100000 in
set_option maxHeartbeats 2000000 in
theorem wins_3 (reg src loc : ByteArray) (imm : Int) (hr : reg.size ≤ maxLen) (hs : src.size ≤ maxLen) (hl : loc.size ≤ maxLen) (w : World) : Calls Tryd.prog 16 #[.agg (ibL ⟨3, reg, src, loc, imm⟩).toArray] w fun e w' => e = .returned (.bool (insOk ⟨3, reg, src, loc, imm⟩)) ∧ Below w.heap.size w w' := by
  have cN := fun w (b : Nat) hI => names_2 reg loc hr hl b w hI
  have HF : Hid (insOk ⟨3, reg, src, loc, imm⟩ = decide ((nB reg && nB loc) = true ∧ src.toList = [] ∧ imm = 0)) := (by show insOk _ = _; simp [insOk, and_assoc])
  generalize insOk ⟨3, reg, src, loc, imm⟩ = V at *
  clear hr hs hl
  generalize (nB reg && nB loc) = q at *
  have tk : True := trivial
  have tl : True := trivial
  dsimp only [ibL]
  cases q with
  | false =>
    go_enter Tryd.func16, Tryd.ntmps16
    go_wp2_with (first
      | (clear tk; refine wpList_boxS rfl 27 _ rfl (ibL ⟨3, reg, src, loc, imm⟩) rfl ?_; intro W1 b1 F1 N1; have B1 := F1.trans (Below.refl _ w) (Nat.le_refl _); have c0 : W1.cell? ⟨b1, 0, none⟩ = some (.int .i64 (3)) := N1.cell 0; have c1 : W1.cell? ⟨b1, 1, none⟩ = some (.string reg) := N1.cell 1; have c2 : W1.cell? ⟨b1, 2, none⟩ = some (.string src) := N1.cell 2; have c3 : W1.cell? ⟨b1, 3, none⟩ = some (.string loc) := N1.cell 3; have c4 : W1.cell? ⟨b1, 4, none⟩ = some (.int .i64 imm) := N1.cell 4; clear F1)
      | (clear tl; refine wpList_build2 rfl _ _ rfl reg loc rfl rfl ?_; intro W2 b2 F2 S2; have N2 := N1.fresh F2; have B2 := F2.trans B1 B1.size; clear F2 N1)
      | (go_at_call 24; refine (cN _ b2 S2).mono ?_; rintro e w' ⟨rfl, hw'⟩; replace hw' := hw'.symm; subst hw'; clear cN))
    all_goals go_ret
    all_goals refine ⟨ret_bool ?_, B2⟩
    all_goals (rw [HF.out]; symm; simp; done)
  | true =>
    go_enter Tryd.func16, Tryd.ntmps16
    go_wp2_with (first
      | (clear tk; refine wpList_boxS rfl 27 _ rfl (ibL ⟨3, reg, src, loc, imm⟩) rfl ?_; intro W1 b1 F1 N1; have B1 := F1.trans (Below.refl _ w) (Nat.le_refl _); have c0 : W1.cell? ⟨b1, 0, none⟩ = some (.int .i64 (3)) := N1.cell 0; have c1 : W1.cell? ⟨b1, 1, none⟩ = some (.string reg) := N1.cell 1; have c2 : W1.cell? ⟨b1, 2, none⟩ = some (.string src) := N1.cell 2; have c3 : W1.cell? ⟨b1, 3, none⟩ = some (.string loc) := N1.cell 3; have c4 : W1.cell? ⟨b1, 4, none⟩ = some (.int .i64 imm) := N1.cell 4; clear F1)
      | (clear tl; refine wpList_build2 rfl _ _ rfl reg loc rfl rfl ?_; intro W2 b2 F2 S2; have N2 := N1.fresh F2; have B2 := F2.trans B1 B1.size; clear F2 N1)
      | (go_at_call 24; refine (cN _ b2 S2).mono ?_; rintro e w' ⟨rfl, hw'⟩; replace hw' := hw'.symm; subst hw'; clear cN; have d0 : W2.cell? ⟨b1, 0, none⟩ = some (.int .i64 3) := N2.cell 0; have d1 : W2.cell? ⟨b1, 1, none⟩ = some (.string reg) := N2.cell 1; have d2 : W2.cell? ⟨b1, 2, none⟩ = some (.string src) := N2.cell 2; have d3 : W2.cell? ⟨b1, 3, none⟩ = some (.string loc) := N2.cell 3; have d4 : W2.cell? ⟨b1, 4, none⟩ = some (.int .i64 imm) := N2.cell 4)
      | (refine wpList_loadG (by rfl) 27 _ rfl rfl N2 5 (ibL ⟨3, reg, src, loc, imm⟩) rfl _ Tryd.underlying27 rfl infoIb ?_; dsimp only [ibL]))
    all_goals go_ret
    all_goals refine ⟨ret_bool ?_, B2⟩
    all_goals (rw [HF.out]; symm; simp [*]; done)
set_option maxRecDepth 100000 in
set_option maxHeartbeats 2000000 in
theorem wins_4 (reg src loc : ByteArray) (imm : Int) (hr : reg.size ≤ maxLen) (hs : src.size ≤ maxLen) (hl : loc.size ≤ maxLen) (w : World) : Calls Tryd.prog 16 #[.agg (ibL ⟨4, reg, src, loc, imm⟩).toArray] w fun e w' => e = .returned (.bool (insOk ⟨4, reg, src, loc, imm⟩)) ∧ Below w.heap.size w w' := by
  have cN := fun w (b : Nat) hI => names_1 loc hl b w hI
  have HF : Hid (insOk ⟨4, reg, src, loc, imm⟩ = decide (nB loc = true ∧ reg.toList = [] ∧ src.toList = [])) := (by show insOk _ = _; simp [insOk, and_assoc])
  generalize insOk ⟨4, reg, src, loc, imm⟩ = V at *
  clear hr hs hl
  generalize nB loc = q at *
  have tk : True := trivial
  have tl : True := trivial
  dsimp only [ibL]
  cases q with
  | false =>
    go_enter Tryd.func16, Tryd.ntmps16
    go_wp2_with (first
      | (clear tk; refine wpList_boxS rfl 27 _ rfl (ibL ⟨4, reg, src, loc, imm⟩) rfl ?_; intro W1 b1 F1 N1; have B1 := F1.trans (Below.refl _ w) (Nat.le_refl _); have c0 : W1.cell? ⟨b1, 0, none⟩ = some (.int .i64 (4)) := N1.cell 0; have c1 : W1.cell? ⟨b1, 1, none⟩ = some (.string reg) := N1.cell 1; have c2 : W1.cell? ⟨b1, 2, none⟩ = some (.string src) := N1.cell 2; have c3 : W1.cell? ⟨b1, 3, none⟩ = some (.string loc) := N1.cell 3; have c4 : W1.cell? ⟨b1, 4, none⟩ = some (.int .i64 imm) := N1.cell 4; clear F1)
      | (clear tl; refine wpList_build1 rfl _ rfl loc rfl ?_; intro W2 b2 F2 S2; have N2 := N1.fresh F2; have B2 := F2.trans B1 B1.size; clear F2 N1)
      | (go_at_call 24; refine (cN _ b2 S2).mono ?_; rintro e w' ⟨rfl, hw'⟩; replace hw' := hw'.symm; subst hw'; clear cN))
    all_goals go_ret
    all_goals refine ⟨ret_bool ?_, B2⟩
    all_goals (rw [HF.out]; symm; simp; done)
  | true =>
    go_enter Tryd.func16, Tryd.ntmps16
    go_wp2_with (first
      | (clear tk; refine wpList_boxS rfl 27 _ rfl (ibL ⟨4, reg, src, loc, imm⟩) rfl ?_; intro W1 b1 F1 N1; have B1 := F1.trans (Below.refl _ w) (Nat.le_refl _); have c0 : W1.cell? ⟨b1, 0, none⟩ = some (.int .i64 (4)) := N1.cell 0; have c1 : W1.cell? ⟨b1, 1, none⟩ = some (.string reg) := N1.cell 1; have c2 : W1.cell? ⟨b1, 2, none⟩ = some (.string src) := N1.cell 2; have c3 : W1.cell? ⟨b1, 3, none⟩ = some (.string loc) := N1.cell 3; have c4 : W1.cell? ⟨b1, 4, none⟩ = some (.int .i64 imm) := N1.cell 4; clear F1)
      | (clear tl; refine wpList_build1 rfl _ rfl loc rfl ?_; intro W2 b2 F2 S2; have N2 := N1.fresh F2; have B2 := F2.trans B1 B1.size; clear F2 N1)
      | (go_at_call 24; refine (cN _ b2 S2).mono ?_; rintro e w' ⟨rfl, hw'⟩; replace hw' := hw'.symm; subst hw'; clear cN; have d0 : W2.cell? ⟨b1, 0, none⟩ = some (.int .i64 4) := N2.cell 0; have d1 : W2.cell? ⟨b1, 1, none⟩ = some (.string reg) := N2.cell 1; have d2 : W2.cell? ⟨b1, 2, none⟩ = some (.string src) := N2.cell 2; have d3 : W2.cell? ⟨b1, 3, none⟩ = some (.string loc) := N2.cell 3; have d4 : W2.cell? ⟨b1, 4, none⟩ = some (.int .i64 imm) := N2.cell 4)
      | (refine wpList_loadG (by rfl) 27 _ rfl rfl N2 5 (ibL ⟨4, reg, src, loc, imm⟩) rfl _ Tryd.underlying27 rfl infoIb ?_; dsimp only [ibL]))
    all_goals go_ret
    all_goals refine ⟨ret_bool ?_, B2⟩
    all_goals (rw [HF.out]; symm; simp [*]; done)
set_option maxRecDepth 100000 in
set_option maxHeartbeats 2000000 in
theorem wins_5 (reg src loc : ByteArray) (imm : Int) (hr : reg.size ≤ maxLen) (hs : src.size ≤ maxLen) (hl : loc.size ≤ maxLen) (w : World) : Calls Tryd.prog 16 #[.agg (ibL ⟨5, reg, src, loc, imm⟩).toArray] w fun e w' => e = .returned (.bool (insOk ⟨5, reg, src, loc, imm⟩)) ∧ Below w.heap.size w w' := by
  have cN := fun w (b : Nat) hI => names_2 loc src hl hs b w hI
  have HF : Hid (insOk ⟨5, reg, src, loc, imm⟩ = decide ((nB loc && nB src) = true ∧ reg.toList = [] ∧ imm = 0)) := (by show insOk _ = _; simp [insOk, and_assoc])
  generalize insOk ⟨5, reg, src, loc, imm⟩ = V at *
  clear hr hs hl
  generalize (nB loc && nB src) = q at *
  have tk : True := trivial
  have tl : True := trivial
  dsimp only [ibL]
  cases q with
  | false =>
    go_enter Tryd.func16, Tryd.ntmps16
    go_wp2_with (first
      | (clear tk; refine wpList_boxS rfl 27 _ rfl (ibL ⟨5, reg, src, loc, imm⟩) rfl ?_; intro W1 b1 F1 N1; have B1 := F1.trans (Below.refl _ w) (Nat.le_refl _); have c0 : W1.cell? ⟨b1, 0, none⟩ = some (.int .i64 (5)) := N1.cell 0; have c1 : W1.cell? ⟨b1, 1, none⟩ = some (.string reg) := N1.cell 1; have c2 : W1.cell? ⟨b1, 2, none⟩ = some (.string src) := N1.cell 2; have c3 : W1.cell? ⟨b1, 3, none⟩ = some (.string loc) := N1.cell 3; have c4 : W1.cell? ⟨b1, 4, none⟩ = some (.int .i64 imm) := N1.cell 4; clear F1)
      | (clear tl; refine wpList_build2 rfl _ _ rfl loc src rfl rfl ?_; intro W2 b2 F2 S2; have N2 := N1.fresh F2; have B2 := F2.trans B1 B1.size; clear F2 N1)
      | (go_at_call 24; refine (cN _ b2 S2).mono ?_; rintro e w' ⟨rfl, hw'⟩; replace hw' := hw'.symm; subst hw'; clear cN))
    all_goals go_ret
    all_goals refine ⟨ret_bool ?_, B2⟩
    all_goals (rw [HF.out]; symm; simp; done)
  | true =>
    go_enter Tryd.func16, Tryd.ntmps16
    go_wp2_with (first
      | (clear tk; refine wpList_boxS rfl 27 _ rfl (ibL ⟨5, reg, src, loc, imm⟩) rfl ?_; intro W1 b1 F1 N1; have B1 := F1.trans (Below.refl _ w) (Nat.le_refl _); have c0 : W1.cell? ⟨b1, 0, none⟩ = some (.int .i64 (5)) := N1.cell 0; have c1 : W1.cell? ⟨b1, 1, none⟩ = some (.string reg) := N1.cell 1; have c2 : W1.cell? ⟨b1, 2, none⟩ = some (.string src) := N1.cell 2; have c3 : W1.cell? ⟨b1, 3, none⟩ = some (.string loc) := N1.cell 3; have c4 : W1.cell? ⟨b1, 4, none⟩ = some (.int .i64 imm) := N1.cell 4; clear F1)
      | (clear tl; refine wpList_build2 rfl _ _ rfl loc src rfl rfl ?_; intro W2 b2 F2 S2; have N2 := N1.fresh F2; have B2 := F2.trans B1 B1.size; clear F2 N1)
      | (go_at_call 24; refine (cN _ b2 S2).mono ?_; rintro e w' ⟨rfl, hw'⟩; replace hw' := hw'.symm; subst hw'; clear cN; have d0 : W2.cell? ⟨b1, 0, none⟩ = some (.int .i64 5) := N2.cell 0; have d1 : W2.cell? ⟨b1, 1, none⟩ = some (.string reg) := N2.cell 1; have d2 : W2.cell? ⟨b1, 2, none⟩ = some (.string src) := N2.cell 2; have d3 : W2.cell? ⟨b1, 3, none⟩ = some (.string loc) := N2.cell 3; have d4 : W2.cell? ⟨b1, 4, none⟩ = some (.int .i64 imm) := N2.cell 4)
      | (refine wpList_loadG (by rfl) 27 _ rfl rfl N2 5 (ibL ⟨5, reg, src, loc, imm⟩) rfl _ Tryd.underlying27 rfl infoIb ?_; dsimp only [ibL]))
    all_goals go_ret
    all_goals refine ⟨ret_bool ?_, B2⟩
    all_goals (rw [HF.out]; symm; simp [*]; done)
set_option maxRecDepth 100000 in
set_option maxHeartbeats 2000000 in
theorem wins_6 (reg src loc : ByteArray) (imm : Int) (hr : reg.size ≤ maxLen) (hs : src.size ≤ maxLen) (hl : loc.size ≤ maxLen) (w : World) : Calls Tryd.prog 16 #[.agg (ibL ⟨6, reg, src, loc, imm⟩).toArray] w fun e w' => e = .returned (.bool (insOk ⟨6, reg, src, loc, imm⟩)) ∧ Below w.heap.size w w' := by
  have HF : Hid (insOk ⟨6, reg, src, loc, imm⟩ = decide (reg.toList = [] ∧ src.toList = [] ∧ loc.toList = [] ∧ imm = 0)) := (by show insOk _ = _; simp [insOk])
  generalize insOk ⟨6, reg, src, loc, imm⟩ = V at *
  clear hr hs hl
  have tk : True := trivial
  dsimp only [ibL]
  go_enter Tryd.func16, Tryd.ntmps16
  go_wp2_with (first
    | (clear tk; refine wpList_boxS rfl 27 _ rfl (ibL ⟨6, reg, src, loc, imm⟩) rfl ?_; intro W1 b1 F1 N1; have B1 := F1.trans (Below.refl _ w) (Nat.le_refl _); have c0 : W1.cell? ⟨b1, 0, none⟩ = some (.int .i64 (6)) := N1.cell 0; have c1 : W1.cell? ⟨b1, 1, none⟩ = some (.string reg) := N1.cell 1; have c2 : W1.cell? ⟨b1, 2, none⟩ = some (.string src) := N1.cell 2; have c3 : W1.cell? ⟨b1, 3, none⟩ = some (.string loc) := N1.cell 3; have c4 : W1.cell? ⟨b1, 4, none⟩ = some (.int .i64 imm) := N1.cell 4; clear F1)
    | (refine wpList_loadP rfl 27 _ rfl rfl N1 5 (ibL ⟨6, reg, src, loc, imm⟩) rfl _ Tryd.underlying27 rfl infoIb ?_; dsimp only [ibL]))
  all_goals go_ret
  all_goals refine ⟨ret_bool ?_, B1⟩
  all_goals (rw [HF.out]; symm; simp [*]; done)
set_option maxRecDepth 100000 in
set_option maxHeartbeats 2000000 in
theorem wins_7 (reg src loc : ByteArray) (imm : Int) (hr : reg.size ≤ maxLen) (hs : src.size ≤ maxLen) (hl : loc.size ≤ maxLen) (w : World) : Calls Tryd.prog 16 #[.agg (ibL ⟨7, reg, src, loc, imm⟩).toArray] w fun e w' => e = .returned (.bool (insOk ⟨7, reg, src, loc, imm⟩)) ∧ Below w.heap.size w w' := by
  have cN := fun w (b : Nat) hI => names_2 reg loc hr hl b w hI
  have HF : Hid (insOk ⟨7, reg, src, loc, imm⟩ = decide ((nB reg && nB loc) = true ∧ src.toList = [] ∧ imm = 0)) := (by show insOk _ = _; simp [insOk, and_assoc])
  generalize insOk ⟨7, reg, src, loc, imm⟩ = V at *
  clear hr hs hl
  generalize (nB reg && nB loc) = q at *
  have tk : True := trivial
  have tl : True := trivial
  dsimp only [ibL]
  cases q with
  | false =>
    go_enter Tryd.func16, Tryd.ntmps16
    go_wp2_with (first
      | (clear tk; refine wpList_boxS rfl 27 _ rfl (ibL ⟨7, reg, src, loc, imm⟩) rfl ?_; intro W1 b1 F1 N1; have B1 := F1.trans (Below.refl _ w) (Nat.le_refl _); have c0 : W1.cell? ⟨b1, 0, none⟩ = some (.int .i64 (7)) := N1.cell 0; have c1 : W1.cell? ⟨b1, 1, none⟩ = some (.string reg) := N1.cell 1; have c2 : W1.cell? ⟨b1, 2, none⟩ = some (.string src) := N1.cell 2; have c3 : W1.cell? ⟨b1, 3, none⟩ = some (.string loc) := N1.cell 3; have c4 : W1.cell? ⟨b1, 4, none⟩ = some (.int .i64 imm) := N1.cell 4; clear F1)
      | (clear tl; refine wpList_build2 rfl _ _ rfl reg loc rfl rfl ?_; intro W2 b2 F2 S2; have N2 := N1.fresh F2; have B2 := F2.trans B1 B1.size; clear F2 N1)
      | (go_at_call 24; refine (cN _ b2 S2).mono ?_; rintro e w' ⟨rfl, hw'⟩; replace hw' := hw'.symm; subst hw'; clear cN))
    all_goals go_ret
    all_goals refine ⟨ret_bool ?_, B2⟩
    all_goals (rw [HF.out]; symm; simp; done)
  | true =>
    go_enter Tryd.func16, Tryd.ntmps16
    go_wp2_with (first
      | (clear tk; refine wpList_boxS rfl 27 _ rfl (ibL ⟨7, reg, src, loc, imm⟩) rfl ?_; intro W1 b1 F1 N1; have B1 := F1.trans (Below.refl _ w) (Nat.le_refl _); have c0 : W1.cell? ⟨b1, 0, none⟩ = some (.int .i64 (7)) := N1.cell 0; have c1 : W1.cell? ⟨b1, 1, none⟩ = some (.string reg) := N1.cell 1; have c2 : W1.cell? ⟨b1, 2, none⟩ = some (.string src) := N1.cell 2; have c3 : W1.cell? ⟨b1, 3, none⟩ = some (.string loc) := N1.cell 3; have c4 : W1.cell? ⟨b1, 4, none⟩ = some (.int .i64 imm) := N1.cell 4; clear F1)
      | (clear tl; refine wpList_build2 rfl _ _ rfl reg loc rfl rfl ?_; intro W2 b2 F2 S2; have N2 := N1.fresh F2; have B2 := F2.trans B1 B1.size; clear F2 N1)
      | (go_at_call 24; refine (cN _ b2 S2).mono ?_; rintro e w' ⟨rfl, hw'⟩; replace hw' := hw'.symm; subst hw'; clear cN; have d0 : W2.cell? ⟨b1, 0, none⟩ = some (.int .i64 7) := N2.cell 0; have d1 : W2.cell? ⟨b1, 1, none⟩ = some (.string reg) := N2.cell 1; have d2 : W2.cell? ⟨b1, 2, none⟩ = some (.string src) := N2.cell 2; have d3 : W2.cell? ⟨b1, 3, none⟩ = some (.string loc) := N2.cell 3; have d4 : W2.cell? ⟨b1, 4, none⟩ = some (.int .i64 imm) := N2.cell 4)
      | (refine wpList_loadG (by rfl) 27 _ rfl rfl N2 5 (ibL ⟨7, reg, src, loc, imm⟩) rfl _ Tryd.underlying27 rfl infoIb ?_; dsimp only [ibL]))
    all_goals go_ret
    all_goals refine ⟨ret_bool ?_, B2⟩
    all_goals (rw [HF.out]; symm; simp [*]; done)
set_option maxRecDepth 100000 in
set_option maxHeartbeats 2000000 in
theorem wins_8 (reg src loc : ByteArray) (imm : Int) (hr : reg.size ≤ maxLen) (hs : src.size ≤ maxLen) (hl : loc.size ≤ maxLen) (w : World) : Calls Tryd.prog 16 #[.agg (ibL ⟨8, reg, src, loc, imm⟩).toArray] w fun e w' => e = .returned (.bool (insOk ⟨8, reg, src, loc, imm⟩)) ∧ Below w.heap.size w w' := by
  have cN := fun w (b : Nat) hI => names_2 loc src hl hs b w hI
  have HF : Hid (insOk ⟨8, reg, src, loc, imm⟩ = decide ((nB loc && nB src) = true ∧ reg.toList = [] ∧ imm = 0)) := (by show insOk _ = _; simp [insOk, and_assoc])
  generalize insOk ⟨8, reg, src, loc, imm⟩ = V at *
  clear hr hs hl
  generalize (nB loc && nB src) = q at *
  have tk : True := trivial
  have tl : True := trivial
  dsimp only [ibL]
  cases q with
  | false =>
    go_enter Tryd.func16, Tryd.ntmps16
    go_wp2_with (first
      | (clear tk; refine wpList_boxS rfl 27 _ rfl (ibL ⟨8, reg, src, loc, imm⟩) rfl ?_; intro W1 b1 F1 N1; have B1 := F1.trans (Below.refl _ w) (Nat.le_refl _); have c0 : W1.cell? ⟨b1, 0, none⟩ = some (.int .i64 (8)) := N1.cell 0; have c1 : W1.cell? ⟨b1, 1, none⟩ = some (.string reg) := N1.cell 1; have c2 : W1.cell? ⟨b1, 2, none⟩ = some (.string src) := N1.cell 2; have c3 : W1.cell? ⟨b1, 3, none⟩ = some (.string loc) := N1.cell 3; have c4 : W1.cell? ⟨b1, 4, none⟩ = some (.int .i64 imm) := N1.cell 4; clear F1)
      | (clear tl; refine wpList_build2 rfl _ _ rfl loc src rfl rfl ?_; intro W2 b2 F2 S2; have N2 := N1.fresh F2; have B2 := F2.trans B1 B1.size; clear F2 N1)
      | (go_at_call 24; refine (cN _ b2 S2).mono ?_; rintro e w' ⟨rfl, hw'⟩; replace hw' := hw'.symm; subst hw'; clear cN))
    all_goals go_ret
    all_goals refine ⟨ret_bool ?_, B2⟩
    all_goals (rw [HF.out]; symm; simp; done)
  | true =>
    go_enter Tryd.func16, Tryd.ntmps16
    go_wp2_with (first
      | (clear tk; refine wpList_boxS rfl 27 _ rfl (ibL ⟨8, reg, src, loc, imm⟩) rfl ?_; intro W1 b1 F1 N1; have B1 := F1.trans (Below.refl _ w) (Nat.le_refl _); have c0 : W1.cell? ⟨b1, 0, none⟩ = some (.int .i64 (8)) := N1.cell 0; have c1 : W1.cell? ⟨b1, 1, none⟩ = some (.string reg) := N1.cell 1; have c2 : W1.cell? ⟨b1, 2, none⟩ = some (.string src) := N1.cell 2; have c3 : W1.cell? ⟨b1, 3, none⟩ = some (.string loc) := N1.cell 3; have c4 : W1.cell? ⟨b1, 4, none⟩ = some (.int .i64 imm) := N1.cell 4; clear F1)
      | (clear tl; refine wpList_build2 rfl _ _ rfl loc src rfl rfl ?_; intro W2 b2 F2 S2; have N2 := N1.fresh F2; have B2 := F2.trans B1 B1.size; clear F2 N1)
      | (go_at_call 24; refine (cN _ b2 S2).mono ?_; rintro e w' ⟨rfl, hw'⟩; replace hw' := hw'.symm; subst hw'; clear cN; have d0 : W2.cell? ⟨b1, 0, none⟩ = some (.int .i64 8) := N2.cell 0; have d1 : W2.cell? ⟨b1, 1, none⟩ = some (.string reg) := N2.cell 1; have d2 : W2.cell? ⟨b1, 2, none⟩ = some (.string src) := N2.cell 2; have d3 : W2.cell? ⟨b1, 3, none⟩ = some (.string loc) := N2.cell 3; have d4 : W2.cell? ⟨b1, 4, none⟩ = some (.int .i64 imm) := N2.cell 4)
      | (refine wpList_loadG (by rfl) 27 _ rfl rfl N2 5 (ibL ⟨8, reg, src, loc, imm⟩) rfl _ Tryd.underlying27 rfl infoIb ?_; dsimp only [ibL]))
    all_goals go_ret
    all_goals refine ⟨ret_bool ?_, B2⟩
    all_goals (rw [HF.out]; symm; simp [*]; done)
set_option maxRecDepth 100000 in
set_option maxHeartbeats 2000000 in
theorem wins_9 (reg src loc : ByteArray) (imm : Int) (hr : reg.size ≤ maxLen) (hs : src.size ≤ maxLen) (hl : loc.size ≤ maxLen) (w : World) : Calls Tryd.prog 16 #[.agg (ibL ⟨9, reg, src, loc, imm⟩).toArray] w fun e w' => e = .returned (.bool (insOk ⟨9, reg, src, loc, imm⟩)) ∧ Below w.heap.size w w' := by
  have cN := fun w (b : Nat) hI => names_2 reg loc hr hl b w hI
  have HF : Hid (insOk ⟨9, reg, src, loc, imm⟩ = decide ((nB reg && nB loc) = true ∧ src.toList = [] ∧ imm = 0)) := (by show insOk _ = _; simp [insOk, and_assoc])
  generalize insOk ⟨9, reg, src, loc, imm⟩ = V at *
  clear hr hs hl
  generalize (nB reg && nB loc) = q at *
  have tk : True := trivial
  have tl : True := trivial
  dsimp only [ibL]
  cases q with
  | false =>
    go_enter Tryd.func16, Tryd.ntmps16
    go_wp2_with (first
      | (clear tk; refine wpList_boxS rfl 27 _ rfl (ibL ⟨9, reg, src, loc, imm⟩) rfl ?_; intro W1 b1 F1 N1; have B1 := F1.trans (Below.refl _ w) (Nat.le_refl _); have c0 : W1.cell? ⟨b1, 0, none⟩ = some (.int .i64 (9)) := N1.cell 0; have c1 : W1.cell? ⟨b1, 1, none⟩ = some (.string reg) := N1.cell 1; have c2 : W1.cell? ⟨b1, 2, none⟩ = some (.string src) := N1.cell 2; have c3 : W1.cell? ⟨b1, 3, none⟩ = some (.string loc) := N1.cell 3; have c4 : W1.cell? ⟨b1, 4, none⟩ = some (.int .i64 imm) := N1.cell 4; clear F1)
      | (clear tl; refine wpList_build2 rfl _ _ rfl reg loc rfl rfl ?_; intro W2 b2 F2 S2; have N2 := N1.fresh F2; have B2 := F2.trans B1 B1.size; clear F2 N1)
      | (go_at_call 24; refine (cN _ b2 S2).mono ?_; rintro e w' ⟨rfl, hw'⟩; replace hw' := hw'.symm; subst hw'; clear cN))
    all_goals go_ret
    all_goals refine ⟨ret_bool ?_, B2⟩
    all_goals (rw [HF.out]; symm; simp; done)
  | true =>
    go_enter Tryd.func16, Tryd.ntmps16
    go_wp2_with (first
      | (clear tk; refine wpList_boxS rfl 27 _ rfl (ibL ⟨9, reg, src, loc, imm⟩) rfl ?_; intro W1 b1 F1 N1; have B1 := F1.trans (Below.refl _ w) (Nat.le_refl _); have c0 : W1.cell? ⟨b1, 0, none⟩ = some (.int .i64 (9)) := N1.cell 0; have c1 : W1.cell? ⟨b1, 1, none⟩ = some (.string reg) := N1.cell 1; have c2 : W1.cell? ⟨b1, 2, none⟩ = some (.string src) := N1.cell 2; have c3 : W1.cell? ⟨b1, 3, none⟩ = some (.string loc) := N1.cell 3; have c4 : W1.cell? ⟨b1, 4, none⟩ = some (.int .i64 imm) := N1.cell 4; clear F1)
      | (clear tl; refine wpList_build2 rfl _ _ rfl reg loc rfl rfl ?_; intro W2 b2 F2 S2; have N2 := N1.fresh F2; have B2 := F2.trans B1 B1.size; clear F2 N1)
      | (go_at_call 24; refine (cN _ b2 S2).mono ?_; rintro e w' ⟨rfl, hw'⟩; replace hw' := hw'.symm; subst hw'; clear cN; have d0 : W2.cell? ⟨b1, 0, none⟩ = some (.int .i64 9) := N2.cell 0; have d1 : W2.cell? ⟨b1, 1, none⟩ = some (.string reg) := N2.cell 1; have d2 : W2.cell? ⟨b1, 2, none⟩ = some (.string src) := N2.cell 2; have d3 : W2.cell? ⟨b1, 3, none⟩ = some (.string loc) := N2.cell 3; have d4 : W2.cell? ⟨b1, 4, none⟩ = some (.int .i64 imm) := N2.cell 4)
      | (refine wpList_loadG (by rfl) 27 _ rfl rfl N2 5 (ibL ⟨9, reg, src, loc, imm⟩) rfl _ Tryd.underlying27 rfl infoIb ?_; dsimp only [ibL]))
    all_goals go_ret
    all_goals refine ⟨ret_bool ?_, B2⟩
    all_goals (rw [HF.out]; symm; simp [*]; done)
set_option maxRecDepth 100000 in
set_option maxHeartbeats 2000000 in
theorem wins_0 (op : Int) (reg src loc : ByteArray) (imm : Int) (h1 : op ≠ 1) (h2 : op ≠ 2) (h3 : op ≠ 3) (h4 : op ≠ 4) (h5 : op ≠ 5) (h6 : op ≠ 6) (h7 : op ≠ 7) (h8 : op ≠ 8) (h9 : op ≠ 9) (w : World) : Calls Tryd.prog 16 #[.agg (ibL ⟨op, reg, src, loc, imm⟩).toArray] w fun e w' => e = .returned (.bool (insOk ⟨op, reg, src, loc, imm⟩)) ∧ Below w.heap.size w w' := by
  have HF : Hid (insOk ⟨op, reg, src, loc, imm⟩ = false) := (by show insOk _ = _; simp [insOk, h1, h2, h3, h4, h5, h6, h7, h8, h9])
  generalize insOk ⟨op, reg, src, loc, imm⟩ = V at *
  have e1 : (op == 1) = false := by simpa using h1
  have e2 : (op == 2) = false := by simpa using h2
  have e3 : (op == 3) = false := by simpa using h3
  have e4 : (op == 4) = false := by simpa using h4
  have e5 : (op == 5) = false := by simpa using h5
  have e6 : (op == 6) = false := by simpa using h6
  have e7 : (op == 7) = false := by simpa using h7
  have e8 : (op == 8) = false := by simpa using h8
  have e9 : (op == 9) = false := by simpa using h9
  clear h1 h2 h3 h4 h5 h6 h7 h8 h9
  dsimp only [ibL]
  go_enter Tryd.func16, Tryd.ntmps16
  go_wp2_with (first
    | (refine wpList_boxS rfl 27 _ rfl (ibL ⟨op, reg, src, loc, imm⟩) rfl ?_; intro W1 b1 F1 N1; have B1 := F1.trans (Below.refl _ w) (Nat.le_refl _); have c0 : W1.cell? ⟨b1, 0, none⟩ = some (.int .i64 op) := N1.cell 0; clear F1))
  all_goals go_ret
  all_goals exact ⟨ret_bool HF.out.symm, B1⟩
theorem wins_any (x : IB) (hr : x.reg.size ≤ maxLen) (hs : x.src.size ≤ maxLen) (hl : x.loc.size ≤ maxLen) (w : World) : Calls Tryd.prog 16 #[.agg (ibL x).toArray] w fun e w' => e = .returned (.bool (insOk x)) ∧ Below w.heap.size w w' := by
  obtain ⟨op, reg, src, loc, imm⟩ := x
  by_cases h1 : op = 1
  · subst h1; exact wins_1 reg src loc imm hr hs hl w
  by_cases h2 : op = 2
  · subst h2; exact wins_2 reg src loc imm hr hs hl w
  by_cases h3 : op = 3
  · subst h3; exact wins_3 reg src loc imm hr hs hl w
  by_cases h4 : op = 4
  · subst h4; exact wins_4 reg src loc imm hr hs hl w
  by_cases h5 : op = 5
  · subst h5; exact wins_5 reg src loc imm hr hs hl w
  by_cases h6 : op = 6
  · subst h6; exact wins_6 reg src loc imm hr hs hl w
  by_cases h7 : op = 7
  · subst h7; exact wins_7 reg src loc imm hr hs hl w
  by_cases h8 : op = 8
  · subst h8; exact wins_8 reg src loc imm hr hs hl w
  by_cases h9 : op = 9
  · subst h9; exact wins_9 reg src loc imm hr hs hl w
  exact wins_0 op reg src loc imm h1 h2 h3 h4 h5 h6 h7 h8 h9 w
end Go.Proofs.YtjoppgilmlhfbaaDoor

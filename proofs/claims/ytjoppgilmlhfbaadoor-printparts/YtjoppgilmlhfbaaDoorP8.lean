/- Both sides' Instr. -/
import Derived.Test.YtjoppgilmlhfbaaDoorP4
import Derived.Test.YtjoppgilmlhfbaaDoorP5
import Derived.Test.YtjoppgilmlhfbaaDoorP7
namespace Go.Proofs.YtjoppgilmlhfbaaDoor
open Go.RowKit M
set_option linter.unusedSimpArgs false
set_option linter.unusedVariables false

theorem insG (op imm : Int) (reg src loc : ByteArray) : insOk ⟨op, reg, src, loc, imm⟩ = ((fsV op).2 && (if (fsV op).1.1 = true then nB reg else decide (reg.toList = [])) && (if (fsV op).1.2.1 = true then nB src else decide (src.toList = [])) && (if (fsV op).1.2.2.1 = true then nB loc else decide (loc.toList = [])) && ((fsV op).1.2.2.2 || decide (imm = 0))) := by
  by_cases h1 : op = 1
  · subst h1; rw [Bool.eq_iff_iff]; simp [insOk, fsV, f4, no4]; try (constructor <;> intro h <;> simp_all)
  by_cases h2 : op = 2
  · subst h2; rw [Bool.eq_iff_iff]; simp [insOk, fsV, f4, no4]; try (constructor <;> intro h <;> simp_all)
  by_cases h3 : op = 3
  · subst h3; rw [Bool.eq_iff_iff]; simp [insOk, fsV, f4, no4]; try (constructor <;> intro h <;> simp_all)
  by_cases h4 : op = 4
  · subst h4; rw [Bool.eq_iff_iff]; simp [insOk, fsV, f4, no4]; try (constructor <;> intro h <;> simp_all)
  by_cases h5 : op = 5
  · subst h5; rw [Bool.eq_iff_iff]; simp [insOk, fsV, f4, no4]; try (constructor <;> intro h <;> simp_all)
  by_cases h6 : op = 6
  · subst h6; rw [Bool.eq_iff_iff]; simp [insOk, fsV, f4, no4]; try (constructor <;> intro h <;> simp_all)
  by_cases h7 : op = 7
  · subst h7; rw [Bool.eq_iff_iff]; simp [insOk, fsV, f4, no4]; try (constructor <;> intro h <;> simp_all)
  by_cases h8 : op = 8
  · subst h8; rw [Bool.eq_iff_iff]; simp [insOk, fsV, f4, no4]; try (constructor <;> intro h <;> simp_all)
  by_cases h9 : op = 9
  · subst h9; rw [Bool.eq_iff_iff]; simp [insOk, fsV, f4, no4]; try (constructor <;> intro h <;> simp_all)
  rw [Bool.eq_iff_iff]; simp [insOk, fsV, f4, no4, h1, h2, h3, h4, h5, h6, h7, h8, h9]
theorem rins_any (x : IB) (hr : x.reg.size ≤ maxLen) (hs : x.src.size ≤ maxLen) (hl : x.loc.size ≤ maxLen) (w : World) : Calls Tryd.prog 18 #[.agg (ibL x).toArray] w fun e w' => e = .returned (.bool (insOk x)) ∧ Below w.heap.size w w' := by
  obtain ⟨op, reg, src, loc, imm⟩ := x
  have cF := fun w => fs_any op w
  rw [insG]
  generalize fsV op = F at *
  obtain ⟨⟨f0, f1, f2, f3⟩, ok⟩ := F
  dsimp only [b4] at cF ⊢
  have k0 := fun w => field_any f0 reg hr w
  have k1 := fun w => field_any f1 src hs w
  have k2 := fun w => field_any f2 loc hl w
  generalize (if f0 = true then nB reg else decide (reg.toList = [])) = r0 at *
  generalize (if f1 = true then nB src else decide (src.toList = [])) = r1 at *
  generalize (if f2 = true then nB loc else decide (loc.toList = [])) = r2 at *
  cases ok with
  | false => exact ri_A op imm reg src loc f0 f1 f2 f3 r0 r1 r2 cF k0 k1 k2 w
  | true =>
    cases r0 with
    | false => exact ri_B op imm reg src loc f0 f1 f2 f3 r1 r2 cF k0 k1 k2 w
    | true =>
      cases r1 with
      | false => exact ri_C op imm reg src loc f0 f1 f2 f3 r2 cF k0 k1 k2 w
      | true =>
        cases r2 with
        | false => exact ri_D op imm reg src loc f0 f1 f2 f3 cF k0 k1 k2 w
        | true => exact ri_E op imm reg src loc f0 f1 f2 f3 cF k0 k1 k2 w
set_option maxRecDepth 100000 in
set_option maxHeartbeats 4000000 in
theorem pInstr_any (x : IB) (hr : x.reg.size ≤ maxLen) (hs : x.src.size ≤ maxLen) (hl : x.loc.size ≤ maxLen) (v0 : -9223372036854775808 ≤ x.imm) (v1 : x.imm ≤ 9223372036854775807) (w : World) (hT : Tab10 w) : Calls Tryd.prog 8 #[.agg (ibL x).toArray] w fun e w' => e = .returned (if insOk x = true then .tuple #[.string (insS x), .int .i64 0] else .tuple #[.string ⟨#[]⟩, .int .i64 80]) ∧ Below w.heap.size w w' := by
  have cW := fun w => wins_any x hr hs hl w
  have tk : True := trivial
  have tl : True := trivial
  have tm : True := trivial
  by_cases hq : insOk x = true
  · have cT : ∀ W, Below w.heap.size w W → Calls Tryd.prog 17 #[.agg (ibL x).toArray] W fun e w' => e = .returned (.string (insS x)) ∧ Below W.heap.size W w' := fun W hB => inst_any x hq v0 v1 W (hT.below hB)
    rw [if_pos hq]
    simp only [hq] at cW
    clear hq hr hs hl hT v0 v1
    generalize insS x = S at *
    go_enter Tryd.func8, Tryd.ntmps8
    go_wp2_with (first
      | (clear tk; refine wpList_boxS rfl 27 _ rfl (ibL x) rfl ?_; intro W1 b1 F1 N1; have B1 := F1.trans (Below.refl _ w) (Nat.le_refl _); clear F1)
      | (clear tl; refine wpList_loadP rfl 27 _ rfl rfl N1 5 (ibL x) rfl _ Tryd.underlying27 rfl infoIb ?_)
      | (go_at_call 16; refine (cW _).mono ?_; rintro e W2 ⟨rfl, B2x⟩; have N2 := N1.grown B2x; have B2 := Below.then B1 B2x; clear cW B2x N1)
      | (clear tm; refine wpList_loadP rfl 27 _ rfl rfl N2 5 (ibL x) rfl _ Tryd.underlying27 rfl infoIb ?_)
      | (go_at_call 17; refine (cT _ B2).mono ?_; rintro e W3 ⟨rfl, B3x⟩; have B3 := Below.then B2 B3x; clear cT B3x))
    go_ret2
    exact ⟨rfl, B3⟩
  · have hf : insOk x = false := by simpa using hq
    rw [if_neg hq]
    simp only [hf] at cW
    clear hq hf hr hs hl hT v0 v1
    go_enter Tryd.func8, Tryd.ntmps8
    go_wp2_with (first
      | (clear tk; refine wpList_boxS rfl 27 _ rfl (ibL x) rfl ?_; intro W1 b1 F1 N1; have B1 := F1.trans (Below.refl _ w) (Nat.le_refl _); clear F1)
      | (clear tl; refine wpList_loadP rfl 27 _ rfl rfl N1 5 (ibL x) rfl _ Tryd.underlying27 rfl infoIb ?_)
      | (go_at_call 16; refine (cW _).mono ?_; rintro e W2 ⟨rfl, B2x⟩; have B2 := Below.then B1 B2x; clear cW B2x))
    go_ret2
    exact ⟨rfl, B2⟩
set_option maxRecDepth 100000 in
set_option maxHeartbeats 4000000 in
theorem rInstr_no (x : IB) (hq : insOk x = false) (hr : x.reg.size ≤ maxLen) (hs : x.src.size ≤ maxLen) (hl : x.loc.size ≤ maxLen) (w : World) : Calls Tryd.prog 9 #[.agg (ibL x).toArray] w fun e w' => e = .returned (.tuple #[.string ⟨#[]⟩, .int .i64 80]) ∧ Below w.heap.size w w' := by
  have cW := fun w => rins_any x hr hs hl w
  have tk : True := trivial
  have tl : True := trivial
  simp only [hq] at cW
  clear hq hr hs hl
  go_enter Tryd.func9, Tryd.ntmps9
  go_wp2_with (first
    | (clear tk; refine wpList_boxS rfl 27 _ rfl (ibL x) rfl ?_; intro W1 b1 F1 N1; have B1 := F1.trans (Below.refl _ w) (Nat.le_refl _); clear F1)
    | (clear tl; refine wpList_loadP rfl 27 _ rfl rfl N1 5 (ibL x) rfl _ Tryd.underlying27 rfl infoIb ?_)
    | (go_at_call 18; refine (cW _).mono ?_; rintro e W2 ⟨rfl, B2x⟩; have B2 := Below.then B1 B2x; clear cW B2x))
  go_ret2
  exact ⟨rfl, B2⟩
set_option maxRecDepth 100000 in
set_option maxHeartbeats 4000000 in
theorem rinst_1 (reg src loc : ByteArray) (imm : Int) (hq : insOk ⟨1, reg, src, loc, imm⟩ = true) (hr : reg.size ≤ 64) (hs : src.size ≤ 64) (hl : loc.size ≤ 64) (v0 : -9223372036854775808 ≤ imm) (v1 : imm ≤ 9223372036854775807) (w : World) : Calls Tryd.prog 9 #[.agg (ibL ⟨1, reg, src, loc, imm⟩).toArray] w fun e w' => e = .returned (.tuple #[.string (insS ⟨1, reg, src, loc, imm⟩), .int .i64 0]) ∧ Below w.heap.size w w' := by
  have ht := tx_len imm v0 v1
  have cW := fun w => rins_any ⟨1, reg, src, loc, imm⟩ (Nat.le_trans hr (by unfold maxLen; omega)) (Nat.le_trans hs (by unfold maxLen; omega)) (Nat.le_trans hl (by unfold maxLen; omega)) w
  simp only [hq] at cW
  have cV : ∀ W, Calls Tryd.prog 14 #[.int .i64 imm] W fun e w' => e = .returned (.string (txB imm)) ∧ Below W.heap.size W w' := fun W => rtext_any imm v0 v1 W
  have l1 := sadd ⟨#[91]⟩ loc (by rw [sz1]; omega)
  have l2 : ∀ W : World, (Op.stringOp .add (⟨#[91]⟩ ++ loc) ⟨#[93]⟩).run Tryd.prog W = .ok (.string (locS loc)) W := sadd (⟨#[91]⟩ ++ loc) ⟨#[93]⟩ (by simp only [ByteArray.size_append, sz1]; omega)
  have l3 : ∀ W : World, (Op.stringOp .add ⟨#[36]⟩ (txB imm)).run Tryd.prog W = .ok (.string (valS imm)) W := sadd ⟨#[36]⟩ (txB imm) (by rw [sz1]; omega)
  obtain ⟨a1, a2, a3⟩ := two_add ⟨#[77, 79, 86, 32]⟩ reg (valS imm) (by decide) (Nat.le_trans hr (by omega)) (Nat.le_trans (val_len v0 v1) (by omega))
  have HS : Hid (insS ⟨1, reg, src, loc, imm⟩ = two ⟨#[77, 79, 86, 32]⟩ reg (valS imm)) := (by show insS _ = _; simp [insS])
  generalize two ⟨#[77, 79, 86, 32]⟩ reg (valS imm) = R at *
  generalize insS ⟨1, reg, src, loc, imm⟩ = V at *
  generalize locS loc = L at *
  generalize valS imm = U at *
  have tk : True := trivial
  have tl : True := trivial
  clear ht hr hs hl v0 v1 hq
  dsimp only [ibL] at *
  go_enter Tryd.func9, Tryd.ntmps9
  go_wp2_with (first
    | (clear tk; refine wpList_boxS rfl 27 _ rfl (ibL ⟨1, reg, src, loc, imm⟩) rfl ?_; intro W1 b1 F1 N1; have B1 := F1.trans (Below.refl _ w) (Nat.le_refl _); clear F1)
    | (clear tl; refine wpList_loadP rfl 27 _ rfl rfl N1 5 (ibL ⟨1, reg, src, loc, imm⟩) rfl _ Tryd.underlying27 rfl infoIb ?_; dsimp only [ibL])
    | (go_at_call 18; refine (cW _).mono ?_; rintro e W2 ⟨rfl, B2x⟩; have N2 := N1.grown B2x; have B2 := Below.then B1 B2x; have c4 : W2.cell? ⟨b1, 4, none⟩ = some (.int .i64 imm) := N2.cell 4; clear cW B2x N1)
    | (go_at_call 14; refine (cV _).mono ?_; rintro e W3 ⟨rfl, B3x⟩; have N3 := N2.grown B3x; have B3 := Below.then B2 B3x; have d0 : W3.cell? ⟨b1, 0, none⟩ = some (.int .i64 1) := N3.cell 0; have d1 : W3.cell? ⟨b1, 1, none⟩ = some (.string reg) := N3.cell 1; have d2 : W3.cell? ⟨b1, 2, none⟩ = some (.string src) := N3.cell 2; have d3 : W3.cell? ⟨b1, 3, none⟩ = some (.string loc) := N3.cell 3; clear cV B3x N2 N3 c4))
  go_ret2
  exact ⟨by rw [HS.out]; rfl, B3⟩
set_option maxRecDepth 100000 in
set_option maxHeartbeats 4000000 in
theorem rinst_2 (reg src loc : ByteArray) (imm : Int) (hq : insOk ⟨2, reg, src, loc, imm⟩ = true) (hr : reg.size ≤ 64) (hs : src.size ≤ 64) (hl : loc.size ≤ 64) (v0 : -9223372036854775808 ≤ imm) (v1 : imm ≤ 9223372036854775807) (w : World) : Calls Tryd.prog 9 #[.agg (ibL ⟨2, reg, src, loc, imm⟩).toArray] w fun e w' => e = .returned (.tuple #[.string (insS ⟨2, reg, src, loc, imm⟩), .int .i64 0]) ∧ Below w.heap.size w w' := by
  have ht := tx_len imm v0 v1
  have cW := fun w => rins_any ⟨2, reg, src, loc, imm⟩ (Nat.le_trans hr (by unfold maxLen; omega)) (Nat.le_trans hs (by unfold maxLen; omega)) (Nat.le_trans hl (by unfold maxLen; omega)) w
  simp only [hq] at cW
  have cV : ∀ W, Calls Tryd.prog 14 #[.int .i64 imm] W fun e w' => e = .returned (.string (txB imm)) ∧ Below W.heap.size W w' := fun W => rtext_any imm v0 v1 W
  have l1 := sadd ⟨#[91]⟩ loc (by rw [sz1]; omega)
  have l2 : ∀ W : World, (Op.stringOp .add (⟨#[91]⟩ ++ loc) ⟨#[93]⟩).run Tryd.prog W = .ok (.string (locS loc)) W := sadd (⟨#[91]⟩ ++ loc) ⟨#[93]⟩ (by simp only [ByteArray.size_append, sz1]; omega)
  have l3 : ∀ W : World, (Op.stringOp .add ⟨#[36]⟩ (txB imm)).run Tryd.prog W = .ok (.string (valS imm)) W := sadd ⟨#[36]⟩ (txB imm) (by rw [sz1]; omega)
  obtain ⟨a1, a2, a3⟩ := two_add ⟨#[77, 79, 86, 32]⟩ reg src (by decide) (Nat.le_trans hr (by omega)) (Nat.le_trans hs (by omega))
  have HS : Hid (insS ⟨2, reg, src, loc, imm⟩ = two ⟨#[77, 79, 86, 32]⟩ reg src) := (by show insS _ = _; simp [insS])
  generalize two ⟨#[77, 79, 86, 32]⟩ reg src = R at *
  generalize insS ⟨2, reg, src, loc, imm⟩ = V at *
  generalize locS loc = L at *
  generalize valS imm = U at *
  have tk : True := trivial
  have tl : True := trivial
  clear ht hr hs hl v0 v1 hq
  dsimp only [ibL] at *
  go_enter Tryd.func9, Tryd.ntmps9
  go_wp2_with (first
    | (clear tk; refine wpList_boxS rfl 27 _ rfl (ibL ⟨2, reg, src, loc, imm⟩) rfl ?_; intro W1 b1 F1 N1; have B1 := F1.trans (Below.refl _ w) (Nat.le_refl _); clear F1)
    | (clear tl; refine wpList_loadP rfl 27 _ rfl rfl N1 5 (ibL ⟨2, reg, src, loc, imm⟩) rfl _ Tryd.underlying27 rfl infoIb ?_; dsimp only [ibL])
    | (go_at_call 18; refine (cW _).mono ?_; rintro e W2 ⟨rfl, B2x⟩; have N2 := N1.grown B2x; have B2 := Below.then B1 B2x; have c4 : W2.cell? ⟨b1, 4, none⟩ = some (.int .i64 imm) := N2.cell 4; clear cW B2x N1)
    | (go_at_call 14; refine (cV _).mono ?_; rintro e W3 ⟨rfl, B3x⟩; have N3 := N2.grown B3x; have B3 := Below.then B2 B3x; have d0 : W3.cell? ⟨b1, 0, none⟩ = some (.int .i64 2) := N3.cell 0; have d1 : W3.cell? ⟨b1, 1, none⟩ = some (.string reg) := N3.cell 1; have d2 : W3.cell? ⟨b1, 2, none⟩ = some (.string src) := N3.cell 2; have d3 : W3.cell? ⟨b1, 3, none⟩ = some (.string loc) := N3.cell 3; clear cV B3x N2 N3 c4))
  go_ret2
  exact ⟨by rw [HS.out]; rfl, B3⟩
set_option maxRecDepth 100000 in
set_option maxHeartbeats 4000000 in
theorem rinst_3 (reg src loc : ByteArray) (imm : Int) (hq : insOk ⟨3, reg, src, loc, imm⟩ = true) (hr : reg.size ≤ 64) (hs : src.size ≤ 64) (hl : loc.size ≤ 64) (v0 : -9223372036854775808 ≤ imm) (v1 : imm ≤ 9223372036854775807) (w : World) : Calls Tryd.prog 9 #[.agg (ibL ⟨3, reg, src, loc, imm⟩).toArray] w fun e w' => e = .returned (.tuple #[.string (insS ⟨3, reg, src, loc, imm⟩), .int .i64 0]) ∧ Below w.heap.size w w' := by
  have ht := tx_len imm v0 v1
  have cW := fun w => rins_any ⟨3, reg, src, loc, imm⟩ (Nat.le_trans hr (by unfold maxLen; omega)) (Nat.le_trans hs (by unfold maxLen; omega)) (Nat.le_trans hl (by unfold maxLen; omega)) w
  simp only [hq] at cW
  have cV : ∀ W, Calls Tryd.prog 14 #[.int .i64 imm] W fun e w' => e = .returned (.string (txB imm)) ∧ Below W.heap.size W w' := fun W => rtext_any imm v0 v1 W
  have l1 := sadd ⟨#[91]⟩ loc (by rw [sz1]; omega)
  have l2 : ∀ W : World, (Op.stringOp .add (⟨#[91]⟩ ++ loc) ⟨#[93]⟩).run Tryd.prog W = .ok (.string (locS loc)) W := sadd (⟨#[91]⟩ ++ loc) ⟨#[93]⟩ (by simp only [ByteArray.size_append, sz1]; omega)
  have l3 : ∀ W : World, (Op.stringOp .add ⟨#[36]⟩ (txB imm)).run Tryd.prog W = .ok (.string (valS imm)) W := sadd ⟨#[36]⟩ (txB imm) (by rw [sz1]; omega)
  obtain ⟨a1, a2, a3⟩ := two_add ⟨#[77, 79, 86, 32]⟩ reg (locS loc) (by decide) (Nat.le_trans hr (by omega)) (Nat.le_trans (loc_len hl) (by omega))
  have HS : Hid (insS ⟨3, reg, src, loc, imm⟩ = two ⟨#[77, 79, 86, 32]⟩ reg (locS loc)) := (by show insS _ = _; simp [insS])
  generalize two ⟨#[77, 79, 86, 32]⟩ reg (locS loc) = R at *
  generalize insS ⟨3, reg, src, loc, imm⟩ = V at *
  generalize locS loc = L at *
  generalize valS imm = U at *
  have tk : True := trivial
  have tl : True := trivial
  clear ht hr hs hl v0 v1 hq
  dsimp only [ibL] at *
  go_enter Tryd.func9, Tryd.ntmps9
  go_wp2_with (first
    | (clear tk; refine wpList_boxS rfl 27 _ rfl (ibL ⟨3, reg, src, loc, imm⟩) rfl ?_; intro W1 b1 F1 N1; have B1 := F1.trans (Below.refl _ w) (Nat.le_refl _); clear F1)
    | (clear tl; refine wpList_loadP rfl 27 _ rfl rfl N1 5 (ibL ⟨3, reg, src, loc, imm⟩) rfl _ Tryd.underlying27 rfl infoIb ?_; dsimp only [ibL])
    | (go_at_call 18; refine (cW _).mono ?_; rintro e W2 ⟨rfl, B2x⟩; have N2 := N1.grown B2x; have B2 := Below.then B1 B2x; have c4 : W2.cell? ⟨b1, 4, none⟩ = some (.int .i64 imm) := N2.cell 4; clear cW B2x N1)
    | (go_at_call 14; refine (cV _).mono ?_; rintro e W3 ⟨rfl, B3x⟩; have N3 := N2.grown B3x; have B3 := Below.then B2 B3x; have d0 : W3.cell? ⟨b1, 0, none⟩ = some (.int .i64 3) := N3.cell 0; have d1 : W3.cell? ⟨b1, 1, none⟩ = some (.string reg) := N3.cell 1; have d2 : W3.cell? ⟨b1, 2, none⟩ = some (.string src) := N3.cell 2; have d3 : W3.cell? ⟨b1, 3, none⟩ = some (.string loc) := N3.cell 3; clear cV B3x N2 N3 c4))
  go_ret2
  exact ⟨by rw [HS.out]; rfl, B3⟩
set_option maxRecDepth 100000 in
set_option maxHeartbeats 4000000 in
theorem rinst_4 (reg src loc : ByteArray) (imm : Int) (hq : insOk ⟨4, reg, src, loc, imm⟩ = true) (hr : reg.size ≤ 64) (hs : src.size ≤ 64) (hl : loc.size ≤ 64) (v0 : -9223372036854775808 ≤ imm) (v1 : imm ≤ 9223372036854775807) (w : World) : Calls Tryd.prog 9 #[.agg (ibL ⟨4, reg, src, loc, imm⟩).toArray] w fun e w' => e = .returned (.tuple #[.string (insS ⟨4, reg, src, loc, imm⟩), .int .i64 0]) ∧ Below w.heap.size w w' := by
  have ht := tx_len imm v0 v1
  have cW := fun w => rins_any ⟨4, reg, src, loc, imm⟩ (Nat.le_trans hr (by unfold maxLen; omega)) (Nat.le_trans hs (by unfold maxLen; omega)) (Nat.le_trans hl (by unfold maxLen; omega)) w
  simp only [hq] at cW
  have cV : ∀ W, Calls Tryd.prog 14 #[.int .i64 imm] W fun e w' => e = .returned (.string (txB imm)) ∧ Below W.heap.size W w' := fun W => rtext_any imm v0 v1 W
  have l1 := sadd ⟨#[91]⟩ loc (by rw [sz1]; omega)
  have l2 : ∀ W : World, (Op.stringOp .add (⟨#[91]⟩ ++ loc) ⟨#[93]⟩).run Tryd.prog W = .ok (.string (locS loc)) W := sadd (⟨#[91]⟩ ++ loc) ⟨#[93]⟩ (by simp only [ByteArray.size_append, sz1]; omega)
  have l3 : ∀ W : World, (Op.stringOp .add ⟨#[36]⟩ (txB imm)).run Tryd.prog W = .ok (.string (valS imm)) W := sadd ⟨#[36]⟩ (txB imm) (by rw [sz1]; omega)
  obtain ⟨a1, a2, a3⟩ := two_add ⟨#[77, 79, 86, 32]⟩ (locS loc) (valS imm) (by decide) (Nat.le_trans (loc_len hl) (by omega)) (Nat.le_trans (val_len v0 v1) (by omega))
  have HS : Hid (insS ⟨4, reg, src, loc, imm⟩ = two ⟨#[77, 79, 86, 32]⟩ (locS loc) (valS imm)) := (by show insS _ = _; simp [insS])
  generalize two ⟨#[77, 79, 86, 32]⟩ (locS loc) (valS imm) = R at *
  generalize insS ⟨4, reg, src, loc, imm⟩ = V at *
  generalize locS loc = L at *
  generalize valS imm = U at *
  have tk : True := trivial
  have tl : True := trivial
  clear ht hr hs hl v0 v1 hq
  dsimp only [ibL] at *
  go_enter Tryd.func9, Tryd.ntmps9
  go_wp2_with (first
    | (clear tk; refine wpList_boxS rfl 27 _ rfl (ibL ⟨4, reg, src, loc, imm⟩) rfl ?_; intro W1 b1 F1 N1; have B1 := F1.trans (Below.refl _ w) (Nat.le_refl _); clear F1)
    | (clear tl; refine wpList_loadP rfl 27 _ rfl rfl N1 5 (ibL ⟨4, reg, src, loc, imm⟩) rfl _ Tryd.underlying27 rfl infoIb ?_; dsimp only [ibL])
    | (go_at_call 18; refine (cW _).mono ?_; rintro e W2 ⟨rfl, B2x⟩; have N2 := N1.grown B2x; have B2 := Below.then B1 B2x; have c4 : W2.cell? ⟨b1, 4, none⟩ = some (.int .i64 imm) := N2.cell 4; clear cW B2x N1)
    | (go_at_call 14; refine (cV _).mono ?_; rintro e W3 ⟨rfl, B3x⟩; have N3 := N2.grown B3x; have B3 := Below.then B2 B3x; have d0 : W3.cell? ⟨b1, 0, none⟩ = some (.int .i64 4) := N3.cell 0; have d1 : W3.cell? ⟨b1, 1, none⟩ = some (.string reg) := N3.cell 1; have d2 : W3.cell? ⟨b1, 2, none⟩ = some (.string src) := N3.cell 2; have d3 : W3.cell? ⟨b1, 3, none⟩ = some (.string loc) := N3.cell 3; clear cV B3x N2 N3 c4))
  go_ret2
  exact ⟨by rw [HS.out]; rfl, B3⟩
set_option maxRecDepth 100000 in
set_option maxHeartbeats 4000000 in
theorem rinst_5 (reg src loc : ByteArray) (imm : Int) (hq : insOk ⟨5, reg, src, loc, imm⟩ = true) (hr : reg.size ≤ 64) (hs : src.size ≤ 64) (hl : loc.size ≤ 64) (v0 : -9223372036854775808 ≤ imm) (v1 : imm ≤ 9223372036854775807) (w : World) : Calls Tryd.prog 9 #[.agg (ibL ⟨5, reg, src, loc, imm⟩).toArray] w fun e w' => e = .returned (.tuple #[.string (insS ⟨5, reg, src, loc, imm⟩), .int .i64 0]) ∧ Below w.heap.size w w' := by
  have ht := tx_len imm v0 v1
  have cW := fun w => rins_any ⟨5, reg, src, loc, imm⟩ (Nat.le_trans hr (by unfold maxLen; omega)) (Nat.le_trans hs (by unfold maxLen; omega)) (Nat.le_trans hl (by unfold maxLen; omega)) w
  simp only [hq] at cW
  have cV : ∀ W, Calls Tryd.prog 14 #[.int .i64 imm] W fun e w' => e = .returned (.string (txB imm)) ∧ Below W.heap.size W w' := fun W => rtext_any imm v0 v1 W
  have l1 := sadd ⟨#[91]⟩ loc (by rw [sz1]; omega)
  have l2 : ∀ W : World, (Op.stringOp .add (⟨#[91]⟩ ++ loc) ⟨#[93]⟩).run Tryd.prog W = .ok (.string (locS loc)) W := sadd (⟨#[91]⟩ ++ loc) ⟨#[93]⟩ (by simp only [ByteArray.size_append, sz1]; omega)
  have l3 : ∀ W : World, (Op.stringOp .add ⟨#[36]⟩ (txB imm)).run Tryd.prog W = .ok (.string (valS imm)) W := sadd ⟨#[36]⟩ (txB imm) (by rw [sz1]; omega)
  obtain ⟨a1, a2, a3⟩ := two_add ⟨#[77, 79, 86, 32]⟩ (locS loc) src (by decide) (Nat.le_trans (loc_len hl) (by omega)) (Nat.le_trans hs (by omega))
  have HS : Hid (insS ⟨5, reg, src, loc, imm⟩ = two ⟨#[77, 79, 86, 32]⟩ (locS loc) src) := (by show insS _ = _; simp [insS])
  generalize two ⟨#[77, 79, 86, 32]⟩ (locS loc) src = R at *
  generalize insS ⟨5, reg, src, loc, imm⟩ = V at *
  generalize locS loc = L at *
  generalize valS imm = U at *
  have tk : True := trivial
  have tl : True := trivial
  clear ht hr hs hl v0 v1 hq
  dsimp only [ibL] at *
  go_enter Tryd.func9, Tryd.ntmps9
  go_wp2_with (first
    | (clear tk; refine wpList_boxS rfl 27 _ rfl (ibL ⟨5, reg, src, loc, imm⟩) rfl ?_; intro W1 b1 F1 N1; have B1 := F1.trans (Below.refl _ w) (Nat.le_refl _); clear F1)
    | (clear tl; refine wpList_loadP rfl 27 _ rfl rfl N1 5 (ibL ⟨5, reg, src, loc, imm⟩) rfl _ Tryd.underlying27 rfl infoIb ?_; dsimp only [ibL])
    | (go_at_call 18; refine (cW _).mono ?_; rintro e W2 ⟨rfl, B2x⟩; have N2 := N1.grown B2x; have B2 := Below.then B1 B2x; have c4 : W2.cell? ⟨b1, 4, none⟩ = some (.int .i64 imm) := N2.cell 4; clear cW B2x N1)
    | (go_at_call 14; refine (cV _).mono ?_; rintro e W3 ⟨rfl, B3x⟩; have N3 := N2.grown B3x; have B3 := Below.then B2 B3x; have d0 : W3.cell? ⟨b1, 0, none⟩ = some (.int .i64 5) := N3.cell 0; have d1 : W3.cell? ⟨b1, 1, none⟩ = some (.string reg) := N3.cell 1; have d2 : W3.cell? ⟨b1, 2, none⟩ = some (.string src) := N3.cell 2; have d3 : W3.cell? ⟨b1, 3, none⟩ = some (.string loc) := N3.cell 3; clear cV B3x N2 N3 c4))
  go_ret2
  exact ⟨by rw [HS.out]; rfl, B3⟩
set_option maxRecDepth 100000 in
set_option maxHeartbeats 4000000 in
theorem rinst_6 (reg src loc : ByteArray) (imm : Int) (hq : insOk ⟨6, reg, src, loc, imm⟩ = true) (hr : reg.size ≤ 64) (hs : src.size ≤ 64) (hl : loc.size ≤ 64) (v0 : -9223372036854775808 ≤ imm) (v1 : imm ≤ 9223372036854775807) (w : World) : Calls Tryd.prog 9 #[.agg (ibL ⟨6, reg, src, loc, imm⟩).toArray] w fun e w' => e = .returned (.tuple #[.string (insS ⟨6, reg, src, loc, imm⟩), .int .i64 0]) ∧ Below w.heap.size w w' := by
  have ht := tx_len imm v0 v1
  have cW := fun w => rins_any ⟨6, reg, src, loc, imm⟩ (Nat.le_trans hr (by unfold maxLen; omega)) (Nat.le_trans hs (by unfold maxLen; omega)) (Nat.le_trans hl (by unfold maxLen; omega)) w
  simp only [hq] at cW
  have cV : ∀ W, Calls Tryd.prog 14 #[.int .i64 imm] W fun e w' => e = .returned (.string (txB imm)) ∧ Below W.heap.size W w' := fun W => rtext_any imm v0 v1 W
  have l1 := sadd ⟨#[91]⟩ loc (by rw [sz1]; omega)
  have l2 : ∀ W : World, (Op.stringOp .add (⟨#[91]⟩ ++ loc) ⟨#[93]⟩).run Tryd.prog W = .ok (.string (locS loc)) W := sadd (⟨#[91]⟩ ++ loc) ⟨#[93]⟩ (by simp only [ByteArray.size_append, sz1]; omega)
  have l3 : ∀ W : World, (Op.stringOp .add ⟨#[36]⟩ (txB imm)).run Tryd.prog W = .ok (.string (valS imm)) W := sadd ⟨#[36]⟩ (txB imm) (by rw [sz1]; omega)
  have HS : Hid (insS ⟨6, reg, src, loc, imm⟩ = ⟨#[77, 70, 69, 78, 67, 69]⟩) := (by show insS _ = _; simp [insS])
  generalize insS ⟨6, reg, src, loc, imm⟩ = V at *
  generalize locS loc = L at *
  generalize valS imm = U at *
  have tk : True := trivial
  have tl : True := trivial
  clear ht hr hs hl v0 v1 hq
  dsimp only [ibL] at *
  go_enter Tryd.func9, Tryd.ntmps9
  go_wp2_with (first
    | (clear tk; refine wpList_boxS rfl 27 _ rfl (ibL ⟨6, reg, src, loc, imm⟩) rfl ?_; intro W1 b1 F1 N1; have B1 := F1.trans (Below.refl _ w) (Nat.le_refl _); clear F1)
    | (clear tl; refine wpList_loadP rfl 27 _ rfl rfl N1 5 (ibL ⟨6, reg, src, loc, imm⟩) rfl _ Tryd.underlying27 rfl infoIb ?_; dsimp only [ibL])
    | (go_at_call 18; refine (cW _).mono ?_; rintro e W2 ⟨rfl, B2x⟩; have N2 := N1.grown B2x; have B2 := Below.then B1 B2x; have c4 : W2.cell? ⟨b1, 4, none⟩ = some (.int .i64 imm) := N2.cell 4; clear cW B2x N1)
    | (go_at_call 14; refine (cV _).mono ?_; rintro e W3 ⟨rfl, B3x⟩; have N3 := N2.grown B3x; have B3 := Below.then B2 B3x; have d0 : W3.cell? ⟨b1, 0, none⟩ = some (.int .i64 6) := N3.cell 0; have d1 : W3.cell? ⟨b1, 1, none⟩ = some (.string reg) := N3.cell 1; have d2 : W3.cell? ⟨b1, 2, none⟩ = some (.string src) := N3.cell 2; have d3 : W3.cell? ⟨b1, 3, none⟩ = some (.string loc) := N3.cell 3; clear cV B3x N2 N3 c4))
  go_ret2
  exact ⟨by rw [HS.out]; rfl, B3⟩
set_option maxRecDepth 100000 in
set_option maxHeartbeats 4000000 in
theorem rinst_7 (reg src loc : ByteArray) (imm : Int) (hq : insOk ⟨7, reg, src, loc, imm⟩ = true) (hr : reg.size ≤ 64) (hs : src.size ≤ 64) (hl : loc.size ≤ 64) (v0 : -9223372036854775808 ≤ imm) (v1 : imm ≤ 9223372036854775807) (w : World) : Calls Tryd.prog 9 #[.agg (ibL ⟨7, reg, src, loc, imm⟩).toArray] w fun e w' => e = .returned (.tuple #[.string (insS ⟨7, reg, src, loc, imm⟩), .int .i64 0]) ∧ Below w.heap.size w w' := by
  have ht := tx_len imm v0 v1
  have cW := fun w => rins_any ⟨7, reg, src, loc, imm⟩ (Nat.le_trans hr (by unfold maxLen; omega)) (Nat.le_trans hs (by unfold maxLen; omega)) (Nat.le_trans hl (by unfold maxLen; omega)) w
  simp only [hq] at cW
  have cV : ∀ W, Calls Tryd.prog 14 #[.int .i64 imm] W fun e w' => e = .returned (.string (txB imm)) ∧ Below W.heap.size W w' := fun W => rtext_any imm v0 v1 W
  have l1 := sadd ⟨#[91]⟩ loc (by rw [sz1]; omega)
  have l2 : ∀ W : World, (Op.stringOp .add (⟨#[91]⟩ ++ loc) ⟨#[93]⟩).run Tryd.prog W = .ok (.string (locS loc)) W := sadd (⟨#[91]⟩ ++ loc) ⟨#[93]⟩ (by simp only [ByteArray.size_append, sz1]; omega)
  have l3 : ∀ W : World, (Op.stringOp .add ⟨#[36]⟩ (txB imm)).run Tryd.prog W = .ok (.string (valS imm)) W := sadd ⟨#[36]⟩ (txB imm) (by rw [sz1]; omega)
  obtain ⟨a1, a2, a3⟩ := two_add ⟨#[88, 67, 72, 71, 32]⟩ (locS loc) reg (by decide) (Nat.le_trans (loc_len hl) (by omega)) (Nat.le_trans hr (by omega))
  have HS : Hid (insS ⟨7, reg, src, loc, imm⟩ = two ⟨#[88, 67, 72, 71, 32]⟩ (locS loc) reg) := (by show insS _ = _; simp [insS])
  generalize two ⟨#[88, 67, 72, 71, 32]⟩ (locS loc) reg = R at *
  generalize insS ⟨7, reg, src, loc, imm⟩ = V at *
  generalize locS loc = L at *
  generalize valS imm = U at *
  have tk : True := trivial
  have tl : True := trivial
  clear ht hr hs hl v0 v1 hq
  dsimp only [ibL] at *
  go_enter Tryd.func9, Tryd.ntmps9
  go_wp2_with (first
    | (clear tk; refine wpList_boxS rfl 27 _ rfl (ibL ⟨7, reg, src, loc, imm⟩) rfl ?_; intro W1 b1 F1 N1; have B1 := F1.trans (Below.refl _ w) (Nat.le_refl _); clear F1)
    | (clear tl; refine wpList_loadP rfl 27 _ rfl rfl N1 5 (ibL ⟨7, reg, src, loc, imm⟩) rfl _ Tryd.underlying27 rfl infoIb ?_; dsimp only [ibL])
    | (go_at_call 18; refine (cW _).mono ?_; rintro e W2 ⟨rfl, B2x⟩; have N2 := N1.grown B2x; have B2 := Below.then B1 B2x; have c4 : W2.cell? ⟨b1, 4, none⟩ = some (.int .i64 imm) := N2.cell 4; clear cW B2x N1)
    | (go_at_call 14; refine (cV _).mono ?_; rintro e W3 ⟨rfl, B3x⟩; have N3 := N2.grown B3x; have B3 := Below.then B2 B3x; have d0 : W3.cell? ⟨b1, 0, none⟩ = some (.int .i64 7) := N3.cell 0; have d1 : W3.cell? ⟨b1, 1, none⟩ = some (.string reg) := N3.cell 1; have d2 : W3.cell? ⟨b1, 2, none⟩ = some (.string src) := N3.cell 2; have d3 : W3.cell? ⟨b1, 3, none⟩ = some (.string loc) := N3.cell 3; clear cV B3x N2 N3 c4))
  go_ret2
  exact ⟨by rw [HS.out]; rfl, B3⟩
set_option maxRecDepth 100000 in
set_option maxHeartbeats 4000000 in
theorem rinst_8 (reg src loc : ByteArray) (imm : Int) (hq : insOk ⟨8, reg, src, loc, imm⟩ = true) (hr : reg.size ≤ 64) (hs : src.size ≤ 64) (hl : loc.size ≤ 64) (v0 : -9223372036854775808 ≤ imm) (v1 : imm ≤ 9223372036854775807) (w : World) : Calls Tryd.prog 9 #[.agg (ibL ⟨8, reg, src, loc, imm⟩).toArray] w fun e w' => e = .returned (.tuple #[.string (insS ⟨8, reg, src, loc, imm⟩), .int .i64 0]) ∧ Below w.heap.size w w' := by
  have ht := tx_len imm v0 v1
  have cW := fun w => rins_any ⟨8, reg, src, loc, imm⟩ (Nat.le_trans hr (by unfold maxLen; omega)) (Nat.le_trans hs (by unfold maxLen; omega)) (Nat.le_trans hl (by unfold maxLen; omega)) w
  simp only [hq] at cW
  have cV : ∀ W, Calls Tryd.prog 14 #[.int .i64 imm] W fun e w' => e = .returned (.string (txB imm)) ∧ Below W.heap.size W w' := fun W => rtext_any imm v0 v1 W
  have l1 := sadd ⟨#[91]⟩ loc (by rw [sz1]; omega)
  have l2 : ∀ W : World, (Op.stringOp .add (⟨#[91]⟩ ++ loc) ⟨#[93]⟩).run Tryd.prog W = .ok (.string (locS loc)) W := sadd (⟨#[91]⟩ ++ loc) ⟨#[93]⟩ (by simp only [ByteArray.size_append, sz1]; omega)
  have l3 : ∀ W : World, (Op.stringOp .add ⟨#[36]⟩ (txB imm)).run Tryd.prog W = .ok (.string (valS imm)) W := sadd ⟨#[36]⟩ (txB imm) (by rw [sz1]; omega)
  obtain ⟨a1, a2, a3⟩ := two_add ⟨#[76, 79, 67, 75, 32, 67, 77, 80, 88, 67, 72, 71, 32]⟩ (locS loc) src (by decide) (Nat.le_trans (loc_len hl) (by omega)) (Nat.le_trans hs (by omega))
  have HS : Hid (insS ⟨8, reg, src, loc, imm⟩ = two ⟨#[76, 79, 67, 75, 32, 67, 77, 80, 88, 67, 72, 71, 32]⟩ (locS loc) src) := (by show insS _ = _; simp [insS])
  generalize two ⟨#[76, 79, 67, 75, 32, 67, 77, 80, 88, 67, 72, 71, 32]⟩ (locS loc) src = R at *
  generalize insS ⟨8, reg, src, loc, imm⟩ = V at *
  generalize locS loc = L at *
  generalize valS imm = U at *
  have tk : True := trivial
  have tl : True := trivial
  clear ht hr hs hl v0 v1 hq
  dsimp only [ibL] at *
  go_enter Tryd.func9, Tryd.ntmps9
  go_wp2_with (first
    | (clear tk; refine wpList_boxS rfl 27 _ rfl (ibL ⟨8, reg, src, loc, imm⟩) rfl ?_; intro W1 b1 F1 N1; have B1 := F1.trans (Below.refl _ w) (Nat.le_refl _); clear F1)
    | (clear tl; refine wpList_loadP rfl 27 _ rfl rfl N1 5 (ibL ⟨8, reg, src, loc, imm⟩) rfl _ Tryd.underlying27 rfl infoIb ?_; dsimp only [ibL])
    | (go_at_call 18; refine (cW _).mono ?_; rintro e W2 ⟨rfl, B2x⟩; have N2 := N1.grown B2x; have B2 := Below.then B1 B2x; have c4 : W2.cell? ⟨b1, 4, none⟩ = some (.int .i64 imm) := N2.cell 4; clear cW B2x N1)
    | (go_at_call 14; refine (cV _).mono ?_; rintro e W3 ⟨rfl, B3x⟩; have N3 := N2.grown B3x; have B3 := Below.then B2 B3x; have d0 : W3.cell? ⟨b1, 0, none⟩ = some (.int .i64 8) := N3.cell 0; have d1 : W3.cell? ⟨b1, 1, none⟩ = some (.string reg) := N3.cell 1; have d2 : W3.cell? ⟨b1, 2, none⟩ = some (.string src) := N3.cell 2; have d3 : W3.cell? ⟨b1, 3, none⟩ = some (.string loc) := N3.cell 3; clear cV B3x N2 N3 c4))
  go_ret2
  exact ⟨by rw [HS.out]; rfl, B3⟩
set_option maxRecDepth 100000 in
set_option maxHeartbeats 4000000 in
theorem rinst_9 (reg src loc : ByteArray) (imm : Int) (hq : insOk ⟨9, reg, src, loc, imm⟩ = true) (hr : reg.size ≤ 64) (hs : src.size ≤ 64) (hl : loc.size ≤ 64) (v0 : -9223372036854775808 ≤ imm) (v1 : imm ≤ 9223372036854775807) (w : World) : Calls Tryd.prog 9 #[.agg (ibL ⟨9, reg, src, loc, imm⟩).toArray] w fun e w' => e = .returned (.tuple #[.string (insS ⟨9, reg, src, loc, imm⟩), .int .i64 0]) ∧ Below w.heap.size w w' := by
  have ht := tx_len imm v0 v1
  have cW := fun w => rins_any ⟨9, reg, src, loc, imm⟩ (Nat.le_trans hr (by unfold maxLen; omega)) (Nat.le_trans hs (by unfold maxLen; omega)) (Nat.le_trans hl (by unfold maxLen; omega)) w
  simp only [hq] at cW
  have cV : ∀ W, Calls Tryd.prog 14 #[.int .i64 imm] W fun e w' => e = .returned (.string (txB imm)) ∧ Below W.heap.size W w' := fun W => rtext_any imm v0 v1 W
  have l1 := sadd ⟨#[91]⟩ loc (by rw [sz1]; omega)
  have l2 : ∀ W : World, (Op.stringOp .add (⟨#[91]⟩ ++ loc) ⟨#[93]⟩).run Tryd.prog W = .ok (.string (locS loc)) W := sadd (⟨#[91]⟩ ++ loc) ⟨#[93]⟩ (by simp only [ByteArray.size_append, sz1]; omega)
  have l3 : ∀ W : World, (Op.stringOp .add ⟨#[36]⟩ (txB imm)).run Tryd.prog W = .ok (.string (valS imm)) W := sadd ⟨#[36]⟩ (txB imm) (by rw [sz1]; omega)
  obtain ⟨a1, a2, a3⟩ := two_add ⟨#[76, 79, 67, 75, 32, 88, 65, 68, 68, 32]⟩ (locS loc) reg (by decide) (Nat.le_trans (loc_len hl) (by omega)) (Nat.le_trans hr (by omega))
  have HS : Hid (insS ⟨9, reg, src, loc, imm⟩ = two ⟨#[76, 79, 67, 75, 32, 88, 65, 68, 68, 32]⟩ (locS loc) reg) := (by show insS _ = _; simp [insS])
  generalize two ⟨#[76, 79, 67, 75, 32, 88, 65, 68, 68, 32]⟩ (locS loc) reg = R at *
  generalize insS ⟨9, reg, src, loc, imm⟩ = V at *
  generalize locS loc = L at *
  generalize valS imm = U at *
  have tk : True := trivial
  have tl : True := trivial
  clear ht hr hs hl v0 v1 hq
  dsimp only [ibL] at *
  go_enter Tryd.func9, Tryd.ntmps9
  go_wp2_with (first
    | (clear tk; refine wpList_boxS rfl 27 _ rfl (ibL ⟨9, reg, src, loc, imm⟩) rfl ?_; intro W1 b1 F1 N1; have B1 := F1.trans (Below.refl _ w) (Nat.le_refl _); clear F1)
    | (clear tl; refine wpList_loadP rfl 27 _ rfl rfl N1 5 (ibL ⟨9, reg, src, loc, imm⟩) rfl _ Tryd.underlying27 rfl infoIb ?_; dsimp only [ibL])
    | (go_at_call 18; refine (cW _).mono ?_; rintro e W2 ⟨rfl, B2x⟩; have N2 := N1.grown B2x; have B2 := Below.then B1 B2x; have c4 : W2.cell? ⟨b1, 4, none⟩ = some (.int .i64 imm) := N2.cell 4; clear cW B2x N1)
    | (go_at_call 14; refine (cV _).mono ?_; rintro e W3 ⟨rfl, B3x⟩; have N3 := N2.grown B3x; have B3 := Below.then B2 B3x; have d0 : W3.cell? ⟨b1, 0, none⟩ = some (.int .i64 9) := N3.cell 0; have d1 : W3.cell? ⟨b1, 1, none⟩ = some (.string reg) := N3.cell 1; have d2 : W3.cell? ⟨b1, 2, none⟩ = some (.string src) := N3.cell 2; have d3 : W3.cell? ⟨b1, 3, none⟩ = some (.string loc) := N3.cell 3; clear cV B3x N2 N3 c4))
  go_ret2
  exact ⟨by rw [HS.out]; rfl, B3⟩
theorem rInstr_any (x : IB) (hr : x.reg.size ≤ maxLen) (hs : x.src.size ≤ maxLen) (hl : x.loc.size ≤ maxLen) (v0 : -9223372036854775808 ≤ x.imm) (v1 : x.imm ≤ 9223372036854775807) (w : World) : Calls Tryd.prog 9 #[.agg (ibL x).toArray] w fun e w' => e = .returned (if insOk x = true then .tuple #[.string (insS x), .int .i64 0] else .tuple #[.string ⟨#[]⟩, .int .i64 80]) ∧ Below w.heap.size w w' := by
  by_cases h : insOk x = true
  · rw [if_pos h]
    obtain ⟨ha, hb, hc⟩ := ins_len h
    have ho := ins_op h
    obtain ⟨op, reg, src, loc, imm⟩ := x
    rcases ho with ho | ho | ho | ho | ho | ho | ho | ho | ho <;> (simp only at ho; subst ho)
    · exact rinst_1 reg src loc imm h ha hb hc v0 v1 w
    · exact rinst_2 reg src loc imm h ha hb hc v0 v1 w
    · exact rinst_3 reg src loc imm h ha hb hc v0 v1 w
    · exact rinst_4 reg src loc imm h ha hb hc v0 v1 w
    · exact rinst_5 reg src loc imm h ha hb hc v0 v1 w
    · exact rinst_6 reg src loc imm h ha hb hc v0 v1 w
    · exact rinst_7 reg src loc imm h ha hb hc v0 v1 w
    · exact rinst_8 reg src loc imm h ha hb hc v0 v1 w
    · exact rinst_9 reg src loc imm h ha hb hc v0 v1 w
  · rw [if_neg h]
    exact rInstr_no x (by simpa using h) hr hs hl w
end Go.Proofs.YtjoppgilmlhfbaaDoor

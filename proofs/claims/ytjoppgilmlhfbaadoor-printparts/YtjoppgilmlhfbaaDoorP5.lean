/- Instructions' texts: the program's side. -/
import Derived.Test.YtjoppgilmlhfbaaDoorP3
namespace Go.Proofs.YtjoppgilmlhfbaaDoor
open Go.RowKit M
set_option linter.unusedSimpArgs false
set_option linter.unusedVariables false

def locS (loc : ByteArray) : ByteArray := (⟨#[91]⟩ ++ loc) ++ ⟨#[93]⟩
def valS (imm : Int) : ByteArray := ⟨#[36]⟩ ++ txB imm
def two (p a b : ByteArray) : ByteArray := ((p ++ a) ++ ⟨#[44]⟩) ++ b
def insS (x : IB) : ByteArray :=
  if x.op = 1 then two ⟨#[77, 79, 86, 32]⟩ x.reg (valS x.imm) else
  if x.op = 2 then two ⟨#[77, 79, 86, 32]⟩ x.reg x.src else
  if x.op = 3 then two ⟨#[77, 79, 86, 32]⟩ x.reg (locS x.loc) else
  if x.op = 4 then two ⟨#[77, 79, 86, 32]⟩ (locS x.loc) (valS x.imm) else
  if x.op = 5 then two ⟨#[77, 79, 86, 32]⟩ (locS x.loc) x.src else
  if x.op = 7 then two ⟨#[88, 67, 72, 71, 32]⟩ (locS x.loc) x.reg else
  if x.op = 8 then two ⟨#[76, 79, 67, 75, 32, 67, 77, 80, 88, 67, 72, 71, 32]⟩ (locS x.loc) x.src else
  if x.op = 9 then two ⟨#[76, 79, 67, 75, 32, 88, 65, 68, 68, 32]⟩ (locS x.loc) x.reg else
  ⟨#[77, 70, 69, 78, 67, 69]⟩
theorem loc_len {loc : ByteArray} (h : loc.size ≤ 64) : (locS loc).size ≤ 66 := by unfold locS; simp only [ByteArray.size_append, sz1]; omega
theorem val_len {v : Int} (h0 : -9223372036854775808 ≤ v) (h1 : v ≤ 9223372036854775807) : (valS v).size ≤ 21 := by have := tx_len v h0 h1; unfold valS; simp only [ByteArray.size_append, sz1]; omega
theorem two_add (p a b : ByteArray) (hp : p.size ≤ 20) (ha : a.size ≤ 66) (hb : b.size ≤ 66) : (∀ W : World, (Op.stringOp .add p a).run Tryd.prog W = .ok (.string (p ++ a)) W) ∧ (∀ W : World, (Op.stringOp .add (p ++ a) ⟨#[44]⟩).run Tryd.prog W = .ok (.string ((p ++ a) ++ ⟨#[44]⟩)) W) ∧ (∀ W : World, (Op.stringOp .add ((p ++ a) ++ ⟨#[44]⟩) b).run Tryd.prog W = .ok (.string (two p a b)) W) :=
  ⟨sadd _ _ (by omega), sadd _ _ (by simp only [ByteArray.size_append, sz1]; omega), sadd _ _ (by simp only [ByteArray.size_append, sz1]; omega)⟩
theorem emp_size {s : ByteArray} (h : s.toList = []) : s.size ≤ 64 := by rw [sizeL, ← toL, h]; simp
theorem ins_len {x : IB} (h : insOk x = true) : x.reg.size ≤ 64 ∧ x.src.size ≤ 64 ∧ x.loc.size ≤ 64 := by
  have nl : ∀ s : ByteArray, nB s = true → s.size ≤ 64 := fun s h => name_len h
  unfold insOk at h
  split at h
  · obtain ⟨a, b, c⟩ := of_decide_eq_true h; exact ⟨nl _ a, emp_size b, emp_size c⟩
  split at h
  · obtain ⟨a, b, c, d⟩ := of_decide_eq_true h; exact ⟨nl _ a, nl _ b, emp_size c⟩
  split at h
  · obtain ⟨a, b, c, d⟩ := of_decide_eq_true h; exact ⟨nl _ a, emp_size c, nl _ b⟩
  split at h
  · obtain ⟨a, b, c⟩ := of_decide_eq_true h; exact ⟨emp_size b, emp_size c, nl _ a⟩
  split at h
  · obtain ⟨a, b, c, d⟩ := of_decide_eq_true h; exact ⟨emp_size c, nl _ b, nl _ a⟩
  split at h
  · obtain ⟨a, b, c, d⟩ := of_decide_eq_true h; exact ⟨emp_size a, emp_size b, emp_size c⟩
  · cases h
theorem ins_op {x : IB} (h : insOk x = true) : x.op = 1 ∨ x.op = 2 ∨ x.op = 3 ∨ x.op = 4 ∨ x.op = 5 ∨ x.op = 6 ∨ x.op = 7 ∨ x.op = 8 ∨ x.op = 9 := by
  unfold insOk at h
  split at h <;> try omega
  split at h <;> try omega
  split at h <;> try omega
  split at h <;> try omega
  split at h <;> try omega
  split at h <;> try omega
  cases h
set_option maxRecDepth 100000 in
set_option maxHeartbeats 2000000 in
theorem inst_1 (reg src loc : ByteArray) (imm : Int) (hr : reg.size ≤ 64) (hs : src.size ≤ 64) (hl : loc.size ≤ 64) (v0 : -9223372036854775808 ≤ imm) (v1 : imm ≤ 9223372036854775807) (w : World) (hT : Tab10 w) : Calls Tryd.prog 17 #[.agg (ibL ⟨1, reg, src, loc, imm⟩).toArray] w fun e w' => e = .returned (.string (insS ⟨1, reg, src, loc, imm⟩)) ∧ Below w.heap.size w w' := by
  have ht := tx_len imm v0 v1
  have cV : ∀ W, Below w.heap.size w W → Calls Tryd.prog 23 #[.int .i64 imm] W fun e w' => e = .returned (.string (txB imm)) ∧ Below W.heap.size W w' := fun W hB => text_any imm v0 v1 W (hT.below hB)
  have l1 := sadd ⟨#[91]⟩ loc (by rw [sz1]; omega)
  have l2 : ∀ W : World, (Op.stringOp .add (⟨#[91]⟩ ++ loc) ⟨#[93]⟩).run Tryd.prog W = .ok (.string (locS loc)) W := sadd (⟨#[91]⟩ ++ loc) ⟨#[93]⟩ (by simp only [ByteArray.size_append, sz1]; omega)
  have l3 : ∀ W : World, (Op.stringOp .add ⟨#[36]⟩ (txB imm)).run Tryd.prog W = .ok (.string (valS imm)) W := sadd ⟨#[36]⟩ (txB imm) (by rw [sz1]; omega)
  obtain ⟨a1, a2, a3⟩ := two_add ⟨#[77, 79, 86, 32]⟩ reg (valS imm) (by decide) (Nat.le_trans hr (by omega)) (Nat.le_trans (val_len v0 v1) (by omega))
  have HS : Hid (insS ⟨1, reg, src, loc, imm⟩ = two ⟨#[77, 79, 86, 32]⟩ reg (valS imm)) := (by show insS _ = _; simp [insS])
  generalize two ⟨#[77, 79, 86, 32]⟩ reg (valS imm) = R at *
  generalize insS ⟨1, reg, src, loc, imm⟩ = V at *
  generalize locS loc = L at *
  generalize valS imm = U at *
  have tk : True := trivial
  clear ht hr hs hl v0 v1 hT
  dsimp only [ibL]
  go_enter Tryd.func17, Tryd.ntmps17
  go_wp2_with (clear tk; refine wpList_boxS rfl 27 _ rfl (ibL ⟨1, reg, src, loc, imm⟩) rfl ?_; intro W1 b1 F1 N1; have B1 := F1.trans (Below.refl _ w) (Nat.le_refl _); clear F1)
  refine grow_all (by kernel_rfl) (by kernel_rfl) ?_
  refine wpG_put rfl (v := .pointer (some ⟨b1, 3, none⟩)) (fun w => by first | rfl | (simp [execOp, go_sem]; done) | (go_simp; done)) ?_
  simp only [Act.put, List.setIfInBounds_toArray, List.set_cons_succ, List.set_cons_zero]
  refine wpG_load1 rfl 9 _ rfl rfl N1 (v := .string loc) rfl (fun w h => ld9 w h) ?_
  simp only [Act.put, List.setIfInBounds_toArray, List.set_cons_succ, List.set_cons_zero]
  refine wpG_put rfl (v := .string (⟨#[91]⟩ ++ loc)) (fun w => by simp [execOp, go_sem, l1 w]) ?_
  simp only [Act.put, List.setIfInBounds_toArray, List.set_cons_succ, List.set_cons_zero]
  refine wpG_put rfl (v := .string L) (fun w => by simp [execOp, go_sem, l2 w]) ?_
  simp only [Act.put, List.setIfInBounds_toArray, List.set_cons_succ, List.set_cons_zero]
  refine wpG_put rfl (v := .pointer (some ⟨b1, 4, none⟩)) (fun w => by first | rfl | (simp [execOp, go_sem]; done) | (go_simp; done)) ?_
  simp only [Act.put, List.setIfInBounds_toArray, List.set_cons_succ, List.set_cons_zero]
  refine wpG_load1 rfl 2 _ rfl rfl N1 (v := .int .i64 imm) rfl (fun w h => ld2 w h) ?_
  simp only [Act.put, List.setIfInBounds_toArray, List.set_cons_succ, List.set_cons_zero]
  refine wpG_call rfl (f := 23) (args := #[.int .i64 imm]) (v := .string (txB imm)) (fun W hW => cV W (Below.then B1 hW)) (fun w => by first | rfl | (go_simp; done)) ?_
  simp only [Act.put, List.setIfInBounds_toArray, List.set_cons_succ, List.set_cons_zero]
  refine wpG_put rfl (v := .string U) (fun w => by simp [execOp, go_sem, l3 w]) ?_
  simp only [Act.put, List.setIfInBounds_toArray, List.set_cons_succ, List.set_cons_zero]
  refine wpG_put rfl (v := .string L) (fun w => by first | rfl | (simp [execOp, go_sem]; done) | (go_simp; done)) ?_
  simp only [Act.put, List.setIfInBounds_toArray, List.set_cons_succ, List.set_cons_zero]
  refine wpG_put rfl (v := .string U) (fun w => by first | rfl | (simp [execOp, go_sem]; done) | (go_simp; done)) ?_
  simp only [Act.put, List.setIfInBounds_toArray, List.set_cons_succ, List.set_cons_zero]
  refine wpG_nil ?_
  intro W2 hW2
  have B2 := Below.then B1 hW2
  have N2 := N1.grown hW2
  have d0 : W2.cell? ⟨b1, 0, none⟩ = some (.int .i64 1) := N2.cell 0
  have d1 : W2.cell? ⟨b1, 1, none⟩ = some (.string reg) := N2.cell 1
  have d2 : W2.cell? ⟨b1, 2, none⟩ = some (.string src) := N2.cell 2
  clear l1 l2 l3 cV N1 N2 hW2
  go_wp2_with fail
  go_ret
  exact ⟨by rw [HS.out]; rfl, B2⟩
set_option maxRecDepth 100000 in
set_option maxHeartbeats 2000000 in
theorem inst_2 (reg src loc : ByteArray) (imm : Int) (hr : reg.size ≤ 64) (hs : src.size ≤ 64) (hl : loc.size ≤ 64) (v0 : -9223372036854775808 ≤ imm) (v1 : imm ≤ 9223372036854775807) (w : World) (hT : Tab10 w) : Calls Tryd.prog 17 #[.agg (ibL ⟨2, reg, src, loc, imm⟩).toArray] w fun e w' => e = .returned (.string (insS ⟨2, reg, src, loc, imm⟩)) ∧ Below w.heap.size w w' := by
  have ht := tx_len imm v0 v1
  have cV : ∀ W, Below w.heap.size w W → Calls Tryd.prog 23 #[.int .i64 imm] W fun e w' => e = .returned (.string (txB imm)) ∧ Below W.heap.size W w' := fun W hB => text_any imm v0 v1 W (hT.below hB)
  have l1 := sadd ⟨#[91]⟩ loc (by rw [sz1]; omega)
  have l2 : ∀ W : World, (Op.stringOp .add (⟨#[91]⟩ ++ loc) ⟨#[93]⟩).run Tryd.prog W = .ok (.string (locS loc)) W := sadd (⟨#[91]⟩ ++ loc) ⟨#[93]⟩ (by simp only [ByteArray.size_append, sz1]; omega)
  have l3 : ∀ W : World, (Op.stringOp .add ⟨#[36]⟩ (txB imm)).run Tryd.prog W = .ok (.string (valS imm)) W := sadd ⟨#[36]⟩ (txB imm) (by rw [sz1]; omega)
  obtain ⟨a1, a2, a3⟩ := two_add ⟨#[77, 79, 86, 32]⟩ reg src (by decide) (Nat.le_trans hr (by omega)) (Nat.le_trans hs (by omega))
  have HS : Hid (insS ⟨2, reg, src, loc, imm⟩ = two ⟨#[77, 79, 86, 32]⟩ reg src) := (by show insS _ = _; simp [insS])
  generalize two ⟨#[77, 79, 86, 32]⟩ reg src = R at *
  generalize insS ⟨2, reg, src, loc, imm⟩ = V at *
  generalize locS loc = L at *
  generalize valS imm = U at *
  have tk : True := trivial
  clear ht hr hs hl v0 v1 hT
  dsimp only [ibL]
  go_enter Tryd.func17, Tryd.ntmps17
  go_wp2_with (clear tk; refine wpList_boxS rfl 27 _ rfl (ibL ⟨2, reg, src, loc, imm⟩) rfl ?_; intro W1 b1 F1 N1; have B1 := F1.trans (Below.refl _ w) (Nat.le_refl _); clear F1)
  refine grow_all (by kernel_rfl) (by kernel_rfl) ?_
  refine wpG_put rfl (v := .pointer (some ⟨b1, 3, none⟩)) (fun w => by first | rfl | (simp [execOp, go_sem]; done) | (go_simp; done)) ?_
  simp only [Act.put, List.setIfInBounds_toArray, List.set_cons_succ, List.set_cons_zero]
  refine wpG_load1 rfl 9 _ rfl rfl N1 (v := .string loc) rfl (fun w h => ld9 w h) ?_
  simp only [Act.put, List.setIfInBounds_toArray, List.set_cons_succ, List.set_cons_zero]
  refine wpG_put rfl (v := .string (⟨#[91]⟩ ++ loc)) (fun w => by simp [execOp, go_sem, l1 w]) ?_
  simp only [Act.put, List.setIfInBounds_toArray, List.set_cons_succ, List.set_cons_zero]
  refine wpG_put rfl (v := .string L) (fun w => by simp [execOp, go_sem, l2 w]) ?_
  simp only [Act.put, List.setIfInBounds_toArray, List.set_cons_succ, List.set_cons_zero]
  refine wpG_put rfl (v := .pointer (some ⟨b1, 4, none⟩)) (fun w => by first | rfl | (simp [execOp, go_sem]; done) | (go_simp; done)) ?_
  simp only [Act.put, List.setIfInBounds_toArray, List.set_cons_succ, List.set_cons_zero]
  refine wpG_load1 rfl 2 _ rfl rfl N1 (v := .int .i64 imm) rfl (fun w h => ld2 w h) ?_
  simp only [Act.put, List.setIfInBounds_toArray, List.set_cons_succ, List.set_cons_zero]
  refine wpG_call rfl (f := 23) (args := #[.int .i64 imm]) (v := .string (txB imm)) (fun W hW => cV W (Below.then B1 hW)) (fun w => by first | rfl | (go_simp; done)) ?_
  simp only [Act.put, List.setIfInBounds_toArray, List.set_cons_succ, List.set_cons_zero]
  refine wpG_put rfl (v := .string U) (fun w => by simp [execOp, go_sem, l3 w]) ?_
  simp only [Act.put, List.setIfInBounds_toArray, List.set_cons_succ, List.set_cons_zero]
  refine wpG_put rfl (v := .string L) (fun w => by first | rfl | (simp [execOp, go_sem]; done) | (go_simp; done)) ?_
  simp only [Act.put, List.setIfInBounds_toArray, List.set_cons_succ, List.set_cons_zero]
  refine wpG_put rfl (v := .string U) (fun w => by first | rfl | (simp [execOp, go_sem]; done) | (go_simp; done)) ?_
  simp only [Act.put, List.setIfInBounds_toArray, List.set_cons_succ, List.set_cons_zero]
  refine wpG_nil ?_
  intro W2 hW2
  have B2 := Below.then B1 hW2
  have N2 := N1.grown hW2
  have d0 : W2.cell? ⟨b1, 0, none⟩ = some (.int .i64 2) := N2.cell 0
  have d1 : W2.cell? ⟨b1, 1, none⟩ = some (.string reg) := N2.cell 1
  have d2 : W2.cell? ⟨b1, 2, none⟩ = some (.string src) := N2.cell 2
  clear l1 l2 l3 cV N1 N2 hW2
  go_wp2_with fail
  go_ret
  exact ⟨by rw [HS.out]; rfl, B2⟩
set_option maxRecDepth 100000 in
set_option maxHeartbeats 2000000 in
theorem inst_3 (reg src loc : ByteArray) (imm : Int) (hr : reg.size ≤ 64) (hs : src.size ≤ 64) (hl : loc.size ≤ 64) (v0 : -9223372036854775808 ≤ imm) (v1 : imm ≤ 9223372036854775807) (w : World) (hT : Tab10 w) : Calls Tryd.prog 17 #[.agg (ibL ⟨3, reg, src, loc, imm⟩).toArray] w fun e w' => e = .returned (.string (insS ⟨3, reg, src, loc, imm⟩)) ∧ Below w.heap.size w w' := by
  have ht := tx_len imm v0 v1
  have cV : ∀ W, Below w.heap.size w W → Calls Tryd.prog 23 #[.int .i64 imm] W fun e w' => e = .returned (.string (txB imm)) ∧ Below W.heap.size W w' := fun W hB => text_any imm v0 v1 W (hT.below hB)
  have l1 := sadd ⟨#[91]⟩ loc (by rw [sz1]; omega)
  have l2 : ∀ W : World, (Op.stringOp .add (⟨#[91]⟩ ++ loc) ⟨#[93]⟩).run Tryd.prog W = .ok (.string (locS loc)) W := sadd (⟨#[91]⟩ ++ loc) ⟨#[93]⟩ (by simp only [ByteArray.size_append, sz1]; omega)
  have l3 : ∀ W : World, (Op.stringOp .add ⟨#[36]⟩ (txB imm)).run Tryd.prog W = .ok (.string (valS imm)) W := sadd ⟨#[36]⟩ (txB imm) (by rw [sz1]; omega)
  obtain ⟨a1, a2, a3⟩ := two_add ⟨#[77, 79, 86, 32]⟩ reg (locS loc) (by decide) (Nat.le_trans hr (by omega)) (Nat.le_trans (loc_len hl) (by omega))
  have HS : Hid (insS ⟨3, reg, src, loc, imm⟩ = two ⟨#[77, 79, 86, 32]⟩ reg (locS loc)) := (by show insS _ = _; simp [insS])
  generalize two ⟨#[77, 79, 86, 32]⟩ reg (locS loc) = R at *
  generalize insS ⟨3, reg, src, loc, imm⟩ = V at *
  generalize locS loc = L at *
  generalize valS imm = U at *
  have tk : True := trivial
  clear ht hr hs hl v0 v1 hT
  dsimp only [ibL]
  go_enter Tryd.func17, Tryd.ntmps17
  go_wp2_with (clear tk; refine wpList_boxS rfl 27 _ rfl (ibL ⟨3, reg, src, loc, imm⟩) rfl ?_; intro W1 b1 F1 N1; have B1 := F1.trans (Below.refl _ w) (Nat.le_refl _); clear F1)
  refine grow_all (by kernel_rfl) (by kernel_rfl) ?_
  refine wpG_put rfl (v := .pointer (some ⟨b1, 3, none⟩)) (fun w => by first | rfl | (simp [execOp, go_sem]; done) | (go_simp; done)) ?_
  simp only [Act.put, List.setIfInBounds_toArray, List.set_cons_succ, List.set_cons_zero]
  refine wpG_load1 rfl 9 _ rfl rfl N1 (v := .string loc) rfl (fun w h => ld9 w h) ?_
  simp only [Act.put, List.setIfInBounds_toArray, List.set_cons_succ, List.set_cons_zero]
  refine wpG_put rfl (v := .string (⟨#[91]⟩ ++ loc)) (fun w => by simp [execOp, go_sem, l1 w]) ?_
  simp only [Act.put, List.setIfInBounds_toArray, List.set_cons_succ, List.set_cons_zero]
  refine wpG_put rfl (v := .string L) (fun w => by simp [execOp, go_sem, l2 w]) ?_
  simp only [Act.put, List.setIfInBounds_toArray, List.set_cons_succ, List.set_cons_zero]
  refine wpG_put rfl (v := .pointer (some ⟨b1, 4, none⟩)) (fun w => by first | rfl | (simp [execOp, go_sem]; done) | (go_simp; done)) ?_
  simp only [Act.put, List.setIfInBounds_toArray, List.set_cons_succ, List.set_cons_zero]
  refine wpG_load1 rfl 2 _ rfl rfl N1 (v := .int .i64 imm) rfl (fun w h => ld2 w h) ?_
  simp only [Act.put, List.setIfInBounds_toArray, List.set_cons_succ, List.set_cons_zero]
  refine wpG_call rfl (f := 23) (args := #[.int .i64 imm]) (v := .string (txB imm)) (fun W hW => cV W (Below.then B1 hW)) (fun w => by first | rfl | (go_simp; done)) ?_
  simp only [Act.put, List.setIfInBounds_toArray, List.set_cons_succ, List.set_cons_zero]
  refine wpG_put rfl (v := .string U) (fun w => by simp [execOp, go_sem, l3 w]) ?_
  simp only [Act.put, List.setIfInBounds_toArray, List.set_cons_succ, List.set_cons_zero]
  refine wpG_put rfl (v := .string L) (fun w => by first | rfl | (simp [execOp, go_sem]; done) | (go_simp; done)) ?_
  simp only [Act.put, List.setIfInBounds_toArray, List.set_cons_succ, List.set_cons_zero]
  refine wpG_put rfl (v := .string U) (fun w => by first | rfl | (simp [execOp, go_sem]; done) | (go_simp; done)) ?_
  simp only [Act.put, List.setIfInBounds_toArray, List.set_cons_succ, List.set_cons_zero]
  refine wpG_nil ?_
  intro W2 hW2
  have B2 := Below.then B1 hW2
  have N2 := N1.grown hW2
  have d0 : W2.cell? ⟨b1, 0, none⟩ = some (.int .i64 3) := N2.cell 0
  have d1 : W2.cell? ⟨b1, 1, none⟩ = some (.string reg) := N2.cell 1
  have d2 : W2.cell? ⟨b1, 2, none⟩ = some (.string src) := N2.cell 2
  clear l1 l2 l3 cV N1 N2 hW2
  go_wp2_with fail
  go_ret
  exact ⟨by rw [HS.out]; rfl, B2⟩
set_option maxRecDepth 100000 in
set_option maxHeartbeats 2000000 in
theorem inst_4 (reg src loc : ByteArray) (imm : Int) (hr : reg.size ≤ 64) (hs : src.size ≤ 64) (hl : loc.size ≤ 64) (v0 : -9223372036854775808 ≤ imm) (v1 : imm ≤ 9223372036854775807) (w : World) (hT : Tab10 w) : Calls Tryd.prog 17 #[.agg (ibL ⟨4, reg, src, loc, imm⟩).toArray] w fun e w' => e = .returned (.string (insS ⟨4, reg, src, loc, imm⟩)) ∧ Below w.heap.size w w' := by
  have ht := tx_len imm v0 v1
  have cV : ∀ W, Below w.heap.size w W → Calls Tryd.prog 23 #[.int .i64 imm] W fun e w' => e = .returned (.string (txB imm)) ∧ Below W.heap.size W w' := fun W hB => text_any imm v0 v1 W (hT.below hB)
  have l1 := sadd ⟨#[91]⟩ loc (by rw [sz1]; omega)
  have l2 : ∀ W : World, (Op.stringOp .add (⟨#[91]⟩ ++ loc) ⟨#[93]⟩).run Tryd.prog W = .ok (.string (locS loc)) W := sadd (⟨#[91]⟩ ++ loc) ⟨#[93]⟩ (by simp only [ByteArray.size_append, sz1]; omega)
  have l3 : ∀ W : World, (Op.stringOp .add ⟨#[36]⟩ (txB imm)).run Tryd.prog W = .ok (.string (valS imm)) W := sadd ⟨#[36]⟩ (txB imm) (by rw [sz1]; omega)
  obtain ⟨a1, a2, a3⟩ := two_add ⟨#[77, 79, 86, 32]⟩ (locS loc) (valS imm) (by decide) (Nat.le_trans (loc_len hl) (by omega)) (Nat.le_trans (val_len v0 v1) (by omega))
  have HS : Hid (insS ⟨4, reg, src, loc, imm⟩ = two ⟨#[77, 79, 86, 32]⟩ (locS loc) (valS imm)) := (by show insS _ = _; simp [insS])
  generalize two ⟨#[77, 79, 86, 32]⟩ (locS loc) (valS imm) = R at *
  generalize insS ⟨4, reg, src, loc, imm⟩ = V at *
  generalize locS loc = L at *
  generalize valS imm = U at *
  have tk : True := trivial
  clear ht hr hs hl v0 v1 hT
  dsimp only [ibL]
  go_enter Tryd.func17, Tryd.ntmps17
  go_wp2_with (clear tk; refine wpList_boxS rfl 27 _ rfl (ibL ⟨4, reg, src, loc, imm⟩) rfl ?_; intro W1 b1 F1 N1; have B1 := F1.trans (Below.refl _ w) (Nat.le_refl _); clear F1)
  refine grow_all (by kernel_rfl) (by kernel_rfl) ?_
  refine wpG_put rfl (v := .pointer (some ⟨b1, 3, none⟩)) (fun w => by first | rfl | (simp [execOp, go_sem]; done) | (go_simp; done)) ?_
  simp only [Act.put, List.setIfInBounds_toArray, List.set_cons_succ, List.set_cons_zero]
  refine wpG_load1 rfl 9 _ rfl rfl N1 (v := .string loc) rfl (fun w h => ld9 w h) ?_
  simp only [Act.put, List.setIfInBounds_toArray, List.set_cons_succ, List.set_cons_zero]
  refine wpG_put rfl (v := .string (⟨#[91]⟩ ++ loc)) (fun w => by simp [execOp, go_sem, l1 w]) ?_
  simp only [Act.put, List.setIfInBounds_toArray, List.set_cons_succ, List.set_cons_zero]
  refine wpG_put rfl (v := .string L) (fun w => by simp [execOp, go_sem, l2 w]) ?_
  simp only [Act.put, List.setIfInBounds_toArray, List.set_cons_succ, List.set_cons_zero]
  refine wpG_put rfl (v := .pointer (some ⟨b1, 4, none⟩)) (fun w => by first | rfl | (simp [execOp, go_sem]; done) | (go_simp; done)) ?_
  simp only [Act.put, List.setIfInBounds_toArray, List.set_cons_succ, List.set_cons_zero]
  refine wpG_load1 rfl 2 _ rfl rfl N1 (v := .int .i64 imm) rfl (fun w h => ld2 w h) ?_
  simp only [Act.put, List.setIfInBounds_toArray, List.set_cons_succ, List.set_cons_zero]
  refine wpG_call rfl (f := 23) (args := #[.int .i64 imm]) (v := .string (txB imm)) (fun W hW => cV W (Below.then B1 hW)) (fun w => by first | rfl | (go_simp; done)) ?_
  simp only [Act.put, List.setIfInBounds_toArray, List.set_cons_succ, List.set_cons_zero]
  refine wpG_put rfl (v := .string U) (fun w => by simp [execOp, go_sem, l3 w]) ?_
  simp only [Act.put, List.setIfInBounds_toArray, List.set_cons_succ, List.set_cons_zero]
  refine wpG_put rfl (v := .string L) (fun w => by first | rfl | (simp [execOp, go_sem]; done) | (go_simp; done)) ?_
  simp only [Act.put, List.setIfInBounds_toArray, List.set_cons_succ, List.set_cons_zero]
  refine wpG_put rfl (v := .string U) (fun w => by first | rfl | (simp [execOp, go_sem]; done) | (go_simp; done)) ?_
  simp only [Act.put, List.setIfInBounds_toArray, List.set_cons_succ, List.set_cons_zero]
  refine wpG_nil ?_
  intro W2 hW2
  have B2 := Below.then B1 hW2
  have N2 := N1.grown hW2
  have d0 : W2.cell? ⟨b1, 0, none⟩ = some (.int .i64 4) := N2.cell 0
  have d1 : W2.cell? ⟨b1, 1, none⟩ = some (.string reg) := N2.cell 1
  have d2 : W2.cell? ⟨b1, 2, none⟩ = some (.string src) := N2.cell 2
  clear l1 l2 l3 cV N1 N2 hW2
  go_wp2_with fail
  go_ret
  exact ⟨by rw [HS.out]; rfl, B2⟩
set_option maxRecDepth 100000 in
set_option maxHeartbeats 2000000 in
theorem inst_5 (reg src loc : ByteArray) (imm : Int) (hr : reg.size ≤ 64) (hs : src.size ≤ 64) (hl : loc.size ≤ 64) (v0 : -9223372036854775808 ≤ imm) (v1 : imm ≤ 9223372036854775807) (w : World) (hT : Tab10 w) : Calls Tryd.prog 17 #[.agg (ibL ⟨5, reg, src, loc, imm⟩).toArray] w fun e w' => e = .returned (.string (insS ⟨5, reg, src, loc, imm⟩)) ∧ Below w.heap.size w w' := by
  have ht := tx_len imm v0 v1
  have cV : ∀ W, Below w.heap.size w W → Calls Tryd.prog 23 #[.int .i64 imm] W fun e w' => e = .returned (.string (txB imm)) ∧ Below W.heap.size W w' := fun W hB => text_any imm v0 v1 W (hT.below hB)
  have l1 := sadd ⟨#[91]⟩ loc (by rw [sz1]; omega)
  have l2 : ∀ W : World, (Op.stringOp .add (⟨#[91]⟩ ++ loc) ⟨#[93]⟩).run Tryd.prog W = .ok (.string (locS loc)) W := sadd (⟨#[91]⟩ ++ loc) ⟨#[93]⟩ (by simp only [ByteArray.size_append, sz1]; omega)
  have l3 : ∀ W : World, (Op.stringOp .add ⟨#[36]⟩ (txB imm)).run Tryd.prog W = .ok (.string (valS imm)) W := sadd ⟨#[36]⟩ (txB imm) (by rw [sz1]; omega)
  obtain ⟨a1, a2, a3⟩ := two_add ⟨#[77, 79, 86, 32]⟩ (locS loc) src (by decide) (Nat.le_trans (loc_len hl) (by omega)) (Nat.le_trans hs (by omega))
  have HS : Hid (insS ⟨5, reg, src, loc, imm⟩ = two ⟨#[77, 79, 86, 32]⟩ (locS loc) src) := (by show insS _ = _; simp [insS])
  generalize two ⟨#[77, 79, 86, 32]⟩ (locS loc) src = R at *
  generalize insS ⟨5, reg, src, loc, imm⟩ = V at *
  generalize locS loc = L at *
  generalize valS imm = U at *
  have tk : True := trivial
  clear ht hr hs hl v0 v1 hT
  dsimp only [ibL]
  go_enter Tryd.func17, Tryd.ntmps17
  go_wp2_with (clear tk; refine wpList_boxS rfl 27 _ rfl (ibL ⟨5, reg, src, loc, imm⟩) rfl ?_; intro W1 b1 F1 N1; have B1 := F1.trans (Below.refl _ w) (Nat.le_refl _); clear F1)
  refine grow_all (by kernel_rfl) (by kernel_rfl) ?_
  refine wpG_put rfl (v := .pointer (some ⟨b1, 3, none⟩)) (fun w => by first | rfl | (simp [execOp, go_sem]; done) | (go_simp; done)) ?_
  simp only [Act.put, List.setIfInBounds_toArray, List.set_cons_succ, List.set_cons_zero]
  refine wpG_load1 rfl 9 _ rfl rfl N1 (v := .string loc) rfl (fun w h => ld9 w h) ?_
  simp only [Act.put, List.setIfInBounds_toArray, List.set_cons_succ, List.set_cons_zero]
  refine wpG_put rfl (v := .string (⟨#[91]⟩ ++ loc)) (fun w => by simp [execOp, go_sem, l1 w]) ?_
  simp only [Act.put, List.setIfInBounds_toArray, List.set_cons_succ, List.set_cons_zero]
  refine wpG_put rfl (v := .string L) (fun w => by simp [execOp, go_sem, l2 w]) ?_
  simp only [Act.put, List.setIfInBounds_toArray, List.set_cons_succ, List.set_cons_zero]
  refine wpG_put rfl (v := .pointer (some ⟨b1, 4, none⟩)) (fun w => by first | rfl | (simp [execOp, go_sem]; done) | (go_simp; done)) ?_
  simp only [Act.put, List.setIfInBounds_toArray, List.set_cons_succ, List.set_cons_zero]
  refine wpG_load1 rfl 2 _ rfl rfl N1 (v := .int .i64 imm) rfl (fun w h => ld2 w h) ?_
  simp only [Act.put, List.setIfInBounds_toArray, List.set_cons_succ, List.set_cons_zero]
  refine wpG_call rfl (f := 23) (args := #[.int .i64 imm]) (v := .string (txB imm)) (fun W hW => cV W (Below.then B1 hW)) (fun w => by first | rfl | (go_simp; done)) ?_
  simp only [Act.put, List.setIfInBounds_toArray, List.set_cons_succ, List.set_cons_zero]
  refine wpG_put rfl (v := .string U) (fun w => by simp [execOp, go_sem, l3 w]) ?_
  simp only [Act.put, List.setIfInBounds_toArray, List.set_cons_succ, List.set_cons_zero]
  refine wpG_put rfl (v := .string L) (fun w => by first | rfl | (simp [execOp, go_sem]; done) | (go_simp; done)) ?_
  simp only [Act.put, List.setIfInBounds_toArray, List.set_cons_succ, List.set_cons_zero]
  refine wpG_put rfl (v := .string U) (fun w => by first | rfl | (simp [execOp, go_sem]; done) | (go_simp; done)) ?_
  simp only [Act.put, List.setIfInBounds_toArray, List.set_cons_succ, List.set_cons_zero]
  refine wpG_nil ?_
  intro W2 hW2
  have B2 := Below.then B1 hW2
  have N2 := N1.grown hW2
  have d0 : W2.cell? ⟨b1, 0, none⟩ = some (.int .i64 5) := N2.cell 0
  have d1 : W2.cell? ⟨b1, 1, none⟩ = some (.string reg) := N2.cell 1
  have d2 : W2.cell? ⟨b1, 2, none⟩ = some (.string src) := N2.cell 2
  clear l1 l2 l3 cV N1 N2 hW2
  go_wp2_with fail
  go_ret
  exact ⟨by rw [HS.out]; rfl, B2⟩
set_option maxRecDepth 100000 in
set_option maxHeartbeats 2000000 in
theorem inst_6 (reg src loc : ByteArray) (imm : Int) (hr : reg.size ≤ 64) (hs : src.size ≤ 64) (hl : loc.size ≤ 64) (v0 : -9223372036854775808 ≤ imm) (v1 : imm ≤ 9223372036854775807) (w : World) (hT : Tab10 w) : Calls Tryd.prog 17 #[.agg (ibL ⟨6, reg, src, loc, imm⟩).toArray] w fun e w' => e = .returned (.string (insS ⟨6, reg, src, loc, imm⟩)) ∧ Below w.heap.size w w' := by
  have ht := tx_len imm v0 v1
  have cV : ∀ W, Below w.heap.size w W → Calls Tryd.prog 23 #[.int .i64 imm] W fun e w' => e = .returned (.string (txB imm)) ∧ Below W.heap.size W w' := fun W hB => text_any imm v0 v1 W (hT.below hB)
  have l1 := sadd ⟨#[91]⟩ loc (by rw [sz1]; omega)
  have l2 : ∀ W : World, (Op.stringOp .add (⟨#[91]⟩ ++ loc) ⟨#[93]⟩).run Tryd.prog W = .ok (.string (locS loc)) W := sadd (⟨#[91]⟩ ++ loc) ⟨#[93]⟩ (by simp only [ByteArray.size_append, sz1]; omega)
  have l3 : ∀ W : World, (Op.stringOp .add ⟨#[36]⟩ (txB imm)).run Tryd.prog W = .ok (.string (valS imm)) W := sadd ⟨#[36]⟩ (txB imm) (by rw [sz1]; omega)
  have HS : Hid (insS ⟨6, reg, src, loc, imm⟩ = ⟨#[77, 70, 69, 78, 67, 69]⟩) := (by show insS _ = _; simp [insS])
  generalize insS ⟨6, reg, src, loc, imm⟩ = V at *
  generalize locS loc = L at *
  generalize valS imm = U at *
  have tk : True := trivial
  clear ht hr hs hl v0 v1 hT
  dsimp only [ibL]
  go_enter Tryd.func17, Tryd.ntmps17
  go_wp2_with (clear tk; refine wpList_boxS rfl 27 _ rfl (ibL ⟨6, reg, src, loc, imm⟩) rfl ?_; intro W1 b1 F1 N1; have B1 := F1.trans (Below.refl _ w) (Nat.le_refl _); clear F1)
  refine grow_all (by kernel_rfl) (by kernel_rfl) ?_
  refine wpG_put rfl (v := .pointer (some ⟨b1, 3, none⟩)) (fun w => by first | rfl | (simp [execOp, go_sem]; done) | (go_simp; done)) ?_
  simp only [Act.put, List.setIfInBounds_toArray, List.set_cons_succ, List.set_cons_zero]
  refine wpG_load1 rfl 9 _ rfl rfl N1 (v := .string loc) rfl (fun w h => ld9 w h) ?_
  simp only [Act.put, List.setIfInBounds_toArray, List.set_cons_succ, List.set_cons_zero]
  refine wpG_put rfl (v := .string (⟨#[91]⟩ ++ loc)) (fun w => by simp [execOp, go_sem, l1 w]) ?_
  simp only [Act.put, List.setIfInBounds_toArray, List.set_cons_succ, List.set_cons_zero]
  refine wpG_put rfl (v := .string L) (fun w => by simp [execOp, go_sem, l2 w]) ?_
  simp only [Act.put, List.setIfInBounds_toArray, List.set_cons_succ, List.set_cons_zero]
  refine wpG_put rfl (v := .pointer (some ⟨b1, 4, none⟩)) (fun w => by first | rfl | (simp [execOp, go_sem]; done) | (go_simp; done)) ?_
  simp only [Act.put, List.setIfInBounds_toArray, List.set_cons_succ, List.set_cons_zero]
  refine wpG_load1 rfl 2 _ rfl rfl N1 (v := .int .i64 imm) rfl (fun w h => ld2 w h) ?_
  simp only [Act.put, List.setIfInBounds_toArray, List.set_cons_succ, List.set_cons_zero]
  refine wpG_call rfl (f := 23) (args := #[.int .i64 imm]) (v := .string (txB imm)) (fun W hW => cV W (Below.then B1 hW)) (fun w => by first | rfl | (go_simp; done)) ?_
  simp only [Act.put, List.setIfInBounds_toArray, List.set_cons_succ, List.set_cons_zero]
  refine wpG_put rfl (v := .string U) (fun w => by simp [execOp, go_sem, l3 w]) ?_
  simp only [Act.put, List.setIfInBounds_toArray, List.set_cons_succ, List.set_cons_zero]
  refine wpG_put rfl (v := .string L) (fun w => by first | rfl | (simp [execOp, go_sem]; done) | (go_simp; done)) ?_
  simp only [Act.put, List.setIfInBounds_toArray, List.set_cons_succ, List.set_cons_zero]
  refine wpG_put rfl (v := .string U) (fun w => by first | rfl | (simp [execOp, go_sem]; done) | (go_simp; done)) ?_
  simp only [Act.put, List.setIfInBounds_toArray, List.set_cons_succ, List.set_cons_zero]
  refine wpG_nil ?_
  intro W2 hW2
  have B2 := Below.then B1 hW2
  have N2 := N1.grown hW2
  have d0 : W2.cell? ⟨b1, 0, none⟩ = some (.int .i64 6) := N2.cell 0
  have d1 : W2.cell? ⟨b1, 1, none⟩ = some (.string reg) := N2.cell 1
  have d2 : W2.cell? ⟨b1, 2, none⟩ = some (.string src) := N2.cell 2
  clear l1 l2 l3 cV N1 N2 hW2
  go_wp2_with fail
  go_ret
  exact ⟨by rw [HS.out]; rfl, B2⟩
set_option maxRecDepth 100000 in
set_option maxHeartbeats 2000000 in
theorem inst_7 (reg src loc : ByteArray) (imm : Int) (hr : reg.size ≤ 64) (hs : src.size ≤ 64) (hl : loc.size ≤ 64) (v0 : -9223372036854775808 ≤ imm) (v1 : imm ≤ 9223372036854775807) (w : World) (hT : Tab10 w) : Calls Tryd.prog 17 #[.agg (ibL ⟨7, reg, src, loc, imm⟩).toArray] w fun e w' => e = .returned (.string (insS ⟨7, reg, src, loc, imm⟩)) ∧ Below w.heap.size w w' := by
  have ht := tx_len imm v0 v1
  have cV : ∀ W, Below w.heap.size w W → Calls Tryd.prog 23 #[.int .i64 imm] W fun e w' => e = .returned (.string (txB imm)) ∧ Below W.heap.size W w' := fun W hB => text_any imm v0 v1 W (hT.below hB)
  have l1 := sadd ⟨#[91]⟩ loc (by rw [sz1]; omega)
  have l2 : ∀ W : World, (Op.stringOp .add (⟨#[91]⟩ ++ loc) ⟨#[93]⟩).run Tryd.prog W = .ok (.string (locS loc)) W := sadd (⟨#[91]⟩ ++ loc) ⟨#[93]⟩ (by simp only [ByteArray.size_append, sz1]; omega)
  have l3 : ∀ W : World, (Op.stringOp .add ⟨#[36]⟩ (txB imm)).run Tryd.prog W = .ok (.string (valS imm)) W := sadd ⟨#[36]⟩ (txB imm) (by rw [sz1]; omega)
  obtain ⟨a1, a2, a3⟩ := two_add ⟨#[88, 67, 72, 71, 32]⟩ (locS loc) reg (by decide) (Nat.le_trans (loc_len hl) (by omega)) (Nat.le_trans hr (by omega))
  have HS : Hid (insS ⟨7, reg, src, loc, imm⟩ = two ⟨#[88, 67, 72, 71, 32]⟩ (locS loc) reg) := (by show insS _ = _; simp [insS])
  generalize two ⟨#[88, 67, 72, 71, 32]⟩ (locS loc) reg = R at *
  generalize insS ⟨7, reg, src, loc, imm⟩ = V at *
  generalize locS loc = L at *
  generalize valS imm = U at *
  have tk : True := trivial
  clear ht hr hs hl v0 v1 hT
  dsimp only [ibL]
  go_enter Tryd.func17, Tryd.ntmps17
  go_wp2_with (clear tk; refine wpList_boxS rfl 27 _ rfl (ibL ⟨7, reg, src, loc, imm⟩) rfl ?_; intro W1 b1 F1 N1; have B1 := F1.trans (Below.refl _ w) (Nat.le_refl _); clear F1)
  refine grow_all (by kernel_rfl) (by kernel_rfl) ?_
  refine wpG_put rfl (v := .pointer (some ⟨b1, 3, none⟩)) (fun w => by first | rfl | (simp [execOp, go_sem]; done) | (go_simp; done)) ?_
  simp only [Act.put, List.setIfInBounds_toArray, List.set_cons_succ, List.set_cons_zero]
  refine wpG_load1 rfl 9 _ rfl rfl N1 (v := .string loc) rfl (fun w h => ld9 w h) ?_
  simp only [Act.put, List.setIfInBounds_toArray, List.set_cons_succ, List.set_cons_zero]
  refine wpG_put rfl (v := .string (⟨#[91]⟩ ++ loc)) (fun w => by simp [execOp, go_sem, l1 w]) ?_
  simp only [Act.put, List.setIfInBounds_toArray, List.set_cons_succ, List.set_cons_zero]
  refine wpG_put rfl (v := .string L) (fun w => by simp [execOp, go_sem, l2 w]) ?_
  simp only [Act.put, List.setIfInBounds_toArray, List.set_cons_succ, List.set_cons_zero]
  refine wpG_put rfl (v := .pointer (some ⟨b1, 4, none⟩)) (fun w => by first | rfl | (simp [execOp, go_sem]; done) | (go_simp; done)) ?_
  simp only [Act.put, List.setIfInBounds_toArray, List.set_cons_succ, List.set_cons_zero]
  refine wpG_load1 rfl 2 _ rfl rfl N1 (v := .int .i64 imm) rfl (fun w h => ld2 w h) ?_
  simp only [Act.put, List.setIfInBounds_toArray, List.set_cons_succ, List.set_cons_zero]
  refine wpG_call rfl (f := 23) (args := #[.int .i64 imm]) (v := .string (txB imm)) (fun W hW => cV W (Below.then B1 hW)) (fun w => by first | rfl | (go_simp; done)) ?_
  simp only [Act.put, List.setIfInBounds_toArray, List.set_cons_succ, List.set_cons_zero]
  refine wpG_put rfl (v := .string U) (fun w => by simp [execOp, go_sem, l3 w]) ?_
  simp only [Act.put, List.setIfInBounds_toArray, List.set_cons_succ, List.set_cons_zero]
  refine wpG_put rfl (v := .string L) (fun w => by first | rfl | (simp [execOp, go_sem]; done) | (go_simp; done)) ?_
  simp only [Act.put, List.setIfInBounds_toArray, List.set_cons_succ, List.set_cons_zero]
  refine wpG_put rfl (v := .string U) (fun w => by first | rfl | (simp [execOp, go_sem]; done) | (go_simp; done)) ?_
  simp only [Act.put, List.setIfInBounds_toArray, List.set_cons_succ, List.set_cons_zero]
  refine wpG_nil ?_
  intro W2 hW2
  have B2 := Below.then B1 hW2
  have N2 := N1.grown hW2
  have d0 : W2.cell? ⟨b1, 0, none⟩ = some (.int .i64 7) := N2.cell 0
  have d1 : W2.cell? ⟨b1, 1, none⟩ = some (.string reg) := N2.cell 1
  have d2 : W2.cell? ⟨b1, 2, none⟩ = some (.string src) := N2.cell 2
  clear l1 l2 l3 cV N1 N2 hW2
  go_wp2_with fail
  go_ret
  exact ⟨by rw [HS.out]; rfl, B2⟩
set_option maxRecDepth 100000 in
set_option maxHeartbeats 2000000 in
theorem inst_8 (reg src loc : ByteArray) (imm : Int) (hr : reg.size ≤ 64) (hs : src.size ≤ 64) (hl : loc.size ≤ 64) (v0 : -9223372036854775808 ≤ imm) (v1 : imm ≤ 9223372036854775807) (w : World) (hT : Tab10 w) : Calls Tryd.prog 17 #[.agg (ibL ⟨8, reg, src, loc, imm⟩).toArray] w fun e w' => e = .returned (.string (insS ⟨8, reg, src, loc, imm⟩)) ∧ Below w.heap.size w w' := by
  have ht := tx_len imm v0 v1
  have cV : ∀ W, Below w.heap.size w W → Calls Tryd.prog 23 #[.int .i64 imm] W fun e w' => e = .returned (.string (txB imm)) ∧ Below W.heap.size W w' := fun W hB => text_any imm v0 v1 W (hT.below hB)
  have l1 := sadd ⟨#[91]⟩ loc (by rw [sz1]; omega)
  have l2 : ∀ W : World, (Op.stringOp .add (⟨#[91]⟩ ++ loc) ⟨#[93]⟩).run Tryd.prog W = .ok (.string (locS loc)) W := sadd (⟨#[91]⟩ ++ loc) ⟨#[93]⟩ (by simp only [ByteArray.size_append, sz1]; omega)
  have l3 : ∀ W : World, (Op.stringOp .add ⟨#[36]⟩ (txB imm)).run Tryd.prog W = .ok (.string (valS imm)) W := sadd ⟨#[36]⟩ (txB imm) (by rw [sz1]; omega)
  obtain ⟨a1, a2, a3⟩ := two_add ⟨#[76, 79, 67, 75, 32, 67, 77, 80, 88, 67, 72, 71, 32]⟩ (locS loc) src (by decide) (Nat.le_trans (loc_len hl) (by omega)) (Nat.le_trans hs (by omega))
  have HS : Hid (insS ⟨8, reg, src, loc, imm⟩ = two ⟨#[76, 79, 67, 75, 32, 67, 77, 80, 88, 67, 72, 71, 32]⟩ (locS loc) src) := (by show insS _ = _; simp [insS])
  generalize two ⟨#[76, 79, 67, 75, 32, 67, 77, 80, 88, 67, 72, 71, 32]⟩ (locS loc) src = R at *
  generalize insS ⟨8, reg, src, loc, imm⟩ = V at *
  generalize locS loc = L at *
  generalize valS imm = U at *
  have tk : True := trivial
  clear ht hr hs hl v0 v1 hT
  dsimp only [ibL]
  go_enter Tryd.func17, Tryd.ntmps17
  go_wp2_with (clear tk; refine wpList_boxS rfl 27 _ rfl (ibL ⟨8, reg, src, loc, imm⟩) rfl ?_; intro W1 b1 F1 N1; have B1 := F1.trans (Below.refl _ w) (Nat.le_refl _); clear F1)
  refine grow_all (by kernel_rfl) (by kernel_rfl) ?_
  refine wpG_put rfl (v := .pointer (some ⟨b1, 3, none⟩)) (fun w => by first | rfl | (simp [execOp, go_sem]; done) | (go_simp; done)) ?_
  simp only [Act.put, List.setIfInBounds_toArray, List.set_cons_succ, List.set_cons_zero]
  refine wpG_load1 rfl 9 _ rfl rfl N1 (v := .string loc) rfl (fun w h => ld9 w h) ?_
  simp only [Act.put, List.setIfInBounds_toArray, List.set_cons_succ, List.set_cons_zero]
  refine wpG_put rfl (v := .string (⟨#[91]⟩ ++ loc)) (fun w => by simp [execOp, go_sem, l1 w]) ?_
  simp only [Act.put, List.setIfInBounds_toArray, List.set_cons_succ, List.set_cons_zero]
  refine wpG_put rfl (v := .string L) (fun w => by simp [execOp, go_sem, l2 w]) ?_
  simp only [Act.put, List.setIfInBounds_toArray, List.set_cons_succ, List.set_cons_zero]
  refine wpG_put rfl (v := .pointer (some ⟨b1, 4, none⟩)) (fun w => by first | rfl | (simp [execOp, go_sem]; done) | (go_simp; done)) ?_
  simp only [Act.put, List.setIfInBounds_toArray, List.set_cons_succ, List.set_cons_zero]
  refine wpG_load1 rfl 2 _ rfl rfl N1 (v := .int .i64 imm) rfl (fun w h => ld2 w h) ?_
  simp only [Act.put, List.setIfInBounds_toArray, List.set_cons_succ, List.set_cons_zero]
  refine wpG_call rfl (f := 23) (args := #[.int .i64 imm]) (v := .string (txB imm)) (fun W hW => cV W (Below.then B1 hW)) (fun w => by first | rfl | (go_simp; done)) ?_
  simp only [Act.put, List.setIfInBounds_toArray, List.set_cons_succ, List.set_cons_zero]
  refine wpG_put rfl (v := .string U) (fun w => by simp [execOp, go_sem, l3 w]) ?_
  simp only [Act.put, List.setIfInBounds_toArray, List.set_cons_succ, List.set_cons_zero]
  refine wpG_put rfl (v := .string L) (fun w => by first | rfl | (simp [execOp, go_sem]; done) | (go_simp; done)) ?_
  simp only [Act.put, List.setIfInBounds_toArray, List.set_cons_succ, List.set_cons_zero]
  refine wpG_put rfl (v := .string U) (fun w => by first | rfl | (simp [execOp, go_sem]; done) | (go_simp; done)) ?_
  simp only [Act.put, List.setIfInBounds_toArray, List.set_cons_succ, List.set_cons_zero]
  refine wpG_nil ?_
  intro W2 hW2
  have B2 := Below.then B1 hW2
  have N2 := N1.grown hW2
  have d0 : W2.cell? ⟨b1, 0, none⟩ = some (.int .i64 8) := N2.cell 0
  have d1 : W2.cell? ⟨b1, 1, none⟩ = some (.string reg) := N2.cell 1
  have d2 : W2.cell? ⟨b1, 2, none⟩ = some (.string src) := N2.cell 2
  clear l1 l2 l3 cV N1 N2 hW2
  go_wp2_with fail
  go_ret
  exact ⟨by rw [HS.out]; rfl, B2⟩
set_option maxRecDepth 100000 in
set_option maxHeartbeats 2000000 in
theorem inst_9 (reg src loc : ByteArray) (imm : Int) (hr : reg.size ≤ 64) (hs : src.size ≤ 64) (hl : loc.size ≤ 64) (v0 : -9223372036854775808 ≤ imm) (v1 : imm ≤ 9223372036854775807) (w : World) (hT : Tab10 w) : Calls Tryd.prog 17 #[.agg (ibL ⟨9, reg, src, loc, imm⟩).toArray] w fun e w' => e = .returned (.string (insS ⟨9, reg, src, loc, imm⟩)) ∧ Below w.heap.size w w' := by
  have ht := tx_len imm v0 v1
  have cV : ∀ W, Below w.heap.size w W → Calls Tryd.prog 23 #[.int .i64 imm] W fun e w' => e = .returned (.string (txB imm)) ∧ Below W.heap.size W w' := fun W hB => text_any imm v0 v1 W (hT.below hB)
  have l1 := sadd ⟨#[91]⟩ loc (by rw [sz1]; omega)
  have l2 : ∀ W : World, (Op.stringOp .add (⟨#[91]⟩ ++ loc) ⟨#[93]⟩).run Tryd.prog W = .ok (.string (locS loc)) W := sadd (⟨#[91]⟩ ++ loc) ⟨#[93]⟩ (by simp only [ByteArray.size_append, sz1]; omega)
  have l3 : ∀ W : World, (Op.stringOp .add ⟨#[36]⟩ (txB imm)).run Tryd.prog W = .ok (.string (valS imm)) W := sadd ⟨#[36]⟩ (txB imm) (by rw [sz1]; omega)
  obtain ⟨a1, a2, a3⟩ := two_add ⟨#[76, 79, 67, 75, 32, 88, 65, 68, 68, 32]⟩ (locS loc) reg (by decide) (Nat.le_trans (loc_len hl) (by omega)) (Nat.le_trans hr (by omega))
  have HS : Hid (insS ⟨9, reg, src, loc, imm⟩ = two ⟨#[76, 79, 67, 75, 32, 88, 65, 68, 68, 32]⟩ (locS loc) reg) := (by show insS _ = _; simp [insS])
  generalize two ⟨#[76, 79, 67, 75, 32, 88, 65, 68, 68, 32]⟩ (locS loc) reg = R at *
  generalize insS ⟨9, reg, src, loc, imm⟩ = V at *
  generalize locS loc = L at *
  generalize valS imm = U at *
  have tk : True := trivial
  clear ht hr hs hl v0 v1 hT
  dsimp only [ibL]
  go_enter Tryd.func17, Tryd.ntmps17
  go_wp2_with (clear tk; refine wpList_boxS rfl 27 _ rfl (ibL ⟨9, reg, src, loc, imm⟩) rfl ?_; intro W1 b1 F1 N1; have B1 := F1.trans (Below.refl _ w) (Nat.le_refl _); clear F1)
  refine grow_all (by kernel_rfl) (by kernel_rfl) ?_
  refine wpG_put rfl (v := .pointer (some ⟨b1, 3, none⟩)) (fun w => by first | rfl | (simp [execOp, go_sem]; done) | (go_simp; done)) ?_
  simp only [Act.put, List.setIfInBounds_toArray, List.set_cons_succ, List.set_cons_zero]
  refine wpG_load1 rfl 9 _ rfl rfl N1 (v := .string loc) rfl (fun w h => ld9 w h) ?_
  simp only [Act.put, List.setIfInBounds_toArray, List.set_cons_succ, List.set_cons_zero]
  refine wpG_put rfl (v := .string (⟨#[91]⟩ ++ loc)) (fun w => by simp [execOp, go_sem, l1 w]) ?_
  simp only [Act.put, List.setIfInBounds_toArray, List.set_cons_succ, List.set_cons_zero]
  refine wpG_put rfl (v := .string L) (fun w => by simp [execOp, go_sem, l2 w]) ?_
  simp only [Act.put, List.setIfInBounds_toArray, List.set_cons_succ, List.set_cons_zero]
  refine wpG_put rfl (v := .pointer (some ⟨b1, 4, none⟩)) (fun w => by first | rfl | (simp [execOp, go_sem]; done) | (go_simp; done)) ?_
  simp only [Act.put, List.setIfInBounds_toArray, List.set_cons_succ, List.set_cons_zero]
  refine wpG_load1 rfl 2 _ rfl rfl N1 (v := .int .i64 imm) rfl (fun w h => ld2 w h) ?_
  simp only [Act.put, List.setIfInBounds_toArray, List.set_cons_succ, List.set_cons_zero]
  refine wpG_call rfl (f := 23) (args := #[.int .i64 imm]) (v := .string (txB imm)) (fun W hW => cV W (Below.then B1 hW)) (fun w => by first | rfl | (go_simp; done)) ?_
  simp only [Act.put, List.setIfInBounds_toArray, List.set_cons_succ, List.set_cons_zero]
  refine wpG_put rfl (v := .string U) (fun w => by simp [execOp, go_sem, l3 w]) ?_
  simp only [Act.put, List.setIfInBounds_toArray, List.set_cons_succ, List.set_cons_zero]
  refine wpG_put rfl (v := .string L) (fun w => by first | rfl | (simp [execOp, go_sem]; done) | (go_simp; done)) ?_
  simp only [Act.put, List.setIfInBounds_toArray, List.set_cons_succ, List.set_cons_zero]
  refine wpG_put rfl (v := .string U) (fun w => by first | rfl | (simp [execOp, go_sem]; done) | (go_simp; done)) ?_
  simp only [Act.put, List.setIfInBounds_toArray, List.set_cons_succ, List.set_cons_zero]
  refine wpG_nil ?_
  intro W2 hW2
  have B2 := Below.then B1 hW2
  have N2 := N1.grown hW2
  have d0 : W2.cell? ⟨b1, 0, none⟩ = some (.int .i64 9) := N2.cell 0
  have d1 : W2.cell? ⟨b1, 1, none⟩ = some (.string reg) := N2.cell 1
  have d2 : W2.cell? ⟨b1, 2, none⟩ = some (.string src) := N2.cell 2
  clear l1 l2 l3 cV N1 N2 hW2
  go_wp2_with fail
  go_ret
  exact ⟨by rw [HS.out]; rfl, B2⟩
theorem inst_any (x : IB) (h : insOk x = true) (v0 : -9223372036854775808 ≤ x.imm) (v1 : x.imm ≤ 9223372036854775807) (w : World) (hT : Tab10 w) : Calls Tryd.prog 17 #[.agg (ibL x).toArray] w fun e w' => e = .returned (.string (insS x)) ∧ Below w.heap.size w w' := by
  obtain ⟨hr, hs, hl⟩ := ins_len h
  have ho := ins_op h
  obtain ⟨op, reg, src, loc, imm⟩ := x
  rcases ho with ho | ho | ho | ho | ho | ho | ho | ho | ho <;> (simp only at ho; subst ho)
  · exact inst_1 reg src loc imm hr hs hl v0 v1 w hT
  · exact inst_2 reg src loc imm hr hs hl v0 v1 w hT
  · exact inst_3 reg src loc imm hr hs hl v0 v1 w hT
  · exact inst_4 reg src loc imm hr hs hl v0 v1 w hT
  · exact inst_5 reg src loc imm hr hs hl v0 v1 w hT
  · exact inst_6 reg src loc imm hr hs hl v0 v1 w hT
  · exact inst_7 reg src loc imm hr hs hl v0 v1 w hT
  · exact inst_8 reg src loc imm hr hs hl v0 v1 w hT
  · exact inst_9 reg src loc imm hr hs hl v0 v1 w hT
end Go.Proofs.YtjoppgilmlhfbaaDoor

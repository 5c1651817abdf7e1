/- Several texts in one: J1, J2, J3. -/
import Derived.Test.YtpbcngnginffgaaIB
/- The reference's reader in memory: next, sees, take, wrong. -/
namespace Go.Proofs.Ytpbcngnginffgaa
open Go.RowKit Go.Shelf M
set_option linter.unusedSimpArgs false
set_option linter.unusedVariables false

theorem cell_growJ {W W' : World} {b o : Nat} {v : Value} (h : W.cell? ⟨b, o, none⟩ = some v) (hB : Below W.heap.size W W') : W'.cell? ⟨b, o, none⟩ = some v :=
  (hB.cell (p := ⟨b, o, none⟩) (World.block_lt_of_cell? W _ h)).trans h
theorem wpG_cell {ops : Array Oper} {W : World} {Q : Act → Prop} {rest : List Oper} {op : Oper} {a : Act} {b o : Nat} (hw : Region.wanted op (yielded ops a.tmps) = true) (ty : TypeId) (x : Operand) (ho : op.op = .load ty x) (hx : a.eval x = .pointer (some ⟨b, o, none⟩)) {v : Value} (hc : W.cell? ⟨b, o, none⟩ = some v)
    (hl : ∀ w, w.cell? ⟨b, o, none⟩ = some v → (Instr.loadAt ty (.pointer (some ⟨b, o, none⟩))).run Try.prog w = .ok v w)
    (h : wpG Try.prog ops W Q rest (a.put op.dst v)) : wpG Try.prog ops W Q (op :: rest) a :=
  wpG_value hw (fun w hB => by
    unfold execOp
    simp only [ho, hx, Sem.run_bind, hl w (cell_growJ hc hB), Result.andThen_ok, Sem.run_pure]) h
theorem wpG_range {ops : Array Oper} {W : World} {Q : Act → Prop} {rest : List Oper} {op : Oper} {a : Act} {b o : Nat} (hw : Region.wanted op (yielded ops a.tmps) = true) (ty : TypeId) (x : Operand) (ho : op.op = .load ty x) (hx : a.eval x = .pointer (some ⟨b, o, none⟩)) (cs : List Value) (hb : b < W.heap.size) (hc : W.rangeAt b o cs) (d : TypeDesc)
    (hu : Try.prog.underlying ty = some d) (hd : d.isRow = true) (hi : (Try.prog.info? ty).map (·.size) = some cs.length)
    (h : wpG Try.prog ops W Q rest (a.put op.dst (.agg cs.toArray))) : wpG Try.prog ops W Q (op :: rest) a :=
  wpG_value hw (fun w hB => by
    unfold execOp
    simp only [ho, hx, Sem.run_bind, run_loadAt_mid w b o ty _ d (fun j v hv => (hB.cell (p := ⟨b, o + j, none⟩) hb).trans (hc j v hv)) hu hd hi, Result.andThen_ok, Sem.run_pure]) h

theorem ldT {b o : Nat} {v : Value} (w : World) (h : w.cell? ⟨b, o, none⟩ = some v) : (Instr.loadAt 47 (.pointer (some ⟨b, o, none⟩))).run Try.prog w = .ok v w := by simp [go_sem, h]
def fO : Option (Nat × Nat × Nat) → Int × Int × Int
  | none => (0, 0, 0)
  | some f => ((f.1 : Int), (f.2.1 : Int), (f.2.2 : Int))
/-- The reference's reader's cells. -/
def rrL (g n cap : Nat) (bad : Option (Nat × Nat × Nat)) (σ : RS) (rest : List Value) : List Value :=
  [.slice (some ⟨g, 0, none⟩) n cap, .int .i64 (fO bad).1, .int .i64 (fO bad).2.1, .int .i64 (fO bad).2.2, .int .i64 (σ.k : Int), .int .i64 (fO σ.F).1, .int .i64 (fO σ.F).2.1, .int .i64 (fO σ.F).2.2] ++ rest
/-- The tokens are as they should be: all but the last are tokens; what is wrong has a number. -/
structure WD (D : TT) : Prop where
  last : ∀ k, (D.cur k).kind ≠ 0 → k + 1 < D.T.length
  len : D.T.length ≤ 1048577
  pos : 0 < D.T.length
  bad : ∀ f, D.bad = some f → f.2.2 ≠ 0
structure Inv (D : TT) (σ : RS) : Prop where
  k : σ.k < D.T.length
  F : ∀ f, σ.F = some f → f.2.2 ≠ 0
structure RR (D : TT) (W : World) (br g cap : Nat) (rest : List Value) (σ : RS) : Prop where
  cells : IsS W br 57 (rrL g D.T.length cap D.bad σ rest)
  toks : ∀ j t, D.T[j]? = some t → W.rangeAt g (j * 7) (tokL t)
  lt : g < W.heap.size
  ne : g ≠ br
section
variable {D : TT} {W W' : World} {br g cap c : Nat} {rest : List Value} {σ σ' : RS}
theorem RR.turn (h : RR D W br g cap rest σ) (T : Turn W W' br) (hc : IsS W' br 57 (rrL g D.T.length cap D.bad σ' rest)) : RR D W' br g cap rest σ' :=
  ⟨hc, fun j t ht i v hv => by
    have := h.toks j t ht i v hv
    have hb := T.block g h.lt h.ne
    unfold World.cell? at this ⊢
    rw [hb]; exact this, Nat.lt_of_lt_of_le h.lt T.size, h.ne⟩
theorem RR.grown (h : RR D W br g cap rest σ) (B : Below W.heap.size W W') : RR D W' br g cap rest σ := h.turn (Turn.of_below B br) (h.cells.grown B)
theorem RR.fresh (h : RR D W br g cap rest σ) (F : Fresh W W' c) : RR D W' br g cap rest σ := h.grown (F.trans (Below.refl _ _) (Nat.le_refl _))
theorem RR.upd (h : RR D W br g cap rest σ) (U : Upd W W' c) (h1 : br ≠ c) (h2 : g ≠ c) : RR D W' br g cap rest σ :=
  ⟨h.cells.upd U h1, fun j t ht i v hv => by
    have := h.toks j t ht i v hv
    have hb := U.block g h2
    unfold World.cell? at this ⊢
    rw [hb]; exact this, by rw [U.size]; exact h.lt, h.ne⟩
end
theorem wrong_code {D : TT} (hD : WD D) (k : Nat) : (D.wr k).2.2 ≠ 0 := by
  unfold TT.wr
  split
  · rename_i h
    unfold TT.badAt at h
    simp only [Bool.and_eq_true] at h
    obtain ⟨f, hf⟩ := Option.isSome_iff_exists.1 h.2
    rw [hf]
    exact hD.bad f hf
  · simp
theorem inv_wrong {D : TT} (hD : WD D) {σ : RS} (h : Inv D σ) : Inv D (wrongR D σ) := by
  cases hF : σ.F with
  | none => rw [wrongR_none hF]; exact ⟨h.k, fun f hf => by cases hf; exact wrong_code hD _⟩
  | some f => rw [wrongR_F hF]; exact h
theorem inv_take {D : TT} (hD : WD D) {σ : RS} (h : Inv D σ) : Inv D (takeR D σ) := by
  unfold takeR
  split
  · exact h
  · rename_i hk
    exact ⟨hD.last _ (by simpa using hk), h.F⟩
theorem inv_must {D : TT} (hD : WD D) {σ : RS} (h : Inv D σ) (x : List UInt8) : Inv D (mustR D σ x) := by unfold mustR; split; exact inv_take hD h; exact inv_wrong hD h
theorem inv_is {D : TT} (hD : WD D) {σ : RS} (h : Inv D σ) (x : List UInt8) : Inv D (isR D σ x) := by unfold isR; split; exact inv_take hD h; exact h
theorem inv_name {D : TT} (hD : WD D) {σ : RS} (h : Inv D σ) : Inv D (nameR D σ) := by unfold nameR; split; exact inv_take hD h; exact inv_wrong hD h
theorem inv_nbr {D : TT} (hD : WD D) {σ : RS} (h : Inv D σ) : Inv D (nbrR D σ) := by unfold nbrR; split; exact inv_take hD h; exact inv_wrong hD h
theorem inv_place {D : TT} (hD : WD D) {σ : RS} (h : Inv D σ) : Inv D (placeR D σ) := inv_must hD (inv_name hD (inv_must hD h _)) _
theorem inv_opd {D : TT} (hD : WD D) {σ : RS} (h : Inv D σ) : Inv D (opdR D σ) := inv_name hD (inv_must hD (inv_place hD h) _)
theorem cur_at {D : TT} {k : Nat} (h : k < D.T.length) : D.T[k]? = some (D.cur k) := by
  unfold TT.cur; rw [List.getElem?_eq_getElem h]; rfl
section
variable {D : TT} {br g cap : Nat} {rest : List Value}
set_option maxRecDepth 100000 in
set_option maxHeartbeats 2000000 in
theorem rnx_any (hD : WD D) (σ : RS) (hI : Inv D σ) (w : World) (hR : RR D w br g cap rest σ) :
    Calls Try.prog 13 #[.pointer (some ⟨br, 0, none⟩)] w fun en w' => en = .returned (.agg (tokL (D.cur σ.k)).toArray) ∧ Below w.heap.size w w' := by
  have hk := hI.k
  have hn := hD.len
  have ht := hR.toks _ _ (cur_at hk)
  have hlt := hR.lt
  have c0 : w.cell? ⟨br, 0, none⟩ = some (.slice (some ⟨g, 0, none⟩) D.T.length cap) := hR.cells.cell 0
  have c4 : w.cell? ⟨br, 4, none⟩ = some (.int .i64 (σ.k : Int)) := hR.cells.cell 4
  have hix : (σ.k : Int) < (D.T.length : Int) := by omega
  clear hR hI hD
  generalize D.cur σ.k = t at *
  generalize σ.k = k at *
  generalize D.T.length = n at *
  go_enter Try.func13, Try.ntmps13
  go_wp2_with (first
    | (refine wpList_allocS rfl 39 rfl (tokL noTok) Try.zeroValue39 ?_; intro W1 b1 F1 N1; have B1 := F1.trans (Below.refl _ w) (Nat.le_refl _); have h1 : w.heap.size ≤ b1 := Nat.le_of_eq F1.at'.symm; clear F1))
  have d0 := cell_growJ c0 B1
  have d4 := cell_growJ c4 B1
  have dt : W1.rangeAt g (k * 7) (tokL t) := fun i v hv => (B1.cell (p := ⟨g, k * 7 + i, none⟩) hlt).trans (ht i v hv)
  have dl : g < W1.heap.size := Nat.lt_of_lt_of_le hlt B1.size
  clear c0 c4 ht
  refine grow_tail 10 (by kernel_rfl) (by kernel_rfl) ?_
  simp only [List.take_succ_cons, List.take_zero, List.drop_succ_cons, List.drop_zero]
  refine wpG_put rfl (v := .pointer (some ⟨br, 0, none⟩)) (fun w => by first | rfl | (go_simp; done) | (simp [go_sem]; done)) ?_
  refine wpG_put rfl (v := .pointer (some ⟨br, 0, none⟩)) (fun w => by first | rfl | (go_simp; done) | (simp [go_sem]; done)) ?_
  simp only [Act.put, List.setIfInBounds_toArray, List.set_cons_succ, List.set_cons_zero]
  refine wpG_put rfl (v := .pointer (some ⟨br, 0, none⟩)) (fun w => by first | rfl | (go_simp; done) | (simp [go_sem]; done)) ?_
  refine wpG_cell rfl 47 _ rfl rfl d0 ldT ?_
  simp only [Act.put, List.setIfInBounds_toArray, List.set_cons_succ, List.set_cons_zero]
  refine wpG_put rfl (v := .pointer (some ⟨br, 0, none⟩)) (fun w => by first | rfl | (go_simp; done) | (simp [go_sem]; done)) ?_
  refine wpG_put rfl (v := .pointer (some ⟨br, 0, none⟩)) (fun w => by first | rfl | (go_simp; done) | (simp [go_sem]; done)) ?_
  simp only [Act.put, List.setIfInBounds_toArray, List.set_cons_succ, List.set_cons_zero]
  refine wpG_put rfl (v := .pointer (some ⟨br, 4, none⟩)) (fun w => by first | rfl | (go_simp; done) | (simp [go_sem]; done)) ?_
  refine wpG_cell rfl 3 _ rfl rfl d4 ld3 ?_
  simp only [Act.put, List.setIfInBounds_toArray, List.set_cons_succ, List.set_cons_zero]
  refine wpG_put rfl (v := .pointer (some ⟨g, k * 7, none⟩)) (fun w => by first | rfl | (go_simp; done) | (simp [go_sem, hix]; done)) ?_
  simp only [Act.put, List.setIfInBounds_toArray, List.set_cons_succ, List.set_cons_zero]
  refine wpG_range rfl 39 _ rfl rfl (tokL t) dl dt _ Try.underlying39 rfl info38 ?_
  simp only [Act.put, List.setIfInBounds_toArray, List.set_cons_succ, List.set_cons_zero]
  refine wpG_nil ?_
  intro W2 B2
  have N2 := N1.grown B2
  have B3 := Below.then B1 B2
  clear N1 B2 d0 d4 dt dl
  go_wp2_with (first
    | (refine wpList_storeS rfl 39 _ _ rfl rfl (tokL t) rfl N2 (by simp [tokL, noTok]) info38 (tok_one _) ?_; intro W5 U5 M5x; have M5 : IsS W5 b1 39 (tokL t) := M5x; have B5 := U5.trans B3 h1))
  exact ret_S (cs := tokL t) rfl rfl rfl M5 _ Try.underlying39 rfl info38 ⟨rfl, B5⟩
end
end Go.Proofs.Ytpbcngnginffgaa
/- The reference's reader: sees, take, wrong, is, must, name, number. -/
namespace Go.Proofs.Ytpbcngnginffgaa
open Go.RowKit Go.Shelf M
set_option linter.unusedSimpArgs false
set_option linter.unusedVariables false

section
variable {D : TT} {br g cap : Nat} {rest : List Value}
set_option maxRecDepth 100000 in
set_option maxHeartbeats 2000000 in
theorem rsees_any (hD : WD D) (σ : RS) (hI : Inv D σ) (x : ByteArray) (w : World) (hR : RR D w br g cap rest σ) :
    Calls Try.prog 42 #[.pointer (some ⟨br, 0, none⟩), .string x] w fun en w' => en = .returned (.bool (seesR D σ.k x.data.toList)) ∧ Below w.heap.size w w' := by
  have cN := rnx_any hD σ hI w hR
  unfold seesR
  generalize D.cur σ.k = t at *
  clear hI hR hD
  obtain ⟨kd, tx, vl, ln, cl, pt, fn⟩ := t
  have e1 : (kd == 1) = ((kd : Int) == 1) := by rw [Bool.eq_iff_iff]; simp; omega
  have e4 : (kd == 4) = ((kd : Int) == 4) := by rw [Bool.eq_iff_iff]; simp; omega
  have et : (tx == x.data.toList) = ((⟨tx.toArray⟩ : ByteArray).toList == x.toList) := by rw [toL, toL]
  dsimp only
  rw [e1, e4, et]
  clear e1 e4 et
  cases h1 : ((kd : Int) == 1) <;> cases h4 : ((kd : Int) == 4)
  all_goals
    go_enter Try.func42, Try.ntmps42
    go_wp2_with (first
      | (go_at_call 13; refine cN.mono ?_; rintro en W1 ⟨rfl, B1⟩; clear cN)
      | (refine wpList_allocS rfl 39 rfl (tokL noTok) Try.zeroValue39 ?_; intro W2 b2 F2 N2; have B2 := F2.trans B1 B1.size; have h2 : w.heap.size ≤ b2 := Nat.le_trans B1.size (Nat.le_of_eq F2.at'.symm); clear F2)
      | (refine wpList_storeS rfl 39 _ _ rfl rfl (tokL ⟨kd, tx, vl, ln, cl, pt, fn⟩) rfl N2 (by simp [tokL, noTok]) info38 (tok_one _) ?_; intro W3 U3 M3x; have M3 : IsS W3 b2 39 (tokL ⟨kd, tx, vl, ln, cl, pt, fn⟩) := M3x; have B3 := U3.trans B2 h2; have m0 : W3.cell? ⟨b2, 0, none⟩ = some (.int .i64 (kd : Int)) := M3.cell 0; have m1 : W3.cell? ⟨b2, 1, none⟩ = some (.string ⟨tx.toArray⟩) := M3.cell 1; clear U3 M3x N2))
  all_goals go_ret
  all_goals exact ⟨ret_bool (by simp), B3⟩
theorem rr_take {σ : RS} {n : Nat} {bad : Option (Nat × Nat × Nat)} : (rrL g n cap bad σ rest).set 4 (.int .i64 ((σ.k : Int) + 1)) = rrL g n cap bad ⟨σ.k + 1, σ.F⟩ rest := by
  simp [rrL]
set_option maxRecDepth 100000 in
set_option maxHeartbeats 2000000 in
theorem rtake_any (hD : WD D) (σ : RS) (hI : Inv D σ) (w : World) (hR : RR D w br g cap rest σ) :
    Calls Try.prog 43 #[.pointer (some ⟨br, 0, none⟩)] w fun en w' => en = .returned (.agg (tokL (D.cur σ.k)).toArray) ∧ RR D w' br g cap rest (takeR D σ) ∧ Turn w w' br := by
  have cN := fun W hR => rnx_any (br := br) (g := g) (cap := cap) (rest := rest) hD σ hI W hR
  have hbr := hR.cells.lt
  have hg := hR.lt
  have hk := hI.k
  have hn := hD.len
  cases h0 : ((D.cur σ.k).kind == 0) with
  | true =>
    have e : takeR D σ = σ := by unfold takeR; rw [if_pos h0]
    rw [e]
    have h0' : (((D.cur σ.k).kind : Int) != 0) = false := (by simp at h0; simp [h0])
    clear e h0
    generalize D.cur σ.k = t at *
    obtain ⟨kd, tx, vl, ln, cl, pt, fn⟩ := t
    dsimp only at h0'
    have tk : True := trivial
    go_enter Try.func43, Try.ntmps43
    go_wp2_with (first
      | (refine wpList_allocS rfl 39 rfl (tokL noTok) Try.zeroValue39 ?_; clear tk; intro W1 b1 F1 N1; have B1 := F1.trans (Below.refl _ w) (Nat.le_refl _); have R1 := hR.fresh F1; have h1 : w.heap.size ≤ b1 := Nat.le_of_eq F1.at'.symm; clear F1)
      | (go_at_call 13; refine (cN _ R1).mono ?_; rintro en W2 ⟨rfl, B2x⟩; have R2 := R1.grown B2x; have N2 := N1.grown B2x; have B2 := Below.then B1 B2x; clear cN B2x R1 N1)
      | (refine wpList_allocS rfl 39 rfl (tokL noTok) Try.zeroValue39 ?_; intro W3 b3 F3 M3; have B3 := F3.trans B2 B2.size; have R3 := R2.fresh F3; have N3 := N2.fresh F3; have h3 : w.heap.size ≤ b3 := Nat.le_trans B2.size (Nat.le_of_eq F3.at'.symm); have h13 : b1 ≠ b3 := (by have := N2.lt; have := F3.at'; omega); clear F3 R2 N2)
      | (refine wpList_storeS rfl 39 _ _ rfl rfl (tokL ⟨kd, tx, vl, ln, cl, pt, fn⟩) rfl M3 (by simp [tokL, noTok]) info38 (tok_one _) ?_; intro W4 U4 M4x; have M4 : IsS W4 b3 39 (tokL ⟨kd, tx, vl, ln, cl, pt, fn⟩) := M4x; have B4 := U4.trans B3 h3; have R4 := R3.upd U4 (by omega) (by omega); have N4 := N3.upd U4 h13; have m0 : W4.cell? ⟨b3, 0, none⟩ = some (.int .i64 (kd : Int)) := M4.cell 0; clear U4 M4x M3 R3 N3)
      | (refine wpList_loadP rfl 39 _ rfl rfl M4 7 (tokL ⟨kd, tx, vl, ln, cl, pt, fn⟩) rfl _ Try.underlying39 rfl info38 ?_)
      | (refine wpList_storeS rfl 39 _ _ rfl rfl (tokL ⟨kd, tx, vl, ln, cl, pt, fn⟩) rfl N4 (by simp [tokL, noTok]) info38 (tok_one _) ?_; intro W5 U5 N5x; have N5 : IsS W5 b1 39 (tokL ⟨kd, tx, vl, ln, cl, pt, fn⟩) := N5x; have B5 := U5.trans B4 h1; have R5 := R4.upd U5 (by omega) (by omega)))
    exact ret_S (cs := tokL ⟨kd, tx, vl, ln, cl, pt, fn⟩) rfl rfl rfl N5 _ Try.underlying39 rfl info38 ⟨rfl, R5, Turn.of_below B5 br⟩
  | false =>
    have e : takeR D σ = ⟨σ.k + 1, σ.F⟩ := by unfold takeR; rw [if_neg (by rw [h0]; simp)]
    rw [e]
    have h0' : (((D.cur σ.k).kind : Int) != 0) = true := (by simp at h0; simp [h0])
    clear e h0
    generalize D.cur σ.k = t at *
    obtain ⟨kd, tx, vl, ln, cl, pt, fn⟩ := t
    dsimp only at h0'
    have tk : True := trivial
    go_enter Try.func43, Try.ntmps43
    go_wp2_with (first
      | (refine wpList_allocS rfl 39 rfl (tokL noTok) Try.zeroValue39 ?_; clear tk; intro W1 b1 F1 N1; have B1 := F1.trans (Below.refl _ w) (Nat.le_refl _); have R1 := hR.fresh F1; have h1 : w.heap.size ≤ b1 := Nat.le_of_eq F1.at'.symm; clear F1)
      | (go_at_call 13; refine (cN _ R1).mono ?_; rintro en W2 ⟨rfl, B2x⟩; have R2 := R1.grown B2x; have N2 := N1.grown B2x; have B2 := Below.then B1 B2x; clear cN B2x R1 N1)
      | (refine wpList_allocS rfl 39 rfl (tokL noTok) Try.zeroValue39 ?_; intro W3 b3 F3 M3; have B3 := F3.trans B2 B2.size; have R3 := R2.fresh F3; have N3 := N2.fresh F3; have h3 : w.heap.size ≤ b3 := Nat.le_trans B2.size (Nat.le_of_eq F3.at'.symm); have h13 : b1 ≠ b3 := (by have := N2.lt; have := F3.at'; omega); clear F3 R2 N2)
      | (refine wpList_storeS rfl 39 _ _ rfl rfl (tokL ⟨kd, tx, vl, ln, cl, pt, fn⟩) rfl M3 (by simp [tokL, noTok]) info38 (tok_one _) ?_; intro W4 U4 M4x; have M4 : IsS W4 b3 39 (tokL ⟨kd, tx, vl, ln, cl, pt, fn⟩) := M4x; have B4 := U4.trans B3 h3; have R4 := R3.upd U4 (by omega) (by omega); have N4 := N3.upd U4 h13; have m0 : W4.cell? ⟨b3, 0, none⟩ = some (.int .i64 (kd : Int)) := M4.cell 0; have r4 : W4.cell? ⟨br, 4, none⟩ = some (.int .i64 (σ.k : Int)) := R4.cells.cell 4; clear U4 M4x M3 R3 N3)
      | (refine wpList_store1 rfl 3 _ _ rfl rfl (.int .i64 ((σ.k : Int) + 1)) rfl R4.cells (by simp [rrL]) info3 rfl ?_; intro W5 U5 R5x; rw [rr_take] at R5x; have R5 := R4.turn (Turn.of_upd U5) R5x; have M5 := M4.upd U5 (by omega); have N5 := N4.upd U5 (by omega); have T5 := (Turn.of_below B4 br).trans (Turn.of_upd U5); clear U5 R5x M4 N4 r4 m0)
      | (refine wpList_loadP rfl 39 _ rfl rfl M5 7 (tokL ⟨kd, tx, vl, ln, cl, pt, fn⟩) rfl _ Try.underlying39 rfl info38 ?_)
      | (refine wpList_storeS rfl 39 _ _ rfl rfl (tokL ⟨kd, tx, vl, ln, cl, pt, fn⟩) rfl N5 (by simp [tokL, noTok]) info38 (tok_one _) ?_; intro W6 U6 N6x; have N6 : IsS W6 b1 39 (tokL ⟨kd, tx, vl, ln, cl, pt, fn⟩) := N6x; have R6 := R5.upd U6 (by omega) (by omega); have T6 := T5.upd h1 U6))
    exact ret_S (cs := tokL ⟨kd, tx, vl, ln, cl, pt, fn⟩) rfl rfl rfl N6 _ Try.underlying39 rfl info38 ⟨rfl, R6, T6⟩
theorem fO_none : (fO none).2.2 = 0 := rfl
theorem rr_F {σ : RS} {n : Nat} {bad : Option (Nat × Nat × Nat)} (F : Option (Nat × Nat × Nat)) : putL (rrL g n cap bad σ rest) 5 (fL (fO F)) = rrL g n cap bad ⟨σ.k, F⟩ rest := by
  simp [rrL, putL, fL]
set_option maxRecDepth 100000 in
set_option maxHeartbeats 2000000 in
theorem rwrong_any (hD : WD D) (σ : RS) (hI : Inv D σ) (w : World) (hR : RR D w br g cap rest σ) :
    Calls Try.prog 14 #[.pointer (some ⟨br, 0, none⟩)] w fun en w' => en = .returned (.tuple #[]) ∧ RR D w' br g cap rest (wrongR D σ) ∧ Turn w w' br := by
  have cN := fun W hR => rnx_any (br := br) (g := g) (cap := cap) (rest := rest) hD σ hI W hR
  have hbr := hR.cells.lt
  have hg := hR.lt
  have c7 : w.cell? ⟨br, 7, none⟩ = some (.int .i64 (fO σ.F).2.2) := hR.cells.cell 7
  cases hF : σ.F with
  | some f =>
    rw [wrongR_F hF]
    have hne : ((fO σ.F).2.2 != 0) = true := (by rw [hF]; have := hI.F f hF; simp [fO]; omega)
    generalize (fO σ.F).2.2 = z at *
    clear hF
    go_enter Try.func14, Try.ntmps14
    go_wp2_with fail
    exact ⟨rfl, .tuple #[], (by simp [results, Try.results14, go_sem]), rfl, hR, Turn.of_below (Below.refl _ _) br⟩
  | none =>
    rw [wrongR_none hF]
    rw [hF, fO_none] at c7
    have hbd : w.cell? ⟨br, 3, none⟩ = some (.int .i64 (fO D.bad).2.2) := hR.cells.cell 3
    have hwr : D.wr σ.k = if D.badAt σ.k = true then D.bad.getD (0, 0, 0) else ((D.cur σ.k).line, (D.cur σ.k).col, 70) := rfl
    have hba : D.badAt σ.k = ((D.cur σ.k).kind == 0 && D.bad.isSome) := rfl
    generalize D.cur σ.k = t at *
    obtain ⟨kd, tx, vl, ln, cl, pt, fn⟩ := t
    dsimp only at hwr hba
    cases hb : D.badAt σ.k with
    | false =>
      rw [hb] at hwr
      have hwr' : D.wr σ.k = (ln, cl, 70) := hwr
      rw [hwr']
      have hcase : ((kd : Int) == 0) = false ∨ (((kd : Int) == 0) = true ∧ ((fO D.bad).2.2 != 0) = false) := by
        rw [hb] at hba
        cases hk : (kd == 0) with
        | false => left; simp at hk; simp; omega
        | true =>
          right
          rw [hk] at hba
          refine ⟨by simp at hk; simp [hk], ?_⟩
          have : D.bad = none := by simpa using hba.symm
          rw [this]; rfl
      clear hwr hwr' hba hb
      have e1 := rr_F (g := g) (n := D.T.length) (cap := cap) (bad := D.bad) (σ := σ) (rest := rest) (some (ln, cl, 70))
      rcases hcase with hk | ⟨hk, hz⟩
      all_goals
        go_enter Try.func14, Try.ntmps14
        go_wp2_with (first
          | (go_at_call 13; refine (cN _ hR).mono ?_; rintro en W2 ⟨rfl, B2⟩; have R2 := hR.grown B2; clear cN)
          | (refine wpList_allocS rfl 39 rfl (tokL noTok) Try.zeroValue39 ?_; intro W3 b3 F3 M3; have B3 := F3.trans B2 B2.size; have R3 := R2.fresh F3; have h3 : w.heap.size ≤ b3 := Nat.le_trans B2.size (Nat.le_of_eq F3.at'.symm); clear F3 R2)
          | (refine wpList_storeS rfl 39 _ _ rfl rfl (tokL ⟨kd, tx, vl, ln, cl, pt, fn⟩) rfl M3 (by simp [tokL, noTok]) info38 (tok_one _) ?_; intro W4 U4 M4x; have M4 : IsS W4 b3 39 (tokL ⟨kd, tx, vl, ln, cl, pt, fn⟩) := M4x; have B4 := U4.trans B3 h3; have R4 := R3.upd U4 (by omega) (by omega); have m3 : W4.cell? ⟨b3, 3, none⟩ = some (.int .i64 (ln : Int)) := M4.cell 3; have m4 : W4.cell? ⟨b3, 4, none⟩ = some (.int .i64 (cl : Int)) := M4.cell 4; clear U4 M4x M3 R3)
          | (refine wpList_storeS rfl 29 _ _ rfl rfl (fL (fO (some (ln, cl, 70)))) rfl R4.cells (by simp [rrL, fL]) info30 (fL_one _) ?_; intro W5 U5 R5x; rw [e1] at R5x; have R5 := R4.turn (Turn.of_upd U5) R5x; have M5 := M4.upd U5 (by omega); have T5 := (Turn.of_below B4 br).trans (Turn.of_upd U5); have m0 : W5.cell? ⟨b3, 0, none⟩ = some (.int .i64 (kd : Int)) := M5.cell 0; have r3 : W5.cell? ⟨br, 3, none⟩ = some (.int .i64 (fO D.bad).2.2) := R5.cells.cell 3; clear U5 R5x M4 R4 m3 m4))
      all_goals exact ⟨rfl, .tuple #[], (by simp [results, Try.results14, go_sem]), rfl, R5, T5⟩
    | true =>
      rw [hb] at hwr hba
      have hk : ((kd : Int) == 0) = true := (by have := hba.symm; simp only [Bool.and_eq_true, beq_iff_eq] at this; simp [this.1])
      obtain ⟨f, hf⟩ := Option.isSome_iff_exists.1 (show D.bad.isSome = true by have := hba.symm; simp only [Bool.and_eq_true] at this; exact this.2)
      have hwr' : D.wr σ.k = f := by rw [hwr, hf]; rfl
      rw [hwr']
      have hz : ((fO D.bad).2.2 != 0) = true := (by rw [hf]; have := hD.bad f hf; simp [fO]; omega)
      have e1 := rr_F (g := g) (n := D.T.length) (cap := cap) (bad := D.bad) (σ := σ) (rest := rest) (some (ln, cl, 70))
      have e2 := rr_F (g := g) (n := D.T.length) (cap := cap) (bad := D.bad) (σ := ⟨σ.k, some (ln, cl, 70)⟩) (rest := rest) (some f)
      have ef : fL (fO (some f)) = fL (fO D.bad) := by rw [hf]
      rw [ef] at e2
      clear hwr hwr' hba hb hf ef
      go_enter Try.func14, Try.ntmps14
      go_wp2_with (first
        | (go_at_call 13; refine (cN _ hR).mono ?_; rintro en W2 ⟨rfl, B2⟩; have R2 := hR.grown B2; clear cN)
        | (refine wpList_allocS rfl 39 rfl (tokL noTok) Try.zeroValue39 ?_; intro W3 b3 F3 M3; have B3 := F3.trans B2 B2.size; have R3 := R2.fresh F3; have h3 : w.heap.size ≤ b3 := Nat.le_trans B2.size (Nat.le_of_eq F3.at'.symm); clear F3 R2)
        | (refine wpList_storeS rfl 39 _ _ rfl rfl (tokL ⟨kd, tx, vl, ln, cl, pt, fn⟩) rfl M3 (by simp [tokL, noTok]) info38 (tok_one _) ?_; intro W4 U4 M4x; have M4 : IsS W4 b3 39 (tokL ⟨kd, tx, vl, ln, cl, pt, fn⟩) := M4x; have B4 := U4.trans B3 h3; have R4 := R3.upd U4 (by omega) (by omega); have m3 : W4.cell? ⟨b3, 3, none⟩ = some (.int .i64 (ln : Int)) := M4.cell 3; have m4 : W4.cell? ⟨b3, 4, none⟩ = some (.int .i64 (cl : Int)) := M4.cell 4; clear U4 M4x M3 R3)
        | (refine wpList_storeS rfl 29 _ _ rfl rfl (fL (fO (some (ln, cl, 70)))) rfl R4.cells (by simp [rrL, fL]) info30 (fL_one _) ?_; intro W5 U5 R5x; rw [e1] at R5x; have R5 := R4.turn (Turn.of_upd U5) R5x; have M5 := M4.upd U5 (by omega); have T5 := (Turn.of_below B4 br).trans (Turn.of_upd U5); have m0 : W5.cell? ⟨b3, 0, none⟩ = some (.int .i64 (kd : Int)) := M5.cell 0; have r3 : W5.cell? ⟨br, 3, none⟩ = some (.int .i64 (fO D.bad).2.2) := R5.cells.cell 3; clear U5 R5x M4 R4 m3 m4)
        | (refine wpList_loadP rfl 29 _ rfl rfl R5.cells 3 (fL (fO D.bad)) rfl _ Try.underlying29 rfl info30 ?_)
        | (refine wpList_storeS rfl 29 _ _ rfl rfl (fL (fO D.bad)) rfl R5.cells (by simp [rrL, fL]) info30 (fL_one _) ?_; intro W6 U6 R6x; rw [e2] at R6x; have R6 := R5.turn (Turn.of_upd U6) R6x; have T6 := T5.trans (Turn.of_upd U6)))
      exact ⟨rfl, .tuple #[], (by simp [results, Try.results14, go_sem]), rfl, R6, T6⟩
end
end Go.Proofs.Ytpbcngnginffgaa
/- The reference's reader: is, must, name, number, place. -/
namespace Go.Proofs.Ytpbcngnginffgaa
open Go.RowKit Go.Shelf M
set_option linter.unusedSimpArgs false
set_option linter.unusedVariables false

section
variable {D : TT} {br g cap : Nat} {rest : List Value}
theorem fld0 (a b c d e f g : Value) (w : World) : (Instr.field 39 (.agg #[a, b, c, d, e, f, g]) 0).run Try.prog w = .ok a w := by kernel_rfl
theorem fld1 (a b c d e f g : Value) (w : World) : (Instr.field 39 (.agg #[a, b, c, d, e, f, g]) 1).run Try.prog w = .ok b w := by kernel_rfl
theorem fld2 (a b c d e f g : Value) (w : World) : (Instr.field 39 (.agg #[a, b, c, d, e, f, g]) 2).run Try.prog w = .ok c w := by kernel_rfl
theorem code_some {σ : RS} (hI : Inv D σ) {f : Nat × Nat × Nat} (h : σ.F = some f) : ((fO σ.F).2.2 != 0) = true ∧ ((fO σ.F).2.2 == 0) = false := by
  rw [h]; have := hI.F f h; simp [fO]; omega
theorem code_none {σ : RS} (h : σ.F = none) : ((fO σ.F).2.2 != 0) = false ∧ ((fO σ.F).2.2 == 0) = true := by rw [h]; exact ⟨rfl, rfl⟩
set_option maxRecDepth 100000 in
set_option maxHeartbeats 2000000 in
theorem ris_any (hD : WD D) (σ : RS) (hI : Inv D σ) (x : ByteArray) (w : World) (hR : RR D w br g cap rest σ) :
    Calls Try.prog 27 #[.pointer (some ⟨br, 0, none⟩), .string x] w fun en w' => en = .returned (.bool (isB D σ x.data.toList)) ∧ RR D w' br g cap rest (isR D σ x.data.toList) ∧ Turn w w' br := by
  have c7 : w.cell? ⟨br, 7, none⟩ = some (.int .i64 (fO σ.F).2.2) := hR.cells.cell 7
  cases hF : σ.F with
  | some f =>
    obtain ⟨hne, _⟩ := code_some hI hF
    have e1 : isB D σ x.data.toList = false := isB_F hF
    have e2 : isR D σ x.data.toList = σ := by unfold isR; rw [e1]; rfl
    rw [e1, e2]
    generalize (fO σ.F).2.2 = z at *
    clear hF e1 e2
    go_enter Try.func27, Try.ntmps27
    go_wp2_with fail
    go_ret
    exact ⟨rfl, hR, Turn.of_below (Below.refl _ _) br⟩
  | none =>
    obtain ⟨hne, _⟩ := code_none hF
    have cS := rsees_any hD σ hI x w hR
    have e1 : isB D σ x.data.toList = seesR D σ.k x.data.toList := by unfold isB; rw [hF]; rfl
    rw [← e1] at cS
    cases hB : isB D σ x.data.toList with
    | false =>
      have e2 : isR D σ x.data.toList = σ := by unfold isR; rw [hB]; rfl
      rw [e2]
      rw [hB] at cS
      generalize (fO σ.F).2.2 = z at *
      clear hF e1 e2 hB
      go_enter Try.func27, Try.ntmps27
      go_wp2_with (first
        | (go_at_call 42; refine cS.mono ?_; rintro en W1 ⟨rfl, B1⟩; clear cS))
      go_ret
      exact ⟨rfl, hR.grown B1, Turn.of_below B1 br⟩
    | true =>
      have e2 : isR D σ x.data.toList = takeR D σ := by unfold isR; rw [hB]; rfl
      rw [e2]
      rw [hB] at cS
      have cT := fun W hR => rtake_any (br := br) (g := g) (cap := cap) (rest := rest) hD σ hI W hR
      generalize (fO σ.F).2.2 = z at *
      clear hF e1 e2 hB
      go_enter Try.func27, Try.ntmps27
      go_wp2_with (first
        | (go_at_call 42; refine cS.mono ?_; rintro en W1 ⟨rfl, B1⟩; have R1 := hR.grown B1; clear cS)
        | (go_at_call 43; refine (cT _ R1).mono ?_; rintro en W2 ⟨rfl, R2, T2⟩; clear cT))
      go_ret
      exact ⟨rfl, R2, (Turn.of_below B1 br).trans T2⟩
set_option maxRecDepth 100000 in
set_option maxHeartbeats 2000000 in
theorem rmust_any (hD : WD D) (σ : RS) (hI : Inv D σ) (x : ByteArray) (w : World) (hR : RR D w br g cap rest σ) :
    Calls Try.prog 30 #[.pointer (some ⟨br, 0, none⟩), .string x] w fun en w' => en = .returned (.tuple #[]) ∧ RR D w' br g cap rest (mustR D σ x.data.toList) ∧ Turn w w' br := by
  have cI := ris_any hD σ hI x w hR
  cases hB : isB D σ x.data.toList with
  | false =>
    have e2 : isR D σ x.data.toList = σ := by unfold isR; rw [hB]; rfl
    have e3 : mustR D σ x.data.toList = wrongR D σ := by unfold mustR; rw [hB]; rfl
    rw [hB, e2] at cI
    rw [e3]
    have cW := fun W hR => rwrong_any (br := br) (g := g) (cap := cap) (rest := rest) hD σ hI W hR
    clear e2 e3 hB
    go_enter Try.func30, Try.ntmps30
    go_wp2_with (first
      | (go_at_call 27; refine cI.mono ?_; rintro en W1 ⟨rfl, R1, T1⟩; clear cI)
      | (go_at_call 14; refine (cW _ R1).mono ?_; rintro en W2 ⟨rfl, R2, T2⟩; clear cW))
    exact ⟨rfl, .tuple #[], (by simp [results, Try.results30, go_sem]), rfl, R2, T1.trans T2⟩
  | true =>
    have e2 : mustR D σ x.data.toList = isR D σ x.data.toList := by unfold mustR isR; rw [hB]; rfl
    rw [hB] at cI
    rw [e2]
    clear e2 hB
    go_enter Try.func30, Try.ntmps30
    go_wp2_with (first
      | (go_at_call 27; refine cI.mono ?_; rintro en W1 ⟨rfl, R1, T1⟩; clear cI))
    exact ⟨rfl, .tuple #[], (by simp [results, Try.results30, go_sem]), rfl, R1, T1⟩
set_option maxRecDepth 100000 in
set_option maxHeartbeats 2000000 in
theorem rname2_any (hD : WD D) (σ : RS) (hI : Inv D σ) (w : World) (hR : RR D w br g cap rest σ) :
    Calls Try.prog 31 #[.pointer (some ⟨br, 0, none⟩)] w fun en w' => en = .returned (.string ⟨(nameT D σ).toArray⟩) ∧ RR D w' br g cap rest (nameR D σ) ∧ Turn w w' br := by
  have c7 : w.cell? ⟨br, 7, none⟩ = some (.int .i64 (fO σ.F).2.2) := hR.cells.cell 7
  have cW := fun W hR => rwrong_any (br := br) (g := g) (cap := cap) (rest := rest) hD σ hI W hR
  cases hF : σ.F with
  | some f =>
    obtain ⟨hne, _⟩ := code_some hI hF
    have hQ : nameQ D σ = false := by unfold nameQ; rw [hF]; rfl
    have e1 : nameR D σ = wrongR D σ := by unfold nameR; rw [hQ]; rfl
    have e2 : nameT D σ = [] := by unfold nameT; rw [hQ]; rfl
    rw [e1, e2]
    generalize (fO σ.F).2.2 = z at *
    clear hF e1 e2 hQ
    go_enter Try.func31, Try.ntmps31
    go_wp2_with (first
      | (go_at_call 14; refine (cW _ hR).mono ?_; rintro en W2 ⟨rfl, R2, T2⟩; clear cW))
    go_ret
    exact ⟨rfl, R2, T2⟩
  | none =>
    obtain ⟨hne, _⟩ := code_none hF
    have cN := rnx_any hD σ hI w hR
    have cT := fun W hR => rtake_any (br := br) (g := g) (cap := cap) (rest := rest) hD σ hI W hR
    cases hQ : nameQ D σ with
    | false =>
      have e1 : nameR D σ = wrongR D σ := by unfold nameR; rw [hQ]; rfl
      have e2 : nameT D σ = [] := by unfold nameT; rw [hQ]; rfl
      rw [e1, e2]
      have hk : (((D.cur σ.k).kind : Int) != 1) = true := (by unfold nameQ at hQ; rw [hF] at hQ; simp at hQ; simp; omega)
      clear cT hF e1 e2 hQ
      generalize D.cur σ.k = t at *
      obtain ⟨kd, tx, vl, ln, cl, pt, fn⟩ := t
      dsimp only at hk
      dsimp only [tokL] at cN
      have f0 := fld0
      generalize (fO σ.F).2.2 = z at *
      go_enter Try.func31, Try.ntmps31
      go_wp2_with (first
        | (go_at_call 13; refine cN.mono ?_; rintro en W1 ⟨rfl, B1⟩; have R1 := hR.grown B1; clear cN)
        | (go_at_call 14; refine (cW _ R1).mono ?_; rintro en W2 ⟨rfl, R2, T2⟩; clear cW))
      go_ret
      exact ⟨rfl, R2, (Turn.of_below B1 br).trans T2⟩
    | true =>
      have e1 : nameR D σ = takeR D σ := by unfold nameR; rw [hQ]; rfl
      have e2 : nameT D σ = (D.cur σ.k).text := by unfold nameT; rw [hQ]; rfl
      rw [e1, e2]
      have hk : (((D.cur σ.k).kind : Int) != 1) = false := (by unfold nameQ at hQ; rw [hF] at hQ; simp at hQ; simp; omega)
      clear cW hF e1 e2 hQ
      generalize D.cur σ.k = t at *
      obtain ⟨kd, tx, vl, ln, cl, pt, fn⟩ := t
      dsimp only at hk ⊢
      dsimp only [tokL] at cN cT
      have f0 := fld0
      have f1 := fld1
      have f2 := fld2
      generalize (fO σ.F).2.2 = z at *
      go_enter Try.func31, Try.ntmps31
      go_wp2_with (first
        | (go_at_call 13; refine cN.mono ?_; rintro en W1 ⟨rfl, B1⟩; have R1 := hR.grown B1; clear cN)
        | (go_at_call 43; refine (cT _ R1).mono ?_; rintro en W2 ⟨rfl, R2, T2⟩; clear cT))
      go_ret
      exact ⟨rfl, R2, (Turn.of_below B1 br).trans T2⟩
set_option maxRecDepth 100000 in
set_option maxHeartbeats 2000000 in
theorem rnbr_any (hD : WD D) (σ : RS) (hI : Inv D σ) (w : World) (hR : RR D w br g cap rest σ) :
    Calls Try.prog 44 #[.pointer (some ⟨br, 0, none⟩)] w fun en w' => en = .returned (.int .i64 (nbrV D σ)) ∧ RR D w' br g cap rest (nbrR D σ) ∧ Turn w w' br := by
  have c7 : w.cell? ⟨br, 7, none⟩ = some (.int .i64 (fO σ.F).2.2) := hR.cells.cell 7
  have cW := fun W hR => rwrong_any (br := br) (g := g) (cap := cap) (rest := rest) hD σ hI W hR
  cases hF : σ.F with
  | some f =>
    obtain ⟨hne, _⟩ := code_some hI hF
    have hQ : nbrQ D σ = false := by unfold nbrQ; rw [hF]; rfl
    have e1 : nbrR D σ = wrongR D σ := by unfold nbrR; rw [hQ]; rfl
    have e2 : nbrV D σ = 0 := by unfold nbrV; rw [hQ]; rfl
    rw [e1, e2]
    generalize (fO σ.F).2.2 = z at *
    clear hF e1 e2 hQ
    go_enter Try.func44, Try.ntmps44
    go_wp2_with (first
      | (go_at_call 14; refine (cW _ hR).mono ?_; rintro en W2 ⟨rfl, R2, T2⟩; clear cW))
    go_ret
    exact ⟨rfl, R2, T2⟩
  | none =>
    obtain ⟨hne, _⟩ := code_none hF
    have cN := rnx_any hD σ hI w hR
    have cT := fun W hR => rtake_any (br := br) (g := g) (cap := cap) (rest := rest) hD σ hI W hR
    cases hQ : nbrQ D σ with
    | false =>
      have e1 : nbrR D σ = wrongR D σ := by unfold nbrR; rw [hQ]; rfl
      have e2 : nbrV D σ = 0 := by unfold nbrV; rw [hQ]; rfl
      rw [e1, e2]
      have hk : (((D.cur σ.k).kind : Int) != 2) = true := (by unfold nbrQ at hQ; rw [hF] at hQ; simp at hQ; simp; omega)
      clear cT hF e1 e2 hQ
      generalize D.cur σ.k = t at *
      obtain ⟨kd, tx, vl, ln, cl, pt, fn⟩ := t
      dsimp only at hk
      dsimp only [tokL] at cN
      have f0 := fld0
      generalize (fO σ.F).2.2 = z at *
      go_enter Try.func44, Try.ntmps44
      go_wp2_with (first
        | (go_at_call 13; refine cN.mono ?_; rintro en W1 ⟨rfl, B1⟩; have R1 := hR.grown B1; clear cN)
        | (go_at_call 14; refine (cW _ R1).mono ?_; rintro en W2 ⟨rfl, R2, T2⟩; clear cW))
      go_ret
      exact ⟨rfl, R2, (Turn.of_below B1 br).trans T2⟩
    | true =>
      have e1 : nbrR D σ = takeR D σ := by unfold nbrR; rw [hQ]; rfl
      have e2 : nbrV D σ = (D.cur σ.k).value := by unfold nbrV; rw [hQ]; rfl
      rw [e1, e2]
      have hk : (((D.cur σ.k).kind : Int) != 2) = false := (by unfold nbrQ at hQ; rw [hF] at hQ; simp at hQ; simp; omega)
      clear cW hF e1 e2 hQ
      generalize D.cur σ.k = t at *
      obtain ⟨kd, tx, vl, ln, cl, pt, fn⟩ := t
      dsimp only at hk ⊢
      dsimp only [tokL] at cN cT
      have f0 := fld0
      have f1 := fld1
      have f2 := fld2
      generalize (fO σ.F).2.2 = z at *
      go_enter Try.func44, Try.ntmps44
      go_wp2_with (first
        | (go_at_call 13; refine cN.mono ?_; rintro en W1 ⟨rfl, B1⟩; have R1 := hR.grown B1; clear cN)
        | (go_at_call 43; refine (cT _ R1).mono ?_; rintro en W2 ⟨rfl, R2, T2⟩; clear cT))
      go_ret
      exact ⟨rfl, R2, (Turn.of_below B1 br).trans T2⟩
set_option maxRecDepth 100000 in
set_option maxHeartbeats 2000000 in
theorem rplc_any (hD : WD D) (σ : RS) (hI : Inv D σ) (w : World) (hR : RR D w br g cap rest σ) :
    Calls Try.prog 29 #[.pointer (some ⟨br, 0, none⟩)] w fun en w' => en = .returned (.string ⟨(placeT D σ).toArray⟩) ∧ RR D w' br g cap rest (placeR D σ) ∧ Turn w w' br := by
  have c1 := rmust_any hD σ hI ⟨#[91]⟩ w hR
  have c2 := fun W hR => rname2_any (br := br) (g := g) (cap := cap) (rest := rest) hD (mustR D σ [91]) (inv_must hD hI _) W hR
  have c3 := fun W hR => rmust_any (br := br) (g := g) (cap := cap) (rest := rest) hD (nameR D (mustR D σ [91])) (inv_name hD (inv_must hD hI _)) ⟨#[93]⟩ W hR
  go_enter Try.func29, Try.ntmps29
  go_wp2_with (first
    | (go_at_call 30; refine c1.mono ?_; rintro en W1 ⟨rfl, R1, T1⟩; clear c1)
    | (go_at_call 31; refine (c2 _ R1).mono ?_; rintro en W2 ⟨rfl, R2, T2⟩; clear c2)
    | (go_at_call 30; refine (c3 _ R2).mono ?_; rintro en W3 ⟨rfl, R3, T3⟩; clear c3))
  go_ret
  exact ⟨rfl, R3, (T1.trans T2).trans T3⟩
end
end Go.Proofs.Ytpbcngnginffgaa

/- The lexer in memory: New, move, fault. -/
import Derived.Test.YtopnbemodlcknaaDoorLxX13
namespace Go.Proofs.YtopnbemodlcknaaDoor.Lx
open Go.RowKit M
set_option linter.unusedSimpArgs false
set_option linter.unusedVariables false

/-- One block is turned, all others stand; memory may grow. -/
structure Turn (w W : World) (b : Nat) : Prop where
  os : W.os = w.os
  tape : W.tape = w.tape
  output : W.output = w.output
  size : w.heap.size ≤ W.heap.size
  block : ∀ k, k < w.heap.size → k ≠ b → W.heap[k]? = w.heap[k]?
theorem Turn.of_below {w W : World} (h : Below w.heap.size w W) (b : Nat) : Turn w W b := ⟨h.os, h.tape, h.output, h.size, fun k hk _ => h.block k hk⟩
theorem Turn.of_upd {w W : World} {b : Nat} (h : Upd w W b) : Turn w W b := ⟨h.os, h.tape, h.output, by rw [h.size]; exact Nat.le_refl _, fun k _ hk => h.block k hk⟩
theorem Turn.trans {w W W' : World} {b : Nat} (h : Turn w W b) (h' : Turn W W' b) : Turn w W' b :=
  ⟨h'.os.trans h.os, h'.tape.trans h.tape, h'.output.trans h.output, Nat.le_trans h.size h'.size, fun k hk hb => (h'.block k (Nat.lt_of_lt_of_le hk h.size) hb).trans (h.block k hk hb)⟩
theorem Turn.grow {w W W' : World} {b : Nat} (h : Turn w W b) (h' : Below W.heap.size W W') : Turn w W' b := h.trans (Turn.of_below h' b)
theorem Turn.upd {w W W' : World} {b b' : Nat} (h : Turn w W b) (hb : w.heap.size ≤ b') (h' : Upd W W' b') : Turn w W' b :=
  ⟨h'.os.trans h.os, h'.tape.trans h.tape, h'.output.trans h.output, by rw [h'.size]; exact h.size, fun k hk hne => (h'.block k (by omega)).trans (h.block k hk hne)⟩
theorem Turn.below {w0 w W : World} {B b : Nat} (h : Below B w0 w) (hB : B ≤ b) (hs : B ≤ w.heap.size) (T : Turn w W b) : Below B w0 W :=
  ⟨T.os.trans h.os, T.tape.trans h.tape, T.output.trans h.output, Nat.le_trans h.size T.size, fun k hk => (T.block k (by omega) (by omega)).trans (h.block k hk)⟩
theorem _root_.Go.Proofs.YtopnbemodlcknaaDoor.IsS.turnL {w W : World} {b b' t : Nat} {cs : List Value} (h : IsS w b t cs) (T : Turn w W b') (hb : b ≠ b') : IsS W b t cs := (T.block b h.lt hb).trans h
theorem Turn.drewN {w W : World} {b : Nat} (h : Turn w W b) (n : Nat) : Turn w (W.drewN n) b := ⟨h.os, h.tape, h.output, h.size, h.block⟩

/-- A lexer's cells. -/
def lexL (s : ByteArray) (p : Nat) (q : Nat × Nat) (e : Nat) : List Value := [.string s, .int .i64 (p : Int), .int .i64 (q.1 : Int), .int .i64 (q.2 : Int), .int .i64 (e : Int)]
theorem info66 : (Tryd.prog.info? 78).map (·.size) = some 5 := by kernel_rfl
theorem wpG_loadP {ops : Array Oper} {W : World} {Q : Act → Prop} {rest : List Oper} {op : Oper} {a : Act} {b t o : Nat} {cs : List Value} (hw : Region.wanted op (yielded ops a.tmps) = true) (ty : TypeId) (x : Operand) (ho : op.op = .load ty x) (hx : a.eval x = .pointer (some ⟨b, o, none⟩)) (hc : IsS W b t cs) (k : Nat) (sub : List Value) (hsub : (cs.drop o).take k = sub) (d : TypeDesc)
    (hu : Tryd.prog.underlying ty = some d) (hd : d.isRow = true) (hi : (Tryd.prog.info? ty).map (·.size) = some sub.length)
    (h : wpG Tryd.prog ops W Q rest (a.put op.dst (.agg sub.toArray))) : wpG Tryd.prog ops W Q (op :: rest) a := by
  subst hsub
  exact wpG_loadS hw ty x ho hx hc k d hu hd hi h

set_option maxRecDepth 100000 in
set_option maxHeartbeats 1000000 in
theorem new_any (s : ByteArray) (w : World) : Calls Tryd.prog 20 #[.string s] w fun e w' => (∃ b, e = .returned (.pointer (some ⟨b, 0, none⟩)) ∧ w.heap.size ≤ b ∧ IsS w' b 78 (lexL s 0 (1, 1) 0)) ∧ Below w.heap.size w w' := by
  have hF : ∀ w, Calls Tryd.prog 25 #[] w fun e w' => e = .returned (.agg #[.int .i64 1, .int .i64 1]) ∧ Below w.heap.size w w' := fun w => front_any w
  go_enter Tryd.func20, Tryd.ntmps20
  go_wp2_with (first
    | (go_at_call 25; refine (hF _).mono ?_; rintro e W1 ⟨rfl, B1⟩)
    | (refine wpList_boxS rfl 78 _ rfl (lexL s 0 (1, 1) 0) rfl ?_; intro W2 b2 F2 N2; have hb2 : w.heap.size ≤ b2 := Nat.le_trans B1.size (Nat.le_of_eq F2.at'.symm); have B2 := F2.trans B1 B1.size; clear F2 B1))
  go_ret
  exact ⟨⟨b2, rfl, hb2, N2⟩, B2⟩

set_option maxRecDepth 100000 in
set_option maxHeartbeats 1000000 in
theorem move_any (s : ByteArray) (hs : s.size < 2305843009213693952) (b p r x y e : Nat) (hpr : p ≤ r) (hr : r ≤ s.size) (hx : x < 2305843009213693952) (hy : y < 2305843009213693952) (w : World) (hL : IsS w b 78 (lexL s p (x, y) e)) :
    Calls Tryd.prog 29 #[.pointer (some ⟨b, 0, none⟩), .int .i64 (r : Int)] w fun en w' => en = .returned (.tuple #[]) ∧ IsS w' b 78 (lexL s r (spotF (x, y) ((s.data.toList.take r).drop p)) e) ∧ Turn w w' b := by
  have cB : ∀ w, Calls Tryd.prog 42 #[.agg #[.int .i64 (x : Int), .int .i64 (y : Int)], .string (s.extract p r)] w fun e w' => e = .returned (spotV (spotF (x, y) ((s.data.toList.take r).drop p))) ∧ Below w.heap.size w w' := fun w => by
    have := behind_any x y (s.extract p r) (by rw [ByteArray.size_extract]; omega) hx hy w
    rwa [exL] at this
  generalize spotF (x, y) ((s.data.toList.take r).drop p) = Z at *
  obtain ⟨z1, z2⟩ := Z
  have h1 : (p : Int) ≤ r := by omega
  have h2 : (r : Int) ≤ s.size := by omega
  go_enter Tryd.func29, Tryd.ntmps29
  go_wp2_with fail
  refine grow_tail 18 (by kernel_rfl) (by kernel_rfl) ?_
  simp only [List.take_succ_cons, List.take_zero, List.drop_succ_cons, List.drop_zero]
  refine wpG_put rfl (v := .pointer (some ⟨b, 0, none⟩)) (fun w => by first | rfl | (go_simp; done)) ?_
  refine wpG_put rfl (v := .pointer (some ⟨b, 0, none⟩)) (fun w => by first | rfl | (go_simp; done)) ?_
  refine wpG_put rfl (v := .pointer (some ⟨b, 0, none⟩)) (fun w => by first | rfl | (go_simp; done)) ?_
  simp only [Act.put, List.setIfInBounds_toArray, List.set_cons_succ, List.set_cons_zero]
  refine wpG_put rfl (v := .pointer (some ⟨b, 2, none⟩)) (fun w => by first | rfl | (go_simp; done)) ?_
  refine wpG_loadP rfl 75 _ rfl rfl hL 2 [.int .i64 (x : Int), .int .i64 (y : Int)] rfl _ Tryd.underlying75 rfl info63 ?_
  simp only [Act.put, List.setIfInBounds_toArray, List.set_cons_succ, List.set_cons_zero]
  refine wpG_put rfl (v := .pointer (some ⟨b, 0, none⟩)) (fun w => by first | rfl | (go_simp; done)) ?_
  refine wpG_put rfl (v := .pointer (some ⟨b, 0, none⟩)) (fun w => by first | rfl | (go_simp; done)) ?_
  refine wpG_put rfl (v := .pointer (some ⟨b, 0, none⟩)) (fun w => by first | rfl | (go_simp; done)) ?_
  simp only [Act.put, List.setIfInBounds_toArray, List.set_cons_succ, List.set_cons_zero]
  refine wpG_load1 rfl 9 _ rfl rfl hL (v := .string s) rfl ld9 ?_
  refine wpG_put rfl (v := .pointer (some ⟨b, 0, none⟩)) (fun w => by first | rfl | (go_simp; done)) ?_
  refine wpG_put rfl (v := .pointer (some ⟨b, 0, none⟩)) (fun w => by first | rfl | (go_simp; done)) ?_
  simp only [Act.put, List.setIfInBounds_toArray, List.set_cons_succ, List.set_cons_zero]
  refine wpG_put rfl (v := .pointer (some ⟨b, 1, none⟩)) (fun w => by first | rfl | (go_simp; done)) ?_
  refine wpG_load1 rfl 3 _ rfl rfl hL (v := .int .i64 (p : Int)) rfl ld3 ?_
  simp only [Act.put, List.setIfInBounds_toArray, List.set_cons_succ, List.set_cons_zero]
  refine wpG_put rfl (v := .int .i64 (r : Int)) (fun w => by first | rfl | (go_simp; done)) ?_
  refine wpG_put rfl (v := .string (s.extract p r)) (fun w => by first | rfl | (go_simp; done)) ?_
  simp only [Act.put, List.setIfInBounds_toArray, List.set_cons_succ, List.set_cons_zero]
  refine wpG_call rfl (fun w _ => cB w) (fun w => by first | rfl | (go_simp; done)) ?_
  simp only [Act.put, List.setIfInBounds_toArray, List.set_cons_succ, List.set_cons_zero]
  refine wpG_put rfl (v := .pointer (some ⟨b, 0, none⟩)) (fun w => by first | rfl | (go_simp; done)) ?_
  refine wpG_put rfl (v := .pointer (some ⟨b, 2, none⟩)) (fun w => by first | rfl | (go_simp; done)) ?_
  simp only [Act.put, List.setIfInBounds_toArray, List.set_cons_succ, List.set_cons_zero]
  refine wpG_nil ?_
  intro W1 B1
  have N1 := hL.grown B1
  have T1 := Turn.of_below B1 b
  refine wpList_storeS rfl 75 _ _ rfl rfl [.int .i64 (z1 : Int), .int .i64 (z2 : Int)] rfl N1 (by simp [lexL]) info63 (by simp [Value.oneCell']) ?_
  intro W2 U2 N2
  have T2 := T1.trans (Turn.of_upd U2)
  clear T1 U2 N1 B1 hL cB
  go_wp2_with (first
    | (refine wpList_store1 rfl 3 _ _ rfl rfl (.int .i64 (r : Int)) rfl N2 (by simp [putL, lexL]) info3 rfl ?_; intro W3 U3 N3; have T3 := T2.trans (Turn.of_upd U3); clear T2 U3 N2))
  exact ⟨rfl, .tuple #[], (by simp [results, Tryd.results29, go_sem]), rfl, N3, T3⟩
end Go.Proofs.YtopnbemodlcknaaDoor.Lx

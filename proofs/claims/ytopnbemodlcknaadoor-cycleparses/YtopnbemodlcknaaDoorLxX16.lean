/- Next. -/
import Derived.Test.YtopnbemodlcknaaDoorLxX15
namespace Go.Proofs.YtopnbemodlcknaaDoor.Lx
open Go.RowKit M
set_option linter.unusedSimpArgs false
set_option linter.unusedVariables false

theorem wpList_loadP {w : World} {b t o : Nat} {cs : List Value} {ops : Array Oper} {rest : List Oper} {op : Oper} {a : Act} {Q : Exit → Act → World → Prop} (hgd : op.guard = none) (ty : TypeId) (x : Operand) (ho : op.op = .load ty x) (hx : a.eval x = .pointer (some ⟨b, o, none⟩)) (hc : IsS w b t cs) (k : Nat) (sub : List Value) (hsub : (cs.drop o).take k = sub) (d : TypeDesc)
    (hu : Tryd.prog.underlying ty = some d) (hd : d.isRow = true) (hi : (Tryd.prog.info? ty).map (·.size) = some sub.length)
    (h : wpList Tryd.prog ops Q rest (a.put op.dst (.agg sub.toArray)) w) : wpList Tryd.prog ops Q (op :: rest) a w := by
  subst hsub
  exact wpList_loadS hgd ty x ho hx hc k d hu hd hi h
/-- A token. -/
structure Tok where
  kind : Nat
  text : List UInt8
  value : Int
  line : Nat
  col : Nat
  at' : Nat
  fin : Nat
def tokL (t : Tok) : List Value := [.int .i64 (t.kind : Int), .string ⟨t.text.toArray⟩, .int .i64 t.value, .int .i64 (t.line : Int), .int .i64 (t.col : Int), .int .i64 (t.at' : Int), .int .i64 (t.fin : Int)]
def tokV (t : Tok) : Value := .agg (tokL t).toArray
def noTok : Tok := ⟨0, [], 0, 0, 0, 0, 0⟩
theorem tok_one (t : Tok) : ∀ v ∈ tokL t, v.oneCell' = true := by simp [tokL, Value.oneCell']
theorem info38 : (Tryd.prog.info? 44).map (·.size) = some 7 := by kernel_rfl

theorem ret_ST {w : World} {b t k : Nat} {cs : List Value} {fn : Func} {p : Tmp} {R : Ending → World → Prop} {a : Act} (h : fn.results = #[.cell p t, .tmp k]) (hp : a.tmps.getD p undef = .pointer (some ⟨b, 0, none⟩))
    (hd : a.defers = []) (hc : IsS w b t cs) (d : TypeDesc) (hu : Tryd.prog.underlying t = some d) (hr : (match d with | .struct _ => true | .array _ _ => true | _ => false) = true) (hi : (Tryd.prog.info? t).map (·.size) = some cs.length) (v : Value) (hv : a.tmps.getD k undef = v) (hR : R (.returned (.tuple #[.agg cs.toArray, v])) w) : bodyPost Tryd.prog fn R .ret a w := by
  have hc' : w.heap[b]? = some (.cells cs.toArray t (0, 0)) := hc
  have hp' : a.tmps[p]?.getD undef = .pointer (some ⟨b, 0, none⟩) := by simpa using hp
  have hv' : a.tmps[k]?.getD undef = v := by simpa using hv
  refine ⟨hd, .tuple #[.agg cs.toArray, v], ?_, hR⟩
  simp [results, h, hp', hv', asAddr, run_loadVar_row w b t t cs.toArray (0, 0) d hc' hu (by cases d <;> simp_all) (by simpa using hi)]

set_option maxRecDepth 100000 in
set_option maxHeartbeats 2000000 in
theorem next_long (s : ByteArray) (hsz : s.size < 4611686018427387904) (hs : s.size > 1048576) (b p x y E : Nat) (w : World) (hL : IsS w b 78 (lexL s p (x, y) E)) :
    Calls Tryd.prog 21 #[.pointer (some ⟨b, 0, none⟩)] w fun en w' => (en = .returned (.tuple #[tokV noTok, .iface 48 (.int .i64 1)]) ∧ IsS w' b 78 (lexL s p (x, y) E)) ∧ Turn w w' b := by
  have hi : (1048576 : Int) < s.size := by omega
  go_enter Tryd.func21, Tryd.ntmps21
  go_wp2_with (first
    | (refine wpList_allocS rfl 44 rfl (tokL noTok) Tryd.zeroValue44 ?_; intro W1 b2 F1 N1; have hb2 : w.heap.size ≤ b2 := Nat.le_of_eq F1.at'.symm; have hne : b2 ≠ b := (by have := hL.lt; omega); have K1 := hL.fresh F1; have T1 := Turn.of_below (F1.trans (Below.refl _ _) (Nat.le_refl _)) b; clear F1; have c0 : W1.cell? ⟨b, 0, none⟩ = some (.string s) := K1.cell 0; have c4 : W1.cell? ⟨b, 4, none⟩ = some (.int .i64 (E : Int)) := K1.cell 4)
    | (refine wpList_storeS rfl 44 _ _ rfl rfl (tokL noTok) rfl N1 (by simp [tokL]) info38 (tok_one noTok) ?_; intro W9 U9 N9; have T9 := T1.upd hb2 U9; have K9 := K1.upd U9 (Ne.symm hne); clear U9 N1 K1 T1))
  exact ret_ST rfl rfl rfl N9 _ Tryd.underlying44 rfl info38 _ rfl ⟨⟨rfl, K9⟩, T9⟩

set_option maxRecDepth 100000 in
set_option maxHeartbeats 2000000 in
theorem next_bad (s : ByteArray) (hs : s.size ≤ 1048576) (b p x y E : Nat) (hE : E ≠ 0) (w : World) (hL : IsS w b 78 (lexL s p (x, y) E)) :
    Calls Tryd.prog 21 #[.pointer (some ⟨b, 0, none⟩)] w fun en w' => ((∃ g, en = .returned (.tuple #[tokV noTok, .iface 47 (.pointer (some ⟨g, 0, none⟩))]) ∧ w.heap.size ≤ g ∧ IsS w' g 50 (faultL x y E)) ∧ IsS w' b 78 (lexL s p (x, y) E)) ∧ Turn w w' b := by
  have hi : ¬ (1048576 : Int) < s.size := by omega
  have hE' : ((E : Int) == 0) = false := by simp; omega
  go_enter Tryd.func21, Tryd.ntmps21
  go_wp2_with (first
    | (refine wpList_allocS rfl 44 rfl (tokL noTok) Tryd.zeroValue44 ?_; intro W1 b2 F1 N1; have hb2 : w.heap.size ≤ b2 := Nat.le_of_eq F1.at'.symm; have hne : b2 ≠ b := (by have := hL.lt; omega); have K1 := hL.fresh F1; have T1 := Turn.of_below (F1.trans (Below.refl _ _) (Nat.le_refl _)) b; clear F1; have c0 : W1.cell? ⟨b, 0, none⟩ = some (.string s) := K1.cell 0; have c4 : W1.cell? ⟨b, 4, none⟩ = some (.int .i64 (E : Int)) := K1.cell 4)
    | (go_at_call 27; refine (fault_any s b _ _ _ _ _ K1).mono ?_; rintro en WF ⟨⟨g, rfl, hg, NG⟩, BF⟩; have NF := N1.grown BF; have KF := K1.grown BF; have TF := T1.grow BF; have hgw : w.heap.size ≤ g := Nat.le_trans T1.size hg; have hgb : g ≠ b2 := (by have := N1.lt; omega); clear BF hg N1 K1 T1)
    | (refine wpList_storeS rfl 44 _ _ rfl rfl (tokL noTok) rfl NF (by simp [tokL]) info38 (tok_one noTok) ?_; intro W9 U9 N9; have T9 := TF.upd hb2 U9; have K9 := KF.upd U9 (Ne.symm hne); have G9 := NG.upd U9 hgb; clear U9 NF KF TF NG))
  exact ret_ST rfl rfl rfl N9 _ Tryd.underlying44 rfl info38 _ rfl ⟨⟨⟨g, rfl, hgw, G9⟩, K9⟩, T9⟩

set_option maxRecDepth 100000 in
set_option maxHeartbeats 2000000 in
theorem next_com (s : ByteArray) (hs : s.size ≤ 1048576) (b p x y : Nat) (n z1 z2 : Nat) (hp : p ≤ s.size) (hx : x < 2305843009213693952) (hy : y < 2305843009213693952) (hn : (blkF (s.data.toList.drop p)).1 = n) (hcl : (blkF (s.data.toList.drop p)).2 = false) (hq : spotF (x, y) ((s.data.toList.drop p).take n) = (z1, z2)) (m : Nat) (hm : p + n = m) (w : World) (hL : IsS w b 78 (lexL s p (x, y) 0)) :
    Calls Tryd.prog 21 #[.pointer (some ⟨b, 0, none⟩)] w fun en w' => ((∃ g, en = .returned (.tuple #[tokV noTok, .iface 47 (.pointer (some ⟨g, 0, none⟩))]) ∧ w.heap.size ≤ g ∧ IsS w' g 50 (faultL z1 z2 51)) ∧ IsS w' b 78 (lexL s m (z1, z2) 51)) ∧ Turn w w' b := by
  have cS : ∀ w, IsS w b 78 (lexL s p (x, y) 0) → Calls Tryd.prog 26 #[.pointer (some ⟨b, 0, none⟩)] w fun en w' => en = .returned (.tuple #[]) ∧ IsS w' b 78 (lexL s m (z1, z2) 51) ∧ Turn w w' b := fun w h => by
    have := skip_any s (by omega) b p x y hp hx hy w h
    rw [hcl, hn, hq, hm] at this
    exact this
  have hi : ¬ (1048576 : Int) < s.size := by omega
  clear hn hcl hq hm
  go_enter Tryd.func21, Tryd.ntmps21
  go_wp2_with (first
    | (refine wpList_allocS rfl 44 rfl (tokL noTok) Tryd.zeroValue44 ?_; intro W1 b2 F1 N1; have hb2 : w.heap.size ≤ b2 := Nat.le_of_eq F1.at'.symm; have hne : b2 ≠ b := (by have := hL.lt; omega); have K1 := hL.fresh F1; have T1 := Turn.of_below (F1.trans (Below.refl _ _) (Nat.le_refl _)) b; clear F1; have c0 : W1.cell? ⟨b, 0, none⟩ = some (.string s) := K1.cell 0; have c4 : W1.cell? ⟨b, 4, none⟩ = some (.int .i64 (0 : Int)) := K1.cell 4)
    | (go_at_call 26; refine (cS _ K1).mono ?_; rintro en W2 ⟨rfl, K2, T2⟩; have N2 := N1.turnL T2 hne; have T3 := T1.trans T2; clear T1 T2 N1 K1 c0 c4; have d4 : W2.cell? ⟨b, 4, none⟩ = some (.int .i64 (51 : Int)) := K2.cell 4)
    | (go_at_call 27; refine (fault_any s b _ _ _ _ _ K2).mono ?_; rintro en WF ⟨⟨g, rfl, hg, NG⟩, BF⟩; have NF := N2.grown BF; have KF := K2.grown BF; have TF := T3.grow BF; have hgw : w.heap.size ≤ g := Nat.le_trans T3.size hg; have hgb : g ≠ b2 := (by have := N2.lt; omega); clear BF hg N2 K2 T3)
    | (refine wpList_storeS rfl 44 _ _ rfl rfl (tokL noTok) rfl NF (by simp [tokL]) info38 (tok_one noTok) ?_; intro W9 U9 N9; have T9 := TF.upd hb2 U9; have K9 := KF.upd U9 (Ne.symm hne); have G9 := NG.upd U9 hgb; clear U9 NF KF TF NG))
  exact ret_ST rfl rfl rfl N9 _ Tryd.underlying44 rfl info38 _ rfl ⟨⟨⟨g, rfl, hgw, G9⟩, K9⟩, T9⟩

set_option maxRecDepth 100000 in
set_option maxHeartbeats 2000000 in
theorem next_end (s : ByteArray) (hs : s.size ≤ 1048576) (b p x y : Nat) (n z1 z2 : Nat) (hp : p ≤ s.size) (hx : x < 2305843009213693952) (hy : y < 2305843009213693952) (hn : (blkF (s.data.toList.drop p)).1 = n) (hcl : (blkF (s.data.toList.drop p)).2 = true) (hq : spotF (x, y) ((s.data.toList.drop p).take n) = (z1, z2)) (m : Nat) (hm : p + n = m) (hend : m = s.size) (w : World) (hL : IsS w b 78 (lexL s p (x, y) 0)) :
    Calls Tryd.prog 21 #[.pointer (some ⟨b, 0, none⟩)] w fun en w' => (en = .returned (.tuple #[tokV ⟨0, [], 0, z1, z2, m, m⟩, .nilIface]) ∧ IsS w' b 78 (lexL s m (z1, z2) 0)) ∧ Turn w w' b := by
  have cS : ∀ w, IsS w b 78 (lexL s p (x, y) 0) → Calls Tryd.prog 26 #[.pointer (some ⟨b, 0, none⟩)] w fun en w' => en = .returned (.tuple #[]) ∧ IsS w' b 78 (lexL s m (z1, z2) 0) ∧ Turn w w' b := fun w h => by
    have := skip_any s (by omega) b p x y hp hx hy w h
    rw [hcl, hn, hq, hm] at this
    exact this
  have hi : ¬ (1048576 : Int) < s.size := by omega
  clear hn hcl hq hm
  have hen : ((m : Int) == s.size) = true := by simp; omega
  clear hend
  go_enter Tryd.func21, Tryd.ntmps21
  go_wp2_with (first
    | (refine wpList_allocS rfl 44 rfl (tokL noTok) Tryd.zeroValue44 ?_; intro W1 b2 F1 N1; have hb2 : w.heap.size ≤ b2 := Nat.le_of_eq F1.at'.symm; have hne : b2 ≠ b := (by have := hL.lt; omega); have K1 := hL.fresh F1; have T1 := Turn.of_below (F1.trans (Below.refl _ _) (Nat.le_refl _)) b; clear F1; have c0 : W1.cell? ⟨b, 0, none⟩ = some (.string s) := K1.cell 0; have c4 : W1.cell? ⟨b, 4, none⟩ = some (.int .i64 (0 : Int)) := K1.cell 4)
    | (go_at_call 26; refine (cS _ K1).mono ?_; rintro en W2 ⟨rfl, K2, T2⟩; have N2 := N1.turnL T2 hne; have T3 := T1.trans T2; clear T1 T2 N1 K1 c0 c4; have d4 : W2.cell? ⟨b, 4, none⟩ = some (.int .i64 (0 : Int)) := K2.cell 4))
  refine grow_make 19 _ (MadeS 44 (tokL noTok) W2) (by kernel_rfl) (by kernel_rfl) rfl rfl (madeS_grown _ _ W2) (madeS_make _ _ Tryd.zeroValue44 rfl W2) ?_
  simp only [List.take_succ_cons, List.take_zero, List.drop_succ_cons, List.drop_zero]
  refine wpG_put rfl (v := .pointer (some ⟨b, 0, none⟩)) (fun w => by first | rfl | (go_simp; done)) ?_
  refine wpG_put rfl (v := .pointer (some ⟨b, 0, none⟩)) (fun w => by first | rfl | (go_simp; done)) ?_
  refine wpG_put rfl (v := .pointer (some ⟨b, 2, none⟩)) (fun w => by first | rfl | (go_simp; done)) ?_
  simp only [Act.put, List.setIfInBounds_toArray, List.set_cons_succ, List.set_cons_zero]
  refine wpG_put rfl (v := .pointer (some ⟨b, 2, none⟩)) (fun w => by first | rfl | (go_simp; done)) ?_
  refine wpG_load1 rfl 3 _ rfl rfl K2 (v := .int .i64 (z1 : Int)) rfl ld3 ?_
  simp only [Act.put, List.setIfInBounds_toArray, List.set_cons_succ, List.set_cons_zero]
  refine wpG_put rfl (v := .pointer (some ⟨b, 0, none⟩)) (fun w => by first | rfl | (go_simp; done)) ?_
  refine wpG_put rfl (v := .pointer (some ⟨b, 0, none⟩)) (fun w => by first | rfl | (go_simp; done)) ?_
  refine wpG_put rfl (v := .pointer (some ⟨b, 2, none⟩)) (fun w => by first | rfl | (go_simp; done)) ?_
  simp only [Act.put, List.setIfInBounds_toArray, List.set_cons_succ, List.set_cons_zero]
  refine wpG_put rfl (v := .pointer (some ⟨b, 3, none⟩)) (fun w => by first | rfl | (go_simp; done)) ?_
  refine wpG_load1 rfl 3 _ rfl rfl K2 (v := .int .i64 (z2 : Int)) rfl ld3 ?_
  simp only [Act.put, List.setIfInBounds_toArray, List.set_cons_succ, List.set_cons_zero]
  refine wpG_put rfl (v := .pointer (some ⟨b, 0, none⟩)) (fun w => by first | rfl | (go_simp; done)) ?_
  refine wpG_put rfl (v := .pointer (some ⟨b, 0, none⟩)) (fun w => by first | rfl | (go_simp; done)) ?_
  refine wpG_put rfl (v := .pointer (some ⟨b, 1, none⟩)) (fun w => by first | rfl | (go_simp; done)) ?_
  simp only [Act.put, List.setIfInBounds_toArray, List.set_cons_succ, List.set_cons_zero]
  refine wpG_load1 rfl 3 _ rfl rfl K2 (v := .int .i64 (m : Int)) rfl ld3 ?_
  simp only [Act.put, List.setIfInBounds_toArray, List.set_cons_succ, List.set_cons_zero]
  refine wpG_put rfl (v := .pointer (some ⟨b, 0, none⟩)) (fun w => by first | rfl | (go_simp; done)) ?_
  refine wpG_put rfl (v := .pointer (some ⟨b, 0, none⟩)) (fun w => by first | rfl | (go_simp; done)) ?_
  refine wpG_put rfl (v := .pointer (some ⟨b, 1, none⟩)) (fun w => by first | rfl | (go_simp; done)) ?_
  simp only [Act.put, List.setIfInBounds_toArray, List.set_cons_succ, List.set_cons_zero]
  refine wpG_load1 rfl 3 _ rfl rfl K2 (v := .int .i64 (m : Int)) rfl ld3 ?_
  simp only [Act.put, List.setIfInBounds_toArray, List.set_cons_succ, List.set_cons_zero]
  refine wpG_put rfl (v := .agg #[.int .i64 0, .string ⟨#[]⟩, .int .i64 0, .int .i64 (z1 : Int), .int .i64 (z2 : Int), .int .i64 (m : Int), .int .i64 (m : Int)]) (fun w => by first | rfl | (go_simp; done)) ?_
  simp only [Act.put, List.setIfInBounds_toArray, List.set_cons_succ, List.set_cons_zero]
  refine wpG_nil ?_
  rintro v W3 ⟨B3, b4, rfl, hb4, M3⟩
  simp only [Act.put, List.setIfInBounds_toArray, List.set_cons_succ, List.set_cons_zero]
  have hb4w : w.heap.size ≤ b4 := Nat.le_trans T3.size hb4
  have h42 : b2 ≠ b4 := (by have := N2.lt; omega)
  have h4b : b ≠ b4 := (by have := K2.lt; omega)
  have N3 := N2.grown B3
  have K3 := K2.grown B3
  have T4 := T3.grow B3
  clear N2 K2 T3 d4 B3
  refine wpList_storeS rfl 44 _ _ rfl rfl (tokL ⟨0, [], 0, z1, z2, m, m⟩) rfl M3 (by simp [tokL, noTok]) info38 (tok_one _) ?_
  intro W4 U4 M4x
  have M4 : IsS W4 b4 44 (tokL ⟨0, [], 0, z1, z2, m, m⟩) := M4x
  clear M4x
  have N4 := N3.upd U4 h42
  have K4 := K3.upd U4 h4b
  have T5 := T4.upd hb4w U4
  clear U4 N3 K3 T4 M3
  have f0 : W4.cell? ⟨b, 0, none⟩ = some (.string s) := K4.cell 0
  have f1 : W4.cell? ⟨b, 1, none⟩ = some (.int .i64 (m : Int)) := K4.cell 1
  go_wp2_with fail
  go_quiet (fail)
  have N5 : IsS (W4.drewN nq) b2 44 (tokL noTok) := N4
  have K5 : IsS (W4.drewN nq) b 78 (lexL s m (z1, z2) 0) := K4
  have M5 : IsS (W4.drewN nq) b4 44 (tokL ⟨0, [], 0, z1, z2, m, m⟩) := M4
  have T6 : Turn w (W4.drewN nq) b := T5.drewN nq
  clear N4 K4 M4 T5 f0 f1
  obtain ⟨W5, hW5⟩ : ∃ W, W4.drewN nq = W := ⟨_, rfl⟩
  rw [hW5] at N5 K5 M5 T6 ⊢
  clear hW5
  go_wp2_with (first
    | (refine wpList_loadP rfl 44 _ rfl rfl M5 7 (tokL ⟨0, [], 0, z1, z2, m, m⟩) rfl _ Tryd.underlying44 rfl info38 ?_)
    | (refine wpList_storeS rfl 44 _ _ rfl rfl (tokL ⟨0, [], 0, z1, z2, m, m⟩) rfl N5 (by simp [tokL]) info38 (tok_one _) ?_; intro W9 U9 N9; have T9 := T6.upd hb2 U9; have K9 := K5.upd U9 (Ne.symm hne); clear U9 N5 K5 T6))
  exact ret_ST rfl rfl rfl N9 _ Tryd.underlying44 rfl info38 _ rfl ⟨⟨rfl, K9⟩, T9⟩
end Go.Proofs.YtopnbemodlcknaaDoor.Lx

/- The reference's lexer by steps. -/
import Derived.Test.YtopnbemodlcknaaDoorLxK0
import Derived.Test.YtopnbemodlcknaaDoorLxV5
import Derived.Test.YtopnbemodlcknaaDoorLxVA
namespace Go.Proofs.YtopnbemodlcknaaDoor.Lx
open Go.RowKit M
set_option linter.unusedSimpArgs false
set_option linter.unusedVariables false

/-- A fault's cells. -/
def fL (F : Int × Int × Int) : List Value := [.int .i64 F.1, .int .i64 F.2.1, .int .i64 F.2.2]
theorem fL_one (F : Int × Int × Int) : ∀ v ∈ fL F, v.oneCell' = true := by simp [fL, Value.oneCell']
set_option maxRecDepth 100000 in
theorem ret_SS {w : World} {b t c u : Nat} {cs ds : List Value} {fn : Func} {p q : Tmp} {R : Ending → World → Prop} {a : Act} (h : fn.results = #[.cell p t, .cell q u]) (hp : a.tmps.getD p undef = .pointer (some ⟨b, 0, none⟩)) (hq : a.tmps.getD q undef = .pointer (some ⟨c, 0, none⟩))
    (hd : a.defers = []) (hc : IsS w b t cs) (he : IsS w c u ds) (d : TypeDesc) (hu : Tryd.prog.underlying t = some d) (hr : (match d with | .struct _ => true | .array _ _ => true | _ => false) = true) (hi : (Tryd.prog.info? t).map (·.size) = some cs.length)
    (d2 : TypeDesc) (hu2 : Tryd.prog.underlying u = some d2) (hr2 : (match d2 with | .struct _ => true | .array _ _ => true | _ => false) = true) (hi2 : (Tryd.prog.info? u).map (·.size) = some ds.length) (hR : R (.returned (.tuple #[.agg cs.toArray, .agg ds.toArray])) w) : bodyPost Tryd.prog fn R .ret a w := by
  have hc' : w.heap[b]? = some (.cells cs.toArray t (0, 0)) := hc
  have he' : w.heap[c]? = some (.cells ds.toArray u (0, 0)) := he
  have hp' : a.tmps[p]?.getD undef = .pointer (some ⟨b, 0, none⟩) := by simpa using hp
  have hq' : a.tmps[q]?.getD undef = .pointer (some ⟨c, 0, none⟩) := by simpa using hq
  refine ⟨hd, .tuple #[.agg cs.toArray, .agg ds.toArray], ?_, hR⟩
  simp [results, h, hp', hq', asAddr, run_loadVar_row w b t t cs.toArray (0, 0) d hc' hu (by cases d <;> simp_all) (by simpa using hi), run_loadVar_row w c u u ds.toArray (0, 0) d2 he' hu2 (by cases d2 <;> simp_all) (by simpa using hi2)]

theorem setCell_same {w : World} {b t o : Nat} {cs : List Value} {v : Value} (h : IsS w b t cs) (hv : cs[o]? = some v) : w.setCell ⟨b, o, none⟩ v = w := by
  have hb := h.lt
  have hg : w.heap[b] = .cells cs.toArray t := (by have := h; unfold IsS at this; rw [Array.getElem?_eq_getElem hb] at this; exact Option.some.inj this)
  have ho : o < cs.length := (List.getElem?_eq_some_iff.1 hv).1
  have hs : cs.toArray.setIfInBounds o v = cs.toArray := (by
    rw [List.setIfInBounds_toArray]
    congr 1
    refine List.ext_getElem? fun j => ?_
    rw [List.getElem?_set]
    split
    · rename_i e; subst e; rw [hv]
    · rfl)
  have hm : w.heap.modify b (fun | .cells c elem frozen => .cells (if (none : Option Addr).isSome then c else c.setIfInBounds o v) elem frozen | o => o) = w.heap := (by
    refine Array.ext (by simp) fun i h1 h2 => ?_
    rw [Array.getElem_modify]
    split
    · rename_i e; subst e; rw [hg]; simp [hs]
    · rfl)
  unfold World.setCell
  cases w
  simp only [World.mk.injEq, and_true, true_and]
  exact hm
theorem setCells_same {w : World} {b t : Nat} {cs : List Value} (h : IsS w b t cs) : ∀ (vs : List Value) (o : Nat), (∀ j v, vs[j]? = some v → cs[o + j]? = some v) → w.setCells b o vs = w
  | [], _, _ => rfl
  | v :: vs, o, hv => by
    rw [World.setCells, setCell_same h (o := o) (hv 0 v rfl)]
    exact setCells_same h vs (o + 1) fun j u hu => by
      have := hv (j + 1) u (by simpa using hu)
      rwa [show o + 1 + j = o + (j + 1) by omega]
/-- A store of what lies there already. -/
theorem wpG_same {ops : Array Oper} {W : World} {Q : Act → Prop} {rest : List Oper} {op : Oper} {a : Act} {b t : Nat} {cs : List Value} (hw : Region.wanted op (yielded ops a.tmps) = true) (ty : TypeId) (x y : Operand) (ho : op.op = .store ty x y) (hx : a.eval x = .pointer (some ⟨b, 0, none⟩)) (hy : a.eval y = .agg cs.toArray) (hc : IsS W b t cs)
    (hi : (Tryd.prog.info? ty).map (·.size) = some cs.length) (h1 : ∀ v ∈ cs, v.oneCell' = true)
    (h : wpG Tryd.prog ops W Q rest (a.put op.dst undef)) : wpG Tryd.prog ops W Q (op :: rest) a := by
  unfold wpG growOp
  rw [if_pos hw]
  refine ⟨undef, fun w hC => ?_, h⟩
  have hc' := hc.grown hC
  have e := setCells_same hc' cs 0 (fun j v hv => by rw [Nat.zero_add]; exact hv)
  have r := run_storeAt_mid (P := Tryd.prog) w b 0 ty cs.toArray (hc'.there 0 _ (by simp)) (by simpa using hi) (all_oneCell_toArray h1)
  rw [List.toList_toArray, e] at r
  unfold Oper.quietAt execOp
  simp only [ho, hx, hy, Sem.run_bind, r, Result.andThen_ok, Sem.run_pure]
  exact ⟨rfl, rfl⟩

set_option maxRecDepth 100000 in
set_option maxHeartbeats 4000000 in
theorem rnext_bad (s : ByteArray) (b p f : Nat) (q : Nat × Nat) (F1 F2 F3 : Int) (hF : F3 ≠ 0) (w : World) (hL : IsS w b 68 (rlexL s p (F1, F2, F3) f q)) :
    Calls Tryd.prog 17 #[.pointer (some ⟨b, 0, none⟩)] w fun en w' => (en = .returned (.tuple #[tokV noTok, .agg (fL (F1, F2, F3)).toArray]) ∧ IsS w' b 68 (rlexL s p (F1, F2, F3) f q)) ∧ Turn w w' b := by
  have hne : (F3 == 0) = false := by simpa using hF
  have hne' : (F3 != 0) = true := by simpa using hF
  have hb0 := hL.lt
  clear hF
  go_enter Tryd.func17, Tryd.ntmps17
  go_wp2_with (first
    | (refine wpList_allocS rfl 44 rfl (tokL noTok) Tryd.zeroValue44 ?_; intro W1 b2 F1 N2; have hb2 : w.heap.size ≤ b2 := Nat.le_of_eq F1.at'.symm; have K1 := hL.fresh F1; have T1 := Turn.of_below (F1.trans (Below.refl _ _) (Nat.le_refl _)) b; clear F1)
    | (refine wpList_allocS rfl 32 rfl (fL (0, 0, 0)) Tryd.zeroValue32 ?_; intro W2 b3 G1 N3; have hb3 : w.heap.size ≤ b3 := Nat.le_trans T1.size (Nat.le_of_eq G1.at'.symm); have K2 := K1.fresh G1; have M2 := N2.fresh G1; have h23 : b2 ≠ b3 := (by have := N2.lt; have := G1.at'; omega); have T2 := T1.grow (G1.trans (Below.refl _ _) (Nat.le_refl _)); clear G1 K1 N2 T1; have c4 : W2.cell? ⟨b, 4, none⟩ = some (.int .i64 F3) := K2.cell 4))
  refine grow_tail 6 (by kernel_rfl) (by kernel_rfl) ?_
  simp only [List.take_succ_cons, List.take_zero, List.drop_succ_cons, List.drop_zero]
  refine wpG_put rfl (v := .agg (tokL noTok).toArray) (fun w => by first | rfl | (go_simp; rfl) | (go_simp; done)) ?_
  refine wpG_put rfl (v := .pointer (some ⟨b, 0, none⟩)) (fun w => by first | rfl | (go_simp; done)) ?_
  refine wpG_put rfl (v := .pointer (some ⟨b, 0, none⟩)) (fun w => by first | rfl | (go_simp; done)) ?_
  simp only [Act.put, List.setIfInBounds_toArray, List.set_cons_succ, List.set_cons_zero]
  refine wpG_put rfl (v := .pointer (some ⟨b, 2, none⟩)) (fun w => by first | rfl | (go_simp; done)) ?_
  simp only [Act.put, List.setIfInBounds_toArray, List.set_cons_succ, List.set_cons_zero]
  refine wpG_loadP rfl 32 _ rfl rfl K2 3 (fL (F1, F2, F3)) rfl _ Tryd.underlying32 rfl info30 ?_
  refine wpG_same rfl 44 _ _ rfl rfl rfl M2 info38 (tok_one noTok) ?_
  simp only [Act.put, List.setIfInBounds_toArray, List.set_cons_succ, List.set_cons_zero]
  refine wpG_nil ?_
  intro W5 B5
  have K5 := K2.grown B5
  have M5 := M2.grown B5
  have P5 := N3.grown B5
  have T5 := T2.grow B5
  clear K2 M2 N3 T2 B5 c4
  go_wp2_with (first
    | (refine wpList_storeS rfl 32 _ _ rfl rfl (fL (F1, F2, F3)) rfl P5 (by simp [fL]) info30 (fL_one _) ?_; intro V9 U9 NZx; have NZ : IsS V9 b3 32 (fL (F1, F2, F3)) := NZx; have M9 := M5.upd U9 h23; have K9 := K5.upd U9 (by omega); have T9 := T5.upd hb3 U9; clear U9 P5 M5 K5 T5 NZx))
  exact ret_SS rfl rfl rfl rfl M9 NZ _ Tryd.underlying44 rfl info38 _ Tryd.underlying32 rfl info30 ⟨⟨rfl, K9⟩, T9⟩
end Go.Proofs.YtopnbemodlcknaaDoor.Lx

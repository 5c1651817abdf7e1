/- Small laws that the texts of this layer share. -/
import Derived.Test.YtcmkoffamolgmaaSL
namespace Go.Proofs.Ytcmkoffamolgmaa
open Go.RowKit M
set_option linter.unusedSimpArgs false
set_option linter.unusedVariables false

/-- Some values as cells. -/
def strE (s : ByteArray) : List Value := [.string s]
def intE (i : Int) : List Value := [.int .i64 i]
theorem flat1 {α : Type} (f : α → Value) : ∀ l : List α, l.flatMap (fun x => [f x]) = l.map f
  | [] => rfl
  | x :: l => by rw [List.flatMap_cons, flat1 f l]; rfl
theorem str_at {ss : List ByteArray} {j : Nat} {s : ByteArray} (h : ss[j]? = some s) : (ss.flatMap strE)[j]? = some (.string s) := by
  rw [show ss.flatMap strE = ss.map Value.string from flat1 _ ss, List.getElem?_map, h]; rfl
theorem int_at {ss : List Int} {j : Nat} {s : Int} (h : ss[j]? = some s) : (ss.flatMap intE)[j]? = some (.int .i64 s) := by
  rw [show ss.flatMap intE = ss.map (Value.int .i64) from flat1 _ ss, List.getElem?_map, h]; rfl
theorem take_at {α : Type} {l : List α} {k : Nat} {x : α} (h : l[k]? = some x) : l.take (k + 1) = l.take k ++ [x] := by
  obtain ⟨hk, e⟩ := List.getElem?_eq_some_iff.1 h
  rw [List.take_succ_eq_append_getElem hk, e]
theorem seg_isS {W : World} {b t : Nat} {cs : List Value} (h : IsS W b t cs) : Seg W (some ⟨b, 0, none⟩) cs := fun j v hv => ⟨b, 0, rfl, h.lt, by rw [h.cell, Nat.zero_add]; exact hv⟩
theorem row_isS {W : World} {b t n c : Nat} {cs : List Value} (h : IsS W b t cs) : RowV W (.slice (some ⟨b, 0, none⟩) n c) n cs := ⟨_, c, rfl, seg_isS h, fun e => by cases e⟩
theorem grown_below {B : Nat} {w0 w w' : World} {v : Value} {n : Nat} {xs : List Value} {t s : Nat} (h : Below B w0 w) (hB : B ≤ w.heap.size) (ho : w.ownsRow B t s v n xs) (hg : w.grownBy w' v.ownBlock) : Below B w0 w' := by
  refine ⟨hg.os.trans h.os, hg.tape.trans h.tape, hg.output.trans h.output, Nat.le_trans h.size hg.size, fun k hk => (hg.block k (Nat.lt_of_lt_of_le hk hB) (fun e => ?_)).trans (h.block k hk)⟩
  rcases ho.2 with ⟨rfl, _⟩ | ⟨g, cap, cur, rfl, hb, _⟩
  · cases e
  · simp [Value.ownBlock] at e; omega
theorem own_below {W W' : World} {B t s n : Nat} {v : Value} {xs : List Value} (h : W.ownsRow B t s v n xs) (hB : Below W.heap.size W W') : W'.ownsRow B t s v n xs := by
  refine ⟨h.1, ?_⟩
  rcases h.2 with hn | ⟨g, cap, cur, rfl, hg, hh, rest⟩
  · exact Or.inl hn
  · exact Or.inr ⟨g, cap, cur, rfl, hg, (hB.block g (Array.getElem?_eq_some_iff.1 hh).1).trans hh, rest⟩
theorem own_nil (W : World) (B t s : Nat) : W.ownsRow B t s (.slice none 0 0) 0 [] := ⟨by simp, .inl ⟨rfl, rfl⟩⟩
theorem own_form {W : World} {B t s n : Nat} {v : Value} {xs : List Value} (h : W.ownsRow B t s v n xs) : ∃ a c, v = .slice a n c := by
  rcases h.2 with ⟨rfl, rfl⟩ | ⟨g, cap, cur, rfl, _⟩
  · exact ⟨_, _, rfl⟩
  · exact ⟨_, _, rfl⟩
theorem F_b {w W : World} {b : Nat} (F : Fresh w W b) : Below w.heap.size w W := F.trans (Below.refl _ w) (Nat.le_refl _)
section
variable {w : World} {ops : Array Oper} {rest : List Oper} {op : Oper} {a : Act} {Q : Exit → Act → World → Prop} {t T k by' : Nat} {z : Value}
theorem wpList_build0E (E : Elt t T k z by') (hgd : op.guard = none) (ho : op.op = .buildSlice T 0 #[])
    (h : ∀ W b, Fresh w W b → W.ownsRow w.heap.size t k (.slice (some ⟨b, 0, none⟩) 0 0) 0 [] → wpList Try.prog ops Q rest (a.put op.dst (.slice (some ⟨b, 0, none⟩) 0 0)) W) : wpList Try.prog ops Q (op :: rest) a w := by
  refine wpList_plain hgd fun K hK => ?_
  unfold Oper.wp
  rw [exec_build0 E ho]
  exact hK _ _ (h _ _ (Fresh.alloc w _) (own_build0 E w))
theorem wpList_build1E (E : Elt t T 1 z by') (hgd : op.guard = none) (x : Operand) (ho : op.op = .buildSlice T 1 #[(0, x)]) (u : Value) (hx : a.eval x = u) (hc : u.oneCell' = true)
    (h : ∀ W b, Fresh w W b → IsS W b t [u] → wpList Try.prog ops Q rest (a.put op.dst (.slice (some ⟨b, 0, none⟩) 1 1)) W) : wpList Try.prog ops Q (op :: rest) a w := by
  refine wpList_plain hgd fun K hK => ?_
  unfold Oper.wp
  rw [exec_build1 E x ho u hx hc]
  exact hK _ _ (h _ _ (Fresh.alloc w _) (IsS.new w t [u]))
end
theorem own_raise {W : World} {B B' t s n : Nat} {v : Value} {xs : List Value} (h : W.ownsRow B' t s v n xs) (hb : B ≤ B') : W.ownsRow B t s v n xs := by
  refine ⟨h.1, ?_⟩
  rcases h.2 with hn | ⟨g, cap, cur, rfl, hg, rest⟩
  · exact Or.inl hn
  · exact Or.inr ⟨g, cap, cur, rfl, Nat.le_trans hb hg, rest⟩
theorem int_len (l : List Int) : (l.flatMap intE).length = l.length * 1 := by rw [show l.flatMap intE = l.map (Value.int .i64) from flat1 _ l]; simp
theorem str_len (l : List ByteArray) : (l.flatMap strE).length = l.length * 1 := by rw [show l.flatMap strE = l.map Value.string from flat1 _ l]; simp
theorem int_one (l : List Int) : ∀ v ∈ l.flatMap intE, v.oneCell' = true := fun v hv => by
  obtain ⟨r, _, h⟩ := List.mem_flatMap.1 hv; simp [intE] at h; subst h; rfl
theorem str_one (l : List ByteArray) : ∀ v ∈ l.flatMap strE, v.oneCell' = true := fun v hv => by
  obtain ⟨r, _, h⟩ := List.mem_flatMap.1 hv; simp [strE] at h; subst h; rfl
theorem own_cell {W : World} {B t s n : Nat} {v : Value} {xs : List Value} (h : W.ownsRow B t s v n xs) : v.oneCell' = true := by
  rcases h.2 with ⟨rfl, _⟩ | ⟨g, cap, cur, rfl, _⟩ <;> rfl
theorem own_grow {W W' : World} {B t tin k n m s : Nat} {v u : Value} {xs ys : List Value} (h : W.ownsRow B tin k u n xs) (ho : W.ownsRow B t s v m ys) (hg : W.grownBy W' v.ownBlock) (ht : tin ≠ t) : W'.ownsRow B tin k u n xs := by
  refine ⟨h.1, ?_⟩
  rcases h.2 with hn | ⟨g, cap, cur, rfl, hg1, hh, rest⟩
  · exact Or.inl hn
  · refine Or.inr ⟨g, cap, cur, rfl, hg1, (hg.block g (Array.getElem?_eq_some_iff.1 hh).1 (fun e => ?_)).trans hh, rest⟩
    rcases ho.2 with ⟨rfl, _⟩ | ⟨g', cap', cur', rfl, _, hh', _⟩
    · cases e
    · simp [Value.ownBlock] at e
      subst e
      rw [hh] at hh'
      simp at hh'
      exact ht hh'.2
def OwnRows {α : Type} (W : World) (B t tin k : Nat) (v : Value) (enc : α → List Value) (xss : List (List α)) : Prop :=
  ∃ vs : List Value, vs.length = xss.length ∧ W.ownsRow B t 1 v xss.length vs ∧ ∀ (j : Nat) u xs, vs[j]? = some u → xss[j]? = some xs → W.ownsRow B tin k u xs.length (xs.flatMap enc)
theorem OwnRows.rows {α : Type} {W : World} {B t tin k : Nat} {v : Value} {enc : α → List Value} {xss : List (List α)} (h : OwnRows W B t tin k v enc xss) : RowsV W v enc xss := by
  obtain ⟨vs, h1, h2, h3⟩ := h; exact ⟨vs, h1, own_row h2, fun j u xs hu hx => own_row (h3 j u xs hu hx)⟩
theorem exec_loadSX {w : World} {b t t' : Nat} {cs : List Value} {op : Oper} {a : Act} {p : Operand} {d : TypeDesc} (ho : op.op = .load t p) (hp : a.eval p = .pointer (some ⟨b, 0, none⟩)) (hc : IsS w b t' cs) (hu : Try.prog.underlying t = some d) (hd : d.isRow = true) (hi : (Try.prog.info? t).map (·.size) = some cs.length) : (execOp a.eval op).run Try.prog w = .ok (.value (.agg cs.toArray)) w := by
  have hr := run_loadAt_mid (P := Try.prog) w b 0 t cs d (fun i u hu => by rw [Nat.zero_add]; exact (hc.cell i).trans hu) hu hd hi
  unfold execOp
  simp only [ho, hp, Sem.run_bind, hr, Result.andThen_ok, Sem.run_pure]
theorem putL_get : ∀ (vs cs : List Value) (o j : Nat), o + vs.length ≤ cs.length → (putL cs o vs)[j]? = if o ≤ j ∧ j < o + vs.length then vs[j - o]? else cs[j]?
  | [], cs, o, j, h => by rw [if_neg (by simp only [List.length_nil]; omega)]; rfl
  | v :: vs, cs, o, j, h => by
    show (putL (cs.set o v) (o + 1) vs)[j]? = _
    simp only [List.length_cons] at *
    rw [putL_get vs (cs.set o v) (o + 1) j (by rw [List.length_set]; omega)]
    by_cases h1 : o + 1 ≤ j ∧ j < o + 1 + vs.length
    · rw [if_pos h1, if_pos (by omega), show j - o = (j - (o + 1)) + 1 by omega]; rfl
    · rw [if_neg h1]
      by_cases h2 : j = o
      · subst h2
        rw [if_pos (by omega), List.getElem?_set_self (by omega), Nat.sub_self]; rfl
      · rw [if_neg (by omega), List.getElem?_set_ne (by omega)]
theorem putL_all {cs vs : List Value} (h : vs.length = cs.length) : putL cs 0 vs = vs := by
  refine List.ext_getElem? fun j => ?_
  rw [putL_get _ _ _ _ (by omega)]
  by_cases hj : j < vs.length
  · rw [if_pos (by omega), Nat.sub_zero]
  · rw [if_neg (by omega), List.getElem?_eq_none (by omega), List.getElem?_eq_none (by omega)]
section
variable {w : World} {b t o : Nat} {cs : List Value} {ops : Array Oper} {rest : List Oper} {op : Oper} {a : Act} {Q : Exit → Act → World → Prop}
theorem wpList_loadW (hgd : op.guard = none) (ty : TypeId) (x : Operand) (ho : op.op = .load ty x) (hx : a.eval x = .pointer (some ⟨b, 0, none⟩)) (hc : IsS w b t cs) (d : TypeDesc)
    (hu : Try.prog.underlying ty = some d) (hd : d.isRow = true) (hi : (Try.prog.info? ty).map (·.size) = some cs.length)
    (h : wpList Try.prog ops Q rest (a.put op.dst (.agg cs.toArray)) w) : wpList Try.prog ops Q (op :: rest) a w := by
  have hr := hc.range 0 cs.length
  rw [List.drop_zero, List.take_length] at hr
  exact wpList_load_mid hgd ty x ho b 0 hx cs d hr hu hd hi h
theorem wpList_storeW (hgd : op.guard = none) (ty : TypeId) (x y : Operand) (ho : op.op = .store ty x y) (hx : a.eval x = .pointer (some ⟨b, 0, none⟩)) (vs : List Value) (hy : a.eval y = .agg vs.toArray) (hc : IsS w b t cs)
    (hk : vs.length = cs.length) (hi : (Try.prog.info? ty).map (·.size) = some vs.length) (h1 : ∀ v ∈ vs, v.oneCell' = true)
    (h : ∀ W, Upd w W b → IsS W b t vs → wpList Try.prog ops Q rest (a.put op.dst undef) W) : wpList Try.prog ops Q (op :: rest) a w :=
  wpList_storeS hgd ty x y ho hx vs hy hc (by omega) hi h1 (fun W U C => h W U (by rw [putL_all hk] at C; exact C))
end
theorem wpList_boxF {w : World} {ops : Array Oper} {rest : List Oper} {op : Oper} {a : Act} {Q : Exit → Act → World → Prop} (hgd : op.guard = none) (ty : TypeId) (x : Operand) (ho : op.op = .box ty x) (v : Value) (hx : a.eval x = v) (hv : v.cells = #[v])
    (h : ∀ W b, Fresh w W b → IsS W b ty [v] → wpList Try.prog ops Q rest (a.put op.dst (.pointer (some ⟨b, 0, none⟩))) W) : wpList Try.prog ops Q (op :: rest) a w := by
  refine wpList_plain hgd fun K hK => ?_
  unfold Oper.wp execOp
  simp only [ho, hx]
  have hb : (Instr.box ty v).run Try.prog w = .ok (.pointer (some ⟨w.heap.size, 0, none⟩)) (w.alloc (.cells [v].toArray ty)) := by
    simp [go_sem]
    exact congrArg (fun c => w.alloc (.cells c ty)) hv
  simp only [Sem.run_bind, hb, Result.andThen_ok, Sem.run_pure]
  exact hK _ _ (h _ _ (Fresh.alloc w _) (IsS.new w ty [v]))
theorem wpList_loadF {ops : Array Oper} {rest : List Oper} {op : Oper} {a : Act} {Q : Exit → Act → World → Prop} {w : World} {b t : Nat} {v : Value} (hgd : op.guard = none) (ty : TypeId) (x : Operand) (ho : op.op = .load ty x) (hx : a.eval x = .pointer (some ⟨b, 0, none⟩)) (I : IsS w b t [v])
    (hl : ∀ w, w.cell? ⟨b, 0, none⟩ = some v → (Instr.loadAt ty (.pointer (some ⟨b, 0, none⟩))).run Try.prog w = .ok v w) (h : wpList Try.prog ops Q rest (a.put op.dst v) w) : wpList Try.prog ops Q (op :: rest) a w := by
  refine wpList_plain hgd fun K hK => ?_
  unfold Oper.wp execOp
  simp only [ho, hx, Sem.run_bind, hl w (I.cell 0), Result.andThen_ok, Sem.run_pure]
  exact hK _ _ h
theorem ret_ST {w : World} {b t k : Nat} {cs : List Value} {fn : Func} {p : Tmp} {R : Ending → World → Prop} {a : Act} (h : fn.results = #[.cell p t, .tmp k]) (hp : a.tmps.getD p undef = .pointer (some ⟨b, 0, none⟩))
    (hd : a.defers = []) (hc : IsS w b t cs) (d : TypeDesc) (hu : Try.prog.underlying t = some d) (hr : (match d with | .struct _ => true | .array _ _ => true | _ => false) = true) (hi : (Try.prog.info? t).map (·.size) = some cs.length) (v : Value) (hv : a.tmps.getD k undef = v) (hR : R (.returned (.tuple #[.agg cs.toArray, v])) w) : bodyPost Try.prog fn R .ret a w := by
  have hc' : w.heap[b]? = some (.cells cs.toArray t (0, 0)) := hc
  have hp' : a.tmps[p]?.getD undef = .pointer (some ⟨b, 0, none⟩) := by simpa using hp
  have hv' : a.tmps[k]?.getD undef = v := by simpa using hv
  refine ⟨hd, .tuple #[.agg cs.toArray, v], ?_, hR⟩
  simp [results, h, hp', hv', asAddr, run_loadVar_row w b t t cs.toArray (0, 0) d hc' hu (by cases d <;> simp_all) (by simpa using hi)]
section
variable {w : World} {ops : Array Oper} {rest : List Oper} {op : Oper} {a : Act} {Q : Exit → Act → World → Prop}
theorem wpList_loadO {b o t : Nat} {cs : List Value} {v : Value} (hgd : op.guard = none) (ty : TypeId) (x : Operand) (ho : op.op = .load ty x) (hx : a.eval x = .pointer (some ⟨b, o, none⟩)) (I : IsS w b t cs) (hv : cs[o]? = some v)
    (hl : ∀ w, w.cell? ⟨b, o, none⟩ = some v → (Instr.loadAt ty (.pointer (some ⟨b, o, none⟩))).run Try.prog w = .ok v w) (h : wpList Try.prog ops Q rest (a.put op.dst v) w) : wpList Try.prog ops Q (op :: rest) a w := by
  refine wpList_plain hgd fun K hK => ?_
  unfold Oper.wp execOp
  simp only [ho, hx, Sem.run_bind, hl w ((I.cell o).trans hv), Result.andThen_ok, Sem.run_pure]
  exact hK _ _ h
end
section
variable {ops : Array Oper} {Q : Exit → Act → World → Prop}
theorem wpOp_cell {i : Nat} {o : Oper} {K : Act → World → Prop} {a : Act} {w : World} {v : Value} {b k : Nat} (hi : ops[i]? = some o) (hg : o.guard = none) (ty : TypeId) (x : Operand) (ho : o.op = .load ty x) (hx : a.eval x = .pointer (some ⟨b, k, none⟩))
    (hl : (Instr.loadAt ty (.pointer (some ⟨b, k, none⟩))).run Try.prog w = .ok v w) (h : K (a.put o.dst v) w) : wpOp Try.prog ops Q i K a w := by
  refine wpOp_value hi hg (v := v) (w' := w) ?_ h
  unfold execOp
  simp only [ho, hx, Sem.run_bind, hl, Result.andThen_ok, Sem.run_pure]
theorem wpOp_store {i : Nat} {o : Oper} {K : Act → World → Prop} {a : Act} {w : World} {b k t : Nat} {cs : List Value} (hi : ops[i]? = some o) (hg : o.guard = none) (ty : TypeId) (x y : Operand) (ho : o.op = .store ty x y) (hx : a.eval x = .pointer (some ⟨b, k, none⟩)) (v : Value) (hy : a.eval y = v) (hc : IsS w b t cs)
    (hk : k < cs.length) (hf : (Try.prog.info? ty).map (·.size) = some 1) (h1 : v.oneCell' = true) (h : ∀ W, Upd w W b → IsS W b t (cs.set k v) → K (a.put o.dst undef) W) : wpOp Try.prog ops Q i K a w := by
  unfold wpOp
  rw [hi]
  simp only [Region.wanted, hg, if_true]
  refine Or.inl ?_
  unfold Oper.wp execOp
  simp only [ho, hx, hy, Instr.storeAt, Instr.sureAddr, Sem.run_bind, Sem.run_pure, Result.andThen_ok, run_store1 w b k ty v (hc.there k 1 (by omega)) hf h1]
  exact h _ (Upd.setCell w b k v) (hc.set1 k v)
end
theorem wpOp_storeW {ops : Array Oper} {Q : Exit → Act → World → Prop} {i : Nat} {o : Oper} {K : Act → World → Prop} {a : Act} {w : World} {b t : Nat} {cs : List Value} (hi : ops[i]? = some o) (hg : o.guard = none) (ty : TypeId) (x y : Operand) (ho : o.op = .store ty x y) (hx : a.eval x = .pointer (some ⟨b, 0, none⟩)) (vs : List Value) (hy : a.eval y = .agg vs.toArray) (hc : IsS w b t cs)
    (hk : vs.length = cs.length) (hf : (Try.prog.info? ty).map (·.size) = some vs.length) (h1 : ∀ v ∈ vs, v.oneCell' = true) (h : ∀ W, Upd w W b → IsS W b t vs → K (a.put o.dst undef) W) : wpOp Try.prog ops Q i K a w := by
  unfold wpOp
  rw [hi]
  simp only [Region.wanted, hg, if_true]
  refine Or.inl ?_
  refine wp_store_mid ty x y ho b 0 vs.toArray hx hy (hc.there 0 _ (by simp [hk])) (by simpa using hf) (all_oneCell_toArray h1) ?_
  have h2 := h _ (Upd.setCells b vs 0 w) (by have := IsS.setL vs 0 cs w hc; rw [putL_all hk] at this; exact this)
  simpa using h2
theorem equalIn_fn (w : World) (d : Nat) (t : TypeId) (ps rs : Array TypeId) (v : Bool) (f : Fn) (ys : Array Value) (h : Try.prog.underlying t = some (.func ps rs v)) : (Op.equalIn (d + 1) t (.func f #[] ys) .nilFunc).run Try.prog w = .ok false w := by
  simp [Op.equalIn, run_underlying h]
theorem equal_fn (w : World) (t : TypeId) (ps rs : Array TypeId) (v : Bool) (f : Fn) (ys : Array Value) (h : Try.prog.underlying t = some (.func ps rs v)) : (Op.equal t (.func f #[] ys) .nilFunc).run Try.prog w = .ok false w := equalIn_fn w 9999 t ps rs v f ys h
theorem neq_fn (w : World) (t : TypeId) (ps rs : Array TypeId) (v : Bool) (f : Fn) (ys : Array Value) (h : Try.prog.underlying t = some (.func ps rs v)) : (binOp .neq t (.func f #[] ys) .nilFunc).run Try.prog w = .ok (.bool true) w := by
  simp [binOp, equal_fn w t ps rs v f ys h]
theorem equalIn_nil (w : World) (d : Nat) (t : TypeId) (ps rs : Array TypeId) (v : Bool) (h : Try.prog.underlying t = some (.func ps rs v)) : (Op.equalIn (d + 1) t .nilFunc .nilFunc).run Try.prog w = .ok true w := by
  simp [Op.equalIn, run_underlying h]
theorem equal_nil (w : World) (t : TypeId) (ps rs : Array TypeId) (v : Bool) (h : Try.prog.underlying t = some (.func ps rs v)) : (Op.equal t .nilFunc .nilFunc).run Try.prog w = .ok true w := equalIn_nil w 9999 t ps rs v h
theorem neq_nil (w : World) (t : TypeId) (ps rs : Array TypeId) (v : Bool) (h : Try.prog.underlying t = some (.func ps rs v)) : (binOp .neq t .nilFunc .nilFunc).run Try.prog w = .ok (.bool false) w := by
  simp [binOp, equal_nil w t ps rs v h]
theorem five4 {v0 v1 v2 v3 : Value} {W : World} {b t : Nat} (h : IsS W b t [v0, v1, v2, v3]) : W.cell? ⟨b, 0, none⟩ = some v0 ∧ W.cell? ⟨b, 1, none⟩ = some v1 ∧ W.cell? ⟨b, 2, none⟩ = some v2 ∧ W.cell? ⟨b, 3, none⟩ = some v3 := ⟨h.cell 0, h.cell 1, h.cell 2, h.cell 3⟩
theorem own_same {w W : World} {B t s n : Nat} {v : Value} {xs : List Value} (h : w.ownsRow B t s v n xs) (hb : ∀ k, v.ownBlock = some k → W.heap[k]? = w.heap[k]?) : W.ownsRow B t s v n xs := by
  refine ⟨h.1, ?_⟩
  rcases h.2 with hn | ⟨g, cap, cur, rfl, hg, hh, rest⟩
  · exact Or.inl hn
  · exact Or.inr ⟨g, cap, cur, rfl, hg, (hb g rfl).trans hh, rest⟩
theorem own_lt {w : World} {B t s n k : Nat} {v : Value} {xs : List Value} (h : w.ownsRow B t s v n xs) (hk : v.ownBlock = some k) : B ≤ k ∧ k < w.heap.size := h.lt k hk
theorem eql_fn (w : World) (t : TypeId) (ps rs : Array TypeId) (v : Bool) (f : Fn) (ys : Array Value) (h : Try.prog.underlying t = some (.func ps rs v)) : (binOp .eql t (.func f #[] ys) .nilFunc).run Try.prog w = .ok (.bool false) w := by
  simp [binOp, equal_fn w t ps rs v f ys h]
theorem eql_nil (w : World) (t : TypeId) (ps rs : Array TypeId) (v : Bool) (h : Try.prog.underlying t = some (.func ps rs v)) : (binOp .eql t .nilFunc .nilFunc).run Try.prog w = .ok (.bool true) w := by
  simp [binOp, equal_nil w t ps rs v h]
def padI (vs : List Int) : List Int := vs ++ List.replicate (48 - vs.length) 0
def finL (vs : List Int) : List Value := .int .i64 (vs.length : Int) :: (padI vs).map (.int .i64)
theorem padI_len {vs : List Int} (h : vs.length ≤ 48) : (padI vs).length = 48 := by unfold padI; rw [List.length_append, List.length_replicate]; omega
theorem finL_len {vs : List Int} (h : vs.length ≤ 48) : (finL vs).length = 49 := by unfold finL; rw [List.length_cons, List.length_map, padI_len h]
theorem finL_one (vs : List Int) : ∀ v ∈ finL vs, v.oneCell' = true := fun v hv => by
  unfold finL at hv
  rcases List.mem_cons.1 hv with rfl | hv
  · rfl
  · obtain ⟨i, _, rfl⟩ := List.mem_map.1 hv; rfl
end Go.Proofs.Ytcmkoffamolgmaa

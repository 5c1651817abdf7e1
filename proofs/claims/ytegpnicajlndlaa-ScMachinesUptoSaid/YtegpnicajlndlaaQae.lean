/- S1, CL, G0 -/
import Derived.Test.YtegpnicajlndlaaQad
namespace Go.Proofs.Ytegpnicajlndlaa
open Go.RowKit
set_option linter.unusedSimpArgs false
set_option linter.unusedVariables false
def IsS (w : World) (b t : Nat) (cs : List Value) : Prop := w.heap[b]? = some (.cells cs.toArray t)
def putL : List Value → Nat → List Value → List Value
 | cs, _, [] => cs
 | cs, o, v :: vs => putL (cs.set o v) (o + 1) vs
section
variable {w W w' : World} {b b' B t : Nat} {cs : List Value}
theorem IsS.lt (h : IsS w b t cs) : b < w.heap.size := (Array.getElem?_eq_some_iff.1 h).1
theorem IsS.cell (h : IsS w b t cs) (j : Nat) : w.cell? ⟨b, j, none⟩ = cs[j]? := by
 rw [cell_of_row w b j cs.toArray t (0, 0) h]; simp
theorem IsS.frozen (h : IsS w b t cs) (j : Nat) : w.frozen? ⟨b, j, none⟩ = false := by
 have h' : w.heap[b]? = some (.cells cs.toArray t (0, 0)) := h
 simp [World.frozen?, h']
theorem IsS.below (h : IsS w b t cs) (hB : Below B w w') (hb : b < B) : IsS w' b t cs := (hB.block b hb).trans h
theorem IsS.grown (h : IsS w b t cs) (hB : Below w.heap.size w w') : IsS w' b t cs := h.below hB h.lt
theorem IsS.new (w : World) (t : Nat) (cs : List Value) : IsS (w.alloc (.cells cs.toArray t)) w.heap.size t cs := heap_alloc_last w _
theorem IsS.fresh (h : IsS w b t cs) (F : Fresh w W b') : IsS W b t cs := h.below F.below (by rw [F.at']; exact h.lt)
theorem IsS.upd (h : IsS w b t cs) (U : Upd w W b') (hb : b ≠ b') : IsS W b t cs := (U.block b hb).trans h
theorem IsS.range (h : IsS w b t cs) (o k : Nat) : w.rangeAt b o ((cs.drop o).take k) := fun j v hv => by
 rw [h.cell]
 rw [List.getElem?_take] at hv
 split at hv
 · rw [List.getElem?_drop] at hv; exact hv
 · cases hv
theorem IsS.there (h : IsS w b t cs) (o k : Nat) (hk : o + k ≤ cs.length) : w.there b o k := fun j hj => by
 rw [h.cell, List.getElem?_eq_getElem (by omega)]
 exact ⟨rfl, h.frozen _⟩
theorem IsS.set1 (h : IsS w b t cs) (o : Nat) (v : Value) : IsS (w.setCell ⟨b, o, none⟩ v) b t (cs.set o v) := by
 have h' : w.heap[b]? = some (.cells cs.toArray t (0, 0)) := h
 unfold IsS
 show (w.heap.modify b _)[b]? = _
 rw [Array.getElem?_modify, if_pos rfl, h']
 simp
theorem IsS.setL : ∀ (vs : List Value) (o : Nat) (cs : List Value) (w : World), IsS w b t cs → IsS (w.setCells b o vs) b t (putL cs o vs)
 | [], o, cs, w, h => h
 | v :: vs, o, cs, w, h => IsS.setL vs (o + 1) _ _ (h.set1 o v)
theorem Upd.comp {b : Nat} {w W W' : World} (h : Upd w W b) (h' : Upd W W' b) : Upd w W' b :=
 ⟨h'.os.trans h.os, h'.tape.trans h.tape, h'.output.trans h.output, h'.size.trans h.size, fun k hk => (h'.block k hk).trans (h.block k hk)⟩
theorem Upd.refl (w : World) (b : Nat) : Upd w w b := ⟨rfl, rfl, rfl, rfl, fun _ _ => rfl⟩
theorem Upd.setCells (b : Nat) : ∀ (vs : List Value) (o : Nat) (w : World), Upd w (w.setCells b o vs) b
 | [], o, w => Upd.refl w b
 | v :: vs, o, w => (Upd.setCell w b o v).comp (Upd.setCells b vs (o + 1) _)
theorem below_drew {B : Nat} {w W : World} (h : Below B w W) : Below B w W.drew := ⟨h.os, h.tape, h.output, h.size, h.block⟩
theorem Below.then {w W W' : World} (h : Below w.heap.size w W) (h' : Below W.heap.size W W') : Below w.heap.size w W' := h.trans (h'.mono h.size)
theorem run_store1 {P : Program} (w : World) (b o : Nat) (ty : TypeId) (v : Value) (ht : w.there b o 1) (hi : (P.info? ty).map (·.size) = some 1) (h1 : v.oneCell' = true) :
    (storeVar ty ⟨b, o, none⟩ v).run P w = .ok () (w.setCell ⟨b, o, none⟩ v) := by
 have := run_storeCells_cells (P := P) b o [v] 0 w (fun j hj => by simpa using (ht j (by simpa using hj)).1) (fun j hj => by simpa using (ht j (by simpa using hj)).2)
  (fun u hu => by simp at hu; rw [hu]; exact h1)
 have hc : v.cells = #[v] := by cases v <;> simp_all [Value.cells, Value.oneCell']
 cases hq : P.info? ty with
 | none => simp [hq] at hi
 | some i =>
  have hs : i.size = 1 := by simpa [hq] using hi
  simp only [Nat.add_zero] at this
  simp [storeVar, sizeOf, typeInfo, hq, hc, hs, this]
  rfl
end
section
variable {w : World} {b t o : Nat} {cs : List Value} {ops : Array Oper} {rest : List Oper} {op : Oper} {a : Act} {Q : Exit → Act → World → Prop}
theorem wpList_loadS (hgd : op.guard = none) (ty : TypeId) (x : Operand) (ho : op.op = .load ty x) (hx : a.eval x = .pointer (some ⟨b, o, none⟩)) (hc : IsS w b t cs) (k : Nat) (d : TypeDesc)
    (hu : Try.prog.underlying ty = some d) (hd : d.isRow = true) (hi : (Try.prog.info? ty).map (·.size) = some ((cs.drop o).take k).length)
    (h : wpList Try.prog ops Q rest (a.put op.dst (.agg ((cs.drop o).take k).toArray)) w) : wpList Try.prog ops Q (op :: rest) a w :=
 wpList_load_mid hgd ty x ho b o hx _ d (hc.range o k) hu hd hi h
theorem wpList_storeS (hgd : op.guard = none) (ty : TypeId) (x y : Operand) (ho : op.op = .store ty x y) (hx : a.eval x = .pointer (some ⟨b, o, none⟩)) (vs : List Value) (hy : a.eval y = .agg vs.toArray) (hc : IsS w b t cs)
    (hk : o + vs.length ≤ cs.length) (hi : (Try.prog.info? ty).map (·.size) = some vs.length) (h1 : ∀ v ∈ vs, v.oneCell' = true)
    (h : ∀ W, Upd w W b → IsS W b t (putL cs o vs) → wpList Try.prog ops Q rest (a.put op.dst undef) W) : wpList Try.prog ops Q (op :: rest) a w :=
 wpList_store_mid hgd ty x y ho b o vs.toArray hx hy (hc.there o _ (by simpa using hk)) (by simpa using hi) (all_oneCell_toArray h1) (by
  have := h _ (Upd.setCells b vs o w) (IsS.setL vs o cs w hc)
  simpa using this)
theorem wpList_store1 (hgd : op.guard = none) (ty : TypeId) (x y : Operand) (ho : op.op = .store ty x y) (hx : a.eval x = .pointer (some ⟨b, o, none⟩)) (v : Value) (hy : a.eval y = v) (hc : IsS w b t cs)
    (hk : o < cs.length) (hi : (Try.prog.info? ty).map (·.size) = some 1) (h1 : v.oneCell' = true)
    (h : ∀ W, Upd w W b → IsS W b t (cs.set o v) → wpList Try.prog ops Q rest (a.put op.dst undef) W) : wpList Try.prog ops Q (op :: rest) a w := by
 refine wpList_plain hgd fun K hK => ?_
 unfold Oper.wp execOp
 simp only [ho, hx, hy, Instr.storeAt, Instr.sureAddr, Sem.run_bind, Sem.run_pure, Result.andThen_ok, run_store1 w b o ty v (hc.there o 1 (by omega)) hi h1]
 exact hK _ _ (h _ (Upd.setCell w b o v) (hc.set1 o v))
theorem wpList_boxS (hgd : op.guard = none) (ty : TypeId) (x : Operand) (ho : op.op = .box ty x) (vs : List Value) (hx : a.eval x = .agg vs.toArray)
    (h : ∀ W b, Fresh w W b → IsS W b ty vs → wpList Try.prog ops Q rest (a.put op.dst (.pointer (some ⟨b, 0, none⟩))) W) : wpList Try.prog ops Q (op :: rest) a w := by
 refine wpList_plain hgd fun K hK => ?_
 unfold Oper.wp execOp
 simp only [ho, hx]
 have hb : (Instr.box ty (.agg vs.toArray)).run Try.prog w = .ok (.pointer (some ⟨w.heap.size, 0, none⟩)) (w.alloc (.cells vs.toArray ty)) := by
  simp [go_sem, Value.cells]
 simp only [Sem.run_bind, hb, Result.andThen_ok, Sem.run_pure]
 exact hK _ _ (h _ _ (Fresh.alloc w _) (IsS.new w ty vs))
theorem run_allocS (ty : TypeId) (vs : List Value) (hz : ∀ w, (zeroValue ty).run Try.prog w = .ok (.agg vs.toArray) w) (ho : op.op = .alloc ty) (a : Act) (w : World) :
    (execOp a.eval op).run Try.prog w = .ok (.value (.pointer (some ⟨w.heap.size, 0, none⟩))) (w.alloc (.cells vs.toArray ty)) := by
 unfold execOp
 simp [ho, go_sem, Value.cells, hz]
theorem wpList_allocS (hgd : op.guard = none) (ty : TypeId) (ho : op.op = .alloc ty) (vs : List Value) (hz : ∀ w, (zeroValue ty).run Try.prog w = .ok (.agg vs.toArray) w)
    (h : ∀ W b, Fresh w W b → IsS W b ty vs → wpList Try.prog ops Q rest (a.put op.dst (.pointer (some ⟨b, 0, none⟩))) W) : wpList Try.prog ops Q (op :: rest) a w := by
 refine wpList_plain hgd fun K hK => ?_
 unfold Oper.wp
 rw [run_allocS ty vs hz ho a w]
 exact hK _ _ (h _ _ (Fresh.alloc w _) (IsS.new w ty vs))
end
theorem ret_S {w : World} {b t : Nat} {cs : List Value} {fn : Func} {p : Tmp} {R : Ending → World → Prop} {a : Act} (h : fn.results = #[.cell p t]) (hp : a.tmps.getD p undef = .pointer (some ⟨b, 0, none⟩))
    (hd : a.defers = []) (hc : IsS w b t cs) (d : TypeDesc) (hu : Try.prog.underlying t = some d) (hr : (match d with | .struct _ => true | .array _ _ => true | _ => false) = true) (hi : (Try.prog.info? t).map (·.size) = some cs.length) (hR : R (.returned (.agg cs.toArray)) w) : bodyPost Try.prog fn R .ret a w := by
 have hc' : w.heap[b]? = some (.cells cs.toArray t (0, 0)) := hc
 exact ⟨hd, _, results_cell_row h a.tmps w b t cs.toArray (0, 0) d hp hc' hu (by cases d <;> simp_all) (by simpa using hi), hR⟩
section
variable {ops : Array Oper} {W : World} {Q : Act → Prop} {rest : List Oper} {op : Oper} {a : Act} {b t o : Nat} {cs : List Value}
theorem wpG_load1 (hw : Region.wanted op (yielded ops a.tmps) = true) (ty : TypeId) (x : Operand) (ho : op.op = .load ty x) (hx : a.eval x = .pointer (some ⟨b, o, none⟩)) (hc : IsS W b t cs) {v : Value} (hv : cs[o]? = some v)
    (hl : ∀ w, w.cell? ⟨b, o, none⟩ = some v → (Instr.loadAt ty (.pointer (some ⟨b, o, none⟩))).run Try.prog w = .ok v w)
    (h : wpG Try.prog ops W Q rest (a.put op.dst v)) : wpG Try.prog ops W Q (op :: rest) a :=
 wpG_value hw (fun w hB => by
  unfold execOp
  simp only [ho, hx, Sem.run_bind, hl w (((hc.grown hB).cell o).trans hv), Result.andThen_ok, Sem.run_pure]) h
end
theorem ld9 {b o : Nat} {v : Value} (w : World) (h : w.cell? ⟨b, o, none⟩ = some v) : (Instr.loadAt 9 (.pointer (some ⟨b, o, none⟩))).run Try.prog w = .ok v w := by simp [go_sem, h]
theorem ld2 {b o : Nat} {v : Value} (w : World) (h : w.cell? ⟨b, o, none⟩ = some v) : (Instr.loadAt 2 (.pointer (some ⟨b, o, none⟩))).run Try.prog w = .ok v w := by simp [go_sem, h]
theorem info3 : (Try.prog.info? 3).map (·.size) = some 1 := by kernel_rfl
end Go.Proofs.Ytegpnicajlndlaa
namespace Go.Proofs.Ytegpnicajlndlaa
open Go.RowKit M
set_option linter.unusedSimpArgs false
set_option linter.unusedVariables false
def regL : List (List UInt8) := [[69, 65, 88], [69, 66, 88], [69, 67, 88], [69, 68, 88], [69, 83, 73], [69, 68, 73], [69, 66, 80], [69, 83, 80], [82, 56], [82, 57], [82, 49, 48], [82, 49, 49], [82, 49, 50], [82, 49, 51], [82, 49, 52], [82, 49, 53]]
def regB (s : ByteArray) : Bool := decide (s.data.toList ∈ regL)
set_option maxRecDepth 100000 in
set_option maxHeartbeats 1000000 in
theorem register_any (s : ByteArray) (w : World) : Calls Try.prog 109 #[.string s] w fun en w' => en = .returned (.bool (regB s)) ∧ w' = w := by
 go_enter Try.func109, Try.ntmps109
 go_wp2
 all_goals
  go_ret
  refine ⟨?_, rfl⟩
  simp only [toL, beq_iff_eq, beq_eq_false_iff_ne, ne_eq] at *
  first | (exfalso; contradiction) | (simp only [regB, regL, List.mem_cons, List.not_mem_nil, or_false, *]; first | rfl | decide | simp)
def regS (k : Nat) : ByteArray := ⟨(regL.getD k []).toArray⟩
def regC : List Value := regL.map fun l => .string ⟨l.toArray⟩
theorem regC_at (k : Nat) (h : k < 16) : regC[k]? = some (.string (regS k)) := by
 have hl : regL.length = 16 := rfl
 rw [regC, List.getElem?_map, List.getElem?_eq_getElem (by omega)]
 simp only [Option.map_some, regS, List.getD_eq_getElem?_getD]
 rw [List.getElem?_eq_getElem (by omega)]
 rfl
theorem info16 : (Try.prog.info? 175).map (·.size) = some 16 := by kernel_rfl
theorem zero16 (w : World) : (zeroValue 175).run Try.prog w = .ok (.agg (List.replicate 16 (Value.string ⟨#[]⟩)).toArray) w := by
 have h : Try.t175.zero = some (.agg (List.replicate 16 (Value.string ⟨#[]⟩)).toArray) := by kernel_rfl
 simp [go_sem, zeroValue, h]
theorem regS_eq (k : Nat) (h : k < 16) (s : ByteArray) : ((regS k).toList == s.toList) = true ↔ regL[k]? = some s.data.toList := by
 rw [toL, toL]
 have e : (regS k).data.toList = regL.getD k [] := by simp [regS]
 rw [e, List.getD_eq_getElem?_getD]
 have hl : regL.length = 16 := rfl
 rw [List.getElem?_eq_getElem (by omega)]
 simp
set_option maxRecDepth 100000 in
set_option maxHeartbeats 1000000 in
theorem rregister_any (s : ByteArray) (w : World) : Calls Try.prog 104 #[.string s] w fun en w' => en = .returned (.bool (regB s)) ∧ Below w.heap.size w w' := by
 have t1 : True := trivial
 have t2 : True := trivial
 go_enter Try.func104, Try.ntmps104
 go_wp2_with (first
  | (clear t1; refine wpList_allocS rfl 175 rfl (List.replicate 16 (Value.string ⟨#[]⟩)) zero16 ?_; intro W1 b1 F1 C1; have B1 := F1.trans (Below.refl _ w) (Nat.le_refl _); have h1 : w.heap.size ≤ b1 := Nat.le_of_eq F1.at'.symm; clear F1)
  | (clear t2; refine wpList_storeS rfl 175 _ _ rfl rfl regC rfl C1 (by decide) info16 (by simp [regC, regL, Value.oneCell']) ?_; intro W2 U2 C2x; have C2 : IsS W2 b1 175 regC := C2x; have B2 := U2.trans B1 h1; clear U2 C1 C2x))
 go_loop [4] (fun i => ∃ k : Nat, k ≤ 16 ∧ i = .int .i64 k ∧ ∀ j, j < k → regL[j]? ≠ some s.data.toList) (fun i => 16 - (intOf i).toNat)
 case atStart => exact ⟨0, Nat.zero_le _, rfl, fun j hj => absurd hj (by omega)⟩
 case round =>
  obtain ⟨k, hk, rfl, hno⟩ := hrel
  have HNO : Hid (∀ j, j < k → regL[j]? ≠ some s.data.toList) := hno
  clear hno
  by_cases hlt : k < 16
  · have hc : W2.cell? ⟨b1, k, none⟩ = some (.string (regS k)) := (C2.cell k).trans (regC_at k hlt)
    have HQ : Hid (((regS k).toList == s.toList) = true ↔ regL[k]? = some s.data.toList) := regS_eq k hlt s
    obtain ⟨S, hS⟩ : ∃ S, regS k = S := ⟨_, rfl⟩
    rw [hS] at hc HQ
    clear hS
    by_cases heq : (S.toList == s.toList) = true
    · have hm : Hid (s.data.toList ∈ regL) := List.mem_of_getElem? (HQ.out.1 heq)
      go_wp2
      go_ret
      refine ⟨?_, B2⟩
      rw [show regB s = true from decide_eq_true hm.out]
      rfl
    · have hf : (S.toList == s.toList) = false := by simpa using heq
      have hn : Hid (regL[k]? ≠ some s.data.toList) := fun e => heq (HQ.out.2 e)
      clear heq
      go_wp2
      go_round
      case rel => exact ⟨k + 1, by omega, by go_num, fun j hj => by
       rcases Nat.lt_or_ge j k with h | h
       · exact HNO.out j h
       · have : j = k := by omega
         subst this; exact hn.out⟩
      case measure => simp [intOf]; omega
  · go_wp2
    go_ret
    refine ⟨?_, B2⟩
    have : regB s = false := decide_eq_false fun hm => by
     obtain ⟨j, hj⟩ := List.getElem?_of_mem hm
     have : j < 16 := (List.getElem?_eq_some_iff.1 hj).1
     exact HNO.out j (by omega) hj
    rw [this]
    rfl
theorem cell_grow {W W' : World} {b o : Nat} {v : Value} (h : W.cell? ⟨b, o, none⟩ = some v) (hB : Below W.heap.size W W') : W'.cell? ⟨b, o, none⟩ = some v :=
 (hB.cell (p := ⟨b, o, none⟩) (World.block_lt_of_cell? W _ h)).trans h
theorem wpG_cell {ops : Array Oper} {W : World} {Q : Act → Prop} {rest : List Oper} {op : Oper} {a : Act} {b o : Nat} (hw : Region.wanted op (yielded ops a.tmps) = true) (ty : TypeId) (x : Operand) (ho : op.op = .load ty x) (hx : a.eval x = .pointer (some ⟨b, o, none⟩)) {v : Value} (hc : W.cell? ⟨b, o, none⟩ = some v)
    (hl : ∀ w, w.cell? ⟨b, o, none⟩ = some v → (Instr.loadAt ty (.pointer (some ⟨b, o, none⟩))).run Try.prog w = .ok v w)
    (h : wpG Try.prog ops W Q rest (a.put op.dst v)) : wpG Try.prog ops W Q (op :: rest) a :=
 wpG_value hw (fun w hB => by
  unfold execOp
  simp only [ho, hx, Sem.run_bind, hl w (cell_grow hc hB), Result.andThen_ok, Sem.run_pure]) h
theorem wpG_range {ops : Array Oper} {W : World} {Q : Act → Prop} {rest : List Oper} {op : Oper} {a : Act} {b o : Nat} (hw : Region.wanted op (yielded ops a.tmps) = true) (ty : TypeId) (x : Operand) (ho : op.op = .load ty x) (hx : a.eval x = .pointer (some ⟨b, o, none⟩)) (cs : List Value) (hb : b < W.heap.size) (hc : W.rangeAt b o cs) (d : TypeDesc)
    (hu : Try.prog.underlying ty = some d) (hd : d.isRow = true) (hi : (Try.prog.info? ty).map (·.size) = some cs.length)
    (h : wpG Try.prog ops W Q rest (a.put op.dst (.agg cs.toArray))) : wpG Try.prog ops W Q (op :: rest) a :=
 wpG_value hw (fun w hB => by
  unfold execOp
  simp only [ho, hx, Sem.run_bind, run_loadAt_mid w b o ty _ d (fun j v hv => (hB.cell (p := ⟨b, o + j, none⟩) hb).trans (hc j v hv)) hu hd hi, Result.andThen_ok, Sem.run_pure]) h
structure WG (ops : Array Oper) (W : World) (Q : Act → Prop) (l : List Oper) (a : Act) : Prop where
 out : wpG Try.prog ops W Q l a
section
variable {ops : Array Oper} {W : World} {Q : Act → Prop} {rest : List Oper} {op : Oper} {a : Act}
theorem WG.nil (h : Q a) : WG ops W Q [] a := ⟨wpG_nil h⟩
theorem WG.put (hw : Region.wanted op (yielded ops a.tmps) = true) {v : Value} (hr : ∀ w, (execOp a.eval op).run Try.prog w = .ok (.value v) w) (h : WG ops W Q rest (a.put op.dst v)) : WG ops W Q (op :: rest) a := ⟨wpG_put hw hr h.out⟩
theorem WG.pu (hw : Region.wanted op (yielded ops a.tmps) = true) {v : Value} (h : WG ops W Q rest (a.put op.dst v)) (hr : ∀ w, (execOp a.eval op).run Try.prog w = .ok (.value v) w := by intro w; first | rfl | (go_simp; done) | (simp [go_sem]; done) | (simp [execOp, go_sem]; done)) : WG ops W Q (op :: rest) a := WG.put hw hr h
theorem WG.skip (hw : Region.wanted op (yielded ops a.tmps) = false) (h : WG ops W Q rest (a.put op.dst undef)) : WG ops W Q (op :: rest) a := ⟨wpG_skip hw h.out⟩
theorem WG.call (hw : Region.wanted op (yielded ops a.tmps) = true) {f : FuncId} {args : Array Value} {v : Value} (hC : ∀ w, Below W.heap.size W w → Calls Try.prog f args w fun e w' => e = .returned v ∧ Below w.heap.size w w') (hr : ∀ w, (execOp a.eval op).run Try.prog w = .ok (.enter f args) w) (h : WG ops W Q rest (a.put op.dst v)) : WG ops W Q (op :: rest) a := ⟨wpG_call hw hC hr h.out⟩
theorem WG.load1 {b t o : Nat} {cs : List Value} (hw : Region.wanted op (yielded ops a.tmps) = true) (ty : TypeId) (x : Operand) (ho : op.op = .load ty x) (hx : a.eval x = .pointer (some ⟨b, o, none⟩)) (hc : IsS W b t cs) {v : Value} (hv : cs[o]? = some v)
    (hl : ∀ w, w.cell? ⟨b, o, none⟩ = some v → (Instr.loadAt ty (.pointer (some ⟨b, o, none⟩))).run Try.prog w = .ok v w) (h : WG ops W Q rest (a.put op.dst v)) : WG ops W Q (op :: rest) a := ⟨wpG_load1 hw ty x ho hx hc hv hl h.out⟩
theorem WG.cell {b o : Nat} (hw : Region.wanted op (yielded ops a.tmps) = true) (ty : TypeId) (x : Operand) (ho : op.op = .load ty x) (hx : a.eval x = .pointer (some ⟨b, o, none⟩)) {v : Value} (hc : W.cell? ⟨b, o, none⟩ = some v)
    (hl : ∀ w, w.cell? ⟨b, o, none⟩ = some v → (Instr.loadAt ty (.pointer (some ⟨b, o, none⟩))).run Try.prog w = .ok v w) (h : WG ops W Q rest (a.put op.dst v)) : WG ops W Q (op :: rest) a := ⟨wpG_cell hw ty x ho hx hc hl h.out⟩
theorem WG.range {b o : Nat} (hw : Region.wanted op (yielded ops a.tmps) = true) (ty : TypeId) (x : Operand) (ho : op.op = .load ty x) (hx : a.eval x = .pointer (some ⟨b, o, none⟩)) (cs : List Value) (hb : b < W.heap.size) (hc : W.rangeAt b o cs) (d : TypeDesc)
    (hu : Try.prog.underlying ty = some d) (hd : d.isRow = true) (hi : (Try.prog.info? ty).map (·.size) = some cs.length) (h : WG ops W Q rest (a.put op.dst (.agg cs.toArray))) : WG ops W Q (op :: rest) a := ⟨wpG_range hw ty x ho hx cs hb hc d hu hd hi h.out⟩
end
theorem WG.row {ops : Array Oper} {W : World} {Q : Act → Prop} {rest : List Oper} {op : Oper} {a : Act} {b t : Nat} {cs : List Value} (hw : Region.wanted op (yielded ops a.tmps) = true) (ty : TypeId) (x : Operand) (ho : op.op = .load ty x) (hx : a.eval x = .pointer (some ⟨b, 0, none⟩)) (hc : IsS W b t cs) (sub : List Value) (hsub : cs = sub) (d : TypeDesc)
    (hu : Try.prog.underlying ty = some d) (hd : d.isRow = true) (hi : (Try.prog.info? ty).map (·.size) = some sub.length) (h : WG ops W Q rest (a.put op.dst (.agg sub.toArray))) : WG ops W Q (op :: rest) a := by
 subst hsub
 have := hc.range 0 cs.length
 rw [List.drop_zero, List.take_length] at this
 exact WG.range hw ty x ho hx cs hc.lt this d hu hd hi h
theorem grow_allW {id : Nat} {Q : Exit → Act → World → Prop} {a : Act} {W : World} {l : List Oper} (hm : Try.prog.follows .mixedOrders = true) (hB : Region.lexB .any l.toArray = true)
    (h : WG l.toArray W (fun a' => ∀ w', Below W.heap.size W w' → Q .normal a' w') l a) : (Code.region id l.toArray true).wp Try.prog Q a W := grow_all hm hB h.out
end Go.Proofs.Ytegpnicajlndlaa

/- Regions that draw their order, boxed; slices that are made; a row that is owned, cut. -/
import Derived.Test.YtopnbemodlcknaaDoorS1
namespace Go.Proofs.YtopnbemodlcknaaDoor
open Go.RowKit M
set_option linter.unusedSimpArgs false
set_option linter.unusedVariables false

theorem cell_grow {W W' : World} {b o : Nat} {v : Value} (h : W.cell? ⟨b, o, none⟩ = some v) (hB : Below W.heap.size W W') : W'.cell? ⟨b, o, none⟩ = some v :=
  (hB.cell (p := ⟨b, o, none⟩) (World.block_lt_of_cell? W _ h)).trans h
theorem wpG_cell {ops : Array Oper} {W : World} {Q : Act → Prop} {rest : List Oper} {op : Oper} {a : Act} {b o : Nat} (hw : Region.wanted op (yielded ops a.tmps) = true) (ty : TypeId) (x : Operand) (ho : op.op = .load ty x) (hx : a.eval x = .pointer (some ⟨b, o, none⟩)) {v : Value} (hc : W.cell? ⟨b, o, none⟩ = some v)
    (hl : ∀ w, w.cell? ⟨b, o, none⟩ = some v → (Instr.loadAt ty (.pointer (some ⟨b, o, none⟩))).run Tryd.prog w = .ok v w)
    (h : wpG Tryd.prog ops W Q rest (a.put op.dst v)) : wpG Tryd.prog ops W Q (op :: rest) a :=
  wpG_value hw (fun w hB => by
    unfold execOp
    simp only [ho, hx, Sem.run_bind, hl w (cell_grow hc hB), Result.andThen_ok, Sem.run_pure]) h
theorem wpG_range {ops : Array Oper} {W : World} {Q : Act → Prop} {rest : List Oper} {op : Oper} {a : Act} {b o : Nat} (hw : Region.wanted op (yielded ops a.tmps) = true) (ty : TypeId) (x : Operand) (ho : op.op = .load ty x) (hx : a.eval x = .pointer (some ⟨b, o, none⟩)) (cs : List Value) (hb : b < W.heap.size) (hc : W.rangeAt b o cs) (d : TypeDesc)
    (hu : Tryd.prog.underlying ty = some d) (hd : d.isRow = true) (hi : (Tryd.prog.info? ty).map (·.size) = some cs.length)
    (h : wpG Tryd.prog ops W Q rest (a.put op.dst (.agg cs.toArray))) : wpG Tryd.prog ops W Q (op :: rest) a :=
  wpG_value hw (fun w hB => by
    unfold execOp
    simp only [ho, hx, Sem.run_bind, run_loadAt_mid w b o ty _ d (fun j v hv => (hB.cell (p := ⟨b, o + j, none⟩) hb).trans (hc j v hv)) hu hd hi, Result.andThen_ok, Sem.run_pure]) h
/-- The walk through a region, boxed: where some operations on end are not wanted, the rest would else be worked out at every step. -/
structure WG (ops : Array Oper) (W : World) (Q : Act → Prop) (l : List Oper) (a : Act) : Prop where
  out : wpG Tryd.prog ops W Q l a
section
variable {ops : Array Oper} {W : World} {Q : Act → Prop} {rest : List Oper} {op : Oper} {a : Act}
theorem WG.nil (h : Q a) : WG ops W Q [] a := ⟨wpG_nil h⟩
theorem WG.put (hw : Region.wanted op (yielded ops a.tmps) = true) {v : Value} (hr : ∀ w, (execOp a.eval op).run Tryd.prog w = .ok (.value v) w) (h : WG ops W Q rest (a.put op.dst v)) : WG ops W Q (op :: rest) a := ⟨wpG_put hw hr h.out⟩
theorem WG.skip (hw : Region.wanted op (yielded ops a.tmps) = false) (h : WG ops W Q rest (a.put op.dst undef)) : WG ops W Q (op :: rest) a := ⟨wpG_skip hw h.out⟩
theorem WG.call (hw : Region.wanted op (yielded ops a.tmps) = true) {f : FuncId} {args : Array Value} {v : Value} (hC : ∀ w, Below W.heap.size W w → Calls Tryd.prog f args w fun e w' => e = .returned v ∧ Below w.heap.size w w') (hr : ∀ w, (execOp a.eval op).run Tryd.prog w = .ok (.enter f args) w) (h : WG ops W Q rest (a.put op.dst v)) : WG ops W Q (op :: rest) a := ⟨wpG_call hw hC hr h.out⟩
theorem WG.load1 {b t o : Nat} {cs : List Value} (hw : Region.wanted op (yielded ops a.tmps) = true) (ty : TypeId) (x : Operand) (ho : op.op = .load ty x) (hx : a.eval x = .pointer (some ⟨b, o, none⟩)) (hc : IsS W b t cs) {v : Value} (hv : cs[o]? = some v)
    (hl : ∀ w, w.cell? ⟨b, o, none⟩ = some v → (Instr.loadAt ty (.pointer (some ⟨b, o, none⟩))).run Tryd.prog w = .ok v w) (h : WG ops W Q rest (a.put op.dst v)) : WG ops W Q (op :: rest) a := ⟨wpG_load1 hw ty x ho hx hc hv hl h.out⟩
theorem WG.cell {b o : Nat} (hw : Region.wanted op (yielded ops a.tmps) = true) (ty : TypeId) (x : Operand) (ho : op.op = .load ty x) (hx : a.eval x = .pointer (some ⟨b, o, none⟩)) {v : Value} (hc : W.cell? ⟨b, o, none⟩ = some v)
    (hl : ∀ w, w.cell? ⟨b, o, none⟩ = some v → (Instr.loadAt ty (.pointer (some ⟨b, o, none⟩))).run Tryd.prog w = .ok v w) (h : WG ops W Q rest (a.put op.dst v)) : WG ops W Q (op :: rest) a := ⟨wpG_cell hw ty x ho hx hc hl h.out⟩
theorem WG.range {b o : Nat} (hw : Region.wanted op (yielded ops a.tmps) = true) (ty : TypeId) (x : Operand) (ho : op.op = .load ty x) (hx : a.eval x = .pointer (some ⟨b, o, none⟩)) (cs : List Value) (hb : b < W.heap.size) (hc : W.rangeAt b o cs) (d : TypeDesc)
    (hu : Tryd.prog.underlying ty = some d) (hd : d.isRow = true) (hi : (Tryd.prog.info? ty).map (·.size) = some cs.length) (h : WG ops W Q rest (a.put op.dst (.agg cs.toArray))) : WG ops W Q (op :: rest) a := ⟨wpG_range hw ty x ho hx cs hb hc d hu hd hi h.out⟩
end
theorem WG.row {ops : Array Oper} {W : World} {Q : Act → Prop} {rest : List Oper} {op : Oper} {a : Act} {b t : Nat} {cs : List Value} (hw : Region.wanted op (yielded ops a.tmps) = true) (ty : TypeId) (x : Operand) (ho : op.op = .load ty x) (hx : a.eval x = .pointer (some ⟨b, 0, none⟩)) (hc : IsS W b t cs) (sub : List Value) (hsub : cs = sub) (d : TypeDesc)
    (hu : Tryd.prog.underlying ty = some d) (hd : d.isRow = true) (hi : (Tryd.prog.info? ty).map (·.size) = some sub.length) (h : WG ops W Q rest (a.put op.dst (.agg sub.toArray))) : WG ops W Q (op :: rest) a := by
  subst hsub
  have := hc.range 0 cs.length
  rw [List.drop_zero, List.take_length] at this
  exact WG.range hw ty x ho hx cs hc.lt this d hu hd hi h
theorem grow_allW {id : Nat} {Q : Exit → Act → World → Prop} {a : Act} {W : World} {l : List Oper} (hm : Tryd.prog.follows .mixedOrders = true) (hB : Region.lexB .any l.toArray = true)
    (h : WG l.toArray W (fun a' => ∀ w', Below W.heap.size W w' → Q .normal a' w') l a) : (Code.region id l.toArray true).wp Tryd.prog Q a W := grow_all hm hB h.out

def intsL (f : List Int) : List Value := f.map (Value.int .i64)
theorem ints_one (f : List Int) : ∀ v ∈ intsL f, v.oneCell' = true := by
  intro v hv
  obtain ⟨k, _, rfl⟩ := List.mem_map.1 hv
  rfl
theorem intsL_len (f : List Int) : (intsL f).length = f.length := by simp [intsL]
theorem intsL_set (f : List Int) (j : Nat) (k : Int) : (intsL f).set j (.int .i64 k) = intsL (f.set j k) := by simp [intsL, List.map_set]
theorem intsL_get {f : List Int} {j : Nat} {k : Int} (h : f[j]? = some k) : (intsL f)[j]? = some (.int .i64 k) := by simp [intsL, h]
theorem parts3 : ∃ i, Tryd.prog.info? 3 = some i ∧ i.zero = some (.int .i64 0) ∧ i.size = 1 ∧ i.bytes = 8 := by
  have h : (Tryd.prog.info? 3).map (fun i => (i.zero, i.size, i.bytes)) = some (some (.int .i64 0), 1, 8) := by kernel_rfl
  exact info_parts h
theorem made_ints (n : Nat) : madeCells (Value.int .i64 0).cells (n * 1) = (intsL (List.replicate n 0)).toArray := by
  apply Array.ext
  · simp [madeCells, intsL]
  · intro i h1 h2
    simp [madeCells, intsL, Value.cells, Nat.mod_one]
/-- The first part of a row that the call owns. -/
theorem ownsRow_take {w : World} {base : Nat} {e : TypeId} {size g cap n : Nat} {xs : List Value} (m : Nat) (hm : m ≤ n)
    (h : w.ownsRow base e size (.slice (some ⟨g, 0, none⟩) n cap) n xs) : w.ownsRow base e size (.slice (some ⟨g, 0, none⟩) m cap) m (xs.take (m * size)) := by
  obtain ⟨h1, h2⟩ := h
  rcases h2 with ⟨h0, _⟩ | ⟨g', cap', cur, hv, hg, hh, hn, hcap, hsz, htake⟩
  · cases h0
  · cases hv
    have hle : m * size ≤ n * size := Nat.mul_le_mul_right _ hm
    refine ⟨by rw [List.length_take, h1]; omega, .inr ⟨g, cap, cur, rfl, hg, hh, by omega, hcap, hsz, ?_⟩⟩
    rw [← htake, List.take_take, Nat.min_eq_left hle]
end Go.Proofs.YtopnbemodlcknaaDoor

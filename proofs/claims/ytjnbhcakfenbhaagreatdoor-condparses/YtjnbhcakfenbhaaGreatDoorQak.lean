/- Several texts in one: G0, KS. -/
import Derived.Test.YtjnbhcakfenbhaaGreatDoorQah
import Derived.Test.YtjnbhcakfenbhaaGreatDoorQaj
import Derived.Shelf.Lays
import Derived.BigGuard
import Derived.Lib.AppendIntMem
import Derived.Lib.ItoaMem
import Derived.Lib.Walk
import Derived.Shelf.LaysM
import Derived.Shelf.Strconv.Itoa3
import Derived.Shelf.Strings.Builder1
/- Regions that draw their order, boxed; slices that are made; a row that is owned, cut. -/
namespace Go.Proofs.YtjnbhcakfenbhaaGreatDoor
open Go.RowKit M
set_option linter.unusedSimpArgs false
set_option linter.unusedVariables false

theorem cell_grow {W W' : World} {b o : Nat} {v : Value} (h : W.cell? ⟨b, o, none⟩ = some v) (hB : Below W.heap.size W W') : W'.cell? ⟨b, o, none⟩ = some v :=
  (hB.cell (p := ⟨b, o, none⟩) (World.block_lt_of_cell? W _ h)).trans h
theorem wpG_cell {ops : Array Oper} {W : World} {Q : Act → Prop} {rest : List Oper} {op : Oper} {a : Act} {b o : Nat} (hw : Region.wanted op (yielded ops a.tmps) = true) (ty : TypeId) (x : Operand) (ho : op.op = .load ty x) (hx : a.eval x = .pointer (some ⟨b, o, none⟩)) {v : Value} (hc : W.cell? ⟨b, o, none⟩ = some v)
    (hl : ∀ w, w.cell? ⟨b, o, none⟩ = some v → (Instr.loadAt ty (.pointer (some ⟨b, o, none⟩))).run Tryz.prog w = .ok v w)
    (h : wpG Tryz.prog ops W Q rest (a.put op.dst v)) : wpG Tryz.prog ops W Q (op :: rest) a :=
  wpG_value hw (fun w hB => by
    unfold execOp
    simp only [ho, hx, Sem.run_bind, hl w (cell_grow hc hB), Result.andThen_ok, Sem.run_pure]) h
theorem wpG_range {ops : Array Oper} {W : World} {Q : Act → Prop} {rest : List Oper} {op : Oper} {a : Act} {b o : Nat} (hw : Region.wanted op (yielded ops a.tmps) = true) (ty : TypeId) (x : Operand) (ho : op.op = .load ty x) (hx : a.eval x = .pointer (some ⟨b, o, none⟩)) (cs : List Value) (hb : b < W.heap.size) (hc : W.rangeAt b o cs) (d : TypeDesc)
    (hu : Tryz.prog.underlying ty = some d) (hd : d.isRow = true) (hi : (Tryz.prog.info? ty).map (·.size) = some cs.length)
    (h : wpG Tryz.prog ops W Q rest (a.put op.dst (.agg cs.toArray))) : wpG Tryz.prog ops W Q (op :: rest) a :=
  wpG_value hw (fun w hB => by
    unfold execOp
    simp only [ho, hx, Sem.run_bind, run_loadAt_mid w b o ty _ d (fun j v hv => (hB.cell (p := ⟨b, o + j, none⟩) hb).trans (hc j v hv)) hu hd hi, Result.andThen_ok, Sem.run_pure]) h
/-- The walk through a region, boxed: where some operations on end are not wanted, the rest would else be worked out at every step. -/
structure WG (ops : Array Oper) (W : World) (Q : Act → Prop) (l : List Oper) (a : Act) : Prop where
  out : wpG Tryz.prog ops W Q l a
section
variable {ops : Array Oper} {W : World} {Q : Act → Prop} {rest : List Oper} {op : Oper} {a : Act}
theorem WG.nil (h : Q a) : WG ops W Q [] a := ⟨wpG_nil h⟩
theorem WG.put (hw : Region.wanted op (yielded ops a.tmps) = true) {v : Value} (hr : ∀ w, (execOp a.eval op).run Tryz.prog w = .ok (.value v) w) (h : WG ops W Q rest (a.put op.dst v)) : WG ops W Q (op :: rest) a := ⟨wpG_put hw hr h.out⟩
theorem WG.skip (hw : Region.wanted op (yielded ops a.tmps) = false) (h : WG ops W Q rest (a.put op.dst undef)) : WG ops W Q (op :: rest) a := ⟨wpG_skip hw h.out⟩
theorem WG.call (hw : Region.wanted op (yielded ops a.tmps) = true) {f : FuncId} {args : Array Value} {v : Value} (hC : ∀ w, Below W.heap.size W w → Calls Tryz.prog f args w fun e w' => e = .returned v ∧ Below w.heap.size w w') (hr : ∀ w, (execOp a.eval op).run Tryz.prog w = .ok (.enter f args) w) (h : WG ops W Q rest (a.put op.dst v)) : WG ops W Q (op :: rest) a := ⟨wpG_call hw hC hr h.out⟩
theorem WG.load1 {b t o : Nat} {cs : List Value} (hw : Region.wanted op (yielded ops a.tmps) = true) (ty : TypeId) (x : Operand) (ho : op.op = .load ty x) (hx : a.eval x = .pointer (some ⟨b, o, none⟩)) (hc : IsS W b t cs) {v : Value} (hv : cs[o]? = some v)
    (hl : ∀ w, w.cell? ⟨b, o, none⟩ = some v → (Instr.loadAt ty (.pointer (some ⟨b, o, none⟩))).run Tryz.prog w = .ok v w) (h : WG ops W Q rest (a.put op.dst v)) : WG ops W Q (op :: rest) a := ⟨wpG_load1 hw ty x ho hx hc hv hl h.out⟩
theorem WG.cell {b o : Nat} (hw : Region.wanted op (yielded ops a.tmps) = true) (ty : TypeId) (x : Operand) (ho : op.op = .load ty x) (hx : a.eval x = .pointer (some ⟨b, o, none⟩)) {v : Value} (hc : W.cell? ⟨b, o, none⟩ = some v)
    (hl : ∀ w, w.cell? ⟨b, o, none⟩ = some v → (Instr.loadAt ty (.pointer (some ⟨b, o, none⟩))).run Tryz.prog w = .ok v w) (h : WG ops W Q rest (a.put op.dst v)) : WG ops W Q (op :: rest) a := ⟨wpG_cell hw ty x ho hx hc hl h.out⟩
theorem WG.range {b o : Nat} (hw : Region.wanted op (yielded ops a.tmps) = true) (ty : TypeId) (x : Operand) (ho : op.op = .load ty x) (hx : a.eval x = .pointer (some ⟨b, o, none⟩)) (cs : List Value) (hb : b < W.heap.size) (hc : W.rangeAt b o cs) (d : TypeDesc)
    (hu : Tryz.prog.underlying ty = some d) (hd : d.isRow = true) (hi : (Tryz.prog.info? ty).map (·.size) = some cs.length) (h : WG ops W Q rest (a.put op.dst (.agg cs.toArray))) : WG ops W Q (op :: rest) a := ⟨wpG_range hw ty x ho hx cs hb hc d hu hd hi h.out⟩
end
theorem WG.row {ops : Array Oper} {W : World} {Q : Act → Prop} {rest : List Oper} {op : Oper} {a : Act} {b t : Nat} {cs : List Value} (hw : Region.wanted op (yielded ops a.tmps) = true) (ty : TypeId) (x : Operand) (ho : op.op = .load ty x) (hx : a.eval x = .pointer (some ⟨b, 0, none⟩)) (hc : IsS W b t cs) (sub : List Value) (hsub : cs = sub) (d : TypeDesc)
    (hu : Tryz.prog.underlying ty = some d) (hd : d.isRow = true) (hi : (Tryz.prog.info? ty).map (·.size) = some sub.length) (h : WG ops W Q rest (a.put op.dst (.agg sub.toArray))) : WG ops W Q (op :: rest) a := by
  subst hsub
  have := hc.range 0 cs.length
  rw [List.drop_zero, List.take_length] at this
  exact WG.range hw ty x ho hx cs hc.lt this d hu hd hi h
theorem grow_allW {id : Nat} {Q : Exit → Act → World → Prop} {a : Act} {W : World} {l : List Oper} (hm : Tryz.prog.follows .mixedOrders = true) (hB : Region.lexB .any l.toArray = true)
    (h : WG l.toArray W (fun a' => ∀ w', Below W.heap.size W w' → Q .normal a' w') l a) : (Code.region id l.toArray true).wp Tryz.prog Q a W := grow_all hm hB h.out

def intsL (f : List Int) : List Value := f.map (Value.int .i64)
theorem ints_one (f : List Int) : ∀ v ∈ intsL f, v.oneCell' = true := by
  intro v hv
  obtain ⟨k, _, rfl⟩ := List.mem_map.1 hv
  rfl
theorem intsL_len (f : List Int) : (intsL f).length = f.length := by simp [intsL]
theorem intsL_set (f : List Int) (j : Nat) (k : Int) : (intsL f).set j (.int .i64 k) = intsL (f.set j k) := by simp [intsL, List.map_set]
theorem intsL_get {f : List Int} {j : Nat} {k : Int} (h : f[j]? = some k) : (intsL f)[j]? = some (.int .i64 k) := by simp [intsL, h]
theorem parts3 : ∃ i, Tryz.prog.info? 3 = some i ∧ i.zero = some (.int .i64 0) ∧ i.size = 1 ∧ i.bytes = 8 := by
  have h : (Tryz.prog.info? 3).map (fun i => (i.zero, i.size, i.bytes)) = some (some (.int .i64 0), 1, 8) := by kernel_rfl
  exact info_parts h
theorem made_ints (n : Nat) : madeCells (Value.int .i64 0).cells (n * 1) = (intsL (List.replicate n 0)).toArray := by
  apply Array.ext
  · simp [madeCells, intsL]
  · intro i h1 h2
    simp [madeCells, intsL, Value.cells, Nat.mod_one]
theorem wpList_makeI {w : World} {ops : Array Oper} {rest : List Oper} {op : Oper} {a : Act} {Q : Exit → Act → World → Prop} (hgd : op.guard = none) (l c : Operand) (ho : op.op = .makeSlice 118 l c) (n : Nat) (hn : n ≤ 16777216) (hl : a.eval l = .int .i64 (n : Int)) (hc : a.eval c = .int .i64 (n : Int))
    (h : ∀ W b, Fresh w W b → IsS W b 3 (intsL (List.replicate n 0)) → wpList Tryz.prog ops Q rest (a.put op.dst (.slice (some ⟨b, 0, none⟩) n n)) W) : wpList Tryz.prog ops Q (op :: rest) a w := by
  obtain ⟨i0, hi, hz0, hz1, hz2⟩ := parts3
  refine wpList_plain hgd fun K hK => ?_
  have hr := run_make (P := Tryz.prog) w 118 3 i0 (.int .i64 0) Tryz.underlying118 hi hz0 .i64 .i64 n n (by omega) (by omega) (by rw [hz2]; omega) (by omega)
  unfold Oper.wp execOp
  simp only [ho, hl, hc, Sem.run_bind, hr, Result.andThen_ok, Sem.run_pure, hz1, made_ints, Int.toNat_natCast]
  exact hK _ _ (h _ _ (Fresh.alloc w _) (IsS.new w 3 _))
/-- The first part of a row that the call owns. -/
theorem ownsRow_take {w : World} {base : Nat} {e : TypeId} {size g cap n : Nat} {xs : List Value} (m : Nat) (hm : m ≤ n)
    (h : w.ownsRow base e size (.slice (some ⟨g, 0, none⟩) n cap) n xs) : w.ownsRow base e size (.slice (some ⟨g, 0, none⟩) m cap) m (xs.take (m * size)) := by
  obtain ⟨h1, h2⟩ := h
  rcases h2 with ⟨h0, _⟩ | ⟨g', cap', cur, hv, hg, hh, hn, hcap, hsz, htake⟩
  · cases h0
  · cases hv
    have hle : m * size ≤ n * size := Nat.mul_le_mul_right _ hm
    refine ⟨by rw [List.length_take, h1]; omega, .inr ⟨g, cap, cur, rfl, hg, hh, by omega, hcap, hsz, ?_⟩⟩
    rw [← htake, List.take_take, Nat.min_eq_left hle]
end Go.Proofs.YtjnbhcakfenbhaaGreatDoor
/- Nodes as a row of one's own; blocks that stay. -/
namespace Go.Proofs.YtjnbhcakfenbhaaGreatDoor
open Go.RowKit Go.Shelf M
set_option linter.unusedSimpArgs false
set_option linter.unusedVariables false


theorem grow_tailW {id : Nat} {Q : Exit → Act → World → Prop} {a : Act} {W : World} {l : List Oper} (n : Nat) (hm : Tryz.prog.follows .mixedOrders = true) (hB : Region.lexTailB .any l.toArray n = true)
    (h : WG l.toArray W (fun a' => ∀ w', Below W.heap.size W w' → wpList Tryz.prog l.toArray Q (l.drop n) a' w') (l.take n) a) : (Code.region id l.toArray true).wp Tryz.prog Q a W := grow_tail n hm hB h.out
def cellsL (out : List Nd) : List Value := out.flatMap ndL
theorem cellsL_len : ∀ out : List Nd, (cellsL out).length = out.length * 6
  | [] => rfl
  | n :: r => by simp only [cellsL, List.flatMap_cons, List.length_append, List.length_cons] at *; rw [show (r.flatMap ndL).length = r.length * 6 from cellsL_len r]; simp [ndL]; omega
theorem cellsL_snoc (out : List Nd) (n : Nd) : cellsL (out ++ [n]) = cellsL out ++ ndL n := by simp [cellsL]
/-- Blocks stay, but for a variable's and a row's; the row's is the old one or new. -/
structure Step (bo row row' : Option Nat) (W W' : World) : Prop where
  os : W'.os = W.os
  tape : W'.tape = W.tape
  output : W'.output = W.output
  size : W.heap.size ≤ W'.heap.size
  block : ∀ k, k < W.heap.size → some k ≠ bo → some k ≠ row → W'.heap[k]? = W.heap[k]?
  row : row' = row ∨ ∃ g, row' = some g ∧ W.heap.size ≤ g
theorem Step.comp {bo r0 r1 r2 : Option Nat} {A B C : World} (h : Step bo r0 r1 A B) (k : Step bo r1 r2 B C) : Step bo r0 r2 A C :=
  ⟨k.os.trans h.os, k.tape.trans h.tape, k.output.trans h.output, Nat.le_trans h.size k.size,
   fun i hi h1 h2 => (k.block i (Nat.lt_of_lt_of_le hi h.size) h1 (by
     rcases h.row with e | ⟨g, e, hg⟩
     · rw [e]; exact h2
     · rw [e]; intro e'; cases e'; omega)).trans (h.block i hi h1 h2),
   by
     rcases k.row with e | ⟨g, e, hg⟩
     · rw [e]; exact h.row
     · exact .inr ⟨g, e, Nat.le_trans h.size hg⟩⟩
theorem Step.of_below {bo row : Option Nat} {W W' : World} (h : Below W.heap.size W W') : Step bo row row W W' := ⟨h.os, h.tape, h.output, h.size, fun k hk _ _ => h.block k hk, .inl rfl⟩
theorem Step.of_upd {b : Nat} {row : Option Nat} {W W' : World} (U : Upd W W' b) : Step (some b) row row W W' := ⟨U.os, U.tape, U.output, Nat.le_of_eq U.size.symm, fun k _ hk _ => U.block k (fun e => hk (by rw [e])), .inl rfl⟩
theorem Step.mono {bo r0 r1 : Option Nat} {W W' : World} (h : Step none r0 r1 W W') : Step bo r0 r1 W W' := ⟨h.os, h.tape, h.output, h.size, fun k hk _ h2 => h.block k hk (fun e => by cases e) h2, h.row⟩
theorem Step.below {bo r0 r1 : Option Nat} {W W' : World} {B : Nat} (h : Step bo r0 r1 W W') (hb : ∀ b, bo = some b → B ≤ b) (hr : ∀ b, r0 = some b → B ≤ b) (hB : B ≤ W.heap.size) : Below B W W' :=
  ⟨h.os, h.tape, h.output, h.size, fun k hk => h.block k (by omega) (fun e => by have := hb k e.symm; omega) (fun e => by have := hr k e.symm; omega)⟩
theorem IsS.step {bo r0 r1 : Option Nat} {W W' : World} {b t : Nat} {cs : List Value} (h : IsS W b t cs) (s : Step bo r0 r1 W W') (h1 : some b ≠ bo) (h2 : some b ≠ r0) : IsS W' b t cs := (s.block b h.lt h1 h2).trans h
theorem partsN : ∃ i, Tryz.prog.info? 62 = some i ∧ i.zero = some (.agg (ndL noNd).toArray) ∧ i.size = 6 ∧ i.bytes = 56 := by
  have h : (Tryz.prog.info? 62).map (fun i => (i.zero, i.size, i.bytes)) = some (some (.agg (ndL noNd).toArray), 6, 56) := by kernel_rfl
  exact info_parts h
theorem run_appN {w : World} (B : Nat) (v : Value) (out : List Nd) (hown : w.ownsRow B 62 6 v out.length (cellsL out)) (b c : Nat) (nd : Nd) (hb : IsS w b 62 (ndL nd)) (hn : out.length ≤ 16777216) (hB : B ≤ w.heap.size) (ty : TypeId) :
    ∃ v' w', (Builtin.append_ #[23, 23] ty #[v, .slice (some ⟨b, 0, none⟩) 1 c]).run Tryz.prog w = .ok v' w' ∧ w'.ownsRow B 62 6 v' (out ++ [nd]).length (cellsL (out ++ [nd])) ∧ Step none v.ownBlock v'.ownBlock w w' := by
  obtain ⟨i0, hi, hz, hs, hby⟩ := partsN
  have hnews : ∀ j u, (ndL nd)[j]? = some u → w.cell? ((⟨b, 0, none⟩ : Addr).add j) = some u := fun j u hj => by rw [Addr.add_mid, Nat.zero_add, hb.cell]; exact hj
  obtain ⟨v', w', hr, ho, hg, _⟩ := run_append_own (P := Tryz.prog) w B 23 ty 62 i0 (.agg (ndL noNd).toArray) 6 56 Tryz.underlying23 hi hz hs hby rfl (by decide) v out.length (cellsL out) hown ⟨b, 0, none⟩ 1 c (ndL nd) rfl hnews (nd_one nd) (by unfold maxLen; omega) (by omega) hB
  refine ⟨v', w', hr, by rw [cellsL_snoc, List.length_append]; exact ho, hg.os, hg.tape, hg.output, hg.size, fun k hk _ h2 => hg.block k hk h2, ?_⟩
  rcases hown.2 with ⟨rfl, hn0⟩ | ⟨g, cap, cur, rfl, hbg, hgc, hnc, hcm, hcs, htake⟩
  · have h2 := run_append_nil (P := Tryz.prog) w 23 ty 62 i0 _ Tryz.underlying23 hi hz ⟨b, 0, none⟩ 1 c (ndL nd) (by rw [hs]; rfl) hnews (by omega) (by omega) (by rw [hby]; omega)
    rw [hr] at h2
    injection h2 with e1 e2
    rw [e1]
    exact .inr ⟨w.heap.size, rfl, Nat.le_refl _⟩
  · by_cases hroom : out.length + 1 ≤ cap
    · have h2 := run_append_room (P := Tryz.prog) w 23 ty 62 i0 Tryz.underlying23 hi g out.length cap cur hgc ⟨b, 0, none⟩ 1 c (ndL nd) (by rw [hs]; rfl) hnews (nd_one nd) hroom (by rw [hs, hcs]; show out.length * 6 + 6 ≤ cap * 6; omega)
      rw [hr] at h2
      injection h2 with e1 e2
      rw [e1]
      exact .inl rfl
    · have h2 := run_append_grow (P := Tryz.prog) w 23 ty 62 i0 _ Tryz.underlying23 hi hz ⟨g, 0, none⟩ out.length cap (cellsL out) (by rw [hs]; exact hown.1) (hown.cells (g := g) rfl) ⟨b, 0, none⟩ 1 c (ndL nd) (by rw [hs]; rfl) hnews (by omega) (by omega) (growslice_fits (by omega) (by rw [hby]; omega))
      rw [hr] at h2
      injection h2 with e1 e2
      rw [e1]
      exact .inr ⟨w.heap.size, rfl, Nat.le_refl _⟩
section
variable {w : World} {ops : Array Oper} {rest : List Oper} {op : Oper} {a : Act} {Q : Exit → Act → World → Prop}
theorem wpList_appN (hgd : op.guard = none) (s x : Operand) (ho : op.op = .call { callee := .builtin .append, args := #[s, x], argTypes := #[23, 23] })
    (B : Nat) (v : Value) (out : List Nd) (hs : a.eval s = v) (hown : w.ownsRow B 62 6 v out.length (cellsL out)) (b c : Nat) (nd : Nd) (hx : a.eval x = .slice (some ⟨b, 0, none⟩) 1 c) (hb : IsS w b 62 (ndL nd)) (hn : out.length ≤ 16777216) (hB : B ≤ w.heap.size)
    (h : ∀ v' w', w'.ownsRow B 62 6 v' (out ++ [nd]).length (cellsL (out ++ [nd])) → Step none v.ownBlock v'.ownBlock w w' → wpList Tryz.prog ops Q rest (a.put op.dst v') w') : wpList Tryz.prog ops Q (op :: rest) a w := by
  refine wpList_plain hgd fun K hK => ?_
  obtain ⟨v', w', hr, h1, h2⟩ := run_appN B v out hown b c nd hb hn hB op.type
  unfold Oper.wp execOp
  simp only [ho, resolve, invoke, builtin, Sem.run_bind, Sem.run_pure, Result.andThen_ok, List.map_toArray, List.map_cons, List.map_nil, hs, hx, hr]
  exact hK _ _ (h v' w' h1 h2)
theorem wpList_buildN (hgd : op.guard = none) (x : Operand) (ho : op.op = .buildSlice 23 1 #[(0, x)]) (nd : Nd) (hx : a.eval x = .agg (ndL nd).toArray)
    (h : ∀ W b, Fresh w W b → IsS W b 62 (ndL nd) → wpList Tryz.prog ops Q rest (a.put op.dst (.slice (some ⟨b, 0, none⟩) 1 1)) W) : wpList Tryz.prog ops Q (op :: rest) a w := by
  refine wpList_plain hgd fun K hK => ?_
  have hr : (execOp a.eval op).run Tryz.prog w = .ok (.value (.slice (some ⟨w.heap.size, 0, none⟩) 1 1)) (w.alloc (.cells (ndL nd).toArray 62)) := by
    generalize a.eval = ev at hx ⊢
    unfold execOp
    simp [ho, hx, go_sem, Value.cells, ndL]
  unfold Oper.wp
  rw [hr]
  exact hK _ _ (h _ _ (Fresh.alloc w _) (IsS.new w 62 _))
end
end Go.Proofs.YtjnbhcakfenbhaaGreatDoor

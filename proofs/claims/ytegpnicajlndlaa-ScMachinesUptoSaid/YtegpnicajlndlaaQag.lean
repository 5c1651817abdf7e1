/- PM, FN -/
import Derived.Test.YtegpnicajlndlaaQaf
import Derived.Laws.IdiomCopy
namespace Go.Proofs.Ytegpnicajlndlaa
open Go.RowKit M
set_option linter.unusedSimpArgs false
set_option linter.unusedVariables false
structure Op5 where
 kind : Int
 reg : Int
 src : Int
 loc : Int
 imm : Int
def op5L (o : Op5) : List Value := [.int .i64 o.kind, .int .i64 o.reg, .int .i64 o.src, .int .i64 o.loc, .int .i64 o.imm]
def strE (s : ByteArray) : List Value := [.string s]
def intE (i : Int) : List Value := [.int .i64 i]
structure PG where
 threads : List (List Op5)
 regs : List (List ByteArray)
 locs : List ByteArray
 regInit : List (List Int)
 locInit : List Int
structure PG.Few (p : PG) : Prop where
 t : p.threads.length ≤ 1048576
 tt : p.threads.flatten.length ≤ 1048576
 r : p.regs.length ≤ 1048576
 rr : p.regs.flatten.length ≤ 1048576
 l : p.locs.length ≤ 1048576
 i : p.regInit.length ≤ 1048576
 ii : p.regInit.flatten.length ≤ 1048576
 j : p.locInit.length ≤ 1048576
 rs : ∀ l ∈ p.regs, ∀ s ∈ l, s.size ≤ maxLen
 ls : ∀ s ∈ p.locs, s.size ≤ maxLen
structure PGV (w : World) (vt vr vl vi vj : Value) (p : PG) : Prop where
 t : RowsV w vt op5L p.threads
 r : RowsV w vr strE p.regs
 l : RowV w vl p.locs.length (p.locs.flatMap strE)
 i : RowsV w vi intE p.regInit
 j : RowV w vj p.locInit.length (p.locInit.flatMap intE)
theorem PGV.below {w W : World} {vt vr vl vi vj : Value} {p : PG} (h : PGV w vt vr vl vi vj p) (hB : Below w.heap.size w W) : PGV W vt vr vl vi vj p :=
 ⟨h.t.below hB, h.r.below hB, h.l.below hB, h.i.below hB, h.j.below hB⟩
theorem op_one (o : Op5) : ∀ v ∈ op5L o, v.oneCell' = true := by simp [op5L, Value.oneCell']
theorem infoOp : (Try.prog.info? 63).map (·.size) = some 5 := by kernel_rfl
theorem infoPg : (Try.prog.info? 28).map (·.size) = some 5 := by kernel_rfl
theorem flat1 {α : Type} (f : α → Value) : ∀ l : List α, l.flatMap (fun x => [f x]) = l.map f
 | [] => rfl
 | x :: l => by rw [List.flatMap_cons, flat1 f l]; rfl
theorem str_at {ss : List ByteArray} {j : Nat} {s : ByteArray} (h : ss[j]? = some s) : (ss.flatMap strE)[j]? = some (.string s) := by
 rw [show ss.flatMap strE = ss.map Value.string from flat1 _ ss, List.getElem?_map, h]; rfl
theorem int_at {ss : List Int} {j : Nat} {s : Int} (h : ss[j]? = some s) : (ss.flatMap intE)[j]? = some (.int .i64 s) := by
 rw [show ss.flatMap intE = ss.map (Value.int .i64) from flat1 _ ss, List.getElem?_map, h]; rfl
theorem op_at : ∀ (gs : List Op5) (j : Nat) (g : Op5), gs[j]? = some g → ∀ (i : Nat) (v : Value), (op5L g)[i]? = some v → (gs.flatMap op5L)[j * 5 + i]? = some v
 | [], j, g, h, i, v, hv => by simp at h
 | x :: gs, 0, g, h, i, v, hv => by
  simp at h; subst h
  have hi : i < (op5L x).length := (List.getElem?_eq_some_iff.1 hv).1
  show (op5L x ++ gs.flatMap op5L)[0 * 5 + i]? = some v
  rw [Nat.zero_mul, Nat.zero_add, List.getElem?_append_left hi]; exact hv
 | x :: gs, j + 1, g, h, i, v, hv => by
  have := op_at gs j g (by simpa using h) i v hv
  show (op5L x ++ gs.flatMap op5L)[(j + 1) * 5 + i]? = some v
  have e : (op5L x).length = 5 := rfl
  rw [List.getElem?_append_right (by omega), e, show (j + 1) * 5 + i - 5 = j * 5 + i by omega]
  exact this
theorem Seg.op {w : World} {a : Option Addr} {gs : List Op5} (h : Seg w a (gs.flatMap op5L)) {j : Nat} {g : Op5} (hg : gs[j]? = some g) : ∃ b o, a = some ⟨b, o, none⟩ ∧ b < w.heap.size ∧ w.rangeAt b (o + j * 5) (op5L g) := by
 obtain ⟨b, o, e, hb, _⟩ := h (j * 5 + 0) _ (op_at gs j g hg 0 _ rfl)
 refine ⟨b, o, e, hb, fun i v hv => ?_⟩
 obtain ⟨b', o', e', _, hc⟩ := h (j * 5 + i) v (op_at gs j g hg i v hv)
 rw [e] at e'; cases e'
 rw [Nat.add_assoc]; exact hc
theorem Seg.str {w : World} {a : Option Addr} {gs : List ByteArray} (h : Seg w a (gs.flatMap strE)) {j : Nat} {g : ByteArray} (hg : gs[j]? = some g) : ∃ b o, a = some ⟨b, o, none⟩ ∧ b < w.heap.size ∧ w.cell? ⟨b, o + j, none⟩ = some (.string g) := h j _ (str_at hg)
theorem Seg.int {w : World} {a : Option Addr} {gs : List Int} (h : Seg w a (gs.flatMap intE)) {j : Nat} {g : Int} (hg : gs[j]? = some g) : ∃ b o, a = some ⟨b, o, none⟩ ∧ b < w.heap.size ∧ w.cell? ⟨b, o + j, none⟩ = some (.int .i64 g) := h j _ (int_at hg)
theorem take_at {α : Type} {l : List α} {k : Nat} {x : α} (h : l[k]? = some x) : l.take (k + 1) = l.take k ++ [x] := by
 obtain ⟨hk, e⟩ := List.getElem?_eq_some_iff.1 h
 rw [List.take_succ_eq_append_getElem hk, e]
def evOf (k : Int) : Int := if k = 3 ∨ k = 4 ∨ k = 5 ∨ k = 6 then 1 else if k = 7 ∨ k = 8 ∨ k = 9 then 2 else 0
theorem evOf_bd (k : Int) : 0 ≤ evOf k ∧ evOf k ≤ 2 := by unfold evOf; (repeat' split) <;> omega
set_option maxRecDepth 100000 in
set_option maxHeartbeats 1000000 in
theorem eventsOf_any (e : Int) (w : World) : Calls Try.prog 112 #[.int .i64 e] w fun en w' => en = .returned (.int .i64 (evOf e)) ∧ w' = w := by
 go_enter Try.func112, Try.ntmps112
 go_wp2
 all_goals
  go_ret
  refine ⟨ret_int ?_, rfl⟩
  (try simp only [beq_iff_eq, beq_eq_false_iff_ne, ne_eq] at *)
  unfold evOf
  (repeat' split) <;> omega
set_option maxRecDepth 100000 in
set_option maxHeartbeats 1000000 in
theorem weight_any (e : Int) (w : World) : Calls Try.prog 102 #[.int .i64 e] w fun en w' => en = .returned (.int .i64 (evOf e)) ∧ w' = w := by
 go_enter Try.func102, Try.ntmps102
 go_wp2
 all_goals
  go_ret
  refine ⟨ret_int ?_, rfl⟩
  (try simp only [beq_iff_eq, beq_eq_false_iff_ne, ne_eq] at *)
  unfold evOf
  (repeat' split) <;> omega
def evL : List Op5 → Int
 | [] => 0
 | o :: l => evOf o.kind + evL l
theorem evL_app : ∀ (a b : List Op5), evL (a ++ b) = evL a + evL b
 | [], b => by simp [evL]
 | x :: a, b => by simp [evL, evL_app a b]; omega
theorem evL_bd : ∀ (l : List Op5), 0 ≤ evL l ∧ evL l ≤ 2 * (l.length : Int)
 | [] => by simp [evL]
 | x :: l => by have := evL_bd l; have := evOf_bd x.kind; simp [evL]; omega
def eventsV (p : PG) : Int := p.locs.length + evL p.threads.flatten
theorem flat_at {α : Type} {ls : List (List α)} {i k : Nat} {l : List α} (h : ls[i]? = some l) (hk : k ≤ l.length) : ((ls.take i).flatten ++ l.take k).length ≤ ls.flatten.length := by
 obtain ⟨hi, e⟩ := List.getElem?_eq_some_iff.1 h
 have e2 : ls = ls.take i ++ l :: ls.drop (i + 1) := by rw [← e]; simp
 have e3 : ls.flatten = (ls.take i).flatten ++ (l ++ (ls.drop (i + 1)).flatten) := by
  conv => lhs; rw [e2]
  simp
 rw [e3]; simp; omega
theorem flat_take {α : Type} {ls : List (List α)} {i : Nat} {l : List α} (h : ls[i]? = some l) : (ls.take (i + 1)).flatten = (ls.take i).flatten ++ l := by rw [take_at h]; simp
def padI (vs : List Int) : List Int := vs ++ List.replicate (48 - vs.length) 0
def finL (vs : List Int) : List Value := .int .i64 (vs.length : Int) :: (padI vs).map (.int .i64)
theorem padI_len {vs : List Int} (h : vs.length ≤ 48) : (padI vs).length = 48 := by unfold padI; rw [List.length_append, List.length_replicate]; omega
theorem finL_len {vs : List Int} (h : vs.length ≤ 48) : (finL vs).length = 49 := by unfold finL; rw [List.length_cons, List.length_map, padI_len h]
theorem finL_one (vs : List Int) : ∀ v ∈ finL vs, v.oneCell' = true := fun v hv => by
 unfold finL at hv
 rcases List.mem_cons.1 hv with rfl | hv
 · rfl
 · obtain ⟨i, _, rfl⟩ := List.mem_map.1 hv; rfl
theorem infoFin : (Try.prog.info? 80).map (·.size) = some 49 := by kernel_rfl
theorem zeroFin (w : World) : (zeroValue 80).run Try.prog w = .ok (.agg (finL []).toArray) w := by
 have h : Try.t80.zero = some (.agg (finL []).toArray) := by kernel_rfl
 simp [go_sem, zeroValue, h]
def padTo (m : Nat) (vals : List Int) : List Int := (List.range m).map fun i => vals.getD i 0
theorem padTo_len (m : Nat) (vals : List Int) : (padTo m vals).length = m := by simp [padTo]
def slA (b N : Nat) : Addr := if 48 = N then ⟨b, 1, none⟩ else ⟨b, 1 + N, none⟩
theorem infoI2 : (Try.prog.info? 2).map (·.size) = some 1 := by kernel_rfl
theorem int_map (vals : List Int) : vals.flatMap intE = vals.map (.int .i64) := flat1 _ vals
theorem run_cp (w : World) (ty : TypeId) (b t N n nv c : Nat) (cs : List Value) (vals : List Int) (hn : N + n ≤ 48) (hv : vals.length = nv) (a : Option Addr) (hC : IsS w b t cs) (hl : cs.length = 49) (hs : Seg w a (vals.flatMap intE)) :
    ∃ v W, (Builtin.copy_ #[26, 26] ty #[.slice (some (slA b N)) n (48 - N), .slice a nv c]).run Try.prog w = .ok v W ∧ Upd w W b ∧ IsS W b t (putL cs (1 + N) ((vals.take n).map (.int .i64))) := by
 by_cases h0 : Nat.min nv n = 0
 · refine ⟨_, w, run_copy_none (P := Try.prog) w _ _ ty 2 _ _ n (48 - N) nv c Try.underlying26 infoI2 h0, Upd.refl w b, ?_⟩
   have : vals.take n = [] := by
    rcases Nat.eq_zero_or_pos n with h | h
    · rw [h]; rfl
    · have : nv = 0 := by
       have h' : min nv n = 0 := h0
       omega
      have : vals = [] := List.length_eq_zero_iff.1 (by omega)
      rw [this]; simp
   rw [this]; exact hC
 · have h0' : min nv n ≠ 0 := h0
   have hsl : slA b N = ⟨b, 1 + N, none⟩ := by unfold slA; rw [if_neg (by omega)]
   rw [hsl]
   obtain ⟨v0, hv0⟩ : ∃ v, vals[0]? = some v := ⟨_, List.getElem?_eq_getElem (by omega)⟩
   obtain ⟨ba, oa, rfl, _, _⟩ := hs.int hv0
   have hlen : ((vals.take n).map (Value.int .i64)).length = Nat.min nv n := by
    rw [List.length_map, List.length_take, hv]; show min n nv = min nv n; omega
   have hle : min nv n ≤ n := Nat.min_le_right _ _
   refine ⟨_, _, run_copy_cells (P := Try.prog) w _ _ ty 2 b (1 + N) n (48 - N) ⟨ba, oa, none⟩ nv c ((vals.take n).map (.int .i64)) Try.underlying26 infoI2 hlen (fun j v hj => ?_) (fun j hj => ?_) (fun j hj => hC.frozen _) (fun v hv' => ?_), Upd.setCells b _ _ w, IsS.setL _ _ _ _ hC⟩
   · rw [Addr.add_mid]
     rw [List.getElem?_map, List.getElem?_take] at hj
     split at hj
     · cases hq : vals[j]? with
       | none => rw [hq] at hj; cases hj
       | some x =>
        rw [hq] at hj; cases hj
        obtain ⟨b', o', e', _, hc⟩ := hs.int hq
        cases e'; exact hc
     · cases hj
   · rw [hC.cell, List.getElem?_eq_getElem (by have h' : Nat.min nv n = min nv n := rfl; omega)]; rfl
   · obtain ⟨x, _, rfl⟩ := List.mem_map.1 hv'; rfl
theorem putL_get : ∀ (vs cs : List Value) (o j : Nat), o + vs.length ≤ cs.length → (putL cs o vs)[j]? = if o ≤ j ∧ j < o + vs.length then vs[j - o]? else cs[j]?
 | [], cs, o, j, h => by rw [if_neg (by simp only [List.length_nil]; omega)]; rfl
 | v :: vs, cs, o, j, h => by
  show (putL (cs.set o v) (o + 1) vs)[j]? = _
  simp only [List.length_cons] at *
  rw [putL_get vs (cs.set o v) (o + 1) j (by rw [List.length_set]; omega)]
  by_cases h1 : o + 1 ≤ j ∧ j < o + 1 + vs.length
  · rw [if_pos h1, if_pos (by omega), show j - o = (j - (o + 1)) + 1 by omega]; rfl
  · rw [if_neg h1]
    by_cases h2 : j = o
    · subst h2
      rw [if_pos (by omega), List.getElem?_set_self (by omega), Nat.sub_self]; rfl
    · rw [if_neg (by omega), List.getElem?_set_ne (by omega)]
theorem putL_len : ∀ (vs cs : List Value) (o : Nat), (putL cs o vs).length = cs.length
 | [], cs, o => rfl
 | v :: vs, cs, o => by show (putL (cs.set o v) (o + 1) vs).length = _; rw [putL_len vs, List.length_set]
theorem finL_get (vs : List Int) (hv : vs.length ≤ 48) (j : Nat) (hj : j < 48) : (finL vs)[j + 1]? = some (.int .i64 (vs.getD j 0)) := by
 unfold finL padI
 rw [List.getElem?_cons_succ, List.getElem?_map]
 by_cases h : j < vs.length
 · rw [List.getElem?_append_left h, List.getElem?_eq_getElem h]
   simp [h]
 · rw [List.getElem?_append_right (by omega), List.getElem?_replicate, if_pos (by omega)]
   simp [Nat.not_lt.1 h]
theorem put_fin (vs vals : List Int) (n : Nat) (h : vs.length + n ≤ 48) :
    ((putL (finL vs) (1 + vs.length) ((vals.take n).map (.int .i64))).set 0 (.int .i64 ((vs.length : Int) + (n : Int)))) = finL (vs ++ padTo n vals) := by
 have hL : (vs ++ padTo n vals).length = vs.length + n := by rw [List.length_append, padTo_len]
 have hml : ((vals.take n).map (Value.int .i64)).length ≤ n := by rw [List.length_map, List.length_take]; omega
 refine List.ext_getElem? fun j => ?_
 cases j with
 | zero =>
  rw [List.getElem?_set_self (by rw [putL_len, finL_len (by omega)]; omega)]
  unfold finL
  rw [List.getElem?_cons_zero, hL]
  simp
 | succ j =>
  rw [List.getElem?_set_ne (by omega), putL_get _ _ _ _ (by rw [finL_len (by omega)]; omega)]
  by_cases hj : j < 48
  · rw [finL_get (vs ++ padTo n vals) (by rw [hL]; exact h) j hj]
    by_cases h1 : 1 + vs.length ≤ j + 1 ∧ j + 1 < 1 + vs.length + ((vals.take n).map (Value.int .i64)).length
    · rw [if_pos h1]
      rw [List.length_map, List.length_take] at h1
      rw [List.getElem?_map, List.getElem?_take, if_pos (by omega)]
      have e : j + 1 - (1 + vs.length) = j - vs.length := by omega
      rw [e]
      obtain ⟨x, hx⟩ : ∃ x, vals[j - vs.length]? = some x := ⟨_, List.getElem?_eq_getElem (by omega)⟩
      rw [hx]
      have : (vs ++ padTo n vals).getD j 0 = x := by
       rw [List.getD_eq_getElem?_getD, List.getElem?_append_right (by omega)]
       unfold padTo
       rw [List.getElem?_map, List.getElem?_range (by omega)]
       simp [hx]
      rw [this]; rfl
    · rw [if_neg h1, finL_get vs (by omega) j hj]
      rw [List.length_map, List.length_take] at h1
      congr 2
      rw [List.getD_eq_getElem?_getD, List.getD_eq_getElem?_getD]
      by_cases h2 : j < vs.length
      · rw [List.getElem?_append_left h2]
      · rw [List.getElem?_eq_none (by omega), List.getElem?_append_right (by omega)]
        by_cases h3 : j - vs.length < n
        · unfold padTo
          rw [List.getElem?_map, List.getElem?_range h3]
          simp only [Option.map_some, Option.getD_some, Option.getD_none]
          rw [List.getD_eq_getElem?_getD, List.getElem?_eq_none (by omega)]; rfl
        · rw [List.getElem?_eq_none (by rw [padTo_len]; omega)]
  · rw [if_neg (by omega), List.getElem?_eq_none (l := finL vs) (by rw [finL_len (by omega)]; omega), List.getElem?_eq_none (by rw [finL_len (by rw [hL]; exact h)]; omega)]
theorem info3' : (Try.prog.info? 3).map (·.size) = some 1 := by kernel_rfl
theorem putL_all {cs vs : List Value} (h : vs.length = cs.length) : putL cs 0 vs = vs := by
 refine List.ext_getElem? fun j => ?_
 rw [putL_get _ _ _ _ (by omega)]
 by_cases hj : j < vs.length
 · rw [if_pos (by omega), Nat.sub_zero]
 · rw [if_neg (by omega), List.getElem?_eq_none (by omega), List.getElem?_eq_none (by omega)]
section
variable {w : World} {b t o : Nat} {cs : List Value} {ops : Array Oper} {rest : List Oper} {op : Oper} {a : Act} {Q : Exit → Act → World → Prop}
theorem wpList_loadW (hgd : op.guard = none) (ty : TypeId) (x : Operand) (ho : op.op = .load ty x) (hx : a.eval x = .pointer (some ⟨b, 0, none⟩)) (hc : IsS w b t cs) (d : TypeDesc)
    (hu : Try.prog.underlying ty = some d) (hd : d.isRow = true) (hi : (Try.prog.info? ty).map (·.size) = some cs.length)
    (h : wpList Try.prog ops Q rest (a.put op.dst (.agg cs.toArray)) w) : wpList Try.prog ops Q (op :: rest) a w := by
 have hr := hc.range 0 cs.length
 rw [List.drop_zero, List.take_length] at hr
 exact wpList_load_mid hgd ty x ho b 0 hx cs d hr hu hd hi h
theorem wpList_storeW (hgd : op.guard = none) (ty : TypeId) (x y : Operand) (ho : op.op = .store ty x y) (hx : a.eval x = .pointer (some ⟨b, 0, none⟩)) (vs : List Value) (hy : a.eval y = .agg vs.toArray) (hc : IsS w b t cs)
    (hk : vs.length = cs.length) (hi : (Try.prog.info? ty).map (·.size) = some vs.length) (h1 : ∀ v ∈ vs, v.oneCell' = true)
    (h : ∀ W, Upd w W b → IsS W b t vs → wpList Try.prog ops Q rest (a.put op.dst undef) W) : wpList Try.prog ops Q (op :: rest) a w :=
 wpList_storeS hgd ty x y ho hx vs hy hc (by omega) hi h1 (fun W U C => h W U (by rw [putL_all hk] at C; exact C))
end
end Go.Proofs.Ytegpnicajlndlaa

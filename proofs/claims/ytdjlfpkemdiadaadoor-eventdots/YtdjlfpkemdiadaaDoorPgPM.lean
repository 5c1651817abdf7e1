/- Programs in memory; Events of both sides. -/
import Derived.Test.YtdjlfpkemdiadaaDoorPgSL
namespace Go.Proofs.YtdjlfpkemdiadaaDoor
open Go.RowKit M
set_option linter.unusedSimpArgs false
set_option linter.unusedVariables false

structure Op5 where
  kind : Int
  reg : Int
  src : Int
  loc : Int
  imm : Int
def op5L (o : Op5) : List Value := [.int .i64 o.kind, .int .i64 o.reg, .int .i64 o.src, .int .i64 o.loc, .int .i64 o.imm]
structure PG where
  threads : List (List Op5)
  regs : List (List ByteArray)
  locs : List ByteArray
  regInit : List (List Int)
  locInit : List Int
/-- No more than so much. -/
structure PG.Few (p : PG) : Prop where
  t : p.threads.length ≤ 1048576
  tt : p.threads.flatten.length ≤ 1048576
  r : p.regs.length ≤ 1048576
  rr : p.regs.flatten.length ≤ 1048576
  l : p.locs.length ≤ 1048576
  i : p.regInit.length ≤ 1048576
  ii : p.regInit.flatten.length ≤ 1048576
  j : p.locInit.length ≤ 1048576
  rs : ∀ l ∈ p.regs, ∀ s ∈ l, s.size ≤ maxLen
  ls : ∀ s ∈ p.locs, s.size ≤ maxLen
/-- A program in memory: its five slices. -/
structure PGV (w : World) (vt vr vl vi vj : Value) (p : PG) : Prop where
  t : RowsV w vt op5L p.threads
  r : RowsV w vr strE p.regs
  l : RowV w vl p.locs.length (p.locs.flatMap strE)
  i : RowsV w vi intE p.regInit
  j : RowV w vj p.locInit.length (p.locInit.flatMap intE)
theorem PGV.below {w W : World} {vt vr vl vi vj : Value} {p : PG} (h : PGV w vt vr vl vi vj p) (hB : Below w.heap.size w W) : PGV W vt vr vl vi vj p :=
  ⟨h.t.below hB, h.r.below hB, h.l.below hB, h.i.below hB, h.j.below hB⟩
theorem op_one (o : Op5) : ∀ v ∈ op5L o, v.oneCell' = true := by simp [op5L, Value.oneCell']
theorem infoOp : (Tryd.prog.info? 58).map (·.size) = some 5 := by kernel_rfl
theorem infoPg : (Tryd.prog.info? 28).map (·.size) = some 5 := by kernel_rfl
theorem op_at : ∀ (gs : List Op5) (j : Nat) (g : Op5), gs[j]? = some g → ∀ (i : Nat) (v : Value), (op5L g)[i]? = some v → (gs.flatMap op5L)[j * 5 + i]? = some v
  | [], j, g, h, i, v, hv => by simp at h
  | x :: gs, 0, g, h, i, v, hv => by
    simp at h; subst h
    have hi : i < (op5L x).length := (List.getElem?_eq_some_iff.1 hv).1
    show (op5L x ++ gs.flatMap op5L)[0 * 5 + i]? = some v
    rw [Nat.zero_mul, Nat.zero_add, List.getElem?_append_left hi]; exact hv
  | x :: gs, j + 1, g, h, i, v, hv => by
    have := op_at gs j g (by simpa using h) i v hv
    show (op5L x ++ gs.flatMap op5L)[(j + 1) * 5 + i]? = some v
    have e : (op5L x).length = 5 := rfl
    rw [List.getElem?_append_right (by omega), e, show (j + 1) * 5 + i - 5 = j * 5 + i by omega]
    exact this
/-- An instruction of a row. -/
theorem Seg.op {w : World} {a : Option Addr} {gs : List Op5} (h : Seg w a (gs.flatMap op5L)) {j : Nat} {g : Op5} (hg : gs[j]? = some g) : ∃ b o, a = some ⟨b, o, none⟩ ∧ b < w.heap.size ∧ w.rangeAt b (o + j * 5) (op5L g) := by
  obtain ⟨b, o, e, hb, _⟩ := h (j * 5 + 0) _ (op_at gs j g hg 0 _ rfl)
  refine ⟨b, o, e, hb, fun i v hv => ?_⟩
  obtain ⟨b', o', e', _, hc⟩ := h (j * 5 + i) v (op_at gs j g hg i v hv)
  rw [e] at e'; cases e'
  rw [Nat.add_assoc]; exact hc
theorem Seg.str {w : World} {a : Option Addr} {gs : List ByteArray} (h : Seg w a (gs.flatMap strE)) {j : Nat} {g : ByteArray} (hg : gs[j]? = some g) : ∃ b o, a = some ⟨b, o, none⟩ ∧ b < w.heap.size ∧ w.cell? ⟨b, o + j, none⟩ = some (.string g) := h j _ (str_at hg)
theorem Seg.int {w : World} {a : Option Addr} {gs : List Int} (h : Seg w a (gs.flatMap intE)) {j : Nat} {g : Int} (hg : gs[j]? = some g) : ∃ b o, a = some ⟨b, o, none⟩ ∧ b < w.heap.size ∧ w.cell? ⟨b, o + j, none⟩ = some (.int .i64 g) := h j _ (int_at hg)
def evOf (k : Int) : Int := if k = 3 ∨ k = 4 ∨ k = 5 ∨ k = 6 then 1 else if k = 7 ∨ k = 8 ∨ k = 9 then 2 else 0
theorem evOf_bd (k : Int) : 0 ≤ evOf k ∧ evOf k ≤ 2 := by unfold evOf; (repeat' split) <;> omega
set_option maxRecDepth 100000 in
set_option maxHeartbeats 1000000 in
theorem eventsOf_any (e : Int) (w : World) : Calls Tryd.prog 30 #[.int .i64 e] w fun en w' => en = .returned (.int .i64 (evOf e)) ∧ w' = w := by
  go_enter Tryd.func30, Tryd.ntmps30
  go_wp2
  all_goals
    go_ret
    refine ⟨ret_int ?_, rfl⟩
    (try simp only [beq_iff_eq, beq_eq_false_iff_ne, ne_eq] at *)
    unfold evOf
    (repeat' split) <;> omega
def evLP : List Op5 → Int
  | [] => 0
  | o :: l => evOf o.kind + evLP l
theorem evL_app : ∀ (a b : List Op5), evLP (a ++ b) = evLP a + evLP b
  | [], b => by simp [evLP]
  | x :: a, b => by simp [evLP, evL_app a b]; omega
theorem evL_bd : ∀ (l : List Op5), 0 ≤ evLP l ∧ evLP l ≤ 2 * (l.length : Int)
  | [] => by simp [evLP]
  | x :: l => by have := evL_bd l; have := evOf_bd x.kind; simp [evLP]; omega
def eventsV (p : PG) : Int := p.locs.length + evLP p.threads.flatten
theorem flat_at {α : Type} {ls : List (List α)} {i k : Nat} {l : List α} (h : ls[i]? = some l) (hk : k ≤ l.length) : ((ls.take i).flatten ++ l.take k).length ≤ ls.flatten.length := by
  obtain ⟨hi, e⟩ := List.getElem?_eq_some_iff.1 h
  have e2 : ls = ls.take i ++ l :: ls.drop (i + 1) := by rw [← e]; simp
  have e3 : ls.flatten = (ls.take i).flatten ++ (l ++ (ls.drop (i + 1)).flatten) := by
    conv => lhs; rw [e2]
    simp
  rw [e3]; simp; omega
theorem flat_take {α : Type} {ls : List (List α)} {i : Nat} {l : List α} (h : ls[i]? = some l) : (ls.take (i + 1)).flatten = (ls.take i).flatten ++ l := by rw [take_at h]; simp
end Go.Proofs.YtdjlfpkemdiadaaDoor

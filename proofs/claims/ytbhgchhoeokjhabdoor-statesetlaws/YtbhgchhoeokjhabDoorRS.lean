/- Sort of the reference. -/
import Derived.Test.YtbhgchhoeokjhabDoorSO
import Derived.Test.YtbhgchhoeokjhabDoorA1
import Derived.Test.YtbhgchhoeokjhabDoorGT
namespace Go.Proofs.YtbhgchhoeokjhabDoor
open Go Go.RowKit M
set_option linter.unusedSimpArgs false
set_option linter.unusedVariables false

theorem own_open {w : World} {B n : Nat} {v : Value} {l : List FS} (h : OwnL w B v l) (hn : l.length = n) (h0 : 0 < n) :
    ∃ g cap cs, v = .slice (some ⟨g, 0, none⟩) n cap ∧ B ≤ g ∧ IsS w g 27 cs ∧ RowC cs l ∧ n ≤ cap ∧ cap ≤ maxLen ∧ cs.length = cap * 49 := by
  subst hn
  rcases h.2 with ⟨hv, h1⟩ | ⟨g, cap, cur, hv, hg, hh, hc, hm, hs, ht⟩
  · omega
  · exact ⟨g, cap, cur.toList, hv, hg, by unfold IsS; rw [hh], ht, hc, hm, by simpa using hs⟩
def sfA (g i cap : Nat) : Addr := if cap = i then ⟨g, 0, none⟩ else ⟨g, i * 49, none⟩
theorem exec_sfrom {w : World} {op : Oper} {a : Act} {x y : Operand} {g i n cap : Nat} (ho : op.op = .slice 22 x (some y) none none) (hx : a.eval x = .slice (some ⟨g, 0, none⟩) n cap) (hy : a.eval y = .int .i64 (i : Int)) (h : i ≤ n) (hc : n ≤ cap) (hm : cap ≤ maxLen) :
    (execOp a.eval op).run Tryd.prog w = .ok (.value (.slice (some (sfA g i cap)) (n - i) (cap - i))) w := by
  unfold maxLen at hm
  have h1 : (0 : Int) ≤ (i : Int) ∧ (i : Int) ≤ (cap : Int) := by omega
  have hs : ¬ ((i : Int) < 0) := by omega
  have h2 : i ≤ cap := by omega
  generalize a.eval = ev at hx hy ⊢
  unfold execOp
  by_cases h3 : cap = i
  · simp [ho, hx, hy, go_sem, Instr.sliceAt, h1, h, h2, h3, hc, sfA]
  · simp [ho, hx, hy, go_sem, Instr.sliceAt, h1, h, h2, h3, hc, sfA]
theorem run_copyF (w : World) (ty : TypeId) (g o dLen dCap : Nat) (ad : Addr) (a : Option Addr) (sLen sCap : Nat) (vs cs : List Value) (I : IsS w g 27 cs) (hsrc : Seg w a vs) (hl : vs.length = Nat.min sLen dLen * 49) (hfit : o + vs.length ≤ cs.length) (h1 : ∀ v ∈ vs, v.oneCell' = true) (had : vs = [] ∨ ad = ⟨g, o, none⟩) :
    ∃ x, (Builtin.copy_ #[22, 22] ty #[.slice (some ad) dLen dCap, .slice a sLen sCap]).run Tryd.prog w = .ok x (w.setCells g o vs) := by
  obtain ⟨i0, hi, _, hs, _⟩ := eFin.info
  cases vs with
  | nil =>
    have h0 : Nat.min sLen dLen = 0 := by simp at hl; omega
    have hl : ∀ (x : Addr), (loadCells x 0).run Tryd.prog w = .ok #[] w := fun x => by simpa using run_loadCells_list (P := Tryd.prog) w x [] (by simp)
    refine ⟨goInt 0, ?_⟩
    cases a <;> simp [Builtin.copy_, run_underlying Tryd.underlying22, Builtin.lenOf, Builtin.firstCells, sizeOf, typeInfo, hi, hs, h0, storeCells, hl, World.setCells]
  | cons v0 vs0 =>
    have had' : ad = ⟨g, o, none⟩ := by rcases had with h | h; cases h; exact h
    subst had'
    obtain ⟨b, p, rfl, _, _⟩ := hsrc 0 v0 rfl
    generalize hvs : v0 :: vs0 = vs at *
    have hld := run_loadCells_list (P := Tryd.prog) w ⟨b, p, none⟩ vs (fun j v hv => by
      rw [Addr.add_mid]
      obtain ⟨b', p', e, _, h⟩ := hsrc j v hv
      cases e; exact h)
    have hst := run_storeCells_cells (P := Tryd.prog) g o vs 0 w (fun j hj => by rw [Nat.add_zero, I.cell, List.getElem?_eq_getElem (by omega)]; rfl) (fun j hj => by rw [Nat.add_zero]; exact I.frozen _) h1
    simp only [Nat.add_zero] at hst
    rw [hl] at hld
    refine ⟨goInt (Nat.min sLen dLen), ?_⟩
    simp [Builtin.copy_, run_underlying Tryd.underlying22, Builtin.lenOf, Builtin.firstCells, sizeOf, typeInfo, hi, hs, hld, hst]
theorem RowC.shift {cs : List Value} {l m : List FS} (h : RowC cs l) (j : Nat) (hj : j + m.length = l.length) : RowC (putL cs (j * 49) (flatF m)) (l.take j ++ m) := by
  have hl := h.len
  have hm := flatF_len m
  unfold RowC
  have e1 : (l.take j ++ m).length = l.length := by rw [List.length_append, List.length_take]; omega
  rw [e1, flatF_append, ← flatF_take, ← h, List.take_take, Nat.min_eq_left (by rw [← hj, Nat.add_mul]; omega)]
  have hl2 : j * 49 + m.length * 49 = l.length * 49 := by rw [← Nat.add_mul, hj]
  refine List.ext_getElem? fun t => ?_
  rw [List.getElem?_take]
  have hcl : (cs.take (j * 49)).length = j * 49 := by rw [List.length_take]; omega
  by_cases ht : t < l.length * 49
  · rw [if_pos ht, putL_get _ _ _ _ (by omega)]
    by_cases h1 : j * 49 ≤ t
    · rw [if_pos (by omega), List.getElem?_append_right (by omega), hcl]
    · rw [if_neg (by omega), List.getElem?_append_left (by omega), List.getElem?_take, if_pos (by omega)]
  · rw [if_neg ht, List.getElem?_eq_none (by rw [List.length_append, hcl]; omega)]
theorem set_mid (l m : List FS) (k : Nat) (h : k < l.length) (x : FS) : (l.take (k + 1) ++ m).set k x = l.take k ++ x :: m := by
  rw [List.set_append_left _ _ (by rw [List.length_take]; omega), List.take_succ_eq_append_getElem h]
  have hl : (l.take k).length = k := by rw [List.length_take]; omega
  rw [List.set_append_right _ _ (by omega), hl, Nat.sub_self]
  simp
theorem seg_row {w : World} {g : Nat} {cs : List Value} {l : List FS} (I : IsS w g 27 cs) (h : RowC cs l) (k : Nat) (m : List FS) (hm : (l.drop k).take m.length = m) : Seg w (some ⟨g, k * 49, none⟩) (flatF m) := fun j v hv => by
  refine ⟨g, k * 49, rfl, I.lt, ?_⟩
  rw [I.cell]
  have hj := (List.getElem?_eq_some_iff.1 hv).1
  rw [flatF_len] at hj
  rw [← hm, ← flatF_take, List.getElem?_take, if_pos hj, ← flatF_drop, List.getElem?_drop, ← h, List.getElem?_take] at hv
  by_cases hk : k * 49 + j < l.length * 49
  · rw [if_pos hk] at hv; exact hv
  · rw [if_neg hk] at hv; cases hv
section
variable {w : World} {g o : Nat} {cs vs : List Value} {ops : Array Oper} {rest : List Oper} {op : Oper} {a : Act} {Q : Exit → Act → World → Prop}
theorem wpList_copyF (hgd : op.guard = none) (d s : Operand) (ho : op.op = .call { callee := .builtin .copy, args := #[d, s], argTypes := #[22, 22] }) (dLen dCap : Nat) (ad : Addr) (sa : Option Addr) (sLen sCap : Nat)
    (hd : a.eval d = .slice (some ad) dLen dCap) (hs : a.eval s = .slice sa sLen sCap) (I : IsS w g 27 cs) (hsrc : Seg w sa vs) (hl : vs.length = Nat.min sLen dLen * 49) (hfit : o + vs.length ≤ cs.length) (h1 : ∀ v ∈ vs, v.oneCell' = true) (had : vs = [] ∨ ad = ⟨g, o, none⟩)
    (h : ∀ W x, Upd w W g → IsS W g 27 (putL cs o vs) → wpList Tryd.prog ops Q rest (a.put op.dst x) W) : wpList Tryd.prog ops Q (op :: rest) a w := by
  refine wpList_plain hgd fun K hK => ?_
  obtain ⟨x, hr⟩ := run_copyF w op.type g o dLen dCap ad sa sLen sCap vs cs I hsrc hl hfit h1 had
  unfold Oper.wp execOp
  simp only [ho, resolve, invoke, builtin, Sem.run_bind, Sem.run_pure, Result.andThen_ok, List.map_toArray, List.map_cons, List.map_nil, hd, hs, hr]
  exact hK _ _ (h _ x (Upd.setCells g vs o w) (IsS.setL vs o cs w I))
end

end Go.Proofs.YtbhgchhoeokjhabDoor

/- Rows of tokens of one's own. -/
import Derived.Test.YtjnbhcakfenbhaaDoorSP
import Derived.Laws.AppendOwnNone
namespace Go.Proofs.YtjnbhcakfenbhaaDoor
open Go.RowKit M
set_option linter.unusedSimpArgs false
set_option linter.unusedVariables false

theorem info38' : (Tryd.prog.info? 37).map (fun i => (i.zero, i.size, i.bytes)) = some (some (.agg (gtL noGT).toArray), 7, 64) := by kernel_rfl
theorem parts38 : ∃ i, Tryd.prog.info? 37 = some i ∧ i.zero = some (.agg (gtL noGT).toArray) ∧ i.size = 7 ∧ i.bytes = 64 := by
  have h := info38'
  cases hq : Tryd.prog.info? 37 with
  | none => rw [hq] at h; simp at h
  | some i =>
    rw [hq] at h
    simp only [Option.map_some, Option.some.injEq, Prod.mk.injEq] at h
    exact ⟨i, rfl, h.1, h.2.1, h.2.2⟩
def cellsG (gs : List GT) : List Value := gs.flatMap gtL
theorem cellsG_snoc (gs : List GT) (g : GT) : cellsG (gs ++ [g]) = cellsG gs ++ gtL g := by simp [cellsG]
theorem cellsG_len (gs : List GT) : (cellsG gs).length = gs.length * 7 := by
  induction gs with
  | nil => rfl
  | cons t ts ih => simp only [cellsG, List.flatMap_cons, List.length_append, List.length_cons] at *; rw [ih]; simp [gtL]; omega
theorem cellsG_at : ∀ (gs : List GT) (j : Nat) (g : GT), gs[j]? = some g → ∀ (i : Nat) (v : Value), (gtL g)[i]? = some v → (cellsG gs)[j * 7 + i]? = some v
  | [], j, g, h, i, v, hv => by simp at h
  | x :: gs, 0, g, h, i, v, hv => by
    simp at h; subst h
    have hi : i < (gtL x).length := (List.getElem?_eq_some_iff.1 hv).1
    show (gtL x ++ cellsG gs)[0 * 7 + i]? = some v
    rw [Nat.zero_mul, Nat.zero_add, List.getElem?_append_left hi]; exact hv
  | x :: gs, j + 1, g, h, i, v, hv => by
    have := cellsG_at gs j g (by simpa using h) i v hv
    show (gtL x ++ cellsG gs)[(j + 1) * 7 + i]? = some v
    have e : (gtL x).length = 7 := rfl
    rw [List.getElem?_append_right (by omega), e, show (j + 1) * 7 + i - 7 = j * 7 + i by omega]
    exact this
theorem own_toks {W : World} {base n : Nat} {v : Value} {gs : List GT} (h : W.ownsRow base 37 7 v n (cellsG gs)) (hn : gs.length = n) : ∃ a cap, v = .slice a gs.length cap ∧ Toks W a gs := by
  rcases h.2 with ⟨rfl, h0⟩ | ⟨g, cap, cur, rfl, hg, hh, rest⟩
  · refine ⟨none, 0, by rw [hn, h0], fun j x hx => ?_⟩
    have := (List.getElem?_eq_some_iff.1 hx).1
    omega
  · refine ⟨_, cap, by rw [hn], fun j x hx => ⟨g, 0, rfl, (Array.getElem?_eq_some_iff.1 hh).1, fun i u hu => ?_⟩⟩
    have hc := cellsG_at gs j x hx i u hu
    rw [cell_of_row W g _ cur 37 (0, 0) hh, Nat.zero_add]
    rw [← rest.2.2.2, List.getElem?_take] at hc
    split at hc
    · simpa using hc
    · cases hc
theorem wpList_buildG {w : World} {ops : Array Oper} {rest : List Oper} {op : Oper} {a : Act} {Q : Exit → Act → World → Prop} (hgd : op.guard = none) (x : Operand) (ho : op.op = .buildSlice 35 1 #[(0, x)]) (g : GT) (hx : a.eval x = .agg (gtL g).toArray)
    (h : ∀ W b, Fresh w W b → IsS W b 37 (gtL g) → wpList Tryd.prog ops Q rest (a.put op.dst (.slice (some ⟨b, 0, none⟩) 1 1)) W) : wpList Tryd.prog ops Q (op :: rest) a w := by
  refine wpList_plain hgd fun K hK => ?_
  have hr : (execOp a.eval op).run Tryd.prog w = .ok (.value (.slice (some ⟨w.heap.size, 0, none⟩) 1 1)) (w.alloc (.cells (gtL g).toArray 37)) := by
    generalize a.eval = ev at hx ⊢
    unfold execOp
    simp [ho, hx, go_sem, Value.cells, gtL]
  unfold Oper.wp
  rw [hr]
  exact hK _ _ (h _ _ (Fresh.alloc w _) (IsS.new w 37 _))
theorem toks_cells {w : World} {b o : Nat} {gs : List GT} (h : Toks w (some ⟨b, o, none⟩) gs) : ∀ j v, (cellsG gs)[j]? = some v → w.cell? ⟨b, o + j, none⟩ = some v := fun j v hv => by
  have hj := (List.getElem?_eq_some_iff.1 hv).1
  rw [cellsG_len] at hj
  obtain ⟨n, hn⟩ : ∃ n, gs[j / 7]? = some n := ⟨_, List.getElem?_eq_getElem (by omega)⟩
  obtain ⟨b', o', e, _, hr⟩ := h _ n hn
  cases e
  have hm : j % 7 < (gtL n).length := by show j % 7 < 7; omega
  have hu : (gtL n)[j % 7]? = some (gtL n)[j % 7] := List.getElem?_eq_getElem hm
  have := cellsG_at gs _ n hn _ _ hu
  rw [show j / 7 * 7 + j % 7 = j by omega, hv] at this
  have e2 := hr (j % 7) _ hu
  rw [show o + j / 7 * 7 + j % 7 = o + j by omega] at e2
  rw [e2, this]
theorem cellsG_one (gs : List GT) : ∀ v ∈ cellsG gs, v.oneCell' = true := fun v hv => by
  obtain ⟨g, _, hg⟩ := List.mem_flatMap.1 hv
  exact gt_one g v hg
section
variable {w : World} {ops : Array Oper} {rest : List Oper} {op : Oper} {a : Act} {Q : Exit → Act → World → Prop}
/-- A list of tokens put behind a row of one's own. -/
theorem run_appTs (B : Nat) (v : Value) (n : Nat) (xs : List Value) (hown : w.ownsRow B 37 7 v n xs) (ad : Option Addr) (cap : Nat) (gs : List GT) (hT : Toks w ad gs) (hnil : ad = none → cap = 0) (hn : n + gs.length ≤ 4194304) (hB : B ≤ w.heap.size) (ty : TypeId) :
    ∃ v' w', (Builtin.append_ #[35, 35] ty #[v, .slice ad gs.length cap]).run Tryd.prog w = .ok v' w' ∧ w'.ownsRow B 37 7 v' (n + gs.length) (xs ++ cellsG gs) ∧ w.grownBy w' v.ownBlock := by
  obtain ⟨i0, hi, hz, hs, hby⟩ := parts38
  cases ad with
  | none =>
    have hg : gs = [] := by
      cases gs with
      | nil => rfl
      | cons g gs => obtain ⟨_, _, e, _⟩ := hT 0 g rfl; cases e
    subst hg
    rw [hnil rfl]
    refine ⟨v, w, run_append_owned_none (P := Tryd.prog) (w := w) B 35 ty 37 i0 7 Tryd.underlying35 hi v n xs hown, ?_, ⟨rfl, rfl, rfl, Nat.le_refl _, fun _ _ _ => rfl⟩⟩
    simpa [cellsG] using hown
  | some x =>
    have hnews : ∀ j u, (cellsG gs)[j]? = some u → w.cell? (x.add j) = some u := fun j u hj => by
      have hlt := (List.getElem?_eq_some_iff.1 hj).1
      rw [cellsG_len] at hlt
      obtain ⟨g0, hg0⟩ : ∃ g, gs[0]? = some g := ⟨_, List.getElem?_eq_getElem (by omega)⟩
      obtain ⟨b, o, e, _⟩ := hT 0 g0 hg0
      cases e
      rw [Addr.add_mid]
      exact toks_cells hT j u hj
    obtain ⟨v', w', hr, ho, hg, _⟩ := run_append_own (P := Tryd.prog) w B 35 ty 37 i0 (.agg (gtL noGT).toArray) 7 64 Tryd.underlying35 hi hz hs hby rfl (by decide) v n xs hown x gs.length cap (cellsG gs) (cellsG_len gs) hnews (cellsG_one gs) (by unfold maxLen; omega) (by omega) hB
    exact ⟨v', w', hr, ho, hg⟩
theorem wpList_appTs (hgd : op.guard = none) (s x : Operand) (ho : op.op = .call { callee := .builtin .append, args := #[s, x], argTypes := #[35, 35] })
    (B : Nat) (v : Value) (n : Nat) (xs : List Value) (hs : a.eval s = v) (hown : w.ownsRow B 37 7 v n xs) (ad : Option Addr) (cap : Nat) (gs : List GT) (hx : a.eval x = .slice ad gs.length cap) (hT : Toks w ad gs) (hnil : ad = none → cap = 0) (hn : n + gs.length ≤ 4194304) (hB : B ≤ w.heap.size)
    (h : ∀ v' w', w'.ownsRow B 37 7 v' (n + gs.length) (xs ++ cellsG gs) → w.grownBy w' v.ownBlock → wpList Tryd.prog ops Q rest (a.put op.dst v') w') : wpList Tryd.prog ops Q (op :: rest) a w := by
  refine wpList_plain hgd fun K hK => ?_
  obtain ⟨v', w', hr, h1, h2⟩ := run_appTs B v n xs hown ad cap gs hT hnil hn hB op.type
  unfold Oper.wp execOp
  simp only [ho, resolve, invoke, builtin, Sem.run_bind, Sem.run_pure, Result.andThen_ok, List.map_toArray, List.map_cons, List.map_nil, hs, hx, hr]
  exact hK _ _ (h v' w' h1 h2)
theorem wpList_build0 (hgd : op.guard = none) (ho : op.op = .buildSlice 35 0 #[])
    (h : ∀ W v, w.heap.size ≤ W.heap.size → Below w.heap.size w W → W.ownsRow w.heap.size 37 7 v 0 [] → wpList Tryd.prog ops Q rest (a.put op.dst v) W) : wpList Tryd.prog ops Q (op :: rest) a w := by
  refine wpList_plain hgd fun K hK => ?_
  have hr : (execOp a.eval op).run Tryd.prog w = .ok (.value (.slice (some ⟨w.heap.size, 0, none⟩) 0 0)) (w.alloc (.cells #[] 37)) := by
    unfold execOp
    simp [ho, go_sem, Value.cells]
  unfold Oper.wp
  rw [hr]
  have F := Fresh.alloc w (.cells #[] 37)
  refine hK _ _ (h _ _ F.below.size F.below ⟨rfl, .inr ⟨w.heap.size, 0, #[], rfl, Nat.le_refl _, heap_alloc_last w _, Nat.le_refl _, by unfold maxLen; omega, rfl, rfl⟩⟩)
end
theorem grown_below {B : Nat} {w0 w w' : World} {v : Value} {n : Nat} {xs : List Value} {t s : Nat} (h : Below B w0 w) (hB : B ≤ w.heap.size) (ho : w.ownsRow B t s v n xs) (hg : w.grownBy w' v.ownBlock) : Below B w0 w' := by
  refine ⟨hg.os.trans h.os, hg.tape.trans h.tape, hg.output.trans h.output, Nat.le_trans h.size hg.size, fun k hk => (hg.block k (Nat.lt_of_lt_of_le hk hB) (fun e => ?_)).trans (h.block k hk)⟩
  rcases ho.2 with ⟨rfl, _⟩ | ⟨g, cap, cur, rfl, hb, _⟩
  · cases e
  · simp [Value.ownBlock] at e; omega
end Go.Proofs.YtjnbhcakfenbhaaDoor

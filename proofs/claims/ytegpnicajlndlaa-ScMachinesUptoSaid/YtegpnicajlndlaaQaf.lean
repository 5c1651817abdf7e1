/- RI, SL -/
import Derived.Test.YtegpnicajlndlaaQae
import Derived.StillTail
import Derived.StillTailTactics
namespace Go.Proofs.Ytegpnicajlndlaa
open Go
set_option linter.unusedVariables false
set_option linter.unusedSimpArgs false
section
variable {P : Program} {ops : Array Oper} {Q : Exit → Act → World → Prop}
def fwdB (ops : Array Oper) (n : Nat) : Bool := (List.range n).all fun i => match ops[i]? with
 | some o => o.after.all fun e => !Region.binds .any e || decide (e.on < i)
 | none => false
def fullB (m n : Nat) : Array Bool := ((List.range m).map fun i => decide (i < n)).toArray
theorem fwd_spec {n i : Nat} {o : Oper} (h : fwdB ops n = true) (hi : i < n) (ho : ops[i]? = some o) : ∀ e ∈ o.after, Region.binds .any e = true → e.on < i := fun e he hb => by
 have h1 := List.all_eq_true.1 h i (List.mem_range.2 hi)
 rw [ho] at h1
 have h2 := Array.all_eq_true'.1 h1 e he
 rw [hb] at h2
 simpa using h2
def toCome (listed : Array Bool) (n : Nat) : Nat := ((List.range n).filter fun i => !listed.getD i false).length
theorem some_unlisted {listed : Array Bool} {n : Nat} (h : toCome listed n ≠ 0) : ∃ i, i < n ∧ listed.getD i false = false ∧ ∀ j, j < i → listed.getD j false = true := by
 have ex : ∃ i, i < n ∧ listed.getD i false = false := by
  unfold toCome at h
  obtain ⟨i, hi⟩ := List.exists_mem_of_length_pos (Nat.pos_of_ne_zero h)
  rw [List.mem_filter, List.mem_range] at hi
  exact ⟨i, hi.1, by simpa using hi.2⟩
 have key : ∀ m i, i ≤ m → i < n → listed.getD i false = false → ∃ i, i < n ∧ listed.getD i false = false ∧ ∀ j, j < i → listed.getD j false = true := by
  intro m
  induction m with
  | zero => intro i hi hn hl; exact ⟨i, hn, hl, fun j hj => by omega⟩
  | succ m ih =>
   intro i hi hn hl
   by_cases hx : ∃ j, j < i ∧ listed.getD j false = false
   · obtain ⟨j, hj, hjl⟩ := hx
     exact ih j (by omega) (by omega) hjl
   · refine ⟨i, hn, hl, fun j hj => ?_⟩
     cases hq : listed.getD j false with
     | true => rfl
     | false => exact absurd ⟨j, hj, hq⟩ hx
 obtain ⟨i, h1, h2⟩ := ex
 exact key i i (Nat.le_refl _) h1 h2
theorem filter_one_less : ∀ {l : List Nat} {p q : Nat → Bool} (i : Nat), i ∈ l → p i = true → q i = false → l.Nodup → (∀ x ∈ l, x ≠ i → q x = p x) → (l.filter q).length + 1 = (l.filter p).length
 | [], p, q, i, h, _, _, _, _ => by cases h
 | x :: l, p, q, i, h, hp, hq, hn, hs => by
  have hn' := List.nodup_cons.1 hn
  rcases List.mem_cons.1 h with rfl | hm
  · rw [List.filter_cons_of_pos hp, List.filter_cons_of_neg (by rw [hq]; simp)]
    have : l.filter q = l.filter p := List.filter_congr fun y hy => hs y (List.mem_cons_of_mem _ hy) (fun e => hn'.1 (e ▸ hy))
    rw [this]; simp
  · have ih := filter_one_less (l := l) i hm hp hq hn'.2 fun y hy hne => hs y (List.mem_cons_of_mem _ hy) hne
    have hx : q x = p x := hs x List.mem_cons_self (fun e => hn'.1 (e ▸ hm))
    cases hpx : p x with
    | true => rw [List.filter_cons_of_pos hpx, List.filter_cons_of_pos (by rw [hx, hpx])]; simp; omega
    | false => rw [List.filter_cons_of_neg (p := q) (by rw [hx, hpx]; simp), List.filter_cons_of_neg (p := p) (by rw [hpx]; simp)]; exact ih
theorem toCome_set {listed : Array Bool} {n i : Nat} (hi : i < n) (hs : i < listed.size) (hl : listed.getD i false = false) : toCome (listed.setIfInBounds i true) n + 1 = toCome listed n := by
 unfold toCome
 refine filter_one_less i (List.mem_range.2 hi) (by rw [hl]; rfl) ?_ List.nodup_range fun x hx hne => ?_
 · simp [hs]
 · rw [getD_set_ne false (Ne.symm hne)]
theorem full_of {listed : Array Bool} {n m : Nat} (h0 : toCome listed n = 0) (hsz : listed.size = m) (hn : n ≤ m) (ht : ∀ t, n ≤ t → t < m → listed.getD t true = false) : listed = fullB m n := by
 have hall : ∀ i, i < n → listed.getD i false = true := fun i hi => by
  cases hq : listed.getD i false with
  | true => rfl
  | false =>
   have : i ∈ (List.range n).filter fun i => !listed.getD i false := List.mem_filter.2 ⟨List.mem_range.2 hi, by rw [hq]; rfl⟩
   unfold toCome at h0
   rw [List.length_eq_zero_iff] at h0
   rw [h0] at this
   cases this
 refine Array.ext (by simp [fullB, hsz]) fun i h1 h2 => ?_
 have e : (fullB m n)[i] = decide (i < n) := by simp [fullB]
 rw [e]
 by_cases hi : i < n
 · have := hall i hi
   simp [h1] at this
   rw [this]; simp [hi]
 · have := ht i (by omega) (by omega)
   simp [h1] at this
   rw [this]; simp [hi]
theorem any_inv {n g : Nat} (I : Array Bool → Act → World → Prop) (hs : Region.sinkB .any ops n = true) (hc : Region.chainB .any ops n = true) (hn : n < ops.size) (hf : fwdB ops n = true)
    (hstep : ∀ i listed a w, i < n → i ∈ Region.ready .any ops listed → I listed a w → wpOp P ops Q i (fun a' w' => I (listed.setIfInBounds i true) a' w') a w)
    (hend : ∀ a w, I (fullB ops.size n) a w → wpAny P .any ops Q g (fullB ops.size n) a w) (f : Nat) :
    ∀ (listed : Array Bool) (a : Act) (w : World), HeadInv .any ops n listed → toCome listed n = f → I listed a w → wpAny P .any ops Q (f + g) listed a w := by
 induction f with
 | zero =>
  intro listed a w inv h0 hI
  have e := full_of h0 inv.size (Nat.le_of_lt hn) inv.tail
  rw [Nat.zero_add, e]
  exact hend a w (e ▸ hI)
 | succ f ih =>
  intro listed a w inv h0 hI
  obtain ⟨i0, hi0, hl0, hmin⟩ := some_unlisted (by omega : toCome listed n ≠ 0)
  have hl0' : listed.getD i0 true = false := getD_in (by rw [inv.size]; omega) hl0
  have e : f + 1 + g = f + g + 1 := Nat.add_right_comm f 1 g
  rw [e]
  have r0 : i0 ∈ Region.ready .any ops listed := mem_ready.2 ⟨hl0', ops[i0]'(by omega), Array.getElem?_eq_getElem (by omega), fun ed hed hb => hmin _ (fwd_spec hf hi0 (Array.getElem?_eq_getElem (by omega)) ed hed hb)⟩
  refine ⟨fun none => absurd r0 (by rw [none]; simp), fun i hi => ?_⟩
  have hin : i < n := by
   by_cases h : i < n
   · exact h
   · exact absurd hi (tail_waits hs hc hn inv _ i0 rfl hi0 hl0' i (by omega))
  have hun := (mem_ready.1 hi).1
  refine wpOp_mono (fun a' w' h' => ih _ a' w' (inv.set hi hin) ?_ h') (hstep i listed a w hin hi hI)
  have := toCome_set hin (by rw [inv.size]; omega) (getD_both hun)
  omega
theorem region_inv {id : Nat} {a : Act} {w : World} {l : List Oper} (n : Nat) (I : Array Bool → Act → World → Prop) (hm : P.follows .mixedOrders = true)
    (hB : (Region.sinkB .any l.toArray n && Region.chainB .any l.toArray n && decide (n < l.length) && fwdB l.toArray n && Region.seqB .any l.toArray (l.drop n).length n (fullB l.length n)) = true)
    (h0 : I (Array.replicate l.length false) a { w with drawn := w.drawn + 1 })
    (hstep : ∀ i listed a w, i < n → i ∈ Region.ready .any l.toArray listed → I listed a w → wpOp P l.toArray Q i (fun a' w' => I (listed.setIfInBounds i true) a' w') a w)
    (hend : ∀ a w, I (fullB l.length n) a w → wpList P l.toArray Q (l.drop n) a w) : (Code.region id l.toArray true).wp P Q a w := by
 rw [Bool.and_eq_true, Bool.and_eq_true, Bool.and_eq_true, Bool.and_eq_true, decide_eq_true_eq] at hB
 obtain ⟨⟨⟨⟨h1, h2⟩, h3⟩, h4⟩, h5⟩ := hB
 have hsz : l.toArray.size = l.length := by simp
 have inv0 : HeadInv .any l.toArray n (Array.replicate l.toArray.size false) := ⟨(by simp), (fun j oj _ hl => (by rw [getD_replicate_false] at hl; cases hl)), (fun t _ ht => (by simp at ht; simp [ht]))⟩
 have t0 : toCome (Array.replicate l.toArray.size false) n = n := by
  unfold toCome
  rw [List.filter_eq_self.2 (fun i _ => by rw [getD_replicate_false]; rfl), List.length_range]
 have whole := any_inv (g := (l.drop n).length) I h1 h2 (by rw [hsz]; exact h3) h4 hstep (fun a' w' hI => by
  rw [hsz] at hI ⊢
  exact wpAny_of_seq (l.drop n) n _ a' w' (fun j => by simp) h5 (hend a' w' hI)) n (Array.replicate l.toArray.size false) a { w with drawn := w.drawn + 1 } inv0 t0 (by rw [hsz]; exact h0)
 have total : n + (l.drop n).length = l.toArray.size := by rw [List.length_drop, hsz]; omega
 rw [total] at whole
 exact wp_region_any hm whole
end
end Go.Proofs.Ytegpnicajlndlaa
namespace Go.Proofs.Ytegpnicajlndlaa
open Go.RowKit M
set_option linter.unusedSimpArgs false
set_option linter.unusedVariables false
def Seg (w : World) (a : Option Addr) (cs : List Value) : Prop := ∀ j v, cs[j]? = some v → ∃ b o, a = some ⟨b, o, none⟩ ∧ b < w.heap.size ∧ w.cell? ⟨b, o + j, none⟩ = some v
theorem Seg.below {w W : World} {a : Option Addr} {cs : List Value} (h : Seg w a cs) (hB : Below w.heap.size w W) : Seg W a cs := fun j v hv => by
 obtain ⟨b, o, h1, h2, h3⟩ := h j v hv
 exact ⟨b, o, h1, Nat.lt_of_lt_of_le h2 hB.size, by rw [hB.cell (p := ⟨b, o + j, none⟩) h2]; exact h3⟩
theorem Seg.nil (w : World) (a : Option Addr) : Seg w a [] := fun j v hv => by simp at hv
def RowV (w : World) (v : Value) (n : Nat) (cs : List Value) : Prop := ∃ a c, v = .slice a n c ∧ Seg w a cs ∧ (a = none → c = 0)
theorem RowV.below {w W : World} {v : Value} {n : Nat} {cs : List Value} (h : RowV w v n cs) (hB : Below w.heap.size w W) : RowV W v n cs := by
 obtain ⟨a, c, h1, h2, h3⟩ := h; exact ⟨a, c, h1, h2.below hB, h3⟩
def RowsV {α : Type} (w : World) (v : Value) (enc : α → List Value) (xss : List (List α)) : Prop :=
 ∃ vs : List Value, vs.length = xss.length ∧ RowV w v xss.length vs ∧ ∀ (j : Nat) u xs, vs[j]? = some u → xss[j]? = some xs → RowV w u xs.length (xs.flatMap enc)
theorem RowsV.below {α : Type} {w W : World} {v : Value} {enc : α → List Value} {xss : List (List α)} (h : RowsV w v enc xss) (hB : Below w.heap.size w W) : RowsV W v enc xss := by
 obtain ⟨vs, h1, h2, h3⟩ := h; exact ⟨vs, h1, h2.below hB, fun j u xs hu hx => (h3 j u xs hu hx).below hB⟩
theorem RowsV.at {α : Type} {w : World} {a : Option Addr} {n c : Nat} {enc : α → List Value} {xss : List (List α)} (h : RowsV w (.slice a n c) enc xss) (j : Nat) (xs : List α) (hx : xss[j]? = some xs) :
    ∃ b o a' c', a = some ⟨b, o, none⟩ ∧ b < w.heap.size ∧ w.cell? ⟨b, o + j, none⟩ = some (.slice a' xs.length c') ∧ Seg w a' (xs.flatMap enc) ∧ (a' = none → c' = 0) := by
 obtain ⟨vs, h1, ⟨a0, c0, e0, h2, _⟩, h3⟩ := h
 cases e0
 have hj := (List.getElem?_eq_some_iff.1 hx).1
 obtain ⟨u, hu⟩ : ∃ u, vs[j]? = some u := ⟨_, List.getElem?_eq_getElem (by omega)⟩
 obtain ⟨b, o, e, hb, hc⟩ := h2 j u hu
 obtain ⟨a', c', rfl, h4, h5⟩ := h3 j u xs hu hx
 exact ⟨b, o, a', c', e, hb, hc, h4, h5⟩
theorem RowsV.form {α : Type} {w : World} {v : Value} {enc : α → List Value} {xss : List (List α)} (h : RowsV w v enc xss) : ∃ a c, v = .slice a xss.length c := by
 obtain ⟨vs, _, ⟨a, c, e, _⟩, _⟩ := h; exact ⟨a, c, e⟩
structure Elt (t T k : Nat) (z : Value) (by' : Nat) : Prop where
 und : Try.prog.underlying T = some (.slice t)
 info : ∃ i, Try.prog.info? t = some i ∧ i.zero = some z ∧ i.size = k ∧ i.bytes = by'
 cells : z.cells.size = k
 pos : 0 < k
 few : by' ≤ 1024
theorem info_parts {t : Nat} {z : Value} {k by' : Nat} (h : (Try.prog.info? t).map (fun i => (i.zero, i.size, i.bytes)) = some (some z, k, by')) : ∃ i, Try.prog.info? t = some i ∧ i.zero = some z ∧ i.size = k ∧ i.bytes = by' := by
 cases hq : Try.prog.info? t with
 | none => rw [hq] at h; simp at h
 | some i =>
  rw [hq] at h
  simp only [Option.map_some, Option.some.injEq, Prod.mk.injEq] at h
  exact ⟨i, rfl, h.1, h.2.1, h.2.2⟩
theorem eStr : Elt 9 24 1 (.string ⟨#[]⟩) 16 := ⟨Try.underlying24, info_parts (by kernel_rfl), rfl, by decide, by decide⟩
theorem eInt : Elt 2 26 1 (.int .i64 0) 8 := ⟨Try.underlying26, info_parts (by kernel_rfl), rfl, by decide, by decide⟩
theorem eOp : Elt 63 61 5 (.agg #[.int .i64 0, .int .i64 0, .int .i64 0, .int .i64 0, .int .i64 0]) 40 := ⟨Try.underlying61, info_parts (by kernel_rfl), rfl, by decide, by decide⟩
theorem eStrs : Elt 24 23 1 (.slice none 0 0) 24 := ⟨Try.underlying23, info_parts (by kernel_rfl), rfl, by decide, by decide⟩
theorem eInts : Elt 26 25 1 (.slice none 0 0) 24 := ⟨Try.underlying25, info_parts (by kernel_rfl), rfl, by decide, by decide⟩
theorem eOps : Elt 61 22 1 (.slice none 0 0) 24 := ⟨Try.underlying22, info_parts (by kernel_rfl), rfl, by decide, by decide⟩
section
variable {w : World} {ops : Array Oper} {rest : List Oper} {op : Oper} {a : Act} {Q : Exit → Act → World → Prop} {t T k by' : Nat} {z : Value}
theorem own_row {B n : Nat} {v : Value} {xs : List Value} (h : w.ownsRow B t k v n xs) : RowV w v n xs := by
 rcases h.2 with ⟨rfl, rfl⟩ | ⟨g, cap, cur, rfl, hg, hh, rest⟩
 · refine ⟨none, 0, rfl, fun j v hv => ?_, fun _ => rfl⟩
   have := (List.getElem?_eq_some_iff.1 hv).1
   have := h.1
   omega
 · refine ⟨some ⟨g, 0, none⟩, cap, rfl, fun j v hv => ⟨g, 0, rfl, (Array.getElem?_eq_some_iff.1 hh).1, ?_⟩, fun e => by cases e⟩
   rw [cell_of_row w g _ cur t (0, 0) hh, Nat.zero_add]
   rw [← rest.2.2.2, List.getElem?_take] at hv
   split at hv
   · simpa using hv
   · cases hv
theorem run_appM (E : Elt t T k z by') (B : Nat) (v : Value) (n : Nat) (xs : List Value) (hown : w.ownsRow B t k v n xs) (u : Value) (m : Nat) (cs : List Value) (hu : RowV w u m cs) (hl : cs.length = m * k) (h1 : ∀ x ∈ cs, x.oneCell' = true) (hn : n + m ≤ 4194304) (hB : B ≤ w.heap.size) (ty : TypeId) :
    ∃ v' w', (Builtin.append_ #[T, T] ty #[v, u]).run Try.prog w = .ok v' w' ∧ w'.ownsRow B t k v' (n + m) (xs ++ cs) ∧ w.grownBy w' v.ownBlock := by
 obtain ⟨i0, hi, hz, hs, hby⟩ := E.info
 obtain ⟨ad, c, rfl, hT, hnil⟩ := hu
 cases ad with
 | none =>
  have hm : m = 0 := by
   cases m with
   | zero => rfl
   | succ m =>
    have hpos := E.pos
    have : 0 < cs.length := by rw [hl]; exact Nat.mul_pos (Nat.succ_pos _) hpos
    obtain ⟨_, _, e, _⟩ := hT 0 cs[0] (List.getElem?_eq_getElem this)
    cases e
  subst hm
  have hcs : cs = [] := List.length_eq_zero_iff.1 (by rw [hl, Nat.zero_mul])
  subst hcs
  rw [hnil rfl]
  refine ⟨v, w, run_append_owned_none (P := Try.prog) (w := w) B T ty t i0 k E.und hi v n xs hown, ?_, ⟨rfl, rfl, rfl, Nat.le_refl _, fun _ _ _ => rfl⟩⟩
  simpa using hown
 | some x =>
  have hnews : ∀ j y, cs[j]? = some y → w.cell? (x.add j) = some y := fun j y hj => by
   obtain ⟨b, o, e, _, hc⟩ := hT j y hj
   cases e
   rw [Addr.add_mid]
   exact hc
  have hfew := E.few
  have hb : (n + m) * by' ≤ 140737488355328 := Nat.le_trans (Nat.mul_le_mul hn hfew) (by decide)
  obtain ⟨v', w', hr, ho, hg, _⟩ := run_append_own (P := Try.prog) w B T ty t i0 z k by' E.und hi hz hs hby E.cells E.pos v n xs hown x m c cs hl hnews h1 (by unfold maxLen; omega) hb hB
  exact ⟨v', w', hr, ho, hg⟩
theorem exec_app (s x : Operand) (ho : op.op = .call { callee := .builtin .append, args := #[s, x], argTypes := #[T, T] }) {v u v' : Value} {w' : World} (hs : a.eval s = v) (hx : a.eval x = u)
    (hr : (Builtin.append_ #[T, T] op.type #[v, u]).run Try.prog w = .ok v' w') : (execOp a.eval op).run Try.prog w = .ok (.value v') w' := by
 unfold execOp
 simp only [ho, resolve, invoke, builtin, Sem.run_bind, Sem.run_pure, Result.andThen_ok, List.map_toArray, List.map_cons, List.map_nil, hs, hx, hr]
theorem wpList_appM (E : Elt t T k z by') (hgd : op.guard = none) (s x : Operand) (ho : op.op = .call { callee := .builtin .append, args := #[s, x], argTypes := #[T, T] })
    (B : Nat) (v : Value) (n : Nat) (xs : List Value) (hs : a.eval s = v) (hown : w.ownsRow B t k v n xs) (u : Value) (m : Nat) (cs : List Value) (hx : a.eval x = u) (hu : RowV w u m cs) (hl : cs.length = m * k) (h1 : ∀ x ∈ cs, x.oneCell' = true) (hn : n + m ≤ 4194304) (hB : B ≤ w.heap.size)
    (h : ∀ v' w', w'.ownsRow B t k v' (n + m) (xs ++ cs) → w.grownBy w' v.ownBlock → wpList Try.prog ops Q rest (a.put op.dst v') w') : wpList Try.prog ops Q (op :: rest) a w := by
 refine wpList_plain hgd fun K hK => ?_
 obtain ⟨v', w', hr, h2, h3⟩ := run_appM E B v n xs hown u m cs hu hl h1 hn hB op.type
 unfold Oper.wp
 rw [exec_app s x ho hs hx hr]
 exact hK _ _ (h v' w' h2 h3)
theorem exec_build0 (E : Elt t T k z by') (ho : op.op = .buildSlice T 0 #[]) : (execOp a.eval op).run Try.prog w = .ok (.value (.slice (some ⟨w.heap.size, 0, none⟩) 0 0)) (w.alloc (.cells #[] t)) := by
 obtain ⟨i, hi, hz, hk, _⟩ := E.info
 unfold execOp
 simp [ho, go_sem, Value.cells, run_underlying E.und, sizeOf, typeInfo, hi, hz, hk]
theorem own_build0 (E : Elt t T k z by') (w : World) : (w.alloc (.cells #[] t)).ownsRow w.heap.size t k (.slice (some ⟨w.heap.size, 0, none⟩) 0 0) 0 [] :=
 ⟨by simp, .inr ⟨w.heap.size, 0, #[], rfl, Nat.le_refl _, heap_alloc_last w _, Nat.le_refl _, by unfold maxLen; omega, by simp, by simp⟩⟩
theorem one_cells {u : Value} (h : u.oneCell' = true) : u.cells = #[u] := by cases u <;> simp_all [Value.cells, Value.oneCell']
theorem exec_build1 (E : Elt t T 1 z by') (x : Operand) (ho : op.op = .buildSlice T 1 #[(0, x)]) (u : Value) (hx : a.eval x = u) (hc : u.oneCell' = true) : (execOp a.eval op).run Try.prog w = .ok (.value (.slice (some ⟨w.heap.size, 0, none⟩) 1 1)) (w.alloc (.cells #[u] t)) := by
 obtain ⟨i, hi, hz, hk, _⟩ := E.info
 have hcu := one_cells hc
 generalize a.eval = ev at hx ⊢
 unfold execOp
 simp only [ho, hx]
 simp [Instr.buildSlice, Instr.fill, run_underlying E.und, sizeOf, typeInfo, zeroValue, hi, hk, hz, hx, hcu, newRow, show Array.range 1 = #[0] from rfl]
theorem exec_build2 (E : Elt t T 2 z by') (x : Operand) (ho : op.op = .buildSlice T 1 #[(0, x)]) (u1 u2 : Value) (hx : a.eval x = .agg #[u1, u2]) : (execOp a.eval op).run Try.prog w = .ok (.value (.slice (some ⟨w.heap.size, 0, none⟩) 1 1)) (w.alloc (.cells #[u1, u2] t)) := by
 obtain ⟨i, hi, hz, hk, _⟩ := E.info
 generalize a.eval = ev at hx ⊢
 unfold execOp
 simp only [ho, hx]
 simp [Instr.buildSlice, Instr.fill, run_underlying E.und, sizeOf, typeInfo, zeroValue, hi, hk, hz, hx, Value.cells, newRow, show Array.range 2 = #[0, 1] from rfl]
end
end Go.Proofs.Ytegpnicajlndlaa

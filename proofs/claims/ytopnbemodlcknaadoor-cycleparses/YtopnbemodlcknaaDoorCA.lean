/- Several texts in one: RI, RJ, SL, KB, C0, C1, C2, C3. -/
import Derived.Test.YtopnbemodlcknaaDoorS1
import Derived.StillTail
import Derived.StillTailTactics
import Derived.Test.YtopnbemodlcknaaDoorG0
import Derived.Test.YtopnbemodlcknaaDoorD1
/- A region that draws its order, several of whose operations make memory: what holds throughout, whatever has come up; then the tail in order. -/
namespace Go.Proofs.YtopnbemodlcknaaDoor
open Go
set_option linter.unusedVariables false
set_option linter.unusedSimpArgs false

section
variable {P : Program} {ops : Array Oper} {Q : Exit → Act → World → Prop}

/-- Each waits for earlier ones alone. -/
def fwdB (ops : Array Oper) (n : Nat) : Bool := (List.range n).all fun i => match ops[i]? with
  | some o => o.after.all fun e => !Region.binds .any e || decide (e.on < i)
  | none => false
def fullB (m n : Nat) : Array Bool := ((List.range m).map fun i => decide (i < n)).toArray
theorem fwd_spec {n i : Nat} {o : Oper} (h : fwdB ops n = true) (hi : i < n) (ho : ops[i]? = some o) : ∀ e ∈ o.after, Region.binds .any e = true → e.on < i := fun e he hb => by
  have h1 := List.all_eq_true.1 h i (List.mem_range.2 hi)
  rw [ho] at h1
  have h2 := Array.all_eq_true'.1 h1 e he
  rw [hb] at h2
  simpa using h2
/-- How many of the first n are to come. -/
def toCome (listed : Array Bool) (n : Nat) : Nat := ((List.range n).filter fun i => !listed.getD i false).length
theorem some_unlisted {listed : Array Bool} {n : Nat} (h : toCome listed n ≠ 0) : ∃ i, i < n ∧ listed.getD i false = false ∧ ∀ j, j < i → listed.getD j false = true := by
  have ex : ∃ i, i < n ∧ listed.getD i false = false := by
    unfold toCome at h
    obtain ⟨i, hi⟩ := List.exists_mem_of_length_pos (Nat.pos_of_ne_zero h)
    rw [List.mem_filter, List.mem_range] at hi
    exact ⟨i, hi.1, by simpa using hi.2⟩
  have key : ∀ m i, i ≤ m → i < n → listed.getD i false = false → ∃ i, i < n ∧ listed.getD i false = false ∧ ∀ j, j < i → listed.getD j false = true := by
    intro m
    induction m with
    | zero => intro i hi hn hl; exact ⟨i, hn, hl, fun j hj => by omega⟩
    | succ m ih =>
      intro i hi hn hl
      by_cases hx : ∃ j, j < i ∧ listed.getD j false = false
      · obtain ⟨j, hj, hjl⟩ := hx
        exact ih j (by omega) (by omega) hjl
      · refine ⟨i, hn, hl, fun j hj => ?_⟩
        cases hq : listed.getD j false with
        | true => rfl
        | false => exact absurd ⟨j, hj, hq⟩ hx
  obtain ⟨i, h1, h2⟩ := ex
  exact key i i (Nat.le_refl _) h1 h2
theorem filter_less {l : List Nat} {p q : Nat → Bool} (h : ∀ x ∈ l, q x = true → p x = true) : (l.filter q).length ≤ (l.filter p).length := by
  induction l with
  | nil => simp
  | cons x l ih =>
    have ih' := ih fun y hy => h y (List.mem_cons_of_mem _ hy)
    have hx := h x List.mem_cons_self
    cases hq : q x with
    | true => rw [List.filter_cons_of_pos hq, List.filter_cons_of_pos (hx hq)]; simpa using ih'
    | false =>
      rw [List.filter_cons_of_neg (by rw [hq]; simp)]
      cases hp : p x with
      | true => rw [List.filter_cons_of_pos hp]; simp; omega
      | false => rw [List.filter_cons_of_neg (by rw [hp]; simp)]; exact ih'
theorem filter_one_less : ∀ {l : List Nat} {p q : Nat → Bool} (i : Nat), i ∈ l → p i = true → q i = false → l.Nodup → (∀ x ∈ l, x ≠ i → q x = p x) → (l.filter q).length + 1 = (l.filter p).length
  | [], p, q, i, h, _, _, _, _ => by cases h
  | x :: l, p, q, i, h, hp, hq, hn, hs => by
    have hn' := List.nodup_cons.1 hn
    rcases List.mem_cons.1 h with rfl | hm
    · rw [List.filter_cons_of_pos hp, List.filter_cons_of_neg (by rw [hq]; simp)]
      have : l.filter q = l.filter p := List.filter_congr fun y hy => hs y (List.mem_cons_of_mem _ hy) (fun e => hn'.1 (e ▸ hy))
      rw [this]; simp
    · have ih := filter_one_less (l := l) i hm hp hq hn'.2 fun y hy hne => hs y (List.mem_cons_of_mem _ hy) hne
      have hx : q x = p x := hs x List.mem_cons_self (fun e => hn'.1 (e ▸ hm))
      cases hpx : p x with
      | true => rw [List.filter_cons_of_pos hpx, List.filter_cons_of_pos (by rw [hx, hpx])]; simp; omega
      | false => rw [List.filter_cons_of_neg (p := q) (by rw [hx, hpx]; simp), List.filter_cons_of_neg (p := p) (by rw [hpx]; simp)]; exact ih
theorem toCome_set {listed : Array Bool} {n i : Nat} (hi : i < n) (hs : i < listed.size) (hl : listed.getD i false = false) : toCome (listed.setIfInBounds i true) n + 1 = toCome listed n := by
  unfold toCome
  refine filter_one_less i (List.mem_range.2 hi) (by rw [hl]; rfl) ?_ List.nodup_range fun x hx hne => ?_
  · simp [hs]
  · rw [getD_set_ne false (Ne.symm hne)]
theorem full_of {listed : Array Bool} {n m : Nat} (h0 : toCome listed n = 0) (hsz : listed.size = m) (hn : n ≤ m) (ht : ∀ t, n ≤ t → t < m → listed.getD t true = false) : listed = fullB m n := by
  have hall : ∀ i, i < n → listed.getD i false = true := fun i hi => by
    cases hq : listed.getD i false with
    | true => rfl
    | false =>
      have : i ∈ (List.range n).filter fun i => !listed.getD i false := List.mem_filter.2 ⟨List.mem_range.2 hi, by rw [hq]; rfl⟩
      unfold toCome at h0
      rw [List.length_eq_zero_iff] at h0
      rw [h0] at this
      cases this
  refine Array.ext (by simp [fullB, hsz]) fun i h1 h2 => ?_
  have e : (fullB m n)[i] = decide (i < n) := by simp [fullB]
  rw [e]
  by_cases hi : i < n
  · have := hall i hi
    simp [h1] at this
    rw [this]; simp [hi]
  · have := ht i (by omega) (by omega)
    simp [h1] at this
    rw [this]; simp [hi]

theorem any_inv {n g : Nat} (I : Array Bool → Act → World → Prop) (hs : Region.sinkB .any ops n = true) (hc : Region.chainB .any ops n = true) (hn : n < ops.size) (hf : fwdB ops n = true)
    (hstep : ∀ i listed a w, i < n → i ∈ Region.ready .any ops listed → I listed a w → wpOp P ops Q i (fun a' w' => I (listed.setIfInBounds i true) a' w') a w)
    (hend : ∀ a w, I (fullB ops.size n) a w → wpAny P .any ops Q g (fullB ops.size n) a w) (f : Nat) :
    ∀ (listed : Array Bool) (a : Act) (w : World), HeadInv .any ops n listed → toCome listed n = f → I listed a w → wpAny P .any ops Q (f + g) listed a w := by
  induction f with
  | zero =>
    intro listed a w inv h0 hI
    have e := full_of h0 inv.size (Nat.le_of_lt hn) inv.tail
    rw [Nat.zero_add, e]
    exact hend a w (e ▸ hI)
  | succ f ih =>
    intro listed a w inv h0 hI
    obtain ⟨i0, hi0, hl0, hmin⟩ := some_unlisted (by omega : toCome listed n ≠ 0)
    have hl0' : listed.getD i0 true = false := getD_in (by rw [inv.size]; omega) hl0
    have e : f + 1 + g = f + g + 1 := Nat.add_right_comm f 1 g
    rw [e]
    have r0 : i0 ∈ Region.ready .any ops listed := mem_ready.2 ⟨hl0', ops[i0]'(by omega), Array.getElem?_eq_getElem (by omega), fun ed hed hb => hmin _ (fwd_spec hf hi0 (Array.getElem?_eq_getElem (by omega)) ed hed hb)⟩
    refine ⟨fun none => absurd r0 (by rw [none]; simp), fun i hi => ?_⟩
    have hin : i < n := by
      by_cases h : i < n
      · exact h
      · exact absurd hi (tail_waits hs hc hn inv _ i0 rfl hi0 hl0' i (by omega))
    have hun := (mem_ready.1 hi).1
    refine wpOp_mono (fun a' w' h' => ih _ a' w' (inv.set hi hin) ?_ h') (hstep i listed a w hin hi hI)
    have := toCome_set hin (by rw [inv.size]; omega) (getD_both hun)
    omega

/-- The region: what holds throughout its head; then its tail. -/
theorem region_inv {id : Nat} {a : Act} {w : World} {l : List Oper} (n : Nat) (I : Array Bool → Act → World → Prop) (hm : P.follows .mixedOrders = true)
    (hB : (Region.sinkB .any l.toArray n && Region.chainB .any l.toArray n && decide (n < l.length) && fwdB l.toArray n && Region.seqB .any l.toArray (l.drop n).length n (fullB l.length n)) = true)
    (h0 : I (Array.replicate l.length false) a { w with drawn := w.drawn + 1 })
    (hstep : ∀ i listed a w, i < n → i ∈ Region.ready .any l.toArray listed → I listed a w → wpOp P l.toArray Q i (fun a' w' => I (listed.setIfInBounds i true) a' w') a w)
    (hend : ∀ a w, I (fullB l.length n) a w → wpList P l.toArray Q (l.drop n) a w) : (Code.region id l.toArray true).wp P Q a w := by
  rw [Bool.and_eq_true, Bool.and_eq_true, Bool.and_eq_true, Bool.and_eq_true, decide_eq_true_eq] at hB
  obtain ⟨⟨⟨⟨h1, h2⟩, h3⟩, h4⟩, h5⟩ := hB
  have hsz : l.toArray.size = l.length := by simp
  have inv0 : HeadInv .any l.toArray n (Array.replicate l.toArray.size false) := ⟨(by simp), (fun j oj _ hl => (by rw [getD_replicate_false] at hl; cases hl)), (fun t _ ht => (by simp at ht; simp [ht]))⟩
  have t0 : toCome (Array.replicate l.toArray.size false) n = n := by
    unfold toCome
    rw [List.filter_eq_self.2 (fun i _ => by rw [getD_replicate_false]; rfl), List.length_range]
  have whole := any_inv (g := (l.drop n).length) I h1 h2 (by rw [hsz]; exact h3) h4 hstep (fun a' w' hI => by
    rw [hsz] at hI ⊢
    exact wpAny_of_seq (l.drop n) n _ a' w' (fun j => by simp) h5 (hend a' w' hI)) n (Array.replicate l.toArray.size false) a { w with drawn := w.drawn + 1 } inv0 t0 (by rw [hsz]; exact h0)
  have total : n + (l.drop n).length = l.toArray.size := by rw [List.length_drop, hsz]; omega
  rw [total] at whole
  exact wp_region_any hm whole
end
end Go.Proofs.YtopnbemodlcknaaDoor
/- Steps of such a region. -/
namespace Go.Proofs.YtopnbemodlcknaaDoor
open Go
set_option linter.unusedVariables false
set_option linter.unusedSimpArgs false
section
variable {P : Program} {ops : Array Oper} {Q : Exit → Act → World → Prop}
theorem region_invA {id : Nat} {a : Act} {w : World} {l : List Oper} (n : Nat) (I : Act → Array Bool → Act → World → Prop) (hm : P.follows .mixedOrders = true)
    (hB : (Region.sinkB .any l.toArray n && Region.chainB .any l.toArray n && decide (n < l.length) && fwdB l.toArray n && Region.seqB .any l.toArray (l.drop n).length n (fullB l.length n)) = true)
    (h0 : I a (Array.replicate l.length false) a { w with drawn := w.drawn + 1 })
    (hstep : ∀ i listed a' w', i < n → i ∈ Region.ready .any l.toArray listed → I a listed a' w' → wpOp P l.toArray Q i (fun a'' w'' => I a (listed.setIfInBounds i true) a'' w'') a' w')
    (hend : ∀ a' w', I a (fullB l.length n) a' w' → wpList P l.toArray Q (l.drop n) a' w') : (Code.region id l.toArray true).wp P Q a w :=
  region_inv n (I a) hm hB h0 hstep hend
theorem wpOp_value {i : Nat} {o : Oper} {K : Act → World → Prop} {a : Act} {w w' : World} {v : Value} (hi : ops[i]? = some o) (hg : o.guard = none) (hr : (execOp a.eval o).run P w = .ok (.value v) w') (h : K (a.put o.dst v) w') : wpOp P ops Q i K a w := by
  unfold wpOp
  rw [hi]
  simp only [Region.wanted, hg, if_true]
  refine Or.inl ?_
  unfold Oper.wp
  rw [hr]
  exact h
theorem wpOp_call {i : Nat} {o : Oper} {K : Act → World → Prop} {a : Act} {w : World} {f : FuncId} {args : Array Value} (hi : ops[i]? = some o) (hg : o.guard = none) (hr : (execOp a.eval o).run P w = .ok (.enter f args) w) (h : Calls P f args w fun e w' => ∃ v, e = .returned v ∧ K (a.put o.dst v) w') : wpOp P ops Q i K a w := by
  unfold wpOp
  rw [hi]
  simp only [Region.wanted, hg, if_true]
  refine Or.inl ?_
  unfold Oper.wp
  rw [hr]
  refine Calls.mono h fun e w' he => ?_
  obtain ⟨v, rfl, hk⟩ := he
  exact hk
/-- What is listed behind one more was listed, but for that one. -/
theorem keep {listed : Array Bool} {i j : Nat} (hij : i ≠ j) (h : (listed.setIfInBounds i true).getD j false = true) : listed.getD j false = true := by rw [getD_set_ne false hij] at h; exact h
theorem not_rep {n j : Nat} (h : (Array.replicate n false).getD j false = true) : False := by rw [getD_replicate_false] at h; cases h
end
end Go.Proofs.YtopnbemodlcknaaDoor
/- Slices of whatever elements (layer 15): read, put behind rows of one's own; rows of rows. -/
namespace Go.Proofs.YtopnbemodlcknaaDoor
open Go.RowKit M
set_option linter.unusedSimpArgs false
set_option linter.unusedVariables false

/-- Cells from an address on. -/
def Seg (w : World) (a : Option Addr) (cs : List Value) : Prop := ∀ j v, cs[j]? = some v → ∃ b o, a = some ⟨b, o, none⟩ ∧ b < w.heap.size ∧ w.cell? ⟨b, o + j, none⟩ = some v
theorem Seg.below {w W : World} {a : Option Addr} {cs : List Value} (h : Seg w a cs) (hB : Below w.heap.size w W) : Seg W a cs := fun j v hv => by
  obtain ⟨b, o, h1, h2, h3⟩ := h j v hv
  exact ⟨b, o, h1, Nat.lt_of_lt_of_le h2 hB.size, by rw [hB.cell (p := ⟨b, o + j, none⟩) h2]; exact h3⟩
theorem Seg.nil (w : World) (a : Option Addr) : Seg w a [] := fun j v hv => by simp at hv
/-- A slice of n elements with these cells. -/
def RowV (w : World) (v : Value) (n : Nat) (cs : List Value) : Prop := ∃ a c, v = .slice a n c ∧ Seg w a cs ∧ (a = none → c = 0)
theorem RowV.below {w W : World} {v : Value} {n : Nat} {cs : List Value} (h : RowV w v n cs) (hB : Below w.heap.size w W) : RowV W v n cs := by
  obtain ⟨a, c, h1, h2, h3⟩ := h; exact ⟨a, c, h1, h2.below hB, h3⟩
/-- A slice of slices. -/
def RowsV {α : Type} (w : World) (v : Value) (enc : α → List Value) (xss : List (List α)) : Prop :=
  ∃ vs : List Value, vs.length = xss.length ∧ RowV w v xss.length vs ∧ ∀ (j : Nat) u xs, vs[j]? = some u → xss[j]? = some xs → RowV w u xs.length (xs.flatMap enc)
theorem RowsV.below {α : Type} {w W : World} {v : Value} {enc : α → List Value} {xss : List (List α)} (h : RowsV w v enc xss) (hB : Below w.heap.size w W) : RowsV W v enc xss := by
  obtain ⟨vs, h1, h2, h3⟩ := h; exact ⟨vs, h1, h2.below hB, fun j u xs hu hx => (h3 j u xs hu hx).below hB⟩
/-- The row with a number. -/
theorem RowsV.at {α : Type} {w : World} {a : Option Addr} {n c : Nat} {enc : α → List Value} {xss : List (List α)} (h : RowsV w (.slice a n c) enc xss) (j : Nat) (xs : List α) (hx : xss[j]? = some xs) :
    ∃ b o a' c', a = some ⟨b, o, none⟩ ∧ b < w.heap.size ∧ w.cell? ⟨b, o + j, none⟩ = some (.slice a' xs.length c') ∧ Seg w a' (xs.flatMap enc) ∧ (a' = none → c' = 0) := by
  obtain ⟨vs, h1, ⟨a0, c0, e0, h2, _⟩, h3⟩ := h
  cases e0
  have hj := (List.getElem?_eq_some_iff.1 hx).1
  obtain ⟨u, hu⟩ : ∃ u, vs[j]? = some u := ⟨_, List.getElem?_eq_getElem (by omega)⟩
  obtain ⟨b, o, e, hb, hc⟩ := h2 j u hu
  obtain ⟨a', c', rfl, h4, h5⟩ := h3 j u xs hu hx
  exact ⟨b, o, a', c', e, hb, hc, h4, h5⟩
theorem RowsV.form {α : Type} {w : World} {v : Value} {enc : α → List Value} {xss : List (List α)} (h : RowsV w v enc xss) : ∃ a c, v = .slice a xss.length c := by
  obtain ⟨vs, _, ⟨a, c, e, _⟩, _⟩ := h; exact ⟨a, c, e⟩
theorem RowsV.null {α : Type} {w : World} {n c : Nat} {enc : α → List Value} {xss : List (List α)} (h : RowsV w (.slice none n c) enc xss) : c = 0 := by
  obtain ⟨vs, _, ⟨a, c', e, _, h2⟩, _⟩ := h; cases e; exact h2 rfl
/-- What an element's type is. -/
structure Elt (t T k : Nat) (z : Value) (by' : Nat) : Prop where
  und : Tryd.prog.underlying T = some (.slice t)
  info : ∃ i, Tryd.prog.info? t = some i ∧ i.zero = some z ∧ i.size = k ∧ i.bytes = by'
  cells : z.cells.size = k
  pos : 0 < k
  few : by' ≤ 1024
theorem info_parts {t : Nat} {z : Value} {k by' : Nat} (h : (Tryd.prog.info? t).map (fun i => (i.zero, i.size, i.bytes)) = some (some z, k, by')) : ∃ i, Tryd.prog.info? t = some i ∧ i.zero = some z ∧ i.size = k ∧ i.bytes = by' := by
  cases hq : Tryd.prog.info? t with
  | none => rw [hq] at h; simp at h
  | some i =>
    rw [hq] at h
    simp only [Option.map_some, Option.some.injEq, Prod.mk.injEq] at h
    exact ⟨i, rfl, h.1, h.2.1, h.2.2⟩
theorem eStr : Elt 9 22 1 (.string ⟨#[]⟩) 16 := ⟨Tryd.underlying22, info_parts (by kernel_rfl), rfl, by decide, by decide⟩
section
variable {w : World} {ops : Array Oper} {rest : List Oper} {op : Oper} {a : Act} {Q : Exit → Act → World → Prop} {t T k by' : Nat} {z : Value}
theorem own_row {B n : Nat} {v : Value} {xs : List Value} (h : w.ownsRow B t k v n xs) : RowV w v n xs := by
  rcases h.2 with ⟨rfl, rfl⟩ | ⟨g, cap, cur, rfl, hg, hh, rest⟩
  · refine ⟨none, 0, rfl, fun j v hv => ?_, fun _ => rfl⟩
    have := (List.getElem?_eq_some_iff.1 hv).1
    have := h.1
    omega
  · refine ⟨some ⟨g, 0, none⟩, cap, rfl, fun j v hv => ⟨g, 0, rfl, (Array.getElem?_eq_some_iff.1 hh).1, ?_⟩, fun e => by cases e⟩
    rw [cell_of_row w g _ cur t (0, 0) hh, Nat.zero_add]
    rw [← rest.2.2.2, List.getElem?_take] at hv
    split at hv
    · simpa using hv
    · cases hv
/-- A slice's cells put behind a row of one's own. -/
theorem run_appM (E : Elt t T k z by') (B : Nat) (v : Value) (n : Nat) (xs : List Value) (hown : w.ownsRow B t k v n xs) (u : Value) (m : Nat) (cs : List Value) (hu : RowV w u m cs) (hl : cs.length = m * k) (h1 : ∀ x ∈ cs, x.oneCell' = true) (hn : n + m ≤ 4194304) (hB : B ≤ w.heap.size) (ty : TypeId) :
    ∃ v' w', (Builtin.append_ #[T, T] ty #[v, u]).run Tryd.prog w = .ok v' w' ∧ w'.ownsRow B t k v' (n + m) (xs ++ cs) ∧ w.grownBy w' v.ownBlock := by
  obtain ⟨i0, hi, hz, hs, hby⟩ := E.info
  obtain ⟨ad, c, rfl, hT, hnil⟩ := hu
  cases ad with
  | none =>
    have hm : m = 0 := by
      cases m with
      | zero => rfl
      | succ m =>
        have hpos := E.pos
        have : 0 < cs.length := by rw [hl]; exact Nat.mul_pos (Nat.succ_pos _) hpos
        obtain ⟨_, _, e, _⟩ := hT 0 cs[0] (List.getElem?_eq_getElem this)
        cases e
    subst hm
    have hcs : cs = [] := List.length_eq_zero_iff.1 (by rw [hl, Nat.zero_mul])
    subst hcs
    rw [hnil rfl]
    refine ⟨v, w, run_append_owned_none (P := Tryd.prog) (w := w) B T ty t i0 k E.und hi v n xs hown, ?_, ⟨rfl, rfl, rfl, Nat.le_refl _, fun _ _ _ => rfl⟩⟩
    simpa using hown
  | some x =>
    have hnews : ∀ j y, cs[j]? = some y → w.cell? (x.add j) = some y := fun j y hj => by
      obtain ⟨b, o, e, _, hc⟩ := hT j y hj
      cases e
      rw [Addr.add_mid]
      exact hc
    have hfew := E.few
    have hb : (n + m) * by' ≤ 140737488355328 := Nat.le_trans (Nat.mul_le_mul hn hfew) (by decide)
    obtain ⟨v', w', hr, ho, hg, _⟩ := run_append_own (P := Tryd.prog) w B T ty t i0 z k by' E.und hi hz hs hby E.cells E.pos v n xs hown x m c cs hl hnews h1 (by unfold maxLen; omega) hb hB
    exact ⟨v', w', hr, ho, hg⟩
theorem exec_app (s x : Operand) (ho : op.op = .call { callee := .builtin .append, args := #[s, x], argTypes := #[T, T] }) {v u v' : Value} {w' : World} (hs : a.eval s = v) (hx : a.eval x = u)
    (hr : (Builtin.append_ #[T, T] op.type #[v, u]).run Tryd.prog w = .ok v' w') : (execOp a.eval op).run Tryd.prog w = .ok (.value v') w' := by
  unfold execOp
  simp only [ho, resolve, invoke, builtin, Sem.run_bind, Sem.run_pure, Result.andThen_ok, List.map_toArray, List.map_cons, List.map_nil, hs, hx, hr]
theorem wpList_appM (E : Elt t T k z by') (hgd : op.guard = none) (s x : Operand) (ho : op.op = .call { callee := .builtin .append, args := #[s, x], argTypes := #[T, T] })
    (B : Nat) (v : Value) (n : Nat) (xs : List Value) (hs : a.eval s = v) (hown : w.ownsRow B t k v n xs) (u : Value) (m : Nat) (cs : List Value) (hx : a.eval x = u) (hu : RowV w u m cs) (hl : cs.length = m * k) (h1 : ∀ x ∈ cs, x.oneCell' = true) (hn : n + m ≤ 4194304) (hB : B ≤ w.heap.size)
    (h : ∀ v' w', w'.ownsRow B t k v' (n + m) (xs ++ cs) → w.grownBy w' v.ownBlock → wpList Tryd.prog ops Q rest (a.put op.dst v') w') : wpList Tryd.prog ops Q (op :: rest) a w := by
  refine wpList_plain hgd fun K hK => ?_
  obtain ⟨v', w', hr, h2, h3⟩ := run_appM E B v n xs hown u m cs hu hl h1 hn hB op.type
  unfold Oper.wp
  rw [exec_app s x ho hs hx hr]
  exact hK _ _ (h v' w' h2 h3)
theorem exec_build0 (E : Elt t T k z by') (ho : op.op = .buildSlice T 0 #[]) : (execOp a.eval op).run Tryd.prog w = .ok (.value (.slice (some ⟨w.heap.size, 0, none⟩) 0 0)) (w.alloc (.cells #[] t)) := by
  obtain ⟨i, hi, hz, hk, _⟩ := E.info
  unfold execOp
  simp [ho, go_sem, Value.cells, run_underlying E.und, sizeOf, typeInfo, hi, hz, hk]
theorem own_build0 (E : Elt t T k z by') (w : World) : (w.alloc (.cells #[] t)).ownsRow w.heap.size t k (.slice (some ⟨w.heap.size, 0, none⟩) 0 0) 0 [] :=
  ⟨by simp, .inr ⟨w.heap.size, 0, #[], rfl, Nat.le_refl _, heap_alloc_last w _, Nat.le_refl _, by unfold maxLen; omega, by simp, by simp⟩⟩
theorem one_cells {u : Value} (h : u.oneCell' = true) : u.cells = #[u] := by cases u <;> simp_all [Value.cells, Value.oneCell']
theorem exec_build1 (E : Elt t T 1 z by') (x : Operand) (ho : op.op = .buildSlice T 1 #[(0, x)]) (u : Value) (hx : a.eval x = u) (hc : u.oneCell' = true) : (execOp a.eval op).run Tryd.prog w = .ok (.value (.slice (some ⟨w.heap.size, 0, none⟩) 1 1)) (w.alloc (.cells #[u] t)) := by
  obtain ⟨i, hi, hz, hk, _⟩ := E.info
  have hcu := one_cells hc
  generalize a.eval = ev at hx ⊢
  unfold execOp
  simp only [ho, hx]
  simp [Instr.buildSlice, Instr.fill, run_underlying E.und, sizeOf, typeInfo, zeroValue, hi, hk, hz, hx, hcu, newRow, show Array.range 1 = #[0] from rfl]
theorem exec_build2 (E : Elt t T 2 z by') (x : Operand) (ho : op.op = .buildSlice T 1 #[(0, x)]) (u1 u2 : Value) (hx : a.eval x = .agg #[u1, u2]) : (execOp a.eval op).run Tryd.prog w = .ok (.value (.slice (some ⟨w.heap.size, 0, none⟩) 1 1)) (w.alloc (.cells #[u1, u2] t)) := by
  obtain ⟨i, hi, hz, hk, _⟩ := E.info
  generalize a.eval = ev at hx ⊢
  unfold execOp
  simp only [ho, hx]
  simp [Instr.buildSlice, Instr.fill, run_underlying E.und, sizeOf, typeInfo, zeroValue, hi, hk, hz, hx, Value.cells, newRow, show Array.range 2 = #[0, 1] from rfl]
end
end Go.Proofs.YtopnbemodlcknaaDoor
/- Small laws that the texts of this layer share. -/
namespace Go.Proofs.YtopnbemodlcknaaDoor
open Go.RowKit M
set_option linter.unusedSimpArgs false
set_option linter.unusedVariables false

/-- Some values as cells. -/
def strE (s : ByteArray) : List Value := [.string s]
def intE (i : Int) : List Value := [.int .i64 i]
theorem flat1 {α : Type} (f : α → Value) : ∀ l : List α, l.flatMap (fun x => [f x]) = l.map f
  | [] => rfl
  | x :: l => by rw [List.flatMap_cons, flat1 f l]; rfl
theorem str_at {ss : List ByteArray} {j : Nat} {s : ByteArray} (h : ss[j]? = some s) : (ss.flatMap strE)[j]? = some (.string s) := by
  rw [show ss.flatMap strE = ss.map Value.string from flat1 _ ss, List.getElem?_map, h]; rfl
theorem int_at {ss : List Int} {j : Nat} {s : Int} (h : ss[j]? = some s) : (ss.flatMap intE)[j]? = some (.int .i64 s) := by
  rw [show ss.flatMap intE = ss.map (Value.int .i64) from flat1 _ ss, List.getElem?_map, h]; rfl
theorem take_at {α : Type} {l : List α} {k : Nat} {x : α} (h : l[k]? = some x) : l.take (k + 1) = l.take k ++ [x] := by
  obtain ⟨hk, e⟩ := List.getElem?_eq_some_iff.1 h
  rw [List.take_succ_eq_append_getElem hk, e]
theorem seg_isS {W : World} {b t : Nat} {cs : List Value} (h : IsS W b t cs) : Seg W (some ⟨b, 0, none⟩) cs := fun j v hv => ⟨b, 0, rfl, h.lt, by rw [h.cell, Nat.zero_add]; exact hv⟩
theorem row_isS {W : World} {b t n c : Nat} {cs : List Value} (h : IsS W b t cs) : RowV W (.slice (some ⟨b, 0, none⟩) n c) n cs := ⟨_, c, rfl, seg_isS h, fun e => by cases e⟩
theorem grown_below {B : Nat} {w0 w w' : World} {v : Value} {n : Nat} {xs : List Value} {t s : Nat} (h : Below B w0 w) (hB : B ≤ w.heap.size) (ho : w.ownsRow B t s v n xs) (hg : w.grownBy w' v.ownBlock) : Below B w0 w' := by
  refine ⟨hg.os.trans h.os, hg.tape.trans h.tape, hg.output.trans h.output, Nat.le_trans h.size hg.size, fun k hk => (hg.block k (Nat.lt_of_lt_of_le hk hB) (fun e => ?_)).trans (h.block k hk)⟩
  rcases ho.2 with ⟨rfl, _⟩ | ⟨g, cap, cur, rfl, hb, _⟩
  · cases e
  · simp [Value.ownBlock] at e; omega
theorem own_below {W W' : World} {B t s n : Nat} {v : Value} {xs : List Value} (h : W.ownsRow B t s v n xs) (hB : Below W.heap.size W W') : W'.ownsRow B t s v n xs := by
  refine ⟨h.1, ?_⟩
  rcases h.2 with hn | ⟨g, cap, cur, rfl, hg, hh, rest⟩
  · exact Or.inl hn
  · exact Or.inr ⟨g, cap, cur, rfl, hg, (hB.block g (Array.getElem?_eq_some_iff.1 hh).1).trans hh, rest⟩
theorem own_nil (W : World) (B t s : Nat) : W.ownsRow B t s (.slice none 0 0) 0 [] := ⟨by simp, .inl ⟨rfl, rfl⟩⟩
theorem own_form {W : World} {B t s n : Nat} {v : Value} {xs : List Value} (h : W.ownsRow B t s v n xs) : ∃ a c, v = .slice a n c := by
  rcases h.2 with ⟨rfl, rfl⟩ | ⟨g, cap, cur, rfl, _⟩
  · exact ⟨_, _, rfl⟩
  · exact ⟨_, _, rfl⟩
theorem F_b {w W : World} {b : Nat} (F : Fresh w W b) : Below w.heap.size w W := F.trans (Below.refl _ w) (Nat.le_refl _)
section
variable {w : World} {ops : Array Oper} {rest : List Oper} {op : Oper} {a : Act} {Q : Exit → Act → World → Prop} {t T k by' : Nat} {z : Value}
theorem wpList_build0E (E : Elt t T k z by') (hgd : op.guard = none) (ho : op.op = .buildSlice T 0 #[])
    (h : ∀ W b, Fresh w W b → W.ownsRow w.heap.size t k (.slice (some ⟨b, 0, none⟩) 0 0) 0 [] → wpList Tryd.prog ops Q rest (a.put op.dst (.slice (some ⟨b, 0, none⟩) 0 0)) W) : wpList Tryd.prog ops Q (op :: rest) a w := by
  refine wpList_plain hgd fun K hK => ?_
  unfold Oper.wp
  rw [exec_build0 E ho]
  exact hK _ _ (h _ _ (Fresh.alloc w _) (own_build0 E w))
theorem wpList_build1E (E : Elt t T 1 z by') (hgd : op.guard = none) (x : Operand) (ho : op.op = .buildSlice T 1 #[(0, x)]) (u : Value) (hx : a.eval x = u) (hc : u.oneCell' = true)
    (h : ∀ W b, Fresh w W b → IsS W b t [u] → wpList Tryd.prog ops Q rest (a.put op.dst (.slice (some ⟨b, 0, none⟩) 1 1)) W) : wpList Tryd.prog ops Q (op :: rest) a w := by
  refine wpList_plain hgd fun K hK => ?_
  unfold Oper.wp
  rw [exec_build1 E x ho u hx hc]
  exact hK _ _ (h _ _ (Fresh.alloc w _) (IsS.new w t [u]))
end
theorem own_raise {W : World} {B B' t s n : Nat} {v : Value} {xs : List Value} (h : W.ownsRow B' t s v n xs) (hb : B ≤ B') : W.ownsRow B t s v n xs := by
  refine ⟨h.1, ?_⟩
  rcases h.2 with hn | ⟨g, cap, cur, rfl, hg, rest⟩
  · exact Or.inl hn
  · exact Or.inr ⟨g, cap, cur, rfl, Nat.le_trans hb hg, rest⟩
theorem int_len (l : List Int) : (l.flatMap intE).length = l.length * 1 := by rw [show l.flatMap intE = l.map (Value.int .i64) from flat1 _ l]; simp
theorem str_len (l : List ByteArray) : (l.flatMap strE).length = l.length * 1 := by rw [show l.flatMap strE = l.map Value.string from flat1 _ l]; simp
theorem int_one (l : List Int) : ∀ v ∈ l.flatMap intE, v.oneCell' = true := fun v hv => by
  obtain ⟨r, _, h⟩ := List.mem_flatMap.1 hv; simp [intE] at h; subst h; rfl
theorem str_one (l : List ByteArray) : ∀ v ∈ l.flatMap strE, v.oneCell' = true := fun v hv => by
  obtain ⟨r, _, h⟩ := List.mem_flatMap.1 hv; simp [strE] at h; subst h; rfl
theorem own_cell {W : World} {B t s n : Nat} {v : Value} {xs : List Value} (h : W.ownsRow B t s v n xs) : v.oneCell' = true := by
  rcases h.2 with ⟨rfl, _⟩ | ⟨g, cap, cur, rfl, _⟩ <;> rfl
theorem own_grow {W W' : World} {B t tin k n m s : Nat} {v u : Value} {xs ys : List Value} (h : W.ownsRow B tin k u n xs) (ho : W.ownsRow B t s v m ys) (hg : W.grownBy W' v.ownBlock) (ht : tin ≠ t) : W'.ownsRow B tin k u n xs := by
  refine ⟨h.1, ?_⟩
  rcases h.2 with hn | ⟨g, cap, cur, rfl, hg1, hh, rest⟩
  · exact Or.inl hn
  · refine Or.inr ⟨g, cap, cur, rfl, hg1, (hg.block g (Array.getElem?_eq_some_iff.1 hh).1 (fun e => ?_)).trans hh, rest⟩
    rcases ho.2 with ⟨rfl, _⟩ | ⟨g', cap', cur', rfl, _, hh', _⟩
    · cases e
    · simp [Value.ownBlock] at e
      subst e
      rw [hh] at hh'
      simp at hh'
      exact ht hh'.2
def OwnRows {α : Type} (W : World) (B t tin k : Nat) (v : Value) (enc : α → List Value) (xss : List (List α)) : Prop :=
  ∃ vs : List Value, vs.length = xss.length ∧ W.ownsRow B t 1 v xss.length vs ∧ ∀ (j : Nat) u xs, vs[j]? = some u → xss[j]? = some xs → W.ownsRow B tin k u xs.length (xs.flatMap enc)
theorem OwnRows.rows {α : Type} {W : World} {B t tin k : Nat} {v : Value} {enc : α → List Value} {xss : List (List α)} (h : OwnRows W B t tin k v enc xss) : RowsV W v enc xss := by
  obtain ⟨vs, h1, h2, h3⟩ := h; exact ⟨vs, h1, own_row h2, fun j u xs hu hx => own_row (h3 j u xs hu hx)⟩
theorem exec_loadSX {w : World} {b t t' : Nat} {cs : List Value} {op : Oper} {a : Act} {p : Operand} {d : TypeDesc} (ho : op.op = .load t p) (hp : a.eval p = .pointer (some ⟨b, 0, none⟩)) (hc : IsS w b t' cs) (hu : Tryd.prog.underlying t = some d) (hd : d.isRow = true) (hi : (Tryd.prog.info? t).map (·.size) = some cs.length) : (execOp a.eval op).run Tryd.prog w = .ok (.value (.agg cs.toArray)) w := by
  have hr := run_loadAt_mid (P := Tryd.prog) w b 0 t cs d (fun i u hu => by rw [Nat.zero_add]; exact (hc.cell i).trans hu) hu hd hi
  unfold execOp
  simp only [ho, hp, Sem.run_bind, hr, Result.andThen_ok, Sem.run_pure]
theorem putL_get : ∀ (vs cs : List Value) (o j : Nat), o + vs.length ≤ cs.length → (putL cs o vs)[j]? = if o ≤ j ∧ j < o + vs.length then vs[j - o]? else cs[j]?
  | [], cs, o, j, h => by rw [if_neg (by simp only [List.length_nil]; omega)]; rfl
  | v :: vs, cs, o, j, h => by
    show (putL (cs.set o v) (o + 1) vs)[j]? = _
    simp only [List.length_cons] at *
    rw [putL_get vs (cs.set o v) (o + 1) j (by rw [List.length_set]; omega)]
    by_cases h1 : o + 1 ≤ j ∧ j < o + 1 + vs.length
    · rw [if_pos h1, if_pos (by omega), show j - o = (j - (o + 1)) + 1 by omega]; rfl
    · rw [if_neg h1]
      by_cases h2 : j = o
      · subst h2
        rw [if_pos (by omega), List.getElem?_set_self (by omega), Nat.sub_self]; rfl
      · rw [if_neg (by omega), List.getElem?_set_ne (by omega)]
theorem putL_all {cs vs : List Value} (h : vs.length = cs.length) : putL cs 0 vs = vs := by
  refine List.ext_getElem? fun j => ?_
  rw [putL_get _ _ _ _ (by omega)]
  by_cases hj : j < vs.length
  · rw [if_pos (by omega), Nat.sub_zero]
  · rw [if_neg (by omega), List.getElem?_eq_none (by omega), List.getElem?_eq_none (by omega)]
section
variable {w : World} {b t o : Nat} {cs : List Value} {ops : Array Oper} {rest : List Oper} {op : Oper} {a : Act} {Q : Exit → Act → World → Prop}
theorem wpList_loadW (hgd : op.guard = none) (ty : TypeId) (x : Operand) (ho : op.op = .load ty x) (hx : a.eval x = .pointer (some ⟨b, 0, none⟩)) (hc : IsS w b t cs) (d : TypeDesc)
    (hu : Tryd.prog.underlying ty = some d) (hd : d.isRow = true) (hi : (Tryd.prog.info? ty).map (·.size) = some cs.length)
    (h : wpList Tryd.prog ops Q rest (a.put op.dst (.agg cs.toArray)) w) : wpList Tryd.prog ops Q (op :: rest) a w := by
  have hr := hc.range 0 cs.length
  rw [List.drop_zero, List.take_length] at hr
  exact wpList_load_mid hgd ty x ho b 0 hx cs d hr hu hd hi h
theorem wpList_storeW (hgd : op.guard = none) (ty : TypeId) (x y : Operand) (ho : op.op = .store ty x y) (hx : a.eval x = .pointer (some ⟨b, 0, none⟩)) (vs : List Value) (hy : a.eval y = .agg vs.toArray) (hc : IsS w b t cs)
    (hk : vs.length = cs.length) (hi : (Tryd.prog.info? ty).map (·.size) = some vs.length) (h1 : ∀ v ∈ vs, v.oneCell' = true)
    (h : ∀ W, Upd w W b → IsS W b t vs → wpList Tryd.prog ops Q rest (a.put op.dst undef) W) : wpList Tryd.prog ops Q (op :: rest) a w :=
  wpList_storeS hgd ty x y ho hx vs hy hc (by omega) hi h1 (fun W U C => h W U (by rw [putL_all hk] at C; exact C))
end
theorem wpList_boxF {w : World} {ops : Array Oper} {rest : List Oper} {op : Oper} {a : Act} {Q : Exit → Act → World → Prop} (hgd : op.guard = none) (ty : TypeId) (x : Operand) (ho : op.op = .box ty x) (v : Value) (hx : a.eval x = v) (hv : v.cells = #[v])
    (h : ∀ W b, Fresh w W b → IsS W b ty [v] → wpList Tryd.prog ops Q rest (a.put op.dst (.pointer (some ⟨b, 0, none⟩))) W) : wpList Tryd.prog ops Q (op :: rest) a w := by
  refine wpList_plain hgd fun K hK => ?_
  unfold Oper.wp execOp
  simp only [ho, hx]
  have hb : (Instr.box ty v).run Tryd.prog w = .ok (.pointer (some ⟨w.heap.size, 0, none⟩)) (w.alloc (.cells [v].toArray ty)) := by
    simp [go_sem]
    exact congrArg (fun c => w.alloc (.cells c ty)) hv
  simp only [Sem.run_bind, hb, Result.andThen_ok, Sem.run_pure]
  exact hK _ _ (h _ _ (Fresh.alloc w _) (IsS.new w ty [v]))
theorem wpList_loadF {ops : Array Oper} {rest : List Oper} {op : Oper} {a : Act} {Q : Exit → Act → World → Prop} {w : World} {b t : Nat} {v : Value} (hgd : op.guard = none) (ty : TypeId) (x : Operand) (ho : op.op = .load ty x) (hx : a.eval x = .pointer (some ⟨b, 0, none⟩)) (I : IsS w b t [v])
    (hl : ∀ w, w.cell? ⟨b, 0, none⟩ = some v → (Instr.loadAt ty (.pointer (some ⟨b, 0, none⟩))).run Tryd.prog w = .ok v w) (h : wpList Tryd.prog ops Q rest (a.put op.dst v) w) : wpList Tryd.prog ops Q (op :: rest) a w := by
  refine wpList_plain hgd fun K hK => ?_
  unfold Oper.wp execOp
  simp only [ho, hx, Sem.run_bind, hl w (I.cell 0), Result.andThen_ok, Sem.run_pure]
  exact hK _ _ h
theorem ret_ST {w : World} {b t k : Nat} {cs : List Value} {fn : Func} {p : Tmp} {R : Ending → World → Prop} {a : Act} (h : fn.results = #[.cell p t, .tmp k]) (hp : a.tmps.getD p undef = .pointer (some ⟨b, 0, none⟩))
    (hd : a.defers = []) (hc : IsS w b t cs) (d : TypeDesc) (hu : Tryd.prog.underlying t = some d) (hr : (match d with | .struct _ => true | .array _ _ => true | _ => false) = true) (hi : (Tryd.prog.info? t).map (·.size) = some cs.length) (v : Value) (hv : a.tmps.getD k undef = v) (hR : R (.returned (.tuple #[.agg cs.toArray, v])) w) : bodyPost Tryd.prog fn R .ret a w := by
  have hc' : w.heap[b]? = some (.cells cs.toArray t (0, 0)) := hc
  have hp' : a.tmps[p]?.getD undef = .pointer (some ⟨b, 0, none⟩) := by simpa using hp
  have hv' : a.tmps[k]?.getD undef = v := by simpa using hv
  refine ⟨hd, .tuple #[.agg cs.toArray, v], ?_, hR⟩
  simp [results, h, hp', hv', asAddr, run_loadVar_row w b t t cs.toArray (0, 0) d hc' hu (by cases d <;> simp_all) (by simpa using hi)]
section
variable {w : World} {ops : Array Oper} {rest : List Oper} {op : Oper} {a : Act} {Q : Exit → Act → World → Prop}
theorem wpList_loadO {b o t : Nat} {cs : List Value} {v : Value} (hgd : op.guard = none) (ty : TypeId) (x : Operand) (ho : op.op = .load ty x) (hx : a.eval x = .pointer (some ⟨b, o, none⟩)) (I : IsS w b t cs) (hv : cs[o]? = some v)
    (hl : ∀ w, w.cell? ⟨b, o, none⟩ = some v → (Instr.loadAt ty (.pointer (some ⟨b, o, none⟩))).run Tryd.prog w = .ok v w) (h : wpList Tryd.prog ops Q rest (a.put op.dst v) w) : wpList Tryd.prog ops Q (op :: rest) a w := by
  refine wpList_plain hgd fun K hK => ?_
  unfold Oper.wp execOp
  simp only [ho, hx, Sem.run_bind, hl w ((I.cell o).trans hv), Result.andThen_ok, Sem.run_pure]
  exact hK _ _ h
end
section
variable {ops : Array Oper} {Q : Exit → Act → World → Prop}
theorem wpOp_cell {i : Nat} {o : Oper} {K : Act → World → Prop} {a : Act} {w : World} {v : Value} {b k : Nat} (hi : ops[i]? = some o) (hg : o.guard = none) (ty : TypeId) (x : Operand) (ho : o.op = .load ty x) (hx : a.eval x = .pointer (some ⟨b, k, none⟩))
    (hl : (Instr.loadAt ty (.pointer (some ⟨b, k, none⟩))).run Tryd.prog w = .ok v w) (h : K (a.put o.dst v) w) : wpOp Tryd.prog ops Q i K a w := by
  refine wpOp_value hi hg (v := v) (w' := w) ?_ h
  unfold execOp
  simp only [ho, hx, Sem.run_bind, hl, Result.andThen_ok, Sem.run_pure]
theorem wpOp_store {i : Nat} {o : Oper} {K : Act → World → Prop} {a : Act} {w : World} {b k t : Nat} {cs : List Value} (hi : ops[i]? = some o) (hg : o.guard = none) (ty : TypeId) (x y : Operand) (ho : o.op = .store ty x y) (hx : a.eval x = .pointer (some ⟨b, k, none⟩)) (v : Value) (hy : a.eval y = v) (hc : IsS w b t cs)
    (hk : k < cs.length) (hf : (Tryd.prog.info? ty).map (·.size) = some 1) (h1 : v.oneCell' = true) (h : ∀ W, Upd w W b → IsS W b t (cs.set k v) → K (a.put o.dst undef) W) : wpOp Tryd.prog ops Q i K a w := by
  unfold wpOp
  rw [hi]
  simp only [Region.wanted, hg, if_true]
  refine Or.inl ?_
  unfold Oper.wp execOp
  simp only [ho, hx, hy, Instr.storeAt, Instr.sureAddr, Sem.run_bind, Sem.run_pure, Result.andThen_ok, run_store1 w b k ty v (hc.there k 1 (by omega)) hf h1]
  exact h _ (Upd.setCell w b k v) (hc.set1 k v)
end
theorem wpOp_storeW {ops : Array Oper} {Q : Exit → Act → World → Prop} {i : Nat} {o : Oper} {K : Act → World → Prop} {a : Act} {w : World} {b t : Nat} {cs : List Value} (hi : ops[i]? = some o) (hg : o.guard = none) (ty : TypeId) (x y : Operand) (ho : o.op = .store ty x y) (hx : a.eval x = .pointer (some ⟨b, 0, none⟩)) (vs : List Value) (hy : a.eval y = .agg vs.toArray) (hc : IsS w b t cs)
    (hk : vs.length = cs.length) (hf : (Tryd.prog.info? ty).map (·.size) = some vs.length) (h1 : ∀ v ∈ vs, v.oneCell' = true) (h : ∀ W, Upd w W b → IsS W b t vs → K (a.put o.dst undef) W) : wpOp Tryd.prog ops Q i K a w := by
  unfold wpOp
  rw [hi]
  simp only [Region.wanted, hg, if_true]
  refine Or.inl ?_
  refine wp_store_mid ty x y ho b 0 vs.toArray hx hy (hc.there 0 _ (by simp [hk])) (by simpa using hf) (all_oneCell_toArray h1) ?_
  have h2 := h _ (Upd.setCells b vs 0 w) (by have := IsS.setL vs 0 cs w hc; rw [putL_all hk] at this; exact this)
  simpa using h2
theorem equalIn_fn (w : World) (d : Nat) (t : TypeId) (ps rs : Array TypeId) (v : Bool) (f : Fn) (ys : Array Value) (h : Tryd.prog.underlying t = some (.func ps rs v)) : (Op.equalIn (d + 1) t (.func f #[] ys) .nilFunc).run Tryd.prog w = .ok false w := by
  simp [Op.equalIn, run_underlying h]
theorem equal_fn (w : World) (t : TypeId) (ps rs : Array TypeId) (v : Bool) (f : Fn) (ys : Array Value) (h : Tryd.prog.underlying t = some (.func ps rs v)) : (Op.equal t (.func f #[] ys) .nilFunc).run Tryd.prog w = .ok false w := equalIn_fn w 9999 t ps rs v f ys h
theorem neq_fn (w : World) (t : TypeId) (ps rs : Array TypeId) (v : Bool) (f : Fn) (ys : Array Value) (h : Tryd.prog.underlying t = some (.func ps rs v)) : (binOp .neq t (.func f #[] ys) .nilFunc).run Tryd.prog w = .ok (.bool true) w := by
  simp [binOp, equal_fn w t ps rs v f ys h]
theorem equalIn_nil (w : World) (d : Nat) (t : TypeId) (ps rs : Array TypeId) (v : Bool) (h : Tryd.prog.underlying t = some (.func ps rs v)) : (Op.equalIn (d + 1) t .nilFunc .nilFunc).run Tryd.prog w = .ok true w := by
  simp [Op.equalIn, run_underlying h]
theorem equal_nil (w : World) (t : TypeId) (ps rs : Array TypeId) (v : Bool) (h : Tryd.prog.underlying t = some (.func ps rs v)) : (Op.equal t .nilFunc .nilFunc).run Tryd.prog w = .ok true w := equalIn_nil w 9999 t ps rs v h
theorem neq_nil (w : World) (t : TypeId) (ps rs : Array TypeId) (v : Bool) (h : Tryd.prog.underlying t = some (.func ps rs v)) : (binOp .neq t .nilFunc .nilFunc).run Tryd.prog w = .ok (.bool false) w := by
  simp [binOp, equal_nil w t ps rs v h]
theorem five4 {v0 v1 v2 v3 : Value} {W : World} {b t : Nat} (h : IsS W b t [v0, v1, v2, v3]) : W.cell? ⟨b, 0, none⟩ = some v0 ∧ W.cell? ⟨b, 1, none⟩ = some v1 ∧ W.cell? ⟨b, 2, none⟩ = some v2 ∧ W.cell? ⟨b, 3, none⟩ = some v3 := ⟨h.cell 0, h.cell 1, h.cell 2, h.cell 3⟩
theorem own_same {w W : World} {B t s n : Nat} {v : Value} {xs : List Value} (h : w.ownsRow B t s v n xs) (hb : ∀ k, v.ownBlock = some k → W.heap[k]? = w.heap[k]?) : W.ownsRow B t s v n xs := by
  refine ⟨h.1, ?_⟩
  rcases h.2 with hn | ⟨g, cap, cur, rfl, hg, hh, rest⟩
  · exact Or.inl hn
  · exact Or.inr ⟨g, cap, cur, rfl, hg, (hb g rfl).trans hh, rest⟩
theorem own_lt {w : World} {B t s n k : Nat} {v : Value} {xs : List Value} (h : w.ownsRow B t s v n xs) (hk : v.ownBlock = some k) : B ≤ k ∧ k < w.heap.size := h.lt k hk
theorem eql_fn (w : World) (t : TypeId) (ps rs : Array TypeId) (v : Bool) (f : Fn) (ys : Array Value) (h : Tryd.prog.underlying t = some (.func ps rs v)) : (binOp .eql t (.func f #[] ys) .nilFunc).run Tryd.prog w = .ok (.bool false) w := by
  simp [binOp, equal_fn w t ps rs v f ys h]
theorem eql_nil (w : World) (t : TypeId) (ps rs : Array TypeId) (v : Bool) (h : Tryd.prog.underlying t = some (.func ps rs v)) : (binOp .eql t .nilFunc .nilFunc).run Tryd.prog w = .ok (.bool true) w := by
  simp [binOp, equal_nil w t ps rs v h]
def padI (vs : List Int) : List Int := vs ++ List.replicate (48 - vs.length) 0
def finL (vs : List Int) : List Value := .int .i64 (vs.length : Int) :: (padI vs).map (.int .i64)
theorem padI_len {vs : List Int} (h : vs.length ≤ 48) : (padI vs).length = 48 := by unfold padI; rw [List.length_append, List.length_replicate]; omega
theorem finL_len {vs : List Int} (h : vs.length ≤ 48) : (finL vs).length = 49 := by unfold finL; rw [List.length_cons, List.length_map, padI_len h]
theorem finL_one (vs : List Int) : ∀ v ∈ finL vs, v.oneCell' = true := fun v hv => by
  unfold finL at hv
  rcases List.mem_cons.1 hv with rfl | hv
  · rfl
  · obtain ⟨i, _, rfl⟩ := List.mem_map.1 hv; rfl
end Go.Proofs.YtopnbemodlcknaaDoor
/- Cycles of edges in plain mathematics. -/
namespace Go.Proofs.YtopnbemodlcknaaDoor
open Go Go.RowKit M
set_option linter.unusedSimpArgs false
set_option linter.unusedVariables false

/-- The edges: names, and what there is to say of them. -/
def NMS : List ByteArray := [⟨#[82, 102, 101]⟩, ⟨#[82, 102, 105]⟩, ⟨#[70, 114, 101]⟩, ⟨#[70, 114, 105]⟩, ⟨#[67, 111, 101]⟩, ⟨#[67, 111, 105]⟩, ⟨#[80, 111, 100, 82, 82]⟩, ⟨#[80, 111, 100, 82, 87]⟩, ⟨#[80, 111, 100, 87, 82]⟩, ⟨#[80, 111, 100, 87, 87]⟩, ⟨#[80, 111, 115, 82, 82]⟩, ⟨#[80, 111, 115, 82, 87]⟩, ⟨#[80, 111, 115, 87, 82]⟩, ⟨#[80, 111, 115, 87, 87]⟩, ⟨#[77, 70, 101, 110, 99, 101, 100, 82, 82]⟩, ⟨#[77, 70, 101, 110, 99, 101, 100, 82, 87]⟩, ⟨#[77, 70, 101, 110, 99, 101, 100, 87, 82]⟩, ⟨#[77, 70, 101, 110, 99, 101, 100, 87, 87]⟩]
def EDG : List (Int × Int × Int × Bool) := [(0, 0, 1, true), (0, 0, 1, false), (1, 1, 0, true), (1, 1, 0, false), (2, 0, 0, true), (2, 0, 0, false), (3, 1, 1, false), (3, 1, 0, false), (3, 0, 1, false), (3, 0, 0, false), (4, 1, 1, false), (4, 1, 0, false), (4, 0, 1, false), (4, 0, 0, false), (5, 1, 1, false), (5, 1, 0, false), (5, 0, 1, false), (5, 0, 0, false)]
def edC (s : ByteArray) (e : Int × Int × Int × Bool) : List Value := [.string s, .int .i64 e.1, .int .i64 e.2.1, .int .i64 e.2.2.1, .bool e.2.2.2]
def EDL : List Value := (NMS.zip EDG).flatMap fun p => edC p.1 p.2
def knd (e : Nat) : Int := (EDG.getD e (0, 0, 0, false)).1
def frF (e : Nat) : Int := (EDG.getD e (0, 0, 0, false)).2.1
def toF (e : Nat) : Int := (EDG.getD e (0, 0, 0, false)).2.2.1
def outF (e : Nat) : Bool := (EDG.getD e (0, 0, 0, false)).2.2.2
def awF (e : Nat) : Bool := knd e == 3 || knd e == 5
def nmF (e : Nat) : ByteArray := NMS.getD e ⟨#[]⟩
def idxF (s : ByteArray) : List ByteArray → Nat
  | [] => 0
  | x :: xs => if x = s then 0 else idxF s xs + 1
def nuF (s : ByteArray) : Nat := idxF s NMS
theorem idx_le (s : ByteArray) : ∀ l, idxF s l ≤ l.length
  | [] => Nat.le_refl _
  | x :: xs => by
    unfold idxF
    by_cases h : x = s
    · rw [if_pos h]; exact Nat.zero_le _
    · rw [if_neg h]; exact Nat.succ_le_succ (idx_le s xs)
theorem nu_le (s : ByteArray) : nuF s ≤ 18 := idx_le s NMS
theorem idx_hit (s : ByteArray) : ∀ (l : List ByteArray) (k : Nat), k ≤ idxF s l → l[k]? = some s → idxF s l = k
  | [], k, _, h => by simp at h
  | x :: xs, 0, _, h => by
    simp at h; unfold idxF; rw [if_pos h]
  | x :: xs, k + 1, h1, h => by
    unfold idxF at *
    by_cases e : x = s
    · rw [if_pos e] at h1; omega
    · rw [if_neg e] at *
      rw [idx_hit s xs k (by omega) (by simpa using h)]
theorem idx_miss (s : ByteArray) : ∀ (l : List ByteArray) (k : Nat) (x : ByteArray), k ≤ idxF s l → l[k]? = some x → x ≠ s → k + 1 ≤ idxF s l
  | [], k, _, _, h, _ => by simp at h
  | x :: xs, 0, y, _, h, hn => by
    simp at h; subst h; unfold idxF; rw [if_neg hn]; omega
  | x :: xs, k + 1, y, h1, h, hn => by
    unfold idxF at *
    by_cases e : x = s
    · rw [if_pos e] at h1; omega
    · rw [if_neg e] at *
      have := idx_miss s xs k y (by omega) (by simpa using h) hn
      omega
theorem idx_at (s : ByteArray) : ∀ (l : List ByteArray), idxF s l < l.length → l[idxF s l]? = some s
  | [], h => by simp [idxF] at h
  | x :: xs, h => by
    unfold idxF at *
    by_cases e : x = s
    · rw [if_pos e] at *; simp [e]
    · rw [if_neg e] at *
      have := idx_at s xs (by simpa using h)
      simpa using this
theorem nm_nu {s : ByteArray} (h : nuF s < 18) : nmF (nuF s) = s := by
  have h1 := idx_at s NMS h
  unfold nmF
  rw [List.getD_eq_getElem?_getD]
  show ((NMS[nuF s]?).getD _) = s
  rw [show NMS[nuF s]? = some s from h1]; rfl
theorem nu_nm : ∀ e : Nat, e < 18 → nuF (nmF e) = e := by decide +kernel
theorem nms_at {k : Nat} (h : k < 18) : NMS[k]? = some (nmF k) := by
  unfold nmF
  rw [List.getD_eq_getElem?_getD, List.getElem?_eq_getElem (show k < NMS.length from h)]; rfl
theorem nu_hit {s : ByteArray} {k : Nat} (h : k ≤ nuF s) (hk : k < 18) (e : nmF k = s) : nuF s = k := idx_hit s NMS k h (by rw [nms_at hk, e])
theorem nu_miss {s : ByteArray} {k : Nat} (h : k ≤ nuF s) (hk : k < 18) (e : nmF k ≠ s) : k + 1 ≤ nuF s := idx_miss s NMS k _ h (nms_at hk) e
theorem out_is : ∀ e : Nat, e < 18 → outF e = decide (e = 0 ∨ e = 2 ∨ e = 4) := by decide +kernel
theorem aw_is : ∀ e : Nat, e < 18 → awF e = decide ((6 ≤ e ∧ e < 10) ∨ 14 ≤ e) := by decide +kernel
def byF (v : Int) : Int := if v = 0 then 87 else 82
theorem fr_01 : ∀ e : Nat, e < 18 → frF e = 0 ∨ frF e = 1 := by decide +kernel
theorem to_01 : ∀ e : Nat, e < 18 → toF e = 0 ∨ toF e = 1 := by decide +kernel
theorem by_eq {a b : Int} (ha : a = 0 ∨ a = 1) (hb : b = 0 ∨ b = 1) : byF a = byF b ↔ a = b := by
  rcases ha with rfl | rfl <;> rcases hb with rfl | rfl <;> decide
/-- The first of some numbers that is as is asked. -/
def fst' (p : Nat → Bool) : Nat → Nat → Nat
  | 0, k => k
  | n + 1, k => if p k then k else fst' p n (k + 1)
theorem fst_le (p : Nat → Bool) : ∀ n k, fst' p n k ≤ k + n ∧ k ≤ fst' p n k
  | 0, k => ⟨Nat.le_refl _, Nat.le_refl _⟩
  | n + 1, k => by
    unfold fst'
    have := fst_le p n (k + 1)
    by_cases h : p k = true
    · rw [if_pos h]; omega
    · rw [if_neg h]; omega
def FstAt (p : Nat → Bool) (n k : Nat) : Prop := k ≤ n ∧ fst' p n 0 = fst' p (n - k) k
theorem FstAt.zero (p : Nat → Bool) (n : Nat) : FstAt p n 0 := ⟨Nat.zero_le _, rfl⟩
theorem FstAt.hit {p : Nat → Bool} {n k : Nat} (h : FstAt p n k) (hk : k < n) (e : p k = true) : fst' p n 0 = k := by
  rw [h.2, show n - k = (n - k - 1) + 1 by omega]; unfold fst'; rw [if_pos e]
theorem FstAt.next {p : Nat → Bool} {n k : Nat} (h : FstAt p n k) (hk : k < n) (e : p k = false) : FstAt p n (k + 1) := by
  refine ⟨hk, ?_⟩
  rw [h.2, show n - k = (n - (k + 1)) + 1 by omega]
  conv => lhs; unfold fst'
  rw [if_neg (by simp [e])]
theorem FstAt.done {p : Nat → Bool} {n k : Nat} (h : FstAt p n k) (hk : n ≤ k) : fst' p n 0 = n := by
  have := h.1
  rw [h.2, show k = n by omega, Nat.sub_self]; rfl
theorem fst_all {p : Nat → Bool} : ∀ (n k : Nat), fst' p n k = k + n → ∀ j, k ≤ j → j < k + n → p j = false
  | 0, k, _, j, h1, h2 => by omega
  | n + 1, k, h, j, h1, h2 => by
    unfold fst' at h
    by_cases e : p k = true
    · rw [if_pos e] at h; omega
    · rw [if_neg e] at h
      by_cases hj : j = k
      · subst hj; simpa using e
      · exact fst_all n (k + 1) (by omega) j (by omega) (by omega)
def prv (n i : Nat) : Nat := (i + n - 1) % n
theorem prv_lt {n i : Nat} (h : 0 < n) : prv n i < n := Nat.mod_lt _ h
def okB (ns : List Nat) (i : Nat) : Bool := toF (ns.getD (prv ns.length i) 0) == frF (ns.getD i 0)
def badP (L : List ByteArray) (i : Nat) : Bool := nuF (L.getD i ⟨#[]⟩) == 18
def badN (L : List ByteArray) : Nat := fst' (badP L) L.length 0
def misN (ns : List Nat) : Nat := fst' (fun i => !okB ns i) ns.length 0
def cntF (f : Nat → Bool) : List Nat → Nat
  | [] => 0
  | x :: xs => (if f x then 1 else 0) + cntF f xs
theorem cnt_snoc (f : Nat → Bool) (x : Nat) : ∀ l, cntF f (l ++ [x]) = cntF f l + if f x then 1 else 0
  | [] => by simp [cntF]
  | y :: l => by rw [List.cons_append]; unfold cntF; rw [cnt_snoc f x l]; omega
theorem cnt_le (f : Nat → Bool) : ∀ l, cntF f l ≤ l.length
  | [] => Nat.le_refl _
  | y :: l => by unfold cntF; have := cnt_le f l; rw [List.length_cons]; by_cases h : f y = true <;> simp [h] <;> omega
/-- The place and the error. -/
def chk (L : List ByteArray) : Nat × Int :=
  if 16 < L.length then (0, 1) else if badN L < L.length then (badN L, 260)
  else if misN (L.map nuF) < L.length then (misN (L.map nuF), 260)
  else if L.length < 2 ∨ cntF outF (L.map nuF) < 2 ∨ cntF awF (L.map nuF) < 2 then (0, 260) else (0, 0)
theorem chk_long {L : List ByteArray} (h : 16 < L.length) : chk L = (0, 1) := if_pos h
theorem chk_bad {L : List ByteArray} (h : L.length ≤ 16) (h2 : badN L < L.length) : chk L = (badN L, 260) := by unfold chk; rw [if_neg (by omega), if_pos h2]
theorem chk_mis {L : List ByteArray} (h : L.length ≤ 16) (h2 : badN L = L.length) (h3 : misN (L.map nuF) < L.length) : chk L = (misN (L.map nuF), 260) := by unfold chk; rw [if_neg (by omega), if_neg (by omega), if_pos h3]
theorem chk_few {L : List ByteArray} (h : L.length ≤ 16) (h2 : badN L = L.length) (h3 : misN (L.map nuF) = L.length) (h4 : L.length < 2 ∨ cntF outF (L.map nuF) < 2 ∨ cntF awF (L.map nuF) < 2) : chk L = (0, 260) := by unfold chk; rw [if_neg (by omega), if_neg (by omega), if_neg (by omega), if_pos h4]
theorem chk_ok {L : List ByteArray} (h : L.length ≤ 16) (h2 : badN L = L.length) (h3 : misN (L.map nuF) = L.length) (h4 : ¬ (L.length < 2 ∨ cntF outF (L.map nuF) < 2 ∨ cntF awF (L.map nuF) < 2)) : chk L = (0, 0) := by unfold chk; rw [if_neg (by omega), if_neg (by omega), if_neg (by omega), if_neg h4]
theorem all_good {L : List ByteArray} (h : badN L = L.length) : ∀ s ∈ L, nuF s < 18 := fun s hs => by
  obtain ⟨i, hi, rfl⟩ := List.getElem_of_mem hs
  have h1 := fst_all (p := badP L) L.length 0 (by rw [Nat.zero_add]; exact h) i (Nat.zero_le _) (by omega)
  have h2 := nu_le L[i]
  simp [badP, hi] at h1
  omega
theorem chk_zero {L : List ByteArray} (h : (chk L).2 = 0) : L.length ≤ 16 ∧ 2 ≤ L.length ∧ (∀ s ∈ L, nuF s < 18) := by
  unfold chk at h
  by_cases h1 : 16 < L.length
  · rw [if_pos h1] at h; simp at h
  · rw [if_neg h1] at h
    have hb : badN L ≤ L.length := by have := (fst_le (badP L) L.length 0).1; unfold badN; omega
    by_cases h2 : badN L < L.length
    · rw [if_pos h2] at h; simp at h
    · rw [if_neg h2] at h
      by_cases h3 : misN (L.map nuF) < L.length
      · rw [if_pos h3] at h; simp at h
      · rw [if_neg h3] at h
        by_cases h4 : L.length < 2 ∨ cntF outF (L.map nuF) < 2 ∨ cntF awF (L.map nuF) < 2
        · rw [if_pos h4] at h; simp at h
        · exact ⟨by omega, by omega, all_good (by omega)⟩
/-- The canonical form. -/
def turnN {α : Type} (l : List α) (k : Nat) : List α := l.drop k ++ l.take k
theorem turn_len {α : Type} (l : List α) (k : Nat) : (turnN l k).length = l.length := by
  unfold turnN; rw [List.length_append, List.length_drop, List.length_take]; omega
theorem turn_map {α β : Type} (f : α → β) (l : List α) (k : Nat) : (turnN l k).map f = turnN (l.map f) k := by
  unfold turnN; rw [List.map_append, List.map_drop, List.map_take]
theorem turn_mem {α : Type} {l : List α} {k : Nat} {x : α} (h : x ∈ turnN l k) : x ∈ l := by
  rcases List.mem_append.1 h with h | h
  · exact List.mem_of_mem_drop h
  · exact List.mem_of_mem_take h
theorem turn_last {α : Type} {l : List α} {k : Nat} (hk : k < l.length) (d : α) : (turnN l k).getD (l.length - 1) d = l.getD (prv l.length k) d := by
  unfold turnN prv
  rw [List.getD_eq_getElem?_getD, List.getD_eq_getElem?_getD]
  cases k with
  | zero => rw [List.drop_zero, List.take_zero, List.append_nil, Nat.zero_add, Nat.mod_eq_of_lt (by omega)]
  | succ k =>
    rw [List.getElem?_append_right (by rw [List.length_drop]; omega), List.length_drop, List.getElem?_take, if_pos (by omega),
      show k + 1 + l.length - 1 = k + l.length by omega, Nat.add_mod_right, Nat.mod_eq_of_lt (by omega)]
    congr 2; omega
def lexF : List Nat → List Nat → Bool
  | x :: a, y :: b => if x = y then lexF a b else decide (x < y)
  | _, _ => false
def LexAt (a b : List Nat) (k : Nat) : Prop := lexF a b = lexF (a.drop k) (b.drop k)
theorem LexAt.zero (a b : List Nat) : LexAt a b 0 := by unfold LexAt; rw [List.drop_zero, List.drop_zero]
theorem LexAt.both {a b : List Nat} {k x y : Nat} (h : LexAt a b k) (hx : a[k]? = some x) (hy : b[k]? = some y) : lexF a b = if x = y then lexF (a.drop (k + 1)) (b.drop (k + 1)) else decide (x < y) := by
  unfold LexAt at h
  obtain ⟨h1, rfl⟩ := List.getElem?_eq_some_iff.1 hx
  obtain ⟨h2, rfl⟩ := List.getElem?_eq_some_iff.1 hy
  rw [h, List.drop_eq_getElem_cons h1, List.drop_eq_getElem_cons h2]; rfl
theorem LexAt.next {a b : List Nat} {k x : Nat} (h : LexAt a b k) (hx : a[k]? = some x) (hy : b[k]? = some x) : LexAt a b (k + 1) := by
  unfold LexAt; rw [h.both hx hy, if_pos rfl]
theorem LexAt.ne {a b : List Nat} {k x y : Nat} (h : LexAt a b k) (hx : a[k]? = some x) (hy : b[k]? = some y) (hn : x ≠ y) : lexF a b = decide (x < y) := by rw [h.both hx hy, if_neg hn]
theorem LexAt.done {a b : List Nat} {k : Nat} (h : LexAt a b k) (hk : a.length ≤ k) : lexF a b = false := by
  unfold LexAt at h; rw [h, List.drop_eq_nil_of_le hk]; cases b.drop k <;> rfl
def stp (ns : List Nat) (o : Option (List Nat)) (k : Nat) : Option (List Nat) :=
  if outF (ns.getD (prv ns.length k) 0) = true then (match o with | none => some (turnN ns k) | some b => if lexF (turnN ns k) b = true then some (turnN ns k) else some b) else o
def bst (ns : List Nat) : Nat → Option (List Nat)
  | 0 => none
  | k + 1 => stp ns (bst ns k) k
theorem bst_no {ns : List Nat} {k : Nat} (h : outF (ns.getD (prv ns.length k) 0) = false) : bst ns (k + 1) = bst ns k := by
  show stp ns (bst ns k) k = _; unfold stp; rw [h]; exact if_neg (by simp)
theorem bst_first {ns : List Nat} {k : Nat} (h : outF (ns.getD (prv ns.length k) 0) = true) (e : bst ns k = none) : bst ns (k + 1) = some (turnN ns k) := by
  show stp ns (bst ns k) k = _; unfold stp; rw [if_pos h, e]
theorem bst_less {ns b : List Nat} {k : Nat} (h : outF (ns.getD (prv ns.length k) 0) = true) (e : bst ns k = some b) (hl : lexF (turnN ns k) b = true) : bst ns (k + 1) = some (turnN ns k) := by
  show stp ns (bst ns k) k = _; unfold stp; rw [if_pos h, e]; exact if_pos hl
theorem bst_keep {ns b : List Nat} {k : Nat} (h : outF (ns.getD (prv ns.length k) 0) = true) (e : bst ns k = some b) (hl : lexF (turnN ns k) b = false) : bst ns (k + 1) = some b := by
  show stp ns (bst ns k) k = _; unfold stp; rw [if_pos h, e]; exact if_neg (by simp [hl])
theorem bst_in {ns : List Nat} : ∀ (k : Nat) (b : List Nat), bst ns k = some b → b.length = ns.length ∧ ∀ x ∈ b, x ∈ ns
  | 0, b, h => by simp [bst] at h
  | k + 1, b, h => by
    have ih := bst_in (ns := ns) k
    have ht : (turnN ns k).length = ns.length ∧ ∀ x ∈ turnN ns k, x ∈ ns := ⟨turn_len _ _, fun x hx => turn_mem hx⟩
    change stp ns (bst ns k) k = _ at h
    unfold stp at h
    by_cases h1 : outF (ns.getD (prv ns.length k) 0) = true
    · rw [if_pos h1] at h
      cases e : bst ns k with
      | none => rw [e] at h; simp at h; subst h; exact ht
      | some b' =>
        rw [e] at h
        change (if lexF (turnN ns k) b' = true then some (turnN ns k) else some b') = some b at h
        by_cases h2 : lexF (turnN ns k) b' = true
        · rw [if_pos h2] at h; obtain rfl := Option.some.inj h; exact ht
        · rw [if_neg h2] at h; obtain rfl := Option.some.inj h; exact ih _ e
    · rw [if_neg h1] at h; exact ih _ h
/-- What Canon answers. -/
def canN (L : List ByteArray) : List Nat := (bst (L.map nuF) L.length).getD []
def canS (L : List ByteArray) : List ByteArray := if (chk L).2 = 0 then (canN L).map nmF else []
theorem map_back {L : List ByteArray} (h : ∀ s ∈ L, nuF s < 18) : (L.map nuF).map nmF = L := by
  rw [List.map_map]
  conv => rhs; rw [← List.map_id L]
  exact List.map_congr_left fun s hs => nm_nu (h s hs)
def natE (n : Nat) : List Value := [.int .i64 (n : Int)]
theorem nat_at {ss : List Nat} {j s : Nat} (h : ss[j]? = some s) : (ss.flatMap natE)[j]? = some (.int .i64 (s : Int)) := by
  rw [show ss.flatMap natE = ss.map (fun n : Nat => Value.int .i64 (n : Int)) from flat1 _ ss, List.getElem?_map, h]; rfl
theorem nat_int (l : List Nat) : l.flatMap natE = (l.map fun n : Nat => (n : Int)).flatMap intE := by
  rw [show l.flatMap natE = l.map (fun n : Nat => Value.int .i64 (n : Int)) from flat1 _ l, show (l.map fun n : Nat => (n : Int)).flatMap intE = (l.map fun n : Nat => (n : Int)).map (Value.int .i64) from flat1 _ _, List.map_map]; rfl
end Go.Proofs.YtopnbemodlcknaaDoor
/- The table of edges in memory; the program's small functions. -/
namespace Go.Proofs.YtopnbemodlcknaaDoor
open Go Go.RowKit M
set_option linter.unusedSimpArgs false
set_option linter.unusedVariables false

def EdAt (w : World) : Prop := w.rangeAt 1 0 EDL ∧ 1 < w.heap.size
def NmAt (w : World) : Prop := w.rangeAt 0 0 (NMS.map Value.string) ∧ 0 < w.heap.size
theorem EdAt.below {w W : World} (h : EdAt w) (hB : Below w.heap.size w W) : EdAt W := ⟨fun j v hv => (hB.cell (p := ⟨1, 0 + j, none⟩) h.2).trans (h.1 j v hv), Nat.lt_of_lt_of_le h.2 hB.size⟩
theorem NmAt.below {w W : World} (h : NmAt w) (hB : Below w.heap.size w W) : NmAt W := ⟨fun j v hv => (hB.cell (p := ⟨0, 0 + j, none⟩) h.2).trans (h.1 j v hv), Nat.lt_of_lt_of_le h.2 hB.size⟩
def edL (k : Nat) : List Value := [.string (nmF k), .int .i64 (knd k), .int .i64 (frF k), .int .i64 (toF k), .bool (outF k)]
theorem lt18 {k : Nat} (h : k < 18) : k = 0 ∨ k = 1 ∨ k = 2 ∨ k = 3 ∨ k = 4 ∨ k = 5 ∨ k = 6 ∨ k = 7 ∨ k = 8 ∨ k = 9 ∨ k = 10 ∨ k = 11 ∨ k = 12 ∨ k = 13 ∨ k = 14 ∨ k = 15 ∨ k = 16 ∨ k = 17 := by omega
theorem ed_at {k : Nat} (h : k < 18) : EDL[k * 5]? = some (.string (nmF k)) ∧ EDL[k * 5 + 1]? = some (.int .i64 (knd k)) ∧ EDL[k * 5 + 2]? = some (.int .i64 (frF k)) ∧ EDL[k * 5 + 3]? = some (.int .i64 (toF k)) ∧ EDL[k * 5 + 4]? = some (.bool (outF k)) := by
  rcases lt18 h with rfl | rfl | rfl | rfl | rfl | rfl | rfl | rfl | rfl | rfl | rfl | rfl | rfl | rfl | rfl | rfl | rfl | rfl <;> exact ⟨rfl, rfl, rfl, rfl, rfl⟩
theorem EdAt.cells {w : World} (h : EdAt w) {k : Nat} (hk : k < 18) : w.cell? ⟨1, k * 5, none⟩ = some (.string (nmF k)) ∧ w.cell? ⟨1, k * 5 + 1, none⟩ = some (.int .i64 (knd k)) ∧ w.cell? ⟨1, k * 5 + 2, none⟩ = some (.int .i64 (frF k)) ∧ w.cell? ⟨1, k * 5 + 3, none⟩ = some (.int .i64 (toF k)) ∧ w.cell? ⟨1, k * 5 + 4, none⟩ = some (.bool (outF k)) := by
  obtain ⟨h0, h1, h2, h3, h4⟩ := ed_at hk
  have e : ∀ j v, EDL[j]? = some v → w.cell? ⟨1, j, none⟩ = some v := fun j v hv => by have := h.1 j v hv; rwa [Nat.zero_add] at this
  exact ⟨e _ _ h0, e _ _ h1, e _ _ h2, e _ _ h3, e _ _ h4⟩
theorem NmAt.cell {w : World} (h : NmAt w) {k : Nat} (hk : k < 18) : w.cell? ⟨0, k, none⟩ = some (.string (nmF k)) := by
  have := h.1 k (.string (nmF k)) (by rw [List.getElem?_map, nms_at hk]; rfl)
  rwa [Nat.zero_add] at this
theorem idx_edge {k : Nat} (h : k < 18) (W : World) : (Instr.index 39 (.agg EDL.toArray) (.int .i64 (k : Int))).run Tryd.prog W = .ok (.agg (edL k).toArray) W := by
  rcases lt18 h with rfl | rfl | rfl | rfl | rfl | rfl | rfl | rfl | rfl | rfl | rfl | rfl | rfl | rfl | rfl | rfl | rfl | rfl <;> kernel_rfl
theorem edl_len : EDL.length = 90 := rfl
theorem infoEdges : (Tryd.prog.info? 39).map (·.size) = some 90 := by kernel_rfl
theorem infoEdge : (Tryd.prog.info? 38).map (·.size) = some 5 := by kernel_rfl
theorem zeroEdge (w : World) : (zeroValue 38).run Tryd.prog w = .ok (.agg [.string ⟨#[]⟩, .int .i64 0, .int .i64 0, .int .i64 0, .bool false].toArray) w := by
  have h : Tryd.t38.zero = some (.agg [.string ⟨#[]⟩, .int .i64 0, .int .i64 0, .int .i64 0, .bool false].toArray) := by kernel_rfl
  simp [go_sem, zeroValue, h]
theorem ed_one (k : Nat) : ∀ v ∈ edL k, v.oneCell' = true := fun v hv => by
  simp [edL] at hv; rcases hv with rfl | rfl | rfl | rfl | rfl <;> rfl

end Go.Proofs.YtopnbemodlcknaaDoor
/- numberOf of the program, Number of the reference. -/
namespace Go.Proofs.YtopnbemodlcknaaDoor
open Go Go.RowKit M
set_option linter.unusedSimpArgs false
set_option linter.unusedVariables false

theorem str_eq {s x : ByteArray} (h : x = s) : (x.toList == s.toList) = true := by rw [h]; simp
theorem str_ne {s x : ByteArray} (h : x ≠ s) : (x.toList == s.toList) = false := by
  rw [Bool.eq_false_iff]; intro e; refine h ?_
  have e := eq_of_beq e
  rw [toL, toL] at e
  cases x; cases s; simp at e; simpa using e
/-- What numberOf answers. -/
def noV (s : ByteArray) : Value := .tuple #[.int .i64 ((if nuF s < 18 then nuF s else 0 : Nat) : Int), .bool (decide (nuF s < 18))]
theorem noV_yes {s : ByteArray} {k : Nat} (h : nuF s = k) (hk : k < 18) : noV s = .tuple #[.int .i64 (k : Int), .bool true] := by unfold noV; rw [h, if_pos hk, decide_eq_true hk]
theorem noV_no {s : ByteArray} (h : nuF s = 18) : noV s = .tuple #[.int .i64 0, .bool false] := by unfold noV; rw [h]; rfl
set_option maxRecDepth 100000 in
set_option maxHeartbeats 2000000 in
theorem numberOf_any (s : ByteArray) (w : World) (hE : EdAt w) : Calls Tryd.prog 11 #[.string s] w fun e w' => e = .returned (noV s) ∧ Below w.heap.size w w' := by
  have HE : Hid (EdAt w) := hE
  have hr := hE.1
  clear hE
  go_enter Tryd.func11, Tryd.ntmps11
  have ta : True := trivial
  go_wp2_with (first
    | (clear ta; refine wpList_load_mid rfl _ _ rfl 1 0 rfl EDL _ hr Tryd.underlying39 rfl infoEdges ?_))
  clear hr
  go_loopw [7] (fun i wr => ∃ k : Nat, k ≤ 18 ∧ i = .int .i64 (k : Int) ∧ Hid (Below w.heap.size w wr) ∧ Hid (k ≤ nuF s)) (fun i _ => 18 - (intOf i).toNat)
  case atStart => exact ⟨0, Nat.zero_le _, rfl, Below.refl _ _, Nat.zero_le _⟩
  case round =>
    obtain ⟨k, hk, rfl, HB, HK⟩ := hrel
    by_cases hlt : k < 18
    · have hki : (k : Int) < 18 := by omega
      have hix := fun W => idx_edge hlt W
      have HR : Hid (EdAt wr) := HE.out.below HB.out
      by_cases hq : nmF k = s
      · have hb := str_eq hq
        have HV : Hid (noV s = .tuple #[.int .i64 (k : Int), .bool true]) := noV_yes (nu_hit HK.out hlt hq) hlt
        have tb : True := trivial
        have tc : True := trivial
        go_wp2_with (first
          | (clear tb; refine wpList_allocS rfl _ rfl _ zeroEdge ?_; intro W1 b F1 I1)
          | (clear tc; refine wpList_storeW rfl _ _ _ rfl rfl (edL k) rfl I1 rfl infoEdge (ed_one k) ?_; intro W2 U2 I2)
          | (refine wpList_loadO rfl _ _ rfl rfl I2 (v := .string (nmF k)) rfl (fun w h => ld9 w h) ?_))
        exact bodyPost_ret (v := .tuple #[.int .i64 (k : Int), .bool true]) (by simp [results, Tryd.results11, go_sem]) rfl ⟨congrArg Ending.returned HV.out.symm, U2.trans (F1.trans HB.out HB.out.size) (by rw [F1.at']; exact HB.out.size)⟩
      · have hb := str_ne hq
        have HK2 : Hid (k + 1 ≤ nuF s) := nu_miss HK.out hlt hq
        have tb : True := trivial
        have tc : True := trivial
        go_wp2_with (first
          | (clear tb; refine wpList_allocS rfl _ rfl _ zeroEdge ?_; intro W1 b F1 I1)
          | (clear tc; refine wpList_storeW rfl _ _ _ rfl rfl (edL k) rfl I1 rfl infoEdge (ed_one k) ?_; intro W2 U2 I2)
          | (refine wpList_loadO rfl _ _ rfl rfl I2 (v := .string (nmF k)) rfl (fun w h => ld9 w h) ?_))
        go_roundw
        case rel => exact ⟨k + 1, by omega, by go_num, U2.trans (F1.trans HB.out HB.out.size) (by rw [F1.at']; exact HB.out.size), HK2⟩
        case measure => simp [intOf]; omega
    · have e : k = 18 := by omega
      subst e
      have HV : Hid (noV s = .tuple #[.int .i64 0, .bool false]) := noV_no (Nat.le_antisymm (nu_le s) HK.out)
      go_wp2
      exact bodyPost_ret (v := .tuple #[.int .i64 0, .bool false]) (by simp [results, Tryd.results11, go_sem]) rfl ⟨congrArg Ending.returned HV.out.symm, HB.out⟩
/-- What Number answers. -/
def nuI (s : ByteArray) : Int := if nuF s < 18 then (nuF s : Int) else -1
theorem nuI_yes {s : ByteArray} {k : Nat} (h : nuF s = k) (hk : k < 18) : nuI s = (k : Int) := by unfold nuI; rw [h, if_pos hk]
theorem nuI_no {s : ByteArray} (h : nuF s = 18) : nuI s = -1 := by unfold nuI; rw [h]; rfl
set_option maxRecDepth 100000 in
set_option maxHeartbeats 2000000 in
theorem number_any (s : ByteArray) (w : World) (hN : NmAt w) : Calls Tryd.prog 13 #[.string s] w fun e w' => e = .returned (.int .i64 (nuI s)) ∧ w' = w := by
  have HN : Hid (NmAt w) := hN
  clear hN
  go_enter Tryd.func13, Tryd.ntmps13
  go_wp2
  go_loop [3] (fun i => ∃ k : Nat, k ≤ 18 ∧ i = .int .i64 (k : Int) ∧ Hid (k ≤ nuF s)) (fun i => 18 - (intOf i).toNat)
  case atStart => exact ⟨0, Nat.zero_le _, rfl, Nat.zero_le _⟩
  case round =>
    obtain ⟨k, hk, rfl, HK⟩ := hrel
    by_cases hlt : k < 18
    · have hki : (k : Int) < 18 := by omega
      have hc := HN.out.cell hlt
      by_cases hq : nmF k = s
      · have hb := str_eq hq
        have HV : Hid (nuI s = (k : Int)) := nuI_yes (nu_hit HK.out hlt hq) hlt
        clear hq
        go_wp2
        go_ret
        exact ⟨ret_int HV.out.symm, rfl⟩
      · have hb := str_ne hq
        have HK2 : Hid (k + 1 ≤ nuF s) := nu_miss HK.out hlt hq
        go_wp2
        go_round
        case rel => exact ⟨k + 1, by omega, by go_num, HK2⟩
        case measure => simp [intOf]; omega
    · have e : k = 18 := by omega
      subst e
      have HV : Hid (nuI s = -1) := nuI_no (Nat.le_antisymm (nu_le s) HK.out)
      go_wp2
      go_ret
      exact ⟨ret_int HV.out.symm, rfl⟩
end Go.Proofs.YtopnbemodlcknaaDoor
/- namesOf, numbersOf, count of the program. -/
namespace Go.Proofs.YtopnbemodlcknaaDoor
open Go Go.RowKit M
set_option linter.unusedSimpArgs false
set_option linter.unusedVariables false

theorem str_one1 (s : ByteArray) : ∀ v ∈ [Value.string s], v.oneCell' = true := by simp [Value.oneCell']
theorem int_one1 (s : Int) : ∀ v ∈ [Value.int .i64 s], v.oneCell' = true := by simp [Value.oneCell']
theorem str_snoc (l : List ByteArray) (s : ByteArray) : (l ++ [s]).flatMap strE = l.flatMap strE ++ [.string s] := by rw [List.flatMap_append, List.flatMap_singleton]; rfl
theorem nat_snoc (l : List Nat) (s : Nat) : (l ++ [s]).flatMap natE = l.flatMap natE ++ [.int .i64 (s : Int)] := by rw [List.flatMap_append, List.flatMap_singleton]; rfl
theorem own_is {W : World} {B b t n : Nat} {cs : List Value} (h : IsS W b t cs) (hb : B ≤ b) (hn : cs.length = n) (hm : n ≤ 4194304) : W.ownsRow B t 1 (.slice (some ⟨b, 0, none⟩) n n) n cs := by
  refine ⟨by omega, .inr ⟨b, n, cs.toArray, rfl, hb, h, Nat.le_refl _, by unfold maxLen; omega, by simp [hn], ?_⟩⟩
  rw [Nat.mul_one]
  have : cs.take n = cs := List.take_of_length_le (by omega)
  simpa using this
theorem made_one (z : Value) (n : Nat) : madeCells #[z] (n * 1) = (List.replicate n z).toArray := by
  apply Array.ext_getElem?
  intro t
  by_cases ht : t < n
  · have h1 : t < n * 1 := by omega
    simp [madeCells, ht, Nat.mod_one]
  · rw [Array.getElem?_eq_none (by simp [size_madeCells]; omega), Array.getElem?_eq_none (by simp; omega)]
section
variable {w : World} {ops : Array Oper} {rest : List Oper} {op : Oper} {a : Act} {Q : Exit → Act → World → Prop} {t T by' : Nat} {z : Value}
theorem exec_make1 (E : Elt t T 1 z by') (hz : z.cells = #[z]) (l c : Operand) (ho : op.op = .makeSlice T l c) (n : Nat) (hn : n ≤ 1048576) (hl : a.eval l = .int .i64 (n : Int)) (hc : a.eval c = .int .i64 (n : Int)) :
    (execOp a.eval op).run Tryd.prog w = .ok (.value (.slice (some ⟨w.heap.size, 0, none⟩) n n)) (w.alloc (.cells (List.replicate n z).toArray t)) := by
  obtain ⟨i0, hi, hz0, hz1, hz2⟩ := E.info
  have hfew := E.few
  have hb : (by' : Int) * (n : Int) ≤ 281474976710656 := by
    have h : by' * n ≤ 1024 * 1048576 := Nat.mul_le_mul hfew hn
    rw [← Int.natCast_mul]
    omega
  have hr := run_make (P := Tryd.prog) w T t i0 _ E.und hi hz0 .i64 .i64 n n (by omega) (by omega) (by rw [hz2]; exact hb) (by omega)
  unfold execOp
  simp only [ho, hl, hc, Sem.run_bind, hr, Result.andThen_ok, Sem.run_pure, hz1, Int.toNat_natCast, hz, made_one]
theorem wpList_make1 (E : Elt t T 1 z by') (hz : z.cells = #[z]) (hgd : op.guard = none) (l c : Operand) (ho : op.op = .makeSlice T l c) (n : Nat) (hn : n ≤ 1048576) (hl : a.eval l = .int .i64 (n : Int)) (hc : a.eval c = .int .i64 (n : Int))
    (h : ∀ W b, Fresh w W b → IsS W b t (List.replicate n z) → wpList Tryd.prog ops Q rest (a.put op.dst (.slice (some ⟨b, 0, none⟩) n n)) W) : wpList Tryd.prog ops Q (op :: rest) a w := by
  refine wpList_plain hgd fun K hK => ?_
  unfold Oper.wp
  rw [exec_make1 E hz l c ho n hn hl hc]
  exact hK _ _ (h _ _ (Fresh.alloc w _) (IsS.new w _ _))
end
theorem seg_cell {w : World} {a : Option Addr} {cs : List Value} (h : Seg w a cs) {j : Nat} {v : Value} (hv : cs[j]? = some v) : ∃ b o, a = some ⟨b, o, none⟩ ∧ b < w.heap.size ∧ w.cell? ⟨b, o + j, none⟩ = some v := h j v hv
/-- The names of the first so many. -/
def partS (ns : List Nat) (k n : Nat) : List Value := ((ns.take k).map nmF).flatMap strE ++ List.replicate (n - k) (.string ⟨#[]⟩)
theorem map_str (l : List Nat) : (l.map nmF).flatMap strE = l.map fun e => Value.string (nmF e) := by
  rw [show (l.map nmF).flatMap strE = (l.map nmF).map Value.string from flat1 _ _, List.map_map]; rfl
theorem partS_len {ns : List Nat} {k n : Nat} (h : ns.length = n) (hk : k ≤ n) : (partS ns k n).length = n := by
  unfold partS; rw [map_str, List.length_append, List.length_map, List.length_take, List.length_replicate]; omega
theorem partS_set {ns : List Nat} {k n e : Nat} (h : ns.length = n) (hk : k < n) (he : ns[k]? = some e) : (partS ns k n).set k (.string (nmF e)) = partS ns (k + 1) n := by
  unfold partS
  rw [map_str, map_str, take_at he, List.map_append]
  have hl : ((ns.take k).map fun e => Value.string (nmF e)).length = k := by rw [List.length_map, List.length_take]; omega
  generalize (ns.take k).map (fun e => Value.string (nmF e)) = X at *
  rw [show n - k = (n - (k + 1)) + 1 by omega, List.replicate_succ, List.append_assoc]
  subst hl
  exact (List.set_append_right _ _ (Nat.le_refl _)).trans (by rw [Nat.sub_self]; rfl)
theorem partS_all {ns : List Nat} {n : Nat} (h : ns.length = n) : partS ns n n = (ns.map nmF).flatMap strE := by
  unfold partS; rw [Nat.sub_self, List.take_of_length_le (by omega), List.replicate_zero, List.append_nil]
/-- What numbersOf answers. -/
def NumA (w : World) (L : List ByteArray) (e : Ending) (w' : World) : Prop :=
  ∃ v, e = .returned (.tuple #[v, .int .i64 (if badN L < L.length then (badN L : Int) else -1)]) ∧ (badN L < L.length → v = .slice none 0 0) ∧ (badN L = L.length → w'.ownsRow w.heap.size 3 1 v L.length ((L.map nuF).flatMap natE)) ∧ Below w.heap.size w w'
theorem bad_hit {s : ByteArray} {L : List ByteArray} {k : Nat} (hs : L[k]? = some s) (h : nuF s = 18) : badP L k = true := by
  unfold badP; rw [List.getD_eq_getElem?_getD, hs]; simp [h]
theorem bad_miss {s : ByteArray} {L : List ByteArray} {k : Nat} (hs : L[k]? = some s) (h : nuF s < 18) : badP L k = false := by
  unfold badP; rw [List.getD_eq_getElem?_getD, hs]; simp; omega
end Go.Proofs.YtopnbemodlcknaaDoor

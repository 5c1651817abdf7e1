/- Several texts in one: Z0, Z7, Z8, S1, G0. -/
import Derived.Deep.Quiet
import Derived.StillTailTactics
import Derived.Below
import Derived.Test.YtdjlfpkemdiadaaDoorQA
/- A region that draws its order, whose head is quiet in a class of worlds and whose tail comes in order: one walk in the text's order serves every order. -/
namespace Go.Proofs.YtdjlfpkemdiadaaDoor
open Go

section
variable {P : Program} {ops : Array Oper} {md : Region.Mode} {C : World → Prop}

/-- f operations of the head are still to come, in any order. -/
def headQ (P : Program) (md : Region.Mode) (ops : Array Oper) (C : World → Prop) (n : Nat) (L : Array Bool → Act → Prop) : Nat → Array Bool → Act → Prop
  | 0 => L
  | f + 1 => fun listed a => Region.ready md ops listed ≠ [] ∧ ∀ i, i ∈ Region.ready md ops listed → i < n ∧ qOp P ops C i (headQ P md ops C n L f (listed.setIfInBounds i true)) a

theorem any_of_headQ {n g : Nat} {L : Array Bool → Act → Prop} {Q' : Exit → Act → World → Prop} (hL : ∀ listed a w, C w → L listed a → wpAny P md ops Q' g listed a w) (f : Nat) :
    ∀ (listed : Array Bool) (a : Act) (w : World), C w → headQ P md ops C n L f listed a → wpAny P md ops Q' (f + g) listed a w := by
  induction f with
  | zero =>
    intro listed a w hc h
    have := hL listed a w hc h
    rwa [Nat.zero_add]
  | succ f ih =>
    intro listed a w hc h
    have e : f + 1 + g = f + g + 1 := Nat.add_right_comm f 1 g
    rw [e]
    exact ⟨fun none => (h.1 none).elim, fun i hi => wpOp_of_qOp hc (fun a' w' hw' more => ih _ a' w' hw' more) (h.2 i hi).2⟩

theorem head_firstQ {n i : Nat} {oi : Oper} {v : Value} {L : Array Bool → Act → Prop} (hi : ops[i]? = some oi) (hsel : ∀ (j : Nat) (o : Oper) cs b, ops[j]? = some o → o.op ≠ .select cs b)
    (hs : Region.sinkB md ops n = true) (hc : Region.chainB md ops n = true) (hn : n < ops.size) (hin : i < n)
    (hdone : ∀ listed a, L listed a → ∀ j ∈ Region.ready md ops listed, n ≤ j) (f : Nat) :
    ∀ (listed : Array Bool) (a : Act), HeadInv md ops n listed →
      (∀ j oj, ops[j]? = some oj → j ≠ i → listed.getD j true = false → (∀ e ∈ oj.after, Region.binds md e = true → e.on ≠ i) → oi.apart ops oj = true) →
      i ∈ Region.ready md ops listed → YieldsIn P ops C oi v a →
      headQ P md ops C n L f (listed.setIfInBounds i true) (a.put oi.dst v) → headQ P md ops C n L (f + 1) listed a := by
  have small : ∀ (listed : Array Bool), HeadInv md ops n listed → i ∈ Region.ready md ops listed → ∀ j, j ∈ Region.ready md ops listed → j < n := by
    intro listed inv hr j hj
    by_cases h : j < n
    · exact h
    · exact absurd hj (tail_waits hs hc hn inv _ i rfl hin (mem_ready.1 hr).1 j (by omega))
  induction f with
  | zero =>
    intro listed a inv free hr hy H
    refine ⟨List.ne_nil_of_mem hr, fun j hj => ⟨small listed inv hr j hj, ?_⟩⟩
    by_cases same : j = i
    · rw [same]
      exact hy.qOp hi H
    · have h1 := hdone _ _ H j (ready_mono hj same)
      have h2 := small listed inv hr j hj
      omega
  | succ f ih =>
    intro listed a inv free hr hy H
    refine ⟨List.ne_nil_of_mem hr, fun j hj => ⟨small listed inv hr j hj, ?_⟩⟩
    by_cases same : j = i
    · rw [same]
      exact hy.qOp hi H
    · have later := (H.2 j (ready_mono hj same)).2
      obtain ⟨open_j, oj, hoj, waits⟩ := mem_ready.1 hj
      have apart : ∀ e ∈ oj.after, Region.binds md e = true → e.on ≠ i := by
        intro e he hb on_i
        have was := waits e he hb
        rw [on_i, getD_both (mem_ready.1 hr).1] at was
        cases was
      have swapped := qOp_put hoj (free j oj hoj same open_j apart) (fun cs b => hsel i oi cs b hi) (fun cs b => hsel j oj cs b hoj) hy later
      refine qOp_mono (fun a' both => ih (listed.setIfInBounds j true) a' (inv.set hj (small listed inv hr j hj)) ?_ (ready_mono hr (Ne.symm same)) both.1 ?_) swapped
      · intro k ok hk hki unlisted hno
        refine free k ok hk hki ?_ hno
        by_cases hjk : j = k
        · rw [← hjk]; exact open_j
        · rwa [getD_set_ne true hjk] at unlisted
      · rw [Array.setIfInBounds_comm _ _ same]
        exact both.2

theorem head_lexQ {n g : Nat} {Lq : Act → Prop} (hsel : Region.noSelect ops = true) (hs : Region.sinkB md ops n = true) (hc : Region.chainB md ops n = true) (hn : n < ops.size) (l : List Oper) :
    ∀ (k : Nat) (listed : Array Bool) (a : Act), (∀ j, j < l.length → l[j]? = ops[k + j]?) → k + l.length = n → HeadInv md ops n listed →
    Region.lexHead md ops g l.length k listed = true → wpQuiet P ops C Lq l a →
    headQ P md ops C n (fun listed' a' => Region.seqB md ops g n listed' = true ∧ Lq a') l.length listed a := by
  induction l with
  | nil =>
    intro k listed a _ hk _ hB h
    have e : k = n := hk
    rw [e] at hB
    exact ⟨hB, h⟩
  | cons o l ih =>
    intro k listed a hl hk inv hB h
    have here : ops[k]? = some o := (hl 0 (Nat.zero_lt_succ _)).symm
    rw [List.length_cons] at hk
    rw [List.length_cons, Region.lexHead, Bool.and_eq_true, Bool.and_eq_true] at hB
    have hr : k ∈ Region.ready md ops listed := by simpa using hB.1.1
    have hkn : k < n := by omega
    have one : qOp P ops C k (wpQuiet P ops C Lq l) a := by
      unfold qOp
      rw [here]
      exact h
    obtain ⟨v, hy, more⟩ := yieldsIn_of_qOp here one
    refine head_firstQ here (Region.noSelect_spec hsel) hs hc hn hkn (fun listed' a' hL => seqB_ready hL.1) l.length listed a inv (Region.free_spec here hB.1.2) hr hy ?_
    refine ih (k + 1) _ _ (fun j hj => ?_) (by omega) (inv.set hr hkn) hB.2 more
    have := hl (j + 1) (Nat.succ_lt_succ hj)
    rw [List.getElem?_cons_succ] at this
    rw [this]
    congr 1
    omega

theorem nothing_listed (n : Nat) : HeadInv md ops n (Array.replicate ops.size false) := by
  refine ⟨?_, ?_, ?_⟩
  · simp
  · intro j oj _ hl
    rw [getD_replicate_false] at hl
    cases hl
  · intro t _ ht
    have hlt : t < (Array.replicate ops.size false).size := by simpa using ht
    exact getD_in hlt (getD_replicate_false _ _)

theorem wp_quiet_tail (C : World → Prop) {id : Nat} {Q : Exit → Act → World → Prop} {a : Act} {w : World} {l : List Oper} (n : Nat) (hm : P.follows .mixedOrders = true) (hB : Region.lexTailB .any l.toArray n = true)
    (hC : C { w with drawn := w.drawn + 1 }) (h : wpQuiet P l.toArray C (fun a' => ∀ w', C w' → wpList P l.toArray Q (l.drop n) a' w') (l.take n) a) : (Code.region id l.toArray true).wp P Q a w := by
  unfold Region.lexTailB at hB
  rw [Bool.and_eq_true, Bool.and_eq_true, Bool.and_eq_true, Bool.and_eq_true] at hB
  have hn : n < l.toArray.size := of_decide_eq_true hB.1.1.1.2
  have hlen : n ≤ l.length := by have := hn; simp at this; omega
  have len1 : (l.take n).length = n := List.length_take_of_le hlen
  have len2 : (l.drop n).length = l.toArray.size - n := by rw [List.length_drop]; simp
  have lex : Region.lexHead .any l.toArray (l.toArray.size - n) (l.take n).length 0 (Array.replicate l.toArray.size false) = true := by rw [len1]; exact hB.2
  have head := head_lexQ hB.1.1.1.1 hB.1.1.2 hB.1.2 hn (l.take n) 0 _ a (fun j hj => by
    rw [len1] at hj
    rw [List.getElem?_take_of_lt hj]
    simp) (by rw [len1]; omega) (nothing_listed n) lex h
  have whole := any_of_headQ (Q' := Q) (g := l.toArray.size - n) (fun listed a' w' hw' hL => by
    rw [← len2]
    rw [← len2] at hL
    exact wpAny_of_seq (l.drop n) n listed a' w' (fun j => by simp) hL.1 (hL.2 w' hw')) _ _ _ _ hC head
  have total : (l.take n).length + (l.toArray.size - n) = l.toArray.size := by rw [len1]; omega
  rw [total] at whole
  exact wp_region_any hm whole
theorem wp_quiet_all (C : World → Prop) {id : Nat} {Q : Exit → Act → World → Prop} {a : Act} {w : World} {l : List Oper} (hm : P.follows .mixedOrders = true) (hB : Region.lexB .any l.toArray = true)
    (hC : C { w with drawn := w.drawn + 1 }) (h : wpQuiet P l.toArray C (fun a' => ∀ w', C w' → Q .normal a' w') l a) : (Code.region id l.toArray true).wp P Q a w :=
  wp_region_quiet (C := C) hm hB hC (by simpa using h)
end
end Go.Proofs.YtdjlfpkemdiadaaDoor
/- A region that draws its order, whose head grows memory at most, one block of its own that is made at any time, and a tail in order: one walk in the text's order serves every order. -/
namespace Go.Proofs.YtdjlfpkemdiadaaDoor
open Go Go.RowKit
set_option linter.unusedVariables false
set_option linter.unusedSimpArgs false

section
variable {P : Program} {ops : Array Oper} {md : Region.Mode}

/-- In every world that has grown out of W the operation yields v, and at most grows it. -/
def GrowsAt (P : Program) (W : World) (o : Oper) (a : Act) (v : Value) : Prop := ∀ w, Below W.heap.size W w → o.quietAt P a (fun w' => Below w.heap.size w w') w v
def growOp (P : Program) (ops : Array Oper) (W : World) (o : Oper) (K : Act → Prop) (a : Act) : Prop :=
  if Region.wanted o (yielded ops a.tmps) then ∃ v, GrowsAt P W o a v ∧ K (a.put o.dst v) else K (a.put o.dst undef)
/-- The walk in the text's order. -/
def wpG (P : Program) (ops : Array Oper) (W : World) (Q : Act → Prop) : List Oper → Act → Prop
  | [] => Q
  | o :: rest => growOp P ops W o (wpG P ops W Q rest)

/-- A class of worlds that growing does not leave. -/
structure Grown (W : World) (C : World → Prop) : Prop where
  from' : ∀ w, C w → Below W.heap.size W w
  more : ∀ w w', C w → Below w.heap.size w w' → C w'
theorem grown_all (W : World) : Grown W (fun w => Below W.heap.size W w) := ⟨fun _ h => h, fun w w' h k => h.trans (k.mono h.size)⟩

theorem quietAt_of_grows {W : World} {C : World → Prop} (hC : Grown W C) {o : Oper} {a : Act} {v : Value} (h : GrowsAt P W o a v) (w : World) (hw : C w) : o.quietAt P a C w v := by
  have h1 := h w (hC.from' w hw)
  unfold Oper.quietAt at h1 ⊢
  generalize (execOp a.eval o).run P w = r at h1 ⊢
  match r, h1 with
  | .ok (.value u) w', h1 => exact h1
  | .ok .skip w', h1 => exact h1
  | .ok (.enter f args) w', ⟨e, hc⟩ => exact ⟨e, hc.mono fun e' w'' h' => ⟨h'.1, hC.more _ _ hw h'.2⟩⟩
theorem quiet_of_grow {W : World} {C : World → Prop} (hC : Grown W C) {Q : Act → Prop} : ∀ (l : List Oper) (a : Act), wpG P ops W Q l a → wpQuiet P ops C Q l a
  | [], _, h => h
  | o :: l, a, h => by
    unfold wpG growOp at h
    unfold wpQuiet
    split
    · rename_i hw
      rw [if_pos hw] at h
      obtain ⟨v, h1, h2⟩ := h
      exact ⟨v, fun w hw' => quietAt_of_grows hC h1 w hw', quiet_of_grow hC l _ h2⟩
    · rename_i hw
      rw [if_neg hw] at h
      exact quiet_of_grow hC l _ h

/-- All at most grow. -/
theorem grow_all {id : Nat} {Q : Exit → Act → World → Prop} {a : Act} {W : World} {l : List Oper} (hm : P.follows .mixedOrders = true) (hB : Region.lexB .any l.toArray = true)
    (h : wpG P l.toArray W (fun a' => ∀ w', Below W.heap.size W w' → Q .normal a' w') l a) : (Code.region id l.toArray true).wp P Q a W :=
  wp_quiet_all (fun w => Below W.heap.size W w) hm hB ⟨rfl, rfl, rfl, Nat.le_refl _, fun _ _ => rfl⟩ (quiet_of_grow (grown_all W) l a h)
/-- A tail in order. -/
theorem grow_tail {id : Nat} {Q : Exit → Act → World → Prop} {a : Act} {W : World} {l : List Oper} (n : Nat) (hm : P.follows .mixedOrders = true) (hB : Region.lexTailB .any l.toArray n = true)
    (h : wpG P l.toArray W (fun a' => ∀ w', Below W.heap.size W w' → wpList P l.toArray Q (l.drop n) a' w') (l.take n) a) : (Code.region id l.toArray true).wp P Q a W :=
  wp_quiet_tail (fun w => Below W.heap.size W w) n hm hB ⟨rfl, rfl, rfl, Nat.le_refl _, fun _ _ => rfl⟩ (quiet_of_grow (grown_all W) _ a h)

/-- f operations of the head are still to come, in any order, whatever has grown. -/
def headG (P : Program) (md : Region.Mode) (ops : Array Oper) (W : World) (n : Nat) (L : Array Bool → Act → Prop) : Nat → Array Bool → Act → Prop
  | 0 => L
  | f + 1 => fun listed a => Region.ready md ops listed ≠ [] ∧ ∀ i, i ∈ Region.ready md ops listed → i < n ∧ ∃ o, ops[i]? = some o ∧ growOp P ops W o (headG P md ops W n L f (listed.setIfInBounds i true)) a

/-- What an operation leaves in its slot, whatever has grown. -/
def YieldsG (P : Program) (ops : Array Oper) (W : World) (o : Oper) (v : Value) (a : Act) : Prop :=
  (Region.wanted o (yielded ops a.tmps) = true ∧ GrowsAt P W o a v) ∨ (Region.wanted o (yielded ops a.tmps) = false ∧ v = undef)
theorem yieldsG_of {W : World} {o : Oper} {a : Act} {K : Act → Prop} (h : growOp P ops W o K a) : ∃ v, YieldsG P ops W o v a ∧ K (a.put o.dst v) := by
  unfold growOp at h
  by_cases hw : Region.wanted o (yielded ops a.tmps) = true
  · rw [if_pos hw] at h
    obtain ⟨v, h1, h2⟩ := h
    exact ⟨v, .inl ⟨hw, h1⟩, h2⟩
  · rw [if_neg hw] at h
    exact ⟨undef, .inr ⟨by simpa using hw, rfl⟩, h⟩
theorem YieldsG.grow {W : World} {o : Oper} {v : Value} {a : Act} {K : Act → Prop} (hy : YieldsG P ops W o v a) (h : K (a.put o.dst v)) : growOp P ops W o K a := by
  unfold growOp
  rcases hy with ⟨hw, hv⟩ | ⟨hw, rfl⟩
  · rw [if_pos hw]; exact ⟨v, hv, h⟩
  · rw [if_neg (by rw [hw]; simp)]; exact h
theorem growOp_mono {W : World} {o : Oper} {a : Act} {K K' : Act → Prop} (h : ∀ a, K a → K' a) (hh : growOp P ops W o K a) : growOp P ops W o K' a := by
  obtain ⟨v, hy, hk⟩ := yieldsG_of hh
  exact hy.grow (h _ hk)
/-- Whether oi's value lies in its slot already makes no difference to oj, nor the other way about. -/
theorem growOp_put {W : World} {oi oj : Oper} {v : Value} (hap : oi.apart ops oj = true) (hsi : ∀ cs b, oi.op ≠ .select cs b) (hsj : ∀ cs b, oj.op ≠ .select cs b) {K : Act → Prop} {a : Act}
    (hy : YieldsG P ops W oi v a) (h : growOp P ops W oj K (a.put oi.dst v)) : growOp P ops W oj (fun a' => YieldsG P ops W oi v a' ∧ K (a'.put oi.dst v)) a := by
  obtain ⟨h1, h2, h3⟩ := Oper.apart_spec hap
  obtain ⟨u, hu, hk⟩ := yieldsG_of h
  have hu' : YieldsG P ops W oj u a := by
    unfold YieldsG GrowsAt Oper.quietAt at hu ⊢
    rw [execOp_put oj hsj a oi.dst v h1, wanted_put oj a oi.dst v h1] at hu
    exact hu
  refine hu'.grow ⟨?_, ?_⟩
  · unfold YieldsG GrowsAt Oper.quietAt at hy ⊢
    rw [execOp_put oi hsi a oj.dst u h3, wanted_put oi a oj.dst u h3]
    exact hy
  · rw [← Act.put_comm a v u h2]
    exact hk

theorem head_firstG {W : World} {n i : Nat} {oi : Oper} {v : Value} {L : Array Bool → Act → Prop} (hi : ops[i]? = some oi) (hsel : ∀ (j : Nat) (o : Oper) cs b, ops[j]? = some o → o.op ≠ .select cs b)
    (hs : Region.sinkB md ops n = true) (hc : Region.chainB md ops n = true) (hn : n < ops.size) (hin : i < n)
    (hdone : ∀ listed a, L listed a → ∀ j ∈ Region.ready md ops listed, n ≤ j) (f : Nat) :
    ∀ (listed : Array Bool) (a : Act), HeadInv md ops n listed →
      (∀ j oj, ops[j]? = some oj → j ≠ i → listed.getD j true = false → (∀ e ∈ oj.after, Region.binds md e = true → e.on ≠ i) → oi.apart ops oj = true) →
      i ∈ Region.ready md ops listed → YieldsG P ops W oi v a →
      headG P md ops W n L f (listed.setIfInBounds i true) (a.put oi.dst v) → headG P md ops W n L (f + 1) listed a := by
  have small : ∀ (listed : Array Bool), HeadInv md ops n listed → i ∈ Region.ready md ops listed → ∀ j, j ∈ Region.ready md ops listed → j < n := by
    intro listed inv hr j hj
    by_cases h : j < n
    · exact h
    · exact absurd hj (tail_waits hs hc hn inv _ i rfl hin (mem_ready.1 hr).1 j (by omega))
  induction f with
  | zero =>
    intro listed a inv free hr hy H
    refine ⟨List.ne_nil_of_mem hr, fun j hj => ⟨small listed inv hr j hj, ?_⟩⟩
    by_cases same : j = i
    · rw [same]
      exact ⟨oi, hi, hy.grow H⟩
    · have h1 := hdone _ _ H j (ready_mono hj same)
      have h2 := small listed inv hr j hj
      omega
  | succ f ih =>
    intro listed a inv free hr hy H
    refine ⟨List.ne_nil_of_mem hr, fun j hj => ⟨small listed inv hr j hj, ?_⟩⟩
    by_cases same : j = i
    · rw [same]
      exact ⟨oi, hi, hy.grow H⟩
    · obtain ⟨oj', hoj', later⟩ := (H.2 j (ready_mono hj same)).2
      obtain ⟨open_j, oj, hoj, waits⟩ := mem_ready.1 hj
      obtain rfl : oj' = oj := Option.some.inj (hoj'.symm.trans hoj)
      have apart : ∀ e ∈ oj'.after, Region.binds md e = true → e.on ≠ i := by
        intro e he hb on_i
        have was := waits e he hb
        rw [on_i, getD_both (mem_ready.1 hr).1] at was
        cases was
      have swapped := growOp_put (free j oj' hoj same open_j apart) (fun cs b => hsel i oi cs b hi) (fun cs b => hsel j oj' cs b hoj) hy later
      refine ⟨oj', hoj, growOp_mono (fun a' both => ih (listed.setIfInBounds j true) a' (inv.set hj (small listed inv hr j hj)) ?_ (ready_mono hr (Ne.symm same)) both.1 ?_) swapped⟩
      · intro k ok hk hki unlisted hno
        refine free k ok hk hki ?_ hno
        by_cases hjk : j = k
        · rw [← hjk]; exact open_j
        · rwa [getD_set_ne true hjk] at unlisted
      · rw [Array.setIfInBounds_comm _ _ same]
        exact both.2

/-- The head's operations in the text's order; m: the first of the tail; g: how many they are. -/
def lexM (md : Region.Mode) (ops : Array Oper) (g m : Nat) : Nat → Nat → Array Bool → Bool
  | 0, _, listed => Region.seqB md ops g m listed
  | f + 1, k, listed => (Region.ready md ops listed).contains k && Region.free md ops listed k && lexM md ops g m f (k + 1) (listed.setIfInBounds k true)

theorem head_lexG {W : World} {m g : Nat} {Lq : Act → Prop} (hsel : Region.noSelect ops = true) (hs : Region.sinkB md ops m = true) (hc : Region.chainB md ops m = true) (hm : m < ops.size) (l : List Oper) :
    ∀ (k : Nat) (listed : Array Bool) (a : Act), (∀ j, j < l.length → l[j]? = ops[k + j]?) → k + l.length ≤ m → HeadInv md ops m listed →
    lexM md ops g m l.length k listed = true → wpG P ops W Lq l a →
    headG P md ops W m (fun listed' a' => Region.seqB md ops g m listed' = true ∧ Lq a') l.length listed a := by
  induction l with
  | nil =>
    intro k listed a _ _ _ hB h
    exact ⟨hB, h⟩
  | cons o l ih =>
    intro k listed a hl hk inv hB h
    have here : ops[k]? = some o := (hl 0 (Nat.zero_lt_succ _)).symm
    rw [List.length_cons] at hk
    rw [List.length_cons, lexM, Bool.and_eq_true, Bool.and_eq_true] at hB
    have hr : k ∈ Region.ready md ops listed := by simpa using hB.1.1
    have hkm : k < m := by omega
    obtain ⟨v, hy, more⟩ := yieldsG_of h
    refine head_firstG here (Region.noSelect_spec hsel) hs hc hm hkm (fun listed' a' hL => seqB_ready hL.1) l.length listed a inv (Region.free_spec here hB.1.2) hr hy ?_
    refine ih (k + 1) _ _ (fun j hj => ?_) (by omega) (inv.set hr hkm) hB.2 more
    have := hl (j + 1) (Nat.succ_lt_succ hj)
    rw [List.getElem?_cons_succ] at this
    rw [this]
    congr 1
    omega

/-- The made block's address may lie in its slot already. -/
theorem head_put {W : World} {m k : Nat} {mo : Oper} {v : Value} {L L' : Array Bool → Act → Prop} (hsel : ∀ (j : Nat) (o : Oper) cs b, ops[j]? = some o → o.op ≠ .select cs b) (hk : ops[k]? = some mo)
    (hap : ∀ j oj, j < m → j ≠ k → ops[j]? = some oj → mo.apart ops oj = true) (hL : ∀ listed a, L listed a → L' listed (a.put mo.dst v)) (f : Nat) :
    ∀ (listed : Array Bool) (a : Act), listed.getD k true = true → headG P md ops W m L f listed a → headG P md ops W m L' f listed (a.put mo.dst v) := by
  induction f with
  | zero => intro listed a _ h; exact hL _ _ h
  | succ f ih =>
    intro listed a hl h
    refine ⟨h.1, fun i hi => ?_⟩
    obtain ⟨him, o, ho, hg⟩ := h.2 i hi
    have hik : i ≠ k := by
      intro e
      have := (mem_ready.1 hi).1
      rw [e, hl] at this
      cases this
    refine ⟨him, o, ho, ?_⟩
    obtain ⟨h1, h2, h3⟩ := Oper.apart_spec (hap i o him hik ho)
    obtain ⟨u, hu, hn⟩ := yieldsG_of hg
    have hu' : YieldsG P ops W o u (a.put mo.dst v) := by
      unfold YieldsG GrowsAt Oper.quietAt at hu ⊢
      rw [execOp_put o (fun cs b => hsel i o cs b ho) a mo.dst v h1, wanted_put o a mo.dst v h1]
      exact hu
    refine hu'.grow ?_
    rw [Act.put_comm a v u h2]
    exact ih _ _ (by rw [getD_set_ne true (fun e => hik e)]; exact hl) hn

theorem any_of_headG {W : World} {C : World → Prop} (hC : Grown W C) {n g : Nat} {L : Array Bool → Act → Prop} {Q' : Exit → Act → World → Prop} (hL : ∀ listed a w, C w → L listed a → wpAny P md ops Q' g listed a w) (f : Nat) :
    ∀ (listed : Array Bool) (a : Act) (w : World), C w → headG P md ops W n L f listed a → wpAny P md ops Q' (f + g) listed a w := by
  induction f with
  | zero =>
    intro listed a w hc h
    have := hL listed a w hc h
    rwa [Nat.zero_add]
  | succ f ih =>
    intro listed a w hc h
    have e : f + 1 + g = f + g + 1 := Nat.add_right_comm f 1 g
    rw [e]
    refine ⟨fun none => (h.1 none).elim, fun i hi => ?_⟩
    obtain ⟨_, o, ho, hg⟩ := h.2 i hi
    refine wpOp_of_qOp (K := headG P md ops W n L f (listed.setIfInBounds i true)) hc (fun a' w' hw' more => ih _ a' w' hw' more) ?_
    unfold qOp
    rw [ho]
    unfold growOp at hg
    dsimp only
    split
    · rename_i hw
      rw [if_pos hw] at hg
      obtain ⟨v, h1, h2⟩ := hg
      exact ⟨v, fun w hw' => quietAt_of_grows hC h1 w hw', h2⟩
    · rename_i hw
      rw [if_neg hw] at hg
      exact hg

/-- The block has not been made yet. -/
theorem any_before {W : World} {m k g : Nat} {mo : Oper} {Q' : Exit → Act → World → Prop} {L : Array Bool → Act → Prop} {D : Value → World → Prop} (hsel : ∀ (j : Nat) (o : Oper) cs b, ops[j]? = some o → o.op ≠ .select cs b)
    (hk : ops[k]? = some mo) (hkm : k < m) (hgd : mo.guard = none) (hmake : ∀ (a : Act) (w : World), Below W.heap.size W w → ∃ v w', (execOp a.eval mo).run P w = .ok (.value v) w' ∧ D v w') (hD : ∀ v, Grown W (D v))
    (hap : ∀ j oj, j < m → j ≠ k → ops[j]? = some oj → mo.apart ops oj = true) (hwait : Region.waitsFor md ops m k = true)
    (hseq : ∀ listed a, L listed a → ∀ j ∈ Region.ready md ops listed, j = m)
    (hL : ∀ v listed a w, D v w → L listed a → wpAny P md ops Q' g listed (a.put mo.dst v) w) (f : Nat) :
    ∀ (listed : Array Bool) (a : Act) (w : World), Below W.heap.size W w → k ∈ Region.ready md ops listed → headG P md ops W m L f (listed.setIfInBounds k true) a → wpAny P md ops Q' (f + 1 + g) listed a w := by
  have made : ∀ (f : Nat) (listed : Array Bool) (a : Act) (w : World), Below W.heap.size W w → k ∈ Region.ready md ops listed → headG P md ops W m L f (listed.setIfInBounds k true) a →
      wpOp P ops Q' k (wpAny P md ops Q' (f + g) (listed.setIfInBounds k true)) a w := by
    intro f listed a w hw hr H
    obtain ⟨v, w', hrun, hd⟩ := hmake a w hw
    unfold wpOp
    rw [hk]
    dsimp only
    have hwant : Region.wanted mo (yielded ops a.tmps) = true := by unfold Region.wanted; rw [hgd]
    rw [if_pos hwant]
    refine Or.inl ?_
    unfold Oper.wp
    rw [hrun]
    have hls : (listed.setIfInBounds k true).getD k true = true := by
      by_cases hlt : k < listed.size
      · simp [hlt]
      · simp [hlt]
    exact any_of_headG (hD v) (L := fun listed' a'' => ∃ a', a'' = a'.put mo.dst v ∧ L listed' a') (fun listed' a'' w'' hw'' ⟨a', e, h⟩ => by rw [e]; exact hL v listed' a' w'' hw'' h) f _ _ w' hd
      (head_put hsel hk hap (fun listed' a' h => ⟨a', rfl, h⟩) f _ a hls H)
  induction f with
  | zero =>
    intro listed a w hw hr H
    have e : 0 + 1 + g = 0 + g + 1 := by omega
    rw [e]
    refine ⟨fun none => absurd hr (by rw [none]; simp), fun i hi => ?_⟩
    by_cases same : i = k
    · rw [same]
      exact made 0 listed a w hw hr H
    · exfalso
      have him := hseq _ _ H i (ready_mono hi same)
      obtain ⟨oj, hoj, ed, he, hb, hon⟩ := Region.waitsFor_spec hwait
      rw [him] at hi
      obtain ⟨_, o', ho', hall⟩ := mem_ready.1 hi
      obtain rfl : o' = oj := Option.some.inj (ho'.symm.trans hoj)
      have h1 := hall ed he hb
      rw [hon, getD_both (mem_ready.1 hr).1] at h1
      cases h1
  | succ f ih =>
    intro listed a w hw hr H
    have e : f + 1 + 1 + g = f + 1 + g + 1 := by omega
    rw [e]
    refine ⟨fun none => absurd hr (by rw [none]; simp), fun i hi => ?_⟩
    by_cases same : i = k
    · rw [same]
      exact made (f + 1) listed a w hw hr H
    · obtain ⟨_, o, ho, hg⟩ := H.2 i (ready_mono hi same)
      refine wpOp_of_qOp (C := fun w => Below W.heap.size W w) (K := headG P md ops W m L f ((listed.setIfInBounds k true).setIfInBounds i true)) hw (fun a' w' hw' more => ih _ a' w' hw' (ready_mono hr (Ne.symm same)) ?_) ?_
      · rw [Array.setIfInBounds_comm _ _ same]
        exact more
      · unfold qOp
        rw [ho]
        unfold growOp at hg
        dsimp only
        split
        · rename_i hw'
          rw [if_pos hw'] at hg
          obtain ⟨v, h1, h2⟩ := hg
          exact ⟨v, fun w hw' => quietAt_of_grows (grown_all W) h1 w hw', h2⟩
        · rename_i hw'
          rw [if_neg hw'] at hg
          exact hg

/-- What the region must be: n operations, then the one that makes a block, then the tail. -/
def makeB (md : Region.Mode) (ops : Array Oper) (n : Nat) : Bool :=
  Region.noSelect ops && decide (n + 1 < ops.size) && Region.sinkB md ops (n + 1) && Region.chainB md ops (n + 1) && Region.waitsFor md ops (n + 1) n
    && (Region.ready md ops (Array.replicate ops.size false)).contains n && Region.free md ops (Array.replicate ops.size false) n
    && (List.range n).all (fun j => !Region.waitsFor md ops j n)
    && lexM md ops (ops.size - (n + 1)) (n + 1) n 0 ((Array.replicate ops.size false).setIfInBounds n true)

theorem seqB_first {g m : Nat} {listed : Array Bool} (hg : 0 < g) (h : Region.seqB md ops g m listed = true) : ∀ j ∈ Region.ready md ops listed, j = m := by
  cases g with
  | zero => omega
  | succ g =>
    intro j hj
    simp only [Region.seqB, Bool.and_eq_true, decide_eq_true_eq] at h
    rw [h.1] at hj
    simpa using hj

/-- One block is made, of its own, at any time. -/
theorem grow_make {id : Nat} {Q : Exit → Act → World → Prop} {a : Act} {W : World} {l : List Oper} (n : Nat) (mo : Oper) (D : Value → World → Prop) (hm : P.follows .mixedOrders = true) (hB : makeB .any l.toArray n = true)
    (hk : l[n]? = some mo) (hgd : mo.guard = none) (hD : ∀ v, Grown W (D v))
    (hmake : ∀ (a : Act) (w : World), Below W.heap.size W w → ∃ v w', (execOp a.eval mo).run P w = .ok (.value v) w' ∧ D v w')
    (h : wpG P l.toArray W (fun a' => ∀ v w', D v w' → wpList P l.toArray Q (l.drop (n + 1)) (a'.put mo.dst v) w') (l.take n) a) : (Code.region id l.toArray true).wp P Q a W := by
  unfold makeB at hB
  simp only [Bool.and_eq_true, decide_eq_true_eq] at hB
  obtain ⟨⟨⟨⟨⟨⟨⟨⟨hsel, hn⟩, hs⟩, hc⟩, hwait⟩, hr⟩, hfree⟩, hno⟩, hlex⟩ := hB
  have hn' : n + 1 < l.length := by simpa using hn
  have hk' : l.toArray[n]? = some mo := by simpa using hk
  have hr' : n ∈ Region.ready .any l.toArray (Array.replicate l.toArray.size false) := by simpa using hr
  have len1 : (l.take n).length = n := List.length_take_of_le (by omega)
  have len2 : (l.drop (n + 1)).length = l.toArray.size - (n + 1) := by rw [List.length_drop]; simp
  have hap : ∀ j oj, j < n + 1 → j ≠ n → l.toArray[j]? = some oj → mo.apart l.toArray oj = true := by
    intro j oj hj hjn hoj
    have hlt : j < l.toArray.size := (Array.getElem?_eq_some_iff.1 hoj).1
    refine Region.free_spec hk' hfree j oj hoj hjn (getD_in (by simpa using hlt) (getD_replicate_false _ _)) (fun e he hb hon => ?_)
    have h1 := List.all_eq_true.1 hno j (by simp; omega)
    have h2 : Region.waitsFor .any l.toArray j n = true := by
      unfold Region.waitsFor
      rw [hoj]
      exact Array.any_eq_true'.2 ⟨e, he, by simp [hb, hon]⟩
    rw [h2] at h1
    cases h1
  have inv := (nothing_listed (md := .any) (ops := l.toArray) (n + 1)).set hr' (Nat.lt_succ_self n)
  have lex : lexM .any l.toArray (l.toArray.size - (n + 1)) (n + 1) (l.take n).length 0 ((Array.replicate l.toArray.size false).setIfInBounds n true) = true := by rw [len1]; exact hlex
  have head := head_lexG (P := P) (W := W) hsel hs hc hn (l.take n) 0 _ a (fun j hj => by
    rw [len1] at hj
    rw [List.getElem?_take_of_lt hj]
    simp) (by rw [len1]; omega) inv lex h
  have grown : Below W.heap.size W { W with drawn := W.drawn + 1 } := ⟨rfl, rfl, rfl, Nat.le_refl _, fun _ _ => rfl⟩
  have whole := any_before (Q' := Q) (g := l.toArray.size - (n + 1)) (Region.noSelect_spec hsel) hk' (Nat.lt_succ_self n) hgd hmake hD hap hwait (fun listed a' hL => seqB_first (by omega) hL.1)
    (fun v listed a' w hw hL => by
      rw [← len2]
      rw [← len2] at hL
      exact wpAny_of_seq (l.drop (n + 1)) (n + 1) listed _ w (fun j => by simp) hL.1 (hL.2 v w hw)) _ _ a _ grown hr' head
  have total : (l.take n).length + 1 + (l.toArray.size - (n + 1)) = l.toArray.size := by rw [len1]; omega
  rw [total] at whole
  exact wp_region_any hm whole
end
end Go.Proofs.YtdjlfpkemdiadaaDoor
/- Operations of a region that draws its order, where memory at most grows. -/
namespace Go.Proofs.YtdjlfpkemdiadaaDoor
open Go.RowKit
set_option linter.unusedSimpArgs false
set_option linter.unusedVariables false

section
variable {ops : Array Oper} {W : World} {Q : Act → Prop} {rest : List Oper} {op : Oper} {a : Act}
theorem wpG_nil (h : Q a) : wpG Tryd.prog ops W Q [] a := h
theorem wpG_value (hw : Region.wanted op (yielded ops a.tmps) = true) {v : Value} (hr : ∀ w, Below W.heap.size W w → (execOp a.eval op).run Tryd.prog w = .ok (.value v) w)
    (h : wpG Tryd.prog ops W Q rest (a.put op.dst v)) : wpG Tryd.prog ops W Q (op :: rest) a := by
  unfold wpG growOp
  rw [if_pos hw]
  refine ⟨v, fun w hC => ?_, h⟩
  unfold Oper.quietAt
  rw [hr w hC]
  exact ⟨rfl, rfl⟩
theorem wpG_put (hw : Region.wanted op (yielded ops a.tmps) = true) {v : Value} (hr : ∀ w, (execOp a.eval op).run Tryd.prog w = .ok (.value v) w)
    (h : wpG Tryd.prog ops W Q rest (a.put op.dst v)) : wpG Tryd.prog ops W Q (op :: rest) a := wpG_value hw (fun w _ => hr w) h
theorem wpG_skip (hw : Region.wanted op (yielded ops a.tmps) = false)
    (h : wpG Tryd.prog ops W Q rest (a.put op.dst undef)) : wpG Tryd.prog ops W Q (op :: rest) a := by
  unfold wpG growOp
  rw [if_neg (by rw [hw]; simp)]
  exact h
theorem wpG_call (hw : Region.wanted op (yielded ops a.tmps) = true) {f : FuncId} {args : Array Value} {v : Value} (hC : ∀ w, Below W.heap.size W w → Calls Tryd.prog f args w fun e w' => e = .returned v ∧ Below w.heap.size w w') (hr : ∀ w, (execOp a.eval op).run Tryd.prog w = .ok (.enter f args) w)
    (h : wpG Tryd.prog ops W Q rest (a.put op.dst v)) : wpG Tryd.prog ops W Q (op :: rest) a := by
  unfold wpG growOp
  rw [if_pos hw]
  refine ⟨v, fun w hc => ?_, h⟩
  unfold Oper.quietAt
  rw [hr w]
  exact ⟨rfl, hC w hc⟩
end
end Go.Proofs.YtdjlfpkemdiadaaDoor
/- Structs in memory, of whatever type: a block of cells, loaded, stored, boxed, made and handed back, whole or in part; the same in a region that draws its order. -/
namespace Go.Proofs.YtdjlfpkemdiadaaDoor
open Go.RowKit
set_option linter.unusedSimpArgs false
set_option linter.unusedVariables false

/-- A block of one type's cells. -/
def IsS (w : World) (b t : Nat) (cs : List Value) : Prop := w.heap[b]? = some (.cells cs.toArray t)
/-- Cells from a place on are replaced. -/
def putL : List Value → Nat → List Value → List Value
  | cs, _, [] => cs
  | cs, o, v :: vs => putL (cs.set o v) (o + 1) vs
section
variable {w W w' : World} {b b' B t : Nat} {cs : List Value}
theorem IsS.lt (h : IsS w b t cs) : b < w.heap.size := (Array.getElem?_eq_some_iff.1 h).1
theorem IsS.cell (h : IsS w b t cs) (j : Nat) : w.cell? ⟨b, j, none⟩ = cs[j]? := by
  rw [cell_of_row w b j cs.toArray t (0, 0) h]; simp
theorem IsS.frozen (h : IsS w b t cs) (j : Nat) : w.frozen? ⟨b, j, none⟩ = false := by
  have h' : w.heap[b]? = some (.cells cs.toArray t (0, 0)) := h
  simp [World.frozen?, h']
theorem IsS.below (h : IsS w b t cs) (hB : Below B w w') (hb : b < B) : IsS w' b t cs := (hB.block b hb).trans h
theorem IsS.grown (h : IsS w b t cs) (hB : Below w.heap.size w w') : IsS w' b t cs := h.below hB h.lt
theorem IsS.new (w : World) (t : Nat) (cs : List Value) : IsS (w.alloc (.cells cs.toArray t)) w.heap.size t cs := heap_alloc_last w _
theorem IsS.fresh (h : IsS w b t cs) (F : Fresh w W b') : IsS W b t cs := h.below F.below (by rw [F.at']; exact h.lt)
theorem IsS.upd (h : IsS w b t cs) (U : Upd w W b') (hb : b ≠ b') : IsS W b t cs := (U.block b hb).trans h
theorem IsS.range (h : IsS w b t cs) (o k : Nat) : w.rangeAt b o ((cs.drop o).take k) := fun j v hv => by
  rw [h.cell]
  rw [List.getElem?_take] at hv
  split at hv
  · rw [List.getElem?_drop] at hv; exact hv
  · cases hv
theorem IsS.there (h : IsS w b t cs) (o k : Nat) (hk : o + k ≤ cs.length) : w.there b o k := fun j hj => by
  rw [h.cell, List.getElem?_eq_getElem (by omega)]
  exact ⟨rfl, h.frozen _⟩
theorem IsS.set1 (h : IsS w b t cs) (o : Nat) (v : Value) : IsS (w.setCell ⟨b, o, none⟩ v) b t (cs.set o v) := by
  have h' : w.heap[b]? = some (.cells cs.toArray t (0, 0)) := h
  unfold IsS
  show (w.heap.modify b _)[b]? = _
  rw [Array.getElem?_modify, if_pos rfl, h']
  simp
theorem IsS.setL : ∀ (vs : List Value) (o : Nat) (cs : List Value) (w : World), IsS w b t cs → IsS (w.setCells b o vs) b t (putL cs o vs)
  | [], o, cs, w, h => h
  | v :: vs, o, cs, w, h => IsS.setL vs (o + 1) _ _ (h.set1 o v)
theorem Upd.comp {b : Nat} {w W W' : World} (h : Upd w W b) (h' : Upd W W' b) : Upd w W' b :=
  ⟨h'.os.trans h.os, h'.tape.trans h.tape, h'.output.trans h.output, h'.size.trans h.size, fun k hk => (h'.block k hk).trans (h.block k hk)⟩
theorem Upd.refl (w : World) (b : Nat) : Upd w w b := ⟨rfl, rfl, rfl, rfl, fun _ _ => rfl⟩
theorem Upd.setCells (b : Nat) : ∀ (vs : List Value) (o : Nat) (w : World), Upd w (w.setCells b o vs) b
  | [], o, w => Upd.refl w b
  | v :: vs, o, w => (Upd.setCell w b o v).comp (Upd.setCells b vs (o + 1) _)
theorem below_drew {B : Nat} {w W : World} (h : Below B w W) : Below B w W.drew := ⟨h.os, h.tape, h.output, h.size, h.block⟩
theorem below_drewN {B : Nat} {w W : World} (h : Below B w W) (m : Nat) : Below B w (W.drewN m) := ⟨h.os, h.tape, h.output, h.size, h.block⟩
theorem Below.then {w W W' : World} (h : Below w.heap.size w W) (h' : Below W.heap.size W W') : Below w.heap.size w W' := h.trans (h'.mono h.size)

theorem run_store1 {P : Program} (w : World) (b o : Nat) (ty : TypeId) (v : Value) (ht : w.there b o 1) (hi : (P.info? ty).map (·.size) = some 1) (h1 : v.oneCell' = true) :
    (storeVar ty ⟨b, o, none⟩ v).run P w = .ok () (w.setCell ⟨b, o, none⟩ v) := by
  have := run_storeCells_cells (P := P) b o [v] 0 w (fun j hj => by simpa using (ht j (by simpa using hj)).1) (fun j hj => by simpa using (ht j (by simpa using hj)).2)
    (fun u hu => by simp at hu; rw [hu]; exact h1)
  have hc : v.cells = #[v] := by cases v <;> simp_all [Value.cells, Value.oneCell']
  cases hq : P.info? ty with
  | none => simp [hq] at hi
  | some i =>
    have hs : i.size = 1 := by simpa [hq] using hi
    simp only [Nat.add_zero] at this
    simp [storeVar, sizeOf, typeInfo, hq, hc, hs, this]
    rfl
end
section
variable {w : World} {b t o : Nat} {cs : List Value} {ops : Array Oper} {rest : List Oper} {op : Oper} {a : Act} {Q : Exit → Act → World → Prop}
theorem wpList_loadS (hgd : op.guard = none) (ty : TypeId) (x : Operand) (ho : op.op = .load ty x) (hx : a.eval x = .pointer (some ⟨b, o, none⟩)) (hc : IsS w b t cs) (k : Nat) (d : TypeDesc)
    (hu : Tryd.prog.underlying ty = some d) (hd : d.isRow = true) (hi : (Tryd.prog.info? ty).map (·.size) = some ((cs.drop o).take k).length)
    (h : wpList Tryd.prog ops Q rest (a.put op.dst (.agg ((cs.drop o).take k).toArray)) w) : wpList Tryd.prog ops Q (op :: rest) a w :=
  wpList_load_mid hgd ty x ho b o hx _ d (hc.range o k) hu hd hi h
theorem wpList_storeS (hgd : op.guard = none) (ty : TypeId) (x y : Operand) (ho : op.op = .store ty x y) (hx : a.eval x = .pointer (some ⟨b, o, none⟩)) (vs : List Value) (hy : a.eval y = .agg vs.toArray) (hc : IsS w b t cs)
    (hk : o + vs.length ≤ cs.length) (hi : (Tryd.prog.info? ty).map (·.size) = some vs.length) (h1 : ∀ v ∈ vs, v.oneCell' = true)
    (h : ∀ W, Upd w W b → IsS W b t (putL cs o vs) → wpList Tryd.prog ops Q rest (a.put op.dst undef) W) : wpList Tryd.prog ops Q (op :: rest) a w :=
  wpList_store_mid hgd ty x y ho b o vs.toArray hx hy (hc.there o _ (by simpa using hk)) (by simpa using hi) (all_oneCell_toArray h1) (by
    have := h _ (Upd.setCells b vs o w) (IsS.setL vs o cs w hc)
    simpa using this)
theorem wpList_store1 (hgd : op.guard = none) (ty : TypeId) (x y : Operand) (ho : op.op = .store ty x y) (hx : a.eval x = .pointer (some ⟨b, o, none⟩)) (v : Value) (hy : a.eval y = v) (hc : IsS w b t cs)
    (hk : o < cs.length) (hi : (Tryd.prog.info? ty).map (·.size) = some 1) (h1 : v.oneCell' = true)
    (h : ∀ W, Upd w W b → IsS W b t (cs.set o v) → wpList Tryd.prog ops Q rest (a.put op.dst undef) W) : wpList Tryd.prog ops Q (op :: rest) a w := by
  refine wpList_plain hgd fun K hK => ?_
  unfold Oper.wp execOp
  simp only [ho, hx, hy, Instr.storeAt, Instr.sureAddr, Sem.run_bind, Sem.run_pure, Result.andThen_ok, run_store1 w b o ty v (hc.there o 1 (by omega)) hi h1]
  exact hK _ _ (h _ (Upd.setCell w b o v) (hc.set1 o v))
theorem wpList_boxS (hgd : op.guard = none) (ty : TypeId) (x : Operand) (ho : op.op = .box ty x) (vs : List Value) (hx : a.eval x = .agg vs.toArray)
    (h : ∀ W b, Fresh w W b → IsS W b ty vs → wpList Tryd.prog ops Q rest (a.put op.dst (.pointer (some ⟨b, 0, none⟩))) W) : wpList Tryd.prog ops Q (op :: rest) a w := by
  refine wpList_plain hgd fun K hK => ?_
  unfold Oper.wp execOp
  simp only [ho, hx]
  have hb : (Instr.box ty (.agg vs.toArray)).run Tryd.prog w = .ok (.pointer (some ⟨w.heap.size, 0, none⟩)) (w.alloc (.cells vs.toArray ty)) := by
    simp [go_sem, Value.cells]
  simp only [Sem.run_bind, hb, Result.andThen_ok, Sem.run_pure]
  exact hK _ _ (h _ _ (Fresh.alloc w _) (IsS.new w ty vs))
theorem run_allocS (ty : TypeId) (vs : List Value) (hz : ∀ w, (zeroValue ty).run Tryd.prog w = .ok (.agg vs.toArray) w) (ho : op.op = .alloc ty) (a : Act) (w : World) :
    (execOp a.eval op).run Tryd.prog w = .ok (.value (.pointer (some ⟨w.heap.size, 0, none⟩))) (w.alloc (.cells vs.toArray ty)) := by
  unfold execOp
  simp [ho, go_sem, Value.cells, hz]
theorem wpList_allocS (hgd : op.guard = none) (ty : TypeId) (ho : op.op = .alloc ty) (vs : List Value) (hz : ∀ w, (zeroValue ty).run Tryd.prog w = .ok (.agg vs.toArray) w)
    (h : ∀ W b, Fresh w W b → IsS W b ty vs → wpList Tryd.prog ops Q rest (a.put op.dst (.pointer (some ⟨b, 0, none⟩))) W) : wpList Tryd.prog ops Q (op :: rest) a w := by
  refine wpList_plain hgd fun K hK => ?_
  unfold Oper.wp
  rw [run_allocS ty vs hz ho a w]
  exact hK _ _ (h _ _ (Fresh.alloc w _) (IsS.new w ty vs))
end
theorem ret_S {w : World} {b t : Nat} {cs : List Value} {fn : Func} {p : Tmp} {R : Ending → World → Prop} {a : Act} (h : fn.results = #[.cell p t]) (hp : a.tmps.getD p undef = .pointer (some ⟨b, 0, none⟩))
    (hd : a.defers = []) (hc : IsS w b t cs) (d : TypeDesc) (hu : Tryd.prog.underlying t = some d) (hr : (match d with | .struct _ => true | .array _ _ => true | _ => false) = true) (hi : (Tryd.prog.info? t).map (·.size) = some cs.length) (hR : R (.returned (.agg cs.toArray)) w) : bodyPost Tryd.prog fn R .ret a w := by
  have hc' : w.heap[b]? = some (.cells cs.toArray t (0, 0)) := hc
  exact ⟨hd, _, results_cell_row h a.tmps w b t cs.toArray (0, 0) d hp hc' hu (by cases d <;> simp_all) (by simpa using hi), hR⟩

/-- A block of a type's zero is made at any time. -/
def MadeS (t : Nat) (cs : List Value) (W : World) (v : Value) (w : World) : Prop := Below W.heap.size W w ∧ ∃ b, v = .pointer (some ⟨b, 0, none⟩) ∧ W.heap.size ≤ b ∧ IsS w b t cs
theorem madeS_grown (t : Nat) (cs : List Value) (W : World) (v : Value) : Grown W (MadeS t cs W v) :=
  ⟨fun _ h => h.1, fun w w' ⟨h1, b, h2, h3, h4⟩ k => ⟨h1.trans (k.mono h1.size), b, h2, h3, h4.grown k⟩⟩
theorem madeS_make {mo : Oper} (t : Nat) (cs : List Value) (hz : ∀ w, (zeroValue t).run Tryd.prog w = .ok (.agg cs.toArray) w) (ho : mo.op = .alloc t) (W : World) (a : Act) (w : World) (h : Below W.heap.size W w) :
    ∃ v w', (execOp a.eval mo).run Tryd.prog w = .ok (.value v) w' ∧ MadeS t cs W v w' :=
  ⟨_, _, run_allocS t cs hz ho a w, h.alloc h.size _, w.heap.size, rfl, h.size, IsS.new w t cs⟩
section
variable {ops : Array Oper} {W : World} {Q : Act → Prop} {rest : List Oper} {op : Oper} {a : Act} {b t o : Nat} {cs : List Value}
theorem wpG_load1 (hw : Region.wanted op (yielded ops a.tmps) = true) (ty : TypeId) (x : Operand) (ho : op.op = .load ty x) (hx : a.eval x = .pointer (some ⟨b, o, none⟩)) (hc : IsS W b t cs) {v : Value} (hv : cs[o]? = some v)
    (hl : ∀ w, w.cell? ⟨b, o, none⟩ = some v → (Instr.loadAt ty (.pointer (some ⟨b, o, none⟩))).run Tryd.prog w = .ok v w)
    (h : wpG Tryd.prog ops W Q rest (a.put op.dst v)) : wpG Tryd.prog ops W Q (op :: rest) a :=
  wpG_value hw (fun w hB => by
    unfold execOp
    simp only [ho, hx, Sem.run_bind, hl w (((hc.grown hB).cell o).trans hv), Result.andThen_ok, Sem.run_pure]) h
theorem wpG_loadS (hw : Region.wanted op (yielded ops a.tmps) = true) (ty : TypeId) (x : Operand) (ho : op.op = .load ty x) (hx : a.eval x = .pointer (some ⟨b, o, none⟩)) (hc : IsS W b t cs) (k : Nat) (d : TypeDesc)
    (hu : Tryd.prog.underlying ty = some d) (hd : d.isRow = true) (hi : (Tryd.prog.info? ty).map (·.size) = some ((cs.drop o).take k).length)
    (h : wpG Tryd.prog ops W Q rest (a.put op.dst (.agg ((cs.drop o).take k).toArray))) : wpG Tryd.prog ops W Q (op :: rest) a :=
  wpG_value hw (fun w hB => by
    unfold execOp
    simp only [ho, hx, Sem.run_bind, run_loadAt_mid w b o ty _ d ((hc.grown hB).range o k) hu hd hi, Result.andThen_ok, Sem.run_pure]) h
end
theorem ld3 {b o : Nat} {v : Value} (w : World) (h : w.cell? ⟨b, o, none⟩ = some v) : (Instr.loadAt 3 (.pointer (some ⟨b, o, none⟩))).run Tryd.prog w = .ok v w := by simp [go_sem, h]
theorem ld9 {b o : Nat} {v : Value} (w : World) (h : w.cell? ⟨b, o, none⟩ = some v) : (Instr.loadAt 9 (.pointer (some ⟨b, o, none⟩))).run Tryd.prog w = .ok v w := by simp [go_sem, h]
theorem ld2 {b o : Nat} {v : Value} (w : World) (h : w.cell? ⟨b, o, none⟩ = some v) : (Instr.loadAt 2 (.pointer (some ⟨b, o, none⟩))).run Tryd.prog w = .ok v w := by simp [go_sem, h]
theorem ldE {b o : Nat} {v : Value} (w : World) (h : w.cell? ⟨b, o, none⟩ = some v) : (Instr.loadAt 32 (.pointer (some ⟨b, o, none⟩))).run Tryd.prog w = .ok v w := by simp [go_sem, h]
theorem info3 : (Tryd.prog.info? 3).map (·.size) = some 1 := by kernel_rfl
theorem info9 : (Tryd.prog.info? 9).map (·.size) = some 1 := by kernel_rfl
theorem info2 : (Tryd.prog.info? 2).map (·.size) = some 1 := by kernel_rfl
theorem infoE : (Tryd.prog.info? 32).map (·.size) = some 1 := by kernel_rfl
end Go.Proofs.YtdjlfpkemdiadaaDoor
/- Regions that draw their order, boxed; slices that are made; a row that is owned, cut. -/
namespace Go.Proofs.YtdjlfpkemdiadaaDoor
open Go.RowKit M
set_option linter.unusedSimpArgs false
set_option linter.unusedVariables false

theorem cell_grow {W W' : World} {b o : Nat} {v : Value} (h : W.cell? ⟨b, o, none⟩ = some v) (hB : Below W.heap.size W W') : W'.cell? ⟨b, o, none⟩ = some v :=
  (hB.cell (p := ⟨b, o, none⟩) (World.block_lt_of_cell? W _ h)).trans h
theorem wpG_cell {ops : Array Oper} {W : World} {Q : Act → Prop} {rest : List Oper} {op : Oper} {a : Act} {b o : Nat} (hw : Region.wanted op (yielded ops a.tmps) = true) (ty : TypeId) (x : Operand) (ho : op.op = .load ty x) (hx : a.eval x = .pointer (some ⟨b, o, none⟩)) {v : Value} (hc : W.cell? ⟨b, o, none⟩ = some v)
    (hl : ∀ w, w.cell? ⟨b, o, none⟩ = some v → (Instr.loadAt ty (.pointer (some ⟨b, o, none⟩))).run Tryd.prog w = .ok v w)
    (h : wpG Tryd.prog ops W Q rest (a.put op.dst v)) : wpG Tryd.prog ops W Q (op :: rest) a :=
  wpG_value hw (fun w hB => by
    unfold execOp
    simp only [ho, hx, Sem.run_bind, hl w (cell_grow hc hB), Result.andThen_ok, Sem.run_pure]) h
theorem wpG_range {ops : Array Oper} {W : World} {Q : Act → Prop} {rest : List Oper} {op : Oper} {a : Act} {b o : Nat} (hw : Region.wanted op (yielded ops a.tmps) = true) (ty : TypeId) (x : Operand) (ho : op.op = .load ty x) (hx : a.eval x = .pointer (some ⟨b, o, none⟩)) (cs : List Value) (hb : b < W.heap.size) (hc : W.rangeAt b o cs) (d : TypeDesc)
    (hu : Tryd.prog.underlying ty = some d) (hd : d.isRow = true) (hi : (Tryd.prog.info? ty).map (·.size) = some cs.length)
    (h : wpG Tryd.prog ops W Q rest (a.put op.dst (.agg cs.toArray))) : wpG Tryd.prog ops W Q (op :: rest) a :=
  wpG_value hw (fun w hB => by
    unfold execOp
    simp only [ho, hx, Sem.run_bind, run_loadAt_mid w b o ty _ d (fun j v hv => (hB.cell (p := ⟨b, o + j, none⟩) hb).trans (hc j v hv)) hu hd hi, Result.andThen_ok, Sem.run_pure]) h
/-- The walk through a region, boxed: where some operations on end are not wanted, the rest would else be worked out at every step. -/
structure WG (ops : Array Oper) (W : World) (Q : Act → Prop) (l : List Oper) (a : Act) : Prop where
  out : wpG Tryd.prog ops W Q l a
section
variable {ops : Array Oper} {W : World} {Q : Act → Prop} {rest : List Oper} {op : Oper} {a : Act}
theorem WG.nil (h : Q a) : WG ops W Q [] a := ⟨wpG_nil h⟩
theorem WG.put (hw : Region.wanted op (yielded ops a.tmps) = true) {v : Value} (hr : ∀ w, (execOp a.eval op).run Tryd.prog w = .ok (.value v) w) (h : WG ops W Q rest (a.put op.dst v)) : WG ops W Q (op :: rest) a := ⟨wpG_put hw hr h.out⟩
theorem WG.skip (hw : Region.wanted op (yielded ops a.tmps) = false) (h : WG ops W Q rest (a.put op.dst undef)) : WG ops W Q (op :: rest) a := ⟨wpG_skip hw h.out⟩
theorem WG.call (hw : Region.wanted op (yielded ops a.tmps) = true) {f : FuncId} {args : Array Value} {v : Value} (hC : ∀ w, Below W.heap.size W w → Calls Tryd.prog f args w fun e w' => e = .returned v ∧ Below w.heap.size w w') (hr : ∀ w, (execOp a.eval op).run Tryd.prog w = .ok (.enter f args) w) (h : WG ops W Q rest (a.put op.dst v)) : WG ops W Q (op :: rest) a := ⟨wpG_call hw hC hr h.out⟩
theorem WG.load1 {b t o : Nat} {cs : List Value} (hw : Region.wanted op (yielded ops a.tmps) = true) (ty : TypeId) (x : Operand) (ho : op.op = .load ty x) (hx : a.eval x = .pointer (some ⟨b, o, none⟩)) (hc : IsS W b t cs) {v : Value} (hv : cs[o]? = some v)
    (hl : ∀ w, w.cell? ⟨b, o, none⟩ = some v → (Instr.loadAt ty (.pointer (some ⟨b, o, none⟩))).run Tryd.prog w = .ok v w) (h : WG ops W Q rest (a.put op.dst v)) : WG ops W Q (op :: rest) a := ⟨wpG_load1 hw ty x ho hx hc hv hl h.out⟩
theorem WG.cell {b o : Nat} (hw : Region.wanted op (yielded ops a.tmps) = true) (ty : TypeId) (x : Operand) (ho : op.op = .load ty x) (hx : a.eval x = .pointer (some ⟨b, o, none⟩)) {v : Value} (hc : W.cell? ⟨b, o, none⟩ = some v)
    (hl : ∀ w, w.cell? ⟨b, o, none⟩ = some v → (Instr.loadAt ty (.pointer (some ⟨b, o, none⟩))).run Tryd.prog w = .ok v w) (h : WG ops W Q rest (a.put op.dst v)) : WG ops W Q (op :: rest) a := ⟨wpG_cell hw ty x ho hx hc hl h.out⟩
theorem WG.range {b o : Nat} (hw : Region.wanted op (yielded ops a.tmps) = true) (ty : TypeId) (x : Operand) (ho : op.op = .load ty x) (hx : a.eval x = .pointer (some ⟨b, o, none⟩)) (cs : List Value) (hb : b < W.heap.size) (hc : W.rangeAt b o cs) (d : TypeDesc)
    (hu : Tryd.prog.underlying ty = some d) (hd : d.isRow = true) (hi : (Tryd.prog.info? ty).map (·.size) = some cs.length) (h : WG ops W Q rest (a.put op.dst (.agg cs.toArray))) : WG ops W Q (op :: rest) a := ⟨wpG_range hw ty x ho hx cs hb hc d hu hd hi h.out⟩
end
theorem WG.row {ops : Array Oper} {W : World} {Q : Act → Prop} {rest : List Oper} {op : Oper} {a : Act} {b t : Nat} {cs : List Value} (hw : Region.wanted op (yielded ops a.tmps) = true) (ty : TypeId) (x : Operand) (ho : op.op = .load ty x) (hx : a.eval x = .pointer (some ⟨b, 0, none⟩)) (hc : IsS W b t cs) (sub : List Value) (hsub : cs = sub) (d : TypeDesc)
    (hu : Tryd.prog.underlying ty = some d) (hd : d.isRow = true) (hi : (Tryd.prog.info? ty).map (·.size) = some sub.length) (h : WG ops W Q rest (a.put op.dst (.agg sub.toArray))) : WG ops W Q (op :: rest) a := by
  subst hsub
  have := hc.range 0 cs.length
  rw [List.drop_zero, List.take_length] at this
  exact WG.range hw ty x ho hx cs hc.lt this d hu hd hi h
theorem grow_allW {id : Nat} {Q : Exit → Act → World → Prop} {a : Act} {W : World} {l : List Oper} (hm : Tryd.prog.follows .mixedOrders = true) (hB : Region.lexB .any l.toArray = true)
    (h : WG l.toArray W (fun a' => ∀ w', Below W.heap.size W w' → Q .normal a' w') l a) : (Code.region id l.toArray true).wp Tryd.prog Q a W := grow_all hm hB h.out

def intsL (f : List Int) : List Value := f.map (Value.int .i64)
theorem ints_one (f : List Int) : ∀ v ∈ intsL f, v.oneCell' = true := by
  intro v hv
  obtain ⟨k, _, rfl⟩ := List.mem_map.1 hv
  rfl
theorem intsL_len (f : List Int) : (intsL f).length = f.length := by simp [intsL]
theorem intsL_set (f : List Int) (j : Nat) (k : Int) : (intsL f).set j (.int .i64 k) = intsL (f.set j k) := by simp [intsL, List.map_set]
theorem intsL_get {f : List Int} {j : Nat} {k : Int} (h : f[j]? = some k) : (intsL f)[j]? = some (.int .i64 k) := by simp [intsL, h]
theorem parts3 : ∃ i, Tryd.prog.info? 3 = some i ∧ i.zero = some (.int .i64 0) ∧ i.size = 1 ∧ i.bytes = 8 := by
  have h : (Tryd.prog.info? 3).map (fun i => (i.zero, i.size, i.bytes)) = some (some (.int .i64 0), 1, 8) := by kernel_rfl
  exact info_parts h
theorem made_ints (n : Nat) : madeCells (Value.int .i64 0).cells (n * 1) = (intsL (List.replicate n 0)).toArray := by
  apply Array.ext
  · simp [madeCells, intsL]
  · intro i h1 h2
    simp [madeCells, intsL, Value.cells, Nat.mod_one]
theorem wpList_makeI {w : World} {ops : Array Oper} {rest : List Oper} {op : Oper} {a : Act} {Q : Exit → Act → World → Prop} (hgd : op.guard = none) (l c : Operand) (ho : op.op = .makeSlice 48 l c) (n : Nat) (hn : n ≤ 16777216) (hl : a.eval l = .int .i64 (n : Int)) (hc : a.eval c = .int .i64 (n : Int))
    (h : ∀ W b, Fresh w W b → IsS W b 3 (intsL (List.replicate n 0)) → wpList Tryd.prog ops Q rest (a.put op.dst (.slice (some ⟨b, 0, none⟩) n n)) W) : wpList Tryd.prog ops Q (op :: rest) a w := by
  obtain ⟨i0, hi, hz0, hz1, hz2⟩ := parts3
  refine wpList_plain hgd fun K hK => ?_
  have hr := run_make (P := Tryd.prog) w 48 3 i0 (.int .i64 0) Tryd.underlying48 hi hz0 .i64 .i64 n n (by omega) (by omega) (by rw [hz2]; omega) (by omega)
  unfold Oper.wp execOp
  simp only [ho, hl, hc, Sem.run_bind, hr, Result.andThen_ok, Sem.run_pure, hz1, made_ints, Int.toNat_natCast]
  exact hK _ _ (h _ _ (Fresh.alloc w _) (IsS.new w 3 _))
/-- The first part of a row that the call owns. -/
theorem ownsRow_take {w : World} {base : Nat} {e : TypeId} {size g cap n : Nat} {xs : List Value} (m : Nat) (hm : m ≤ n)
    (h : w.ownsRow base e size (.slice (some ⟨g, 0, none⟩) n cap) n xs) : w.ownsRow base e size (.slice (some ⟨g, 0, none⟩) m cap) m (xs.take (m * size)) := by
  obtain ⟨h1, h2⟩ := h
  rcases h2 with ⟨h0, _⟩ | ⟨g', cap', cur, hv, hg, hh, hn, hcap, hsz, htake⟩
  · cases h0
  · cases hv
    have hle : m * size ≤ n * size := Nat.mul_le_mul_right _ hm
    refine ⟨by rw [List.length_take, h1]; omega, .inr ⟨g, cap, cur, rfl, hg, hh, by omega, hcap, hsz, ?_⟩⟩
    rw [← htake, List.take_take, Nat.min_eq_left hle]
end Go.Proofs.YtdjlfpkemdiadaaDoor

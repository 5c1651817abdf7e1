/- A region that draws its order, whose head grows memory at most, one block of its own that is made at any time, and a tail in order: one walk in the text's order serves every order. -/
import Derived.Test.YtopnbemodlcknaaDoorZ0
import Derived.Below
namespace Go.Proofs.YtopnbemodlcknaaDoor
open Go Go.RowKit
set_option linter.unusedVariables false
set_option linter.unusedSimpArgs false

section
variable {P : Program} {ops : Array Oper} {md : Region.Mode}

/-- In every world that has grown out of W the operation yields v, and at most grows it. -/
def GrowsAt (P : Program) (W : World) (o : Oper) (a : Act) (v : Value) : Prop := ∀ w, Below W.heap.size W w → o.quietAt P a (fun w' => Below w.heap.size w w') w v
def growOp (P : Program) (ops : Array Oper) (W : World) (o : Oper) (K : Act → Prop) (a : Act) : Prop :=
  if Region.wanted o (yielded ops a.tmps) then ∃ v, GrowsAt P W o a v ∧ K (a.put o.dst v) else K (a.put o.dst undef)
/-- The walk in the text's order. -/
def wpG (P : Program) (ops : Array Oper) (W : World) (Q : Act → Prop) : List Oper → Act → Prop
  | [] => Q
  | o :: rest => growOp P ops W o (wpG P ops W Q rest)

/-- A class of worlds that growing does not leave. -/
structure Grown (W : World) (C : World → Prop) : Prop where
  from' : ∀ w, C w → Below W.heap.size W w
  more : ∀ w w', C w → Below w.heap.size w w' → C w'
theorem grown_all (W : World) : Grown W (fun w => Below W.heap.size W w) := ⟨fun _ h => h, fun w w' h k => h.trans (k.mono h.size)⟩

theorem quietAt_of_grows {W : World} {C : World → Prop} (hC : Grown W C) {o : Oper} {a : Act} {v : Value} (h : GrowsAt P W o a v) (w : World) (hw : C w) : o.quietAt P a C w v := by
  have h1 := h w (hC.from' w hw)
  unfold Oper.quietAt at h1 ⊢
  generalize (execOp a.eval o).run P w = r at h1 ⊢
  match r, h1 with
  | .ok (.value u) w', h1 => exact h1
  | .ok .skip w', h1 => exact h1
  | .ok (.enter f args) w', ⟨e, hc⟩ => exact ⟨e, hc.mono fun e' w'' h' => ⟨h'.1, hC.more _ _ hw h'.2⟩⟩
theorem quiet_of_grow {W : World} {C : World → Prop} (hC : Grown W C) {Q : Act → Prop} : ∀ (l : List Oper) (a : Act), wpG P ops W Q l a → wpQuiet P ops C Q l a
  | [], _, h => h
  | o :: l, a, h => by
    unfold wpG growOp at h
    unfold wpQuiet
    split
    · rename_i hw
      rw [if_pos hw] at h
      obtain ⟨v, h1, h2⟩ := h
      exact ⟨v, fun w hw' => quietAt_of_grows hC h1 w hw', quiet_of_grow hC l _ h2⟩
    · rename_i hw
      rw [if_neg hw] at h
      exact quiet_of_grow hC l _ h

/-- All at most grow. -/
theorem grow_all {id : Nat} {Q : Exit → Act → World → Prop} {a : Act} {W : World} {l : List Oper} (hm : P.follows .mixedOrders = true) (hB : Region.lexB .any l.toArray = true)
    (h : wpG P l.toArray W (fun a' => ∀ w', Below W.heap.size W w' → Q .normal a' w') l a) : (Code.region id l.toArray true).wp P Q a W :=
  wp_quiet_all (fun w => Below W.heap.size W w) hm hB ⟨rfl, rfl, rfl, Nat.le_refl _, fun _ _ => rfl⟩ (quiet_of_grow (grown_all W) l a h)
/-- A tail in order. -/
theorem grow_tail {id : Nat} {Q : Exit → Act → World → Prop} {a : Act} {W : World} {l : List Oper} (n : Nat) (hm : P.follows .mixedOrders = true) (hB : Region.lexTailB .any l.toArray n = true)
    (h : wpG P l.toArray W (fun a' => ∀ w', Below W.heap.size W w' → wpList P l.toArray Q (l.drop n) a' w') (l.take n) a) : (Code.region id l.toArray true).wp P Q a W :=
  wp_quiet_tail (fun w => Below W.heap.size W w) n hm hB ⟨rfl, rfl, rfl, Nat.le_refl _, fun _ _ => rfl⟩ (quiet_of_grow (grown_all W) _ a h)

/-- f operations of the head are still to come, in any order, whatever has grown. -/
def headG (P : Program) (md : Region.Mode) (ops : Array Oper) (W : World) (n : Nat) (L : Array Bool → Act → Prop) : Nat → Array Bool → Act → Prop
  | 0 => L
  | f + 1 => fun listed a => Region.ready md ops listed ≠ [] ∧ ∀ i, i ∈ Region.ready md ops listed → i < n ∧ ∃ o, ops[i]? = some o ∧ growOp P ops W o (headG P md ops W n L f (listed.setIfInBounds i true)) a

/-- What an operation leaves in its slot, whatever has grown. -/
def YieldsG (P : Program) (ops : Array Oper) (W : World) (o : Oper) (v : Value) (a : Act) : Prop :=
  (Region.wanted o (yielded ops a.tmps) = true ∧ GrowsAt P W o a v) ∨ (Region.wanted o (yielded ops a.tmps) = false ∧ v = undef)
theorem yieldsG_of {W : World} {o : Oper} {a : Act} {K : Act → Prop} (h : growOp P ops W o K a) : ∃ v, YieldsG P ops W o v a ∧ K (a.put o.dst v) := by
  unfold growOp at h
  by_cases hw : Region.wanted o (yielded ops a.tmps) = true
  · rw [if_pos hw] at h
    obtain ⟨v, h1, h2⟩ := h
    exact ⟨v, .inl ⟨hw, h1⟩, h2⟩
  · rw [if_neg hw] at h
    exact ⟨undef, .inr ⟨by simpa using hw, rfl⟩, h⟩
theorem YieldsG.grow {W : World} {o : Oper} {v : Value} {a : Act} {K : Act → Prop} (hy : YieldsG P ops W o v a) (h : K (a.put o.dst v)) : growOp P ops W o K a := by
  unfold growOp
  rcases hy with ⟨hw, hv⟩ | ⟨hw, rfl⟩
  · rw [if_pos hw]; exact ⟨v, hv, h⟩
  · rw [if_neg (by rw [hw]; simp)]; exact h
theorem growOp_mono {W : World} {o : Oper} {a : Act} {K K' : Act → Prop} (h : ∀ a, K a → K' a) (hh : growOp P ops W o K a) : growOp P ops W o K' a := by
  obtain ⟨v, hy, hk⟩ := yieldsG_of hh
  exact hy.grow (h _ hk)
/-- Whether oi's value lies in its slot already makes no difference to oj, nor the other way about. -/
theorem growOp_put {W : World} {oi oj : Oper} {v : Value} (hap : oi.apart ops oj = true) (hsi : ∀ cs b, oi.op ≠ .select cs b) (hsj : ∀ cs b, oj.op ≠ .select cs b) {K : Act → Prop} {a : Act}
    (hy : YieldsG P ops W oi v a) (h : growOp P ops W oj K (a.put oi.dst v)) : growOp P ops W oj (fun a' => YieldsG P ops W oi v a' ∧ K (a'.put oi.dst v)) a := by
  obtain ⟨h1, h2, h3⟩ := Oper.apart_spec hap
  obtain ⟨u, hu, hk⟩ := yieldsG_of h
  have hu' : YieldsG P ops W oj u a := by
    unfold YieldsG GrowsAt Oper.quietAt at hu ⊢
    rw [execOp_put oj hsj a oi.dst v h1, wanted_put oj a oi.dst v h1] at hu
    exact hu
  refine hu'.grow ⟨?_, ?_⟩
  · unfold YieldsG GrowsAt Oper.quietAt at hy ⊢
    rw [execOp_put oi hsi a oj.dst u h3, wanted_put oi a oj.dst u h3]
    exact hy
  · rw [← Act.put_comm a v u h2]
    exact hk

theorem head_firstG {W : World} {n i : Nat} {oi : Oper} {v : Value} {L : Array Bool → Act → Prop} (hi : ops[i]? = some oi) (hsel : ∀ (j : Nat) (o : Oper) cs b, ops[j]? = some o → o.op ≠ .select cs b)
    (hs : Region.sinkB md ops n = true) (hc : Region.chainB md ops n = true) (hn : n < ops.size) (hin : i < n)
    (hdone : ∀ listed a, L listed a → ∀ j ∈ Region.ready md ops listed, n ≤ j) (f : Nat) :
    ∀ (listed : Array Bool) (a : Act), HeadInv md ops n listed →
      (∀ j oj, ops[j]? = some oj → j ≠ i → listed.getD j true = false → (∀ e ∈ oj.after, Region.binds md e = true → e.on ≠ i) → oi.apart ops oj = true) →
      i ∈ Region.ready md ops listed → YieldsG P ops W oi v a →
      headG P md ops W n L f (listed.setIfInBounds i true) (a.put oi.dst v) → headG P md ops W n L (f + 1) listed a := by
  have small : ∀ (listed : Array Bool), HeadInv md ops n listed → i ∈ Region.ready md ops listed → ∀ j, j ∈ Region.ready md ops listed → j < n := by
    intro listed inv hr j hj
    by_cases h : j < n
    · exact h
    · exact absurd hj (tail_waits hs hc hn inv _ i rfl hin (mem_ready.1 hr).1 j (by omega))
  induction f with
  | zero =>
    intro listed a inv free hr hy H
    refine ⟨List.ne_nil_of_mem hr, fun j hj => ⟨small listed inv hr j hj, ?_⟩⟩
    by_cases same : j = i
    · rw [same]
      exact ⟨oi, hi, hy.grow H⟩
    · have h1 := hdone _ _ H j (ready_mono hj same)
      have h2 := small listed inv hr j hj
      omega
  | succ f ih =>
    intro listed a inv free hr hy H
    refine ⟨List.ne_nil_of_mem hr, fun j hj => ⟨small listed inv hr j hj, ?_⟩⟩
    by_cases same : j = i
    · rw [same]
      exact ⟨oi, hi, hy.grow H⟩
    · obtain ⟨oj', hoj', later⟩ := (H.2 j (ready_mono hj same)).2
      obtain ⟨open_j, oj, hoj, waits⟩ := mem_ready.1 hj
      obtain rfl : oj' = oj := Option.some.inj (hoj'.symm.trans hoj)
      have apart : ∀ e ∈ oj'.after, Region.binds md e = true → e.on ≠ i := by
        intro e he hb on_i
        have was := waits e he hb
        rw [on_i, getD_both (mem_ready.1 hr).1] at was
        cases was
      have swapped := growOp_put (free j oj' hoj same open_j apart) (fun cs b => hsel i oi cs b hi) (fun cs b => hsel j oj' cs b hoj) hy later
      refine ⟨oj', hoj, growOp_mono (fun a' both => ih (listed.setIfInBounds j true) a' (inv.set hj (small listed inv hr j hj)) ?_ (ready_mono hr (Ne.symm same)) both.1 ?_) swapped⟩
      · intro k ok hk hki unlisted hno
        refine free k ok hk hki ?_ hno
        by_cases hjk : j = k
        · rw [← hjk]; exact open_j
        · rwa [getD_set_ne true hjk] at unlisted
      · rw [Array.setIfInBounds_comm _ _ same]
        exact both.2

/-- The head's operations in the text's order; m: the first of the tail; g: how many they are. -/
def lexM (md : Region.Mode) (ops : Array Oper) (g m : Nat) : Nat → Nat → Array Bool → Bool
  | 0, _, listed => Region.seqB md ops g m listed
  | f + 1, k, listed => (Region.ready md ops listed).contains k && Region.free md ops listed k && lexM md ops g m f (k + 1) (listed.setIfInBounds k true)

theorem head_lexG {W : World} {m g : Nat} {Lq : Act → Prop} (hsel : Region.noSelect ops = true) (hs : Region.sinkB md ops m = true) (hc : Region.chainB md ops m = true) (hm : m < ops.size) (l : List Oper) :
    ∀ (k : Nat) (listed : Array Bool) (a : Act), (∀ j, j < l.length → l[j]? = ops[k + j]?) → k + l.length ≤ m → HeadInv md ops m listed →
    lexM md ops g m l.length k listed = true → wpG P ops W Lq l a →
    headG P md ops W m (fun listed' a' => Region.seqB md ops g m listed' = true ∧ Lq a') l.length listed a := by
  induction l with
  | nil =>
    intro k listed a _ _ _ hB h
    exact ⟨hB, h⟩
  | cons o l ih =>
    intro k listed a hl hk inv hB h
    have here : ops[k]? = some o := (hl 0 (Nat.zero_lt_succ _)).symm
    rw [List.length_cons] at hk
    rw [List.length_cons, lexM, Bool.and_eq_true, Bool.and_eq_true] at hB
    have hr : k ∈ Region.ready md ops listed := by simpa using hB.1.1
    have hkm : k < m := by omega
    obtain ⟨v, hy, more⟩ := yieldsG_of h
    refine head_firstG here (Region.noSelect_spec hsel) hs hc hm hkm (fun listed' a' hL => seqB_ready hL.1) l.length listed a inv (Region.free_spec here hB.1.2) hr hy ?_
    refine ih (k + 1) _ _ (fun j hj => ?_) (by omega) (inv.set hr hkm) hB.2 more
    have := hl (j + 1) (Nat.succ_lt_succ hj)
    rw [List.getElem?_cons_succ] at this
    rw [this]
    congr 1
    omega

/-- The made block's address may lie in its slot already. -/
theorem head_put {W : World} {m k : Nat} {mo : Oper} {v : Value} {L L' : Array Bool → Act → Prop} (hsel : ∀ (j : Nat) (o : Oper) cs b, ops[j]? = some o → o.op ≠ .select cs b) (hk : ops[k]? = some mo)
    (hap : ∀ j oj, j < m → j ≠ k → ops[j]? = some oj → mo.apart ops oj = true) (hL : ∀ listed a, L listed a → L' listed (a.put mo.dst v)) (f : Nat) :
    ∀ (listed : Array Bool) (a : Act), listed.getD k true = true → headG P md ops W m L f listed a → headG P md ops W m L' f listed (a.put mo.dst v) := by
  induction f with
  | zero => intro listed a _ h; exact hL _ _ h
  | succ f ih =>
    intro listed a hl h
    refine ⟨h.1, fun i hi => ?_⟩
    obtain ⟨him, o, ho, hg⟩ := h.2 i hi
    have hik : i ≠ k := by
      intro e
      have := (mem_ready.1 hi).1
      rw [e, hl] at this
      cases this
    refine ⟨him, o, ho, ?_⟩
    obtain ⟨h1, h2, h3⟩ := Oper.apart_spec (hap i o him hik ho)
    obtain ⟨u, hu, hn⟩ := yieldsG_of hg
    have hu' : YieldsG P ops W o u (a.put mo.dst v) := by
      unfold YieldsG GrowsAt Oper.quietAt at hu ⊢
      rw [execOp_put o (fun cs b => hsel i o cs b ho) a mo.dst v h1, wanted_put o a mo.dst v h1]
      exact hu
    refine hu'.grow ?_
    rw [Act.put_comm a v u h2]
    exact ih _ _ (by rw [getD_set_ne true (fun e => hik e)]; exact hl) hn

theorem any_of_headG {W : World} {C : World → Prop} (hC : Grown W C) {n g : Nat} {L : Array Bool → Act → Prop} {Q' : Exit → Act → World → Prop} (hL : ∀ listed a w, C w → L listed a → wpAny P md ops Q' g listed a w) (f : Nat) :
    ∀ (listed : Array Bool) (a : Act) (w : World), C w → headG P md ops W n L f listed a → wpAny P md ops Q' (f + g) listed a w := by
  induction f with
  | zero =>
    intro listed a w hc h
    have := hL listed a w hc h
    rwa [Nat.zero_add]
  | succ f ih =>
    intro listed a w hc h
    have e : f + 1 + g = f + g + 1 := Nat.add_right_comm f 1 g
    rw [e]
    refine ⟨fun none => (h.1 none).elim, fun i hi => ?_⟩
    obtain ⟨_, o, ho, hg⟩ := h.2 i hi
    refine wpOp_of_qOp (K := headG P md ops W n L f (listed.setIfInBounds i true)) hc (fun a' w' hw' more => ih _ a' w' hw' more) ?_
    unfold qOp
    rw [ho]
    unfold growOp at hg
    dsimp only
    split
    · rename_i hw
      rw [if_pos hw] at hg
      obtain ⟨v, h1, h2⟩ := hg
      exact ⟨v, fun w hw' => quietAt_of_grows hC h1 w hw', h2⟩
    · rename_i hw
      rw [if_neg hw] at hg
      exact hg

/-- The block has not been made yet. -/
theorem any_before {W : World} {m k g : Nat} {mo : Oper} {Q' : Exit → Act → World → Prop} {L : Array Bool → Act → Prop} {D : Value → World → Prop} (hsel : ∀ (j : Nat) (o : Oper) cs b, ops[j]? = some o → o.op ≠ .select cs b)
    (hk : ops[k]? = some mo) (hkm : k < m) (hgd : mo.guard = none) (hmake : ∀ (a : Act) (w : World), Below W.heap.size W w → ∃ v w', (execOp a.eval mo).run P w = .ok (.value v) w' ∧ D v w') (hD : ∀ v, Grown W (D v))
    (hap : ∀ j oj, j < m → j ≠ k → ops[j]? = some oj → mo.apart ops oj = true) (hwait : Region.waitsFor md ops m k = true)
    (hseq : ∀ listed a, L listed a → ∀ j ∈ Region.ready md ops listed, j = m)
    (hL : ∀ v listed a w, D v w → L listed a → wpAny P md ops Q' g listed (a.put mo.dst v) w) (f : Nat) :
    ∀ (listed : Array Bool) (a : Act) (w : World), Below W.heap.size W w → k ∈ Region.ready md ops listed → headG P md ops W m L f (listed.setIfInBounds k true) a → wpAny P md ops Q' (f + 1 + g) listed a w := by
  have made : ∀ (f : Nat) (listed : Array Bool) (a : Act) (w : World), Below W.heap.size W w → k ∈ Region.ready md ops listed → headG P md ops W m L f (listed.setIfInBounds k true) a →
      wpOp P ops Q' k (wpAny P md ops Q' (f + g) (listed.setIfInBounds k true)) a w := by
    intro f listed a w hw hr H
    obtain ⟨v, w', hrun, hd⟩ := hmake a w hw
    unfold wpOp
    rw [hk]
    dsimp only
    have hwant : Region.wanted mo (yielded ops a.tmps) = true := by unfold Region.wanted; rw [hgd]
    rw [if_pos hwant]
    refine Or.inl ?_
    unfold Oper.wp
    rw [hrun]
    have hls : (listed.setIfInBounds k true).getD k true = true := by
      by_cases hlt : k < listed.size
      · simp [hlt]
      · simp [hlt]
    exact any_of_headG (hD v) (L := fun listed' a'' => ∃ a', a'' = a'.put mo.dst v ∧ L listed' a') (fun listed' a'' w'' hw'' ⟨a', e, h⟩ => by rw [e]; exact hL v listed' a' w'' hw'' h) f _ _ w' hd
      (head_put hsel hk hap (fun listed' a' h => ⟨a', rfl, h⟩) f _ a hls H)
  induction f with
  | zero =>
    intro listed a w hw hr H
    have e : 0 + 1 + g = 0 + g + 1 := by omega
    rw [e]
    refine ⟨fun none => absurd hr (by rw [none]; simp), fun i hi => ?_⟩
    by_cases same : i = k
    · rw [same]
      exact made 0 listed a w hw hr H
    · exfalso
      have him := hseq _ _ H i (ready_mono hi same)
      obtain ⟨oj, hoj, ed, he, hb, hon⟩ := Region.waitsFor_spec hwait
      rw [him] at hi
      obtain ⟨_, o', ho', hall⟩ := mem_ready.1 hi
      obtain rfl : o' = oj := Option.some.inj (ho'.symm.trans hoj)
      have h1 := hall ed he hb
      rw [hon, getD_both (mem_ready.1 hr).1] at h1
      cases h1
  | succ f ih =>
    intro listed a w hw hr H
    have e : f + 1 + 1 + g = f + 1 + g + 1 := by omega
    rw [e]
    refine ⟨fun none => absurd hr (by rw [none]; simp), fun i hi => ?_⟩
    by_cases same : i = k
    · rw [same]
      exact made (f + 1) listed a w hw hr H
    · obtain ⟨_, o, ho, hg⟩ := H.2 i (ready_mono hi same)
      refine wpOp_of_qOp (C := fun w => Below W.heap.size W w) (K := headG P md ops W m L f ((listed.setIfInBounds k true).setIfInBounds i true)) hw (fun a' w' hw' more => ih _ a' w' hw' (ready_mono hr (Ne.symm same)) ?_) ?_
      · rw [Array.setIfInBounds_comm _ _ same]
        exact more
      · unfold qOp
        rw [ho]
        unfold growOp at hg
        dsimp only
        split
        · rename_i hw'
          rw [if_pos hw'] at hg
          obtain ⟨v, h1, h2⟩ := hg
          exact ⟨v, fun w hw' => quietAt_of_grows (grown_all W) h1 w hw', h2⟩
        · rename_i hw'
          rw [if_neg hw'] at hg
          exact hg

/-- What the region must be: n operations, then the one that makes a block, then the tail. -/
def makeB (md : Region.Mode) (ops : Array Oper) (n : Nat) : Bool :=
  Region.noSelect ops && decide (n + 1 < ops.size) && Region.sinkB md ops (n + 1) && Region.chainB md ops (n + 1) && Region.waitsFor md ops (n + 1) n
    && (Region.ready md ops (Array.replicate ops.size false)).contains n && Region.free md ops (Array.replicate ops.size false) n
    && (List.range n).all (fun j => !Region.waitsFor md ops j n)
    && lexM md ops (ops.size - (n + 1)) (n + 1) n 0 ((Array.replicate ops.size false).setIfInBounds n true)

theorem seqB_first {g m : Nat} {listed : Array Bool} (hg : 0 < g) (h : Region.seqB md ops g m listed = true) : ∀ j ∈ Region.ready md ops listed, j = m := by
  cases g with
  | zero => omega
  | succ g =>
    intro j hj
    simp only [Region.seqB, Bool.and_eq_true, decide_eq_true_eq] at h
    rw [h.1] at hj
    simpa using hj

/-- One block is made, of its own, at any time. -/
theorem grow_make {id : Nat} {Q : Exit → Act → World → Prop} {a : Act} {W : World} {l : List Oper} (n : Nat) (mo : Oper) (D : Value → World → Prop) (hm : P.follows .mixedOrders = true) (hB : makeB .any l.toArray n = true)
    (hk : l[n]? = some mo) (hgd : mo.guard = none) (hD : ∀ v, Grown W (D v))
    (hmake : ∀ (a : Act) (w : World), Below W.heap.size W w → ∃ v w', (execOp a.eval mo).run P w = .ok (.value v) w' ∧ D v w')
    (h : wpG P l.toArray W (fun a' => ∀ v w', D v w' → wpList P l.toArray Q (l.drop (n + 1)) (a'.put mo.dst v) w') (l.take n) a) : (Code.region id l.toArray true).wp P Q a W := by
  unfold makeB at hB
  simp only [Bool.and_eq_true, decide_eq_true_eq] at hB
  obtain ⟨⟨⟨⟨⟨⟨⟨⟨hsel, hn⟩, hs⟩, hc⟩, hwait⟩, hr⟩, hfree⟩, hno⟩, hlex⟩ := hB
  have hn' : n + 1 < l.length := by simpa using hn
  have hk' : l.toArray[n]? = some mo := by simpa using hk
  have hr' : n ∈ Region.ready .any l.toArray (Array.replicate l.toArray.size false) := by simpa using hr
  have len1 : (l.take n).length = n := List.length_take_of_le (by omega)
  have len2 : (l.drop (n + 1)).length = l.toArray.size - (n + 1) := by rw [List.length_drop]; simp
  have hap : ∀ j oj, j < n + 1 → j ≠ n → l.toArray[j]? = some oj → mo.apart l.toArray oj = true := by
    intro j oj hj hjn hoj
    have hlt : j < l.toArray.size := (Array.getElem?_eq_some_iff.1 hoj).1
    refine Region.free_spec hk' hfree j oj hoj hjn (getD_in (by simpa using hlt) (getD_replicate_false _ _)) (fun e he hb hon => ?_)
    have h1 := List.all_eq_true.1 hno j (by simp; omega)
    have h2 : Region.waitsFor .any l.toArray j n = true := by
      unfold Region.waitsFor
      rw [hoj]
      exact Array.any_eq_true'.2 ⟨e, he, by simp [hb, hon]⟩
    rw [h2] at h1
    cases h1
  have inv := (nothing_listed (md := .any) (ops := l.toArray) (n + 1)).set hr' (Nat.lt_succ_self n)
  have lex : lexM .any l.toArray (l.toArray.size - (n + 1)) (n + 1) (l.take n).length 0 ((Array.replicate l.toArray.size false).setIfInBounds n true) = true := by rw [len1]; exact hlex
  have head := head_lexG (P := P) (W := W) hsel hs hc hn (l.take n) 0 _ a (fun j hj => by
    rw [len1] at hj
    rw [List.getElem?_take_of_lt hj]
    simp) (by rw [len1]; omega) inv lex h
  have grown : Below W.heap.size W { W with drawn := W.drawn + 1 } := ⟨rfl, rfl, rfl, Nat.le_refl _, fun _ _ => rfl⟩
  have whole := any_before (Q' := Q) (g := l.toArray.size - (n + 1)) (Region.noSelect_spec hsel) hk' (Nat.lt_succ_self n) hgd hmake hD hap hwait (fun listed a' hL => seqB_first (by omega) hL.1)
    (fun v listed a' w hw hL => by
      rw [← len2]
      rw [← len2] at hL
      exact wpAny_of_seq (l.drop (n + 1)) (n + 1) listed _ w (fun j => by simp) hL.1 (hL.2 v w hw)) _ _ a _ grown hr' head
  have total : (l.take n).length + 1 + (l.toArray.size - (n + 1)) = l.toArray.size := by rw [len1]; omega
  rw [total] at whole
  exact wp_region_any hm whole
end
end Go.Proofs.YtopnbemodlcknaaDoor

/- A region that draws its order, whose head is quiet in a class of worlds and whose tail comes in order: one walk in the text's order serves every order. -/
import Derived.Deep.Quiet
import Derived.StillTailTactics
namespace Go.Proofs.YtopnbemodlcknaaDoor
open Go

section
variable {P : Program} {ops : Array Oper} {md : Region.Mode} {C : World → Prop}

/-- f operations of the head are still to come, in any order. -/
def headQ (P : Program) (md : Region.Mode) (ops : Array Oper) (C : World → Prop) (n : Nat) (L : Array Bool → Act → Prop) : Nat → Array Bool → Act → Prop
  | 0 => L
  | f + 1 => fun listed a => Region.ready md ops listed ≠ [] ∧ ∀ i, i ∈ Region.ready md ops listed → i < n ∧ qOp P ops C i (headQ P md ops C n L f (listed.setIfInBounds i true)) a

theorem any_of_headQ {n g : Nat} {L : Array Bool → Act → Prop} {Q' : Exit → Act → World → Prop} (hL : ∀ listed a w, C w → L listed a → wpAny P md ops Q' g listed a w) (f : Nat) :
    ∀ (listed : Array Bool) (a : Act) (w : World), C w → headQ P md ops C n L f listed a → wpAny P md ops Q' (f + g) listed a w := by
  induction f with
  | zero =>
    intro listed a w hc h
    have := hL listed a w hc h
    rwa [Nat.zero_add]
  | succ f ih =>
    intro listed a w hc h
    have e : f + 1 + g = f + g + 1 := Nat.add_right_comm f 1 g
    rw [e]
    exact ⟨fun none => (h.1 none).elim, fun i hi => wpOp_of_qOp hc (fun a' w' hw' more => ih _ a' w' hw' more) (h.2 i hi).2⟩

theorem head_firstQ {n i : Nat} {oi : Oper} {v : Value} {L : Array Bool → Act → Prop} (hi : ops[i]? = some oi) (hsel : ∀ (j : Nat) (o : Oper) cs b, ops[j]? = some o → o.op ≠ .select cs b)
    (hs : Region.sinkB md ops n = true) (hc : Region.chainB md ops n = true) (hn : n < ops.size) (hin : i < n)
    (hdone : ∀ listed a, L listed a → ∀ j ∈ Region.ready md ops listed, n ≤ j) (f : Nat) :
    ∀ (listed : Array Bool) (a : Act), HeadInv md ops n listed →
      (∀ j oj, ops[j]? = some oj → j ≠ i → listed.getD j true = false → (∀ e ∈ oj.after, Region.binds md e = true → e.on ≠ i) → oi.apart ops oj = true) →
      i ∈ Region.ready md ops listed → YieldsIn P ops C oi v a →
      headQ P md ops C n L f (listed.setIfInBounds i true) (a.put oi.dst v) → headQ P md ops C n L (f + 1) listed a := by
  have small : ∀ (listed : Array Bool), HeadInv md ops n listed → i ∈ Region.ready md ops listed → ∀ j, j ∈ Region.ready md ops listed → j < n := by
    intro listed inv hr j hj
    by_cases h : j < n
    · exact h
    · exact absurd hj (tail_waits hs hc hn inv _ i rfl hin (mem_ready.1 hr).1 j (by omega))
  induction f with
  | zero =>
    intro listed a inv free hr hy H
    refine ⟨List.ne_nil_of_mem hr, fun j hj => ⟨small listed inv hr j hj, ?_⟩⟩
    by_cases same : j = i
    · rw [same]
      exact hy.qOp hi H
    · have h1 := hdone _ _ H j (ready_mono hj same)
      have h2 := small listed inv hr j hj
      omega
  | succ f ih =>
    intro listed a inv free hr hy H
    refine ⟨List.ne_nil_of_mem hr, fun j hj => ⟨small listed inv hr j hj, ?_⟩⟩
    by_cases same : j = i
    · rw [same]
      exact hy.qOp hi H
    · have later := (H.2 j (ready_mono hj same)).2
      obtain ⟨open_j, oj, hoj, waits⟩ := mem_ready.1 hj
      have apart : ∀ e ∈ oj.after, Region.binds md e = true → e.on ≠ i := by
        intro e he hb on_i
        have was := waits e he hb
        rw [on_i, getD_both (mem_ready.1 hr).1] at was
        cases was
      have swapped := qOp_put hoj (free j oj hoj same open_j apart) (fun cs b => hsel i oi cs b hi) (fun cs b => hsel j oj cs b hoj) hy later
      refine qOp_mono (fun a' both => ih (listed.setIfInBounds j true) a' (inv.set hj (small listed inv hr j hj)) ?_ (ready_mono hr (Ne.symm same)) both.1 ?_) swapped
      · intro k ok hk hki unlisted hno
        refine free k ok hk hki ?_ hno
        by_cases hjk : j = k
        · rw [← hjk]; exact open_j
        · rwa [getD_set_ne true hjk] at unlisted
      · rw [Array.setIfInBounds_comm _ _ same]
        exact both.2

theorem head_lexQ {n g : Nat} {Lq : Act → Prop} (hsel : Region.noSelect ops = true) (hs : Region.sinkB md ops n = true) (hc : Region.chainB md ops n = true) (hn : n < ops.size) (l : List Oper) :
    ∀ (k : Nat) (listed : Array Bool) (a : Act), (∀ j, j < l.length → l[j]? = ops[k + j]?) → k + l.length = n → HeadInv md ops n listed →
    Region.lexHead md ops g l.length k listed = true → wpQuiet P ops C Lq l a →
    headQ P md ops C n (fun listed' a' => Region.seqB md ops g n listed' = true ∧ Lq a') l.length listed a := by
  induction l with
  | nil =>
    intro k listed a _ hk _ hB h
    have e : k = n := hk
    rw [e] at hB
    exact ⟨hB, h⟩
  | cons o l ih =>
    intro k listed a hl hk inv hB h
    have here : ops[k]? = some o := (hl 0 (Nat.zero_lt_succ _)).symm
    rw [List.length_cons] at hk
    rw [List.length_cons, Region.lexHead, Bool.and_eq_true, Bool.and_eq_true] at hB
    have hr : k ∈ Region.ready md ops listed := by simpa using hB.1.1
    have hkn : k < n := by omega
    have one : qOp P ops C k (wpQuiet P ops C Lq l) a := by
      unfold qOp
      rw [here]
      exact h
    obtain ⟨v, hy, more⟩ := yieldsIn_of_qOp here one
    refine head_firstQ here (Region.noSelect_spec hsel) hs hc hn hkn (fun listed' a' hL => seqB_ready hL.1) l.length listed a inv (Region.free_spec here hB.1.2) hr hy ?_
    refine ih (k + 1) _ _ (fun j hj => ?_) (by omega) (inv.set hr hkn) hB.2 more
    have := hl (j + 1) (Nat.succ_lt_succ hj)
    rw [List.getElem?_cons_succ] at this
    rw [this]
    congr 1
    omega

theorem nothing_listed (n : Nat) : HeadInv md ops n (Array.replicate ops.size false) := by
  refine ⟨?_, ?_, ?_⟩
  · simp
  · intro j oj _ hl
    rw [getD_replicate_false] at hl
    cases hl
  · intro t _ ht
    have hlt : t < (Array.replicate ops.size false).size := by simpa using ht
    exact getD_in hlt (getD_replicate_false _ _)

theorem wp_quiet_tail (C : World → Prop) {id : Nat} {Q : Exit → Act → World → Prop} {a : Act} {w : World} {l : List Oper} (n : Nat) (hm : P.follows .mixedOrders = true) (hB : Region.lexTailB .any l.toArray n = true)
    (hC : C { w with drawn := w.drawn + 1 }) (h : wpQuiet P l.toArray C (fun a' => ∀ w', C w' → wpList P l.toArray Q (l.drop n) a' w') (l.take n) a) : (Code.region id l.toArray true).wp P Q a w := by
  unfold Region.lexTailB at hB
  rw [Bool.and_eq_true, Bool.and_eq_true, Bool.and_eq_true, Bool.and_eq_true] at hB
  have hn : n < l.toArray.size := of_decide_eq_true hB.1.1.1.2
  have hlen : n ≤ l.length := by have := hn; simp at this; omega
  have len1 : (l.take n).length = n := List.length_take_of_le hlen
  have len2 : (l.drop n).length = l.toArray.size - n := by rw [List.length_drop]; simp
  have lex : Region.lexHead .any l.toArray (l.toArray.size - n) (l.take n).length 0 (Array.replicate l.toArray.size false) = true := by rw [len1]; exact hB.2
  have head := head_lexQ hB.1.1.1.1 hB.1.1.2 hB.1.2 hn (l.take n) 0 _ a (fun j hj => by
    rw [len1] at hj
    rw [List.getElem?_take_of_lt hj]
    simp) (by rw [len1]; omega) (nothing_listed n) lex h
  have whole := any_of_headQ (Q' := Q) (g := l.toArray.size - n) (fun listed a' w' hw' hL => by
    rw [← len2]
    rw [← len2] at hL
    exact wpAny_of_seq (l.drop n) n listed a' w' (fun j => by simp) hL.1 (hL.2 w' hw')) _ _ _ _ hC head
  have total : (l.take n).length + (l.toArray.size - n) = l.toArray.size := by rw [len1]; omega
  rw [total] at whole
  exact wp_region_any hm whole
theorem wp_quiet_all (C : World → Prop) {id : Nat} {Q : Exit → Act → World → Prop} {a : Act} {w : World} {l : List Oper} (hm : P.follows .mixedOrders = true) (hB : Region.lexB .any l.toArray = true)
    (hC : C { w with drawn := w.drawn + 1 }) (h : wpQuiet P l.toArray C (fun a' => ∀ w', C w' → Q .normal a' w') l a) : (Code.region id l.toArray true).wp P Q a w :=
  wp_region_quiet (C := C) hm hB hC (by simpa using h)
end
end Go.Proofs.YtopnbemodlcknaaDoor

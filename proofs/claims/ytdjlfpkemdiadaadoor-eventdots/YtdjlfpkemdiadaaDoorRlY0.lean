/- A region that draws its order, whose head only reads and whose tail comes in order, inside a round of a loop over an iterator: one walk in the text's order. -/
import Derived.StillTailTactics
import Derived.TacticsInMore
import Derived.OwnWalkIn
import Derived.OrdersIn
import Derived.RangeFuncCalls
namespace Go.Proofs.YtdjlfpkemdiadaaDoor
open Go

def noDefer (o : Oper) : Bool := match o.op with
  | .defer _ => false
  | _ => true
section
variable {P : Program} {ops : Array Oper} {md : Region.Mode} {w : World} {lo m : Nat}
theorem wpOpIn_of_stOp (hnd : ∀ (i : Nat) (o : Oper), ops[i]? = some o → ∀ c, o.op ≠ .defer c) {i : Nat} {K : Act → Prop} {K' : Act → World → Prop} {Q' : Exit → Act → World → Prop} {a : Act} (h : ∀ a', K a' → K' a' w) (hs : stOp P ops w i K a) :
    wpOpIn (Fence.wide.inRound lo) m P ops Q' i K' a w := by
  unfold stOp at hs
  unfold wpOpIn
  cases ho : ops[i]? with
  | none => simp only [ho] at hs ⊢; exact h _ hs
  | some o =>
    simp only [ho] at hs ⊢
    by_cases hw : Region.wanted o (yielded ops a.tmps) = true
    · rw [if_pos hw] at hs ⊢
      refine ⟨fun f _ => trivial, ?_⟩
      rw [Oper.semAt_plain (Fence.wide.inRound lo) _ _ (hnd i o ho)]
      unfold Oper.still at hs
      generalize (execOp a.eval o).run P w = r at *
      match r, hs with
      | .ok (.value v) w', ⟨e, hn⟩ => subst e; exact h _ hn
      | .ok .skip w', ⟨e, hn⟩ => subst e; exact h _ hn
      | .ok (.enter f args) w', ⟨e, v, hc, hn⟩ =>
        subst e
        refine ⟨fun hd => by simp [Fence.wide, Fence.inRound] at hd, CallsIn.inRound lo (callsIn_wide.2 (hc.mono ?_))⟩
        rintro e w'' ⟨rfl, rfl⟩
        exact h _ hn
    · rw [if_neg hw] at hs ⊢
      exact ⟨fun f _ => trivial, h _ hs⟩
theorem wpAnyIn_of_head (hnd : ∀ (i : Nat) (o : Oper), ops[i]? = some o → ∀ c, o.op ≠ .defer c) {n g : Nat} {L : Array Bool → Act → Prop} {Q' : Exit → Act → World → Prop} (hL : ∀ listed a, L listed a → wpAnyIn (Fence.wide.inRound lo) m P md ops Q' g listed a w) :
    ∀ (f : Nat) (listed : Array Bool) (a : Act), wpAnyL P md ops w n L f listed a → wpAnyIn (Fence.wide.inRound lo) m P md ops Q' (f + g) listed a w := by
  intro f
  induction f with
  | zero =>
    intro listed a h
    have := hL listed a h
    rwa [Nat.zero_add]
  | succ f ih =>
    intro listed a h
    have e : f + 1 + g = f + g + 1 := Nat.add_right_comm f 1 g
    rw [e]
    refine ⟨fun none => (h.1 none).elim, fun i hi => ?_⟩
    have step := (h.2 i hi).2
    exact wpOpIn_of_stOp hnd (fun a' more => ih _ a' more) step
theorem tail_in_order {F : Fence} {Q' : Exit → Act → World → Prop} (l : List Oper) : ∀ (k : Nat) (listed : Array Bool) (a : Act) (w : World), (∀ j, ops[k + j]? = l[j]?) →
    Region.seqB md ops l.length k listed = true → wpListIn F m P ops Q' l a w → wpAnyIn F m P md ops Q' l.length listed a w := by
  induction l with
  | nil =>
    intro k listed a w _ hB h
    have hr : Region.ready md ops listed = [] := by simpa [Region.seqB] using hB
    exact ⟨hr, h⟩
  | cons o l ih =>
    intro k listed a w hl hB h
    have here : ops[k]? = some o := hl 0
    have both := hB
    rw [List.length_cons, Region.seqB, Bool.and_eq_true] at both
    have hr : Region.ready md ops listed = [k] := of_decide_eq_true both.1
    constructor
    · intro h1
      rw [hr] at h1
      exact absurd h1 (by simp)
    · intro i hi
      rw [hr, List.mem_singleton] at hi
      rw [hi]
      have first : wpOpIn F m P ops Q' k (wpListIn F m P ops Q' l) a w := by
        unfold wpOpIn
        rw [here]
        exact h
      refine wpOpIn_mono (fun a' w' h' => ih (k + 1) _ a' w' (fun j => ?_) both.2 h') first
      have := hl (j + 1)
      rw [List.getElem?_cons_succ] at this
      rw [← this]
      congr 1
      omega
theorem nothing_yet (n : Nat) : HeadInv md ops n (Array.replicate ops.size false) := by
  refine ⟨?_, ?_, ?_⟩
  · simp
  · intro j oj _ hl
    rw [getD_replicate_false] at hl
    cases hl
  · intro t _ ht
    have hlt : t < (Array.replicate ops.size false).size := by simpa using ht
    exact getD_in hlt (getD_replicate_false _ _)
theorem still_tail_round {id : Nat} {Q : Exit → Act → World → Prop} {a : Act} {w : World} {l : List Oper} (n : Nat) (hm : P.follows .mixedOrders = true) (hB : Region.lexTailB .any l.toArray n = true) (hall : l.all noDefer = true)
    (h : wpStill P l.toArray { w with drawn := w.drawn + 1 } (fun a' => wpListIn (Fence.wide.inRound lo) m P l.toArray Q (l.drop n) a' { w with drawn := w.drawn + 1 }) (l.take n) a) : (Code.region id l.toArray true).wpIn (Fence.wide.inRound lo) m P Q a w := by
  have hnd : ∀ (i : Nat) (o : Oper), l.toArray[i]? = some o → ∀ c, o.op ≠ .defer c := fun i o ho c hc => by
    have h1 : l[i]? = some o := by simpa using ho
    have h2 := List.all_eq_true.1 hall o (List.mem_of_getElem? h1)
    unfold noDefer at h2
    rw [hc] at h2
    cases h2
  unfold Region.lexTailB at hB
  rw [Bool.and_eq_true, Bool.and_eq_true, Bool.and_eq_true, Bool.and_eq_true] at hB
  have hn : n < l.toArray.size := of_decide_eq_true hB.1.1.1.2
  have hlen : n ≤ l.length := by have := hn; simp at this; omega
  have len1 : (l.take n).length = n := List.length_take_of_le hlen
  have len2 : (l.drop n).length = l.toArray.size - n := by rw [List.length_drop]; simp
  have lex : Region.lexHead .any l.toArray (l.toArray.size - n) (l.take n).length 0 (Array.replicate l.toArray.size false) = true := by rw [len1]; exact hB.2
  have head := wpAnyL_lex hB.1.1.1.1 hB.1.1.2 hB.1.2 hn (l.take n) 0 _ a (fun j hj => by
    rw [len1] at hj
    rw [List.getElem?_take_of_lt hj]
    simp) (by rw [len1]; omega) (nothing_yet n) lex h
  have whole := wpAnyIn_of_head (lo := lo) (m := m) hnd (Q' := Q) (g := l.toArray.size - n) (fun listed a' hL => by
    rw [← len2]
    rw [← len2] at hL
    exact tail_in_order (l.drop n) n listed a' _ (fun j => by simp) hL.1 hL.2) _ _ _ head
  have total : (l.take n).length + (l.toArray.size - n) = l.toArray.size := by rw [len1]; omega
  rw [total] at whole
  exact wpIn_region_any hm whole
end
end Go.Proofs.YtdjlfpkemdiadaaDoor

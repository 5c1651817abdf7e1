/- The same, the steps being told that those listed wait for none that is not. -/
import Derived.Test.YtegpnicajlndlaaQaj
namespace Go.Proofs.Ytegpnicajlndlaa
open Go
set_option linter.unusedVariables false
set_option linter.unusedSimpArgs false

section
variable {P : Program} {ops : Array Oper} {Q : Exit → Act → World → Prop}
theorem any_invC {n g : Nat} (I : Array Bool → Act → World → Prop) (hs : Region.sinkB .any ops n = true) (hc : Region.chainB .any ops n = true) (hn : n < ops.size) (hf : fwdB ops n = true)
    (hstep : ∀ i listed a w, HeadInv .any ops n listed → i < n → i ∈ Region.ready .any ops listed → I listed a w → wpOp P ops Q i (fun a' w' => I (listed.setIfInBounds i true) a' w') a w)
    (hend : ∀ a w, I (fullB ops.size n) a w → wpAny P .any ops Q g (fullB ops.size n) a w) (f : Nat) :
    ∀ (listed : Array Bool) (a : Act) (w : World), HeadInv .any ops n listed → toCome listed n = f → I listed a w → wpAny P .any ops Q (f + g) listed a w := by
  induction f with
  | zero =>
    intro listed a w inv h0 hI
    have e := full_of h0 inv.size (Nat.le_of_lt hn) inv.tail
    rw [Nat.zero_add, e]
    exact hend a w (e ▸ hI)
  | succ f ih =>
    intro listed a w inv h0 hI
    obtain ⟨i0, hi0, hl0, hmin⟩ := some_unlisted (by omega : toCome listed n ≠ 0)
    have hl0' : listed.getD i0 true = false := getD_in (by rw [inv.size]; omega) hl0
    have e : f + 1 + g = f + g + 1 := Nat.add_right_comm f 1 g
    rw [e]
    have r0 : i0 ∈ Region.ready .any ops listed := mem_ready.2 ⟨hl0', ops[i0]'(by omega), Array.getElem?_eq_getElem (by omega), fun ed hed hb => hmin _ (fwd_spec hf hi0 (Array.getElem?_eq_getElem (by omega)) ed hed hb)⟩
    refine ⟨fun none => absurd r0 (by rw [none]; simp), fun i hi => ?_⟩
    have hin : i < n := by
      by_cases h : i < n
      · exact h
      · exact absurd hi (tail_waits hs hc hn inv _ i0 rfl hi0 hl0' i (by omega))
    have hun := (mem_ready.1 hi).1
    refine wpOp_mono (fun a' w' h' => ih _ a' w' (inv.set hi hin) ?_ h') (hstep i listed a w inv hin hi hI)
    have := toCome_set hin (by rw [inv.size]; omega) (getD_both hun)
    omega

/-- The region, its steps told what is closed. -/
theorem region_invC {id : Nat} {a : Act} {w : World} {l : List Oper} (n : Nat) (I : Array Bool → Act → World → Prop) (hm : P.follows .mixedOrders = true)
    (hB : (Region.sinkB .any l.toArray n && Region.chainB .any l.toArray n && decide (n < l.length) && fwdB l.toArray n && Region.seqB .any l.toArray (l.drop n).length n (fullB l.length n)) = true)
    (h0 : I (Array.replicate l.length false) a { w with drawn := w.drawn + 1 })
    (hstep : ∀ i listed a w, HeadInv .any l.toArray n listed → i < n → i ∈ Region.ready .any l.toArray listed → I listed a w → wpOp P l.toArray Q i (fun a' w' => I (listed.setIfInBounds i true) a' w') a w)
    (hend : ∀ a w, I (fullB l.length n) a w → wpList P l.toArray Q (l.drop n) a w) : (Code.region id l.toArray true).wp P Q a w := by
  rw [Bool.and_eq_true, Bool.and_eq_true, Bool.and_eq_true, Bool.and_eq_true, decide_eq_true_eq] at hB
  obtain ⟨⟨⟨⟨h1, h2⟩, h3⟩, h4⟩, h5⟩ := hB
  have hsz : l.toArray.size = l.length := by simp
  have inv0 : HeadInv .any l.toArray n (Array.replicate l.toArray.size false) := ⟨(by simp), (fun j oj _ hl => (by rw [getD_replicate_false] at hl; cases hl)), (fun t _ ht => (by simp at ht; simp [ht]))⟩
  have t0 : toCome (Array.replicate l.toArray.size false) n = n := by
    unfold toCome
    rw [List.filter_eq_self.2 (fun i _ => by rw [getD_replicate_false]; rfl), List.length_range]
  have whole := any_invC (g := (l.drop n).length) I h1 h2 (by rw [hsz]; exact h3) h4 hstep (fun a' w' hI => by
    rw [hsz] at hI ⊢
    exact wpAny_of_seq (l.drop n) n _ a' w' (fun j => by simp) h5 (hend a' w' hI)) n (Array.replicate l.toArray.size false) a { w with drawn := w.drawn + 1 } inv0 t0 (by rw [hsz]; exact h0)
  have total : n + (l.drop n).length = l.toArray.size := by rw [List.length_drop, hsz]; omega
  rw [total] at whole
  exact wp_region_any hm whole
theorem region_invAC {id : Nat} {a : Act} {w : World} {l : List Oper} (n : Nat) (I : Act → Array Bool → Act → World → Prop) (hm : P.follows .mixedOrders = true)
    (hB : (Region.sinkB .any l.toArray n && Region.chainB .any l.toArray n && decide (n < l.length) && fwdB l.toArray n && Region.seqB .any l.toArray (l.drop n).length n (fullB l.length n)) = true)
    (h0 : I a (Array.replicate l.length false) a { w with drawn := w.drawn + 1 })
    (hstep : ∀ i listed a' w', HeadInv .any l.toArray n listed → i < n → i ∈ Region.ready .any l.toArray listed → I a listed a' w' → wpOp P l.toArray Q i (fun a'' w'' => I a (listed.setIfInBounds i true) a'' w'') a' w')
    (hend : ∀ a' w', I a (fullB l.length n) a' w' → wpList P l.toArray Q (l.drop n) a' w') : (Code.region id l.toArray true).wp P Q a w :=
  region_invC n (I a) hm hB h0 hstep hend
theorem keepF {listed : Array Bool} {i j : Nat} (hij : i ≠ j) (h : (listed.setIfInBounds i true).getD j false = false) : listed.getD j false = false := by rw [getD_set_ne false hij] at h; exact h
theorem setF {listed : Array Bool} {i : Nat} (hl : listed.getD i true = false) (h : (listed.setIfInBounds i true).getD i false = false) : False := by
  have hlt : i < listed.size := by
    rcases Nat.lt_or_ge i listed.size with h' | h'
    · exact h'
    · simp [Array.getElem?_eq_none h'] at hl
  simp [hlt] at h
end
end Go.Proofs.Ytegpnicajlndlaa

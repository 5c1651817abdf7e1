/- A region that draws its order, several of whose operations make memory: what holds throughout, whatever has come up; then the tail in order. -/
import Derived.Test.YtcmkoffamolgmaaS1
import Derived.StillTail
import Derived.StillTailTactics
namespace Go.Proofs.Ytcmkoffamolgmaa
open Go
set_option linter.unusedVariables false
set_option linter.unusedSimpArgs false

section
variable {P : Program} {ops : Array Oper} {Q : Exit → Act → World → Prop}

/-- Each waits for earlier ones alone. -/
def fwdB (ops : Array Oper) (n : Nat) : Bool := (List.range n).all fun i => match ops[i]? with
  | some o => o.after.all fun e => !Region.binds .any e || decide (e.on < i)
  | none => false
def fullB (m n : Nat) : Array Bool := ((List.range m).map fun i => decide (i < n)).toArray
theorem fwd_spec {n i : Nat} {o : Oper} (h : fwdB ops n = true) (hi : i < n) (ho : ops[i]? = some o) : ∀ e ∈ o.after, Region.binds .any e = true → e.on < i := fun e he hb => by
  have h1 := List.all_eq_true.1 h i (List.mem_range.2 hi)
  rw [ho] at h1
  have h2 := Array.all_eq_true'.1 h1 e he
  rw [hb] at h2
  simpa using h2
/-- How many of the first n are to come. -/
def toCome (listed : Array Bool) (n : Nat) : Nat := ((List.range n).filter fun i => !listed.getD i false).length
theorem some_unlisted {listed : Array Bool} {n : Nat} (h : toCome listed n ≠ 0) : ∃ i, i < n ∧ listed.getD i false = false ∧ ∀ j, j < i → listed.getD j false = true := by
  have ex : ∃ i, i < n ∧ listed.getD i false = false := by
    unfold toCome at h
    obtain ⟨i, hi⟩ := List.exists_mem_of_length_pos (Nat.pos_of_ne_zero h)
    rw [List.mem_filter, List.mem_range] at hi
    exact ⟨i, hi.1, by simpa using hi.2⟩
  have key : ∀ m i, i ≤ m → i < n → listed.getD i false = false → ∃ i, i < n ∧ listed.getD i false = false ∧ ∀ j, j < i → listed.getD j false = true := by
    intro m
    induction m with
    | zero => intro i hi hn hl; exact ⟨i, hn, hl, fun j hj => by omega⟩
    | succ m ih =>
      intro i hi hn hl
      by_cases hx : ∃ j, j < i ∧ listed.getD j false = false
      · obtain ⟨j, hj, hjl⟩ := hx
        exact ih j (by omega) (by omega) hjl
      · refine ⟨i, hn, hl, fun j hj => ?_⟩
        cases hq : listed.getD j false with
        | true => rfl
        | false => exact absurd ⟨j, hj, hq⟩ hx
  obtain ⟨i, h1, h2⟩ := ex
  exact key i i (Nat.le_refl _) h1 h2
theorem filter_less {l : List Nat} {p q : Nat → Bool} (h : ∀ x ∈ l, q x = true → p x = true) : (l.filter q).length ≤ (l.filter p).length := by
  induction l with
  | nil => simp
  | cons x l ih =>
    have ih' := ih fun y hy => h y (List.mem_cons_of_mem _ hy)
    have hx := h x List.mem_cons_self
    cases hq : q x with
    | true => rw [List.filter_cons_of_pos hq, List.filter_cons_of_pos (hx hq)]; simpa using ih'
    | false =>
      rw [List.filter_cons_of_neg (by rw [hq]; simp)]
      cases hp : p x with
      | true => rw [List.filter_cons_of_pos hp]; simp; omega
      | false => rw [List.filter_cons_of_neg (by rw [hp]; simp)]; exact ih'
theorem filter_one_less : ∀ {l : List Nat} {p q : Nat → Bool} (i : Nat), i ∈ l → p i = true → q i = false → l.Nodup → (∀ x ∈ l, x ≠ i → q x = p x) → (l.filter q).length + 1 = (l.filter p).length
  | [], p, q, i, h, _, _, _, _ => by cases h
  | x :: l, p, q, i, h, hp, hq, hn, hs => by
    have hn' := List.nodup_cons.1 hn
    rcases List.mem_cons.1 h with rfl | hm
    · rw [List.filter_cons_of_pos hp, List.filter_cons_of_neg (by rw [hq]; simp)]
      have : l.filter q = l.filter p := List.filter_congr fun y hy => hs y (List.mem_cons_of_mem _ hy) (fun e => hn'.1 (e ▸ hy))
      rw [this]; simp
    · have ih := filter_one_less (l := l) i hm hp hq hn'.2 fun y hy hne => hs y (List.mem_cons_of_mem _ hy) hne
      have hx : q x = p x := hs x List.mem_cons_self (fun e => hn'.1 (e ▸ hm))
      cases hpx : p x with
      | true => rw [List.filter_cons_of_pos hpx, List.filter_cons_of_pos (by rw [hx, hpx])]; simp; omega
      | false => rw [List.filter_cons_of_neg (p := q) (by rw [hx, hpx]; simp), List.filter_cons_of_neg (p := p) (by rw [hpx]; simp)]; exact ih
theorem toCome_set {listed : Array Bool} {n i : Nat} (hi : i < n) (hs : i < listed.size) (hl : listed.getD i false = false) : toCome (listed.setIfInBounds i true) n + 1 = toCome listed n := by
  unfold toCome
  refine filter_one_less i (List.mem_range.2 hi) (by rw [hl]; rfl) ?_ List.nodup_range fun x hx hne => ?_
  · simp [hs]
  · rw [getD_set_ne false (Ne.symm hne)]
theorem full_of {listed : Array Bool} {n m : Nat} (h0 : toCome listed n = 0) (hsz : listed.size = m) (hn : n ≤ m) (ht : ∀ t, n ≤ t → t < m → listed.getD t true = false) : listed = fullB m n := by
  have hall : ∀ i, i < n → listed.getD i false = true := fun i hi => by
    cases hq : listed.getD i false with
    | true => rfl
    | false =>
      have : i ∈ (List.range n).filter fun i => !listed.getD i false := List.mem_filter.2 ⟨List.mem_range.2 hi, by rw [hq]; rfl⟩
      unfold toCome at h0
      rw [List.length_eq_zero_iff] at h0
      rw [h0] at this
      cases this
  refine Array.ext (by simp [fullB, hsz]) fun i h1 h2 => ?_
  have e : (fullB m n)[i] = decide (i < n) := by simp [fullB]
  rw [e]
  by_cases hi : i < n
  · have := hall i hi
    simp [h1] at this
    rw [this]; simp [hi]
  · have := ht i (by omega) (by omega)
    simp [h1] at this
    rw [this]; simp [hi]

theorem any_inv {n g : Nat} (I : Array Bool → Act → World → Prop) (hs : Region.sinkB .any ops n = true) (hc : Region.chainB .any ops n = true) (hn : n < ops.size) (hf : fwdB ops n = true)
    (hstep : ∀ i listed a w, i < n → i ∈ Region.ready .any ops listed → I listed a w → wpOp P ops Q i (fun a' w' => I (listed.setIfInBounds i true) a' w') a w)
    (hend : ∀ a w, I (fullB ops.size n) a w → wpAny P .any ops Q g (fullB ops.size n) a w) (f : Nat) :
    ∀ (listed : Array Bool) (a : Act) (w : World), HeadInv .any ops n listed → toCome listed n = f → I listed a w → wpAny P .any ops Q (f + g) listed a w := by
  induction f with
  | zero =>
    intro listed a w inv h0 hI
    have e := full_of h0 inv.size (Nat.le_of_lt hn) inv.tail
    rw [Nat.zero_add, e]
    exact hend a w (e ▸ hI)
  | succ f ih =>
    intro listed a w inv h0 hI
    obtain ⟨i0, hi0, hl0, hmin⟩ := some_unlisted (by omega : toCome listed n ≠ 0)
    have hl0' : listed.getD i0 true = false := getD_in (by rw [inv.size]; omega) hl0
    have e : f + 1 + g = f + g + 1 := Nat.add_right_comm f 1 g
    rw [e]
    have r0 : i0 ∈ Region.ready .any ops listed := mem_ready.2 ⟨hl0', ops[i0]'(by omega), Array.getElem?_eq_getElem (by omega), fun ed hed hb => hmin _ (fwd_spec hf hi0 (Array.getElem?_eq_getElem (by omega)) ed hed hb)⟩
    refine ⟨fun none => absurd r0 (by rw [none]; simp), fun i hi => ?_⟩
    have hin : i < n := by
      by_cases h : i < n
      · exact h
      · exact absurd hi (tail_waits hs hc hn inv _ i0 rfl hi0 hl0' i (by omega))
    have hun := (mem_ready.1 hi).1
    refine wpOp_mono (fun a' w' h' => ih _ a' w' (inv.set hi hin) ?_ h') (hstep i listed a w hin hi hI)
    have := toCome_set hin (by rw [inv.size]; omega) (getD_both hun)
    omega

/-- The region: what holds throughout its head; then its tail. -/
theorem region_inv {id : Nat} {a : Act} {w : World} {l : List Oper} (n : Nat) (I : Array Bool → Act → World → Prop) (hm : P.follows .mixedOrders = true)
    (hB : (Region.sinkB .any l.toArray n && Region.chainB .any l.toArray n && decide (n < l.length) && fwdB l.toArray n && Region.seqB .any l.toArray (l.drop n).length n (fullB l.length n)) = true)
    (h0 : I (Array.replicate l.length false) a { w with drawn := w.drawn + 1 })
    (hstep : ∀ i listed a w, i < n → i ∈ Region.ready .any l.toArray listed → I listed a w → wpOp P l.toArray Q i (fun a' w' => I (listed.setIfInBounds i true) a' w') a w)
    (hend : ∀ a w, I (fullB l.length n) a w → wpList P l.toArray Q (l.drop n) a w) : (Code.region id l.toArray true).wp P Q a w := by
  rw [Bool.and_eq_true, Bool.and_eq_true, Bool.and_eq_true, Bool.and_eq_true, decide_eq_true_eq] at hB
  obtain ⟨⟨⟨⟨h1, h2⟩, h3⟩, h4⟩, h5⟩ := hB
  have hsz : l.toArray.size = l.length := by simp
  have inv0 : HeadInv .any l.toArray n (Array.replicate l.toArray.size false) := ⟨(by simp), (fun j oj _ hl => (by rw [getD_replicate_false] at hl; cases hl)), (fun t _ ht => (by simp at ht; simp [ht]))⟩
  have t0 : toCome (Array.replicate l.toArray.size false) n = n := by
    unfold toCome
    rw [List.filter_eq_self.2 (fun i _ => by rw [getD_replicate_false]; rfl), List.length_range]
  have whole := any_inv (g := (l.drop n).length) I h1 h2 (by rw [hsz]; exact h3) h4 hstep (fun a' w' hI => by
    rw [hsz] at hI ⊢
    exact wpAny_of_seq (l.drop n) n _ a' w' (fun j => by simp) h5 (hend a' w' hI)) n (Array.replicate l.toArray.size false) a { w with drawn := w.drawn + 1 } inv0 t0 (by rw [hsz]; exact h0)
  have total : n + (l.drop n).length = l.toArray.size := by rw [List.length_drop, hsz]; omega
  rw [total] at whole
  exact wp_region_any hm whole
end
end Go.Proofs.Ytcmkoffamolgmaa

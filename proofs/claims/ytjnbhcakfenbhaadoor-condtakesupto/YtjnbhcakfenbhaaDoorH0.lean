/- A region that draws its order, inside a fence or a round: operations that only read are taken first, as soon as they may come up; what is left of the head comes one by one; then the tail in order. -/
import Derived.StillTailTactics
import Derived.TacticsInMore
import Derived.OwnWalkIn
import Derived.OrdersIn
import Derived.RangeFuncCalls
import Derived.Test.YtjnbhcakfenbhaaDoorY0
namespace Go.Proofs.YtjnbhcakfenbhaaDoor
open Go
set_option linter.unusedVariables false
set_option linter.unusedSimpArgs false

section
variable {F : Fence} {m : Nat} {P : Program} {ops : Array Oper} {md : Region.Mode} {Q : Exit → Act → World → Prop} {C : World → Prop}

/-- What an operation leaves in its slot, in every world of the class, which it leaves as it is. -/
def ReadsIn (P : Program) (ops : Array Oper) (C : World → Prop) (o : Oper) (v : Value) (a : Act) : Prop :=
  (Region.wanted o (yielded ops a.tmps) = true ∧ ∀ w, C w → (execOp a.eval o).run P w = .ok (.value v) w) ∨ (Region.wanted o (yielded ops a.tmps) = false ∧ v = undef)
theorem ReadsIn.same {o : Oper} {v : Value} {a a' : Act} (h : ReadsIn P ops C o v a) (he : execOp a'.eval o = execOp a.eval o) (hw : Region.wanted o (yielded ops a'.tmps) = Region.wanted o (yielded ops a.tmps)) : ReadsIn P ops C o v a' := by
  unfold ReadsIn at *
  rw [he, hw]
  exact h
theorem ReadsIn.op (hfn : ∀ f, F.fn f) {i : Nat} {o : Oper} {v : Value} {a : Act} {w : World} (hnd : ∀ c, o.op ≠ .defer c) (hi : ops[i]? = some o) (hy : ReadsIn P ops C o v a) (hc : C w) {K : Act → World → Prop} (h : K (a.put o.dst v) w) : wpOpIn F m P ops Q i K a w := by
  unfold wpOpIn
  rw [hi]
  dsimp only
  rcases hy with ⟨hw, hv⟩ | ⟨hw, rfl⟩
  · rw [if_pos hw]
    refine ⟨fun f _ => hfn f, ?_⟩
    rw [Oper.semAt_eq _ _ _ hnd, hv w hc]
    exact h
  · rw [if_neg (by rw [hw]; simp)]
    exact ⟨fun f _ => hfn f, h⟩

/-- Whether oi's value lies in its slot already makes no difference to oj. -/
theorem op_put (hfn : ∀ f, F.fn f) {j : Nat} {oi oj : Oper} {v : Value} (hndj : ∀ c, oj.op ≠ .defer c) (hj : ops[j]? = some oj) (hap : oi.apart ops oj = true)
    (hsi : ∀ cs b, oi.op ≠ .select cs b) (hsj : ∀ cs b, oj.op ≠ .select cs b) (hQ : ∀ c a w, Q (.panic c) (a.put oi.dst v) w → Q (.panic c) a w) {K : Act → World → Prop} {a : Act} {w : World}
    (hy : ReadsIn P ops C oi v a) (h : wpOpIn F m P ops Q j K (a.put oi.dst v) w) : wpOpIn F m P ops Q j (fun a' w' => ReadsIn P ops C oi v a' ∧ K (a'.put oi.dst v) w') a w := by
  obtain ⟨h1, h2, h3⟩ := Oper.apart_spec hap
  have keep : ∀ u, ReadsIn P ops C oi v (a.put oj.dst u) := fun u => hy.same (execOp_put oi hsi a oj.dst u h3) (wanted_put oi a oj.dst u h3)
  have back : ∀ u w', K ((a.put oi.dst v).put oj.dst u) w' → ReadsIn P ops C oi v (a.put oj.dst u) ∧ K ((a.put oj.dst u).put oi.dst v) w' := fun u w' hk => ⟨keep u, by rw [← Act.put_comm a v u h2]; exact hk⟩
  unfold wpOpIn at *
  rw [hj] at h ⊢
  dsimp only at h ⊢
  rw [wanted_put oj a oi.dst v h1] at h
  by_cases hw : Region.wanted oj (yielded ops a.tmps) = true
  · rw [if_pos hw] at h ⊢
    refine ⟨fun f _ => hfn f, ?_⟩
    have h' := h.2
    rw [Oper.semAt_eq _ _ _ hndj, execOp_put oj hsj a oi.dst v h1] at h'
    rw [Oper.semAt_eq _ _ _ hndj]
    generalize (execOp a.eval oj).run P w = r at h' ⊢
    match r, h' with
    | .ok (.value u) w', h' => exact back u w' h'
    | .ok .skip w', h' => exact back undef w' h'
    | .ok (.defer d) w', h' =>
      have hd : ReadsIn P ops C oi v { a with defers := d :: a.defers } := hy.same rfl rfl
      refine ⟨hd.same (execOp_put oi hsi _ oj.dst undef h3) (wanted_put oi _ oj.dst undef h3), ?_⟩
      rw [← Act.put_comm _ v undef h2, ← Act.put_defers]
      exact h'
    | .ok (.enter f args) w', h' =>
      refine ⟨h'.1, CallsIn.mono h'.2 fun e w'' he => ?_⟩
      cases e with
      | returned u => exact back u w'' he
      | panicked c => exact hQ _ _ _ he
      | outgrown => exact he
    | .ok (.row row args) w', h' => exact ⟨h'.1, RowsIn.mono h'.2 fun u w'' he => back u w'' he⟩
    | .ok (.round l f tmps assign body) w', h' =>
      refine ⟨h'.1, RoundIn.mono h'.2 fun e w'' he => ?_⟩
      cases e with
      | returned u => exact back u w'' he
      | panicked c => exact hQ _ _ _ he
      | outgrown => exact he
    | .halt x w', h' =>
      cases x <;> simp only [Oper.uponIn] at h' ⊢
      case panic u => exact hQ _ _ _ h'
  · rw [if_neg hw] at h ⊢
    exact ⟨fun f _ => hfn f, back undef w h.2⟩

/-- f operations of the head are still to come, in any order; till then the world stays in the class. -/
def headC (F : Fence) (m : Nat) (P : Program) (md : Region.Mode) (ops : Array Oper) (Q : Exit → Act → World → Prop) (C : World → Prop) (n : Nat) (L : Array Bool → Act → World → Prop) : Nat → Array Bool → Act → World → Prop
  | 0 => L
  | f + 1 => fun listed a w => Region.ready md ops listed ≠ [] ∧ ∀ i, i ∈ Region.ready md ops listed → i < n ∧ wpOpIn F m P ops Q i (fun a' w' => C w' ∧ headC F m P md ops Q C n L f (listed.setIfInBounds i true) a' w') a w

theorem any_of_headC {n g : Nat} {L : Array Bool → Act → World → Prop} (hL : ∀ listed a w, L listed a w → wpAnyIn F m P md ops Q g listed a w) (f : Nat) :
    ∀ (listed : Array Bool) (a : Act) (w : World), headC F m P md ops Q C n L f listed a w → wpAnyIn F m P md ops Q (f + g) listed a w := by
  induction f with
  | zero =>
    intro listed a w h
    have := hL listed a w h
    rwa [Nat.zero_add]
  | succ f ih =>
    intro listed a w h
    have e : f + 1 + g = f + g + 1 := Nat.add_right_comm f 1 g
    rw [e]
    exact ⟨fun none => (h.1 none).elim, fun i hi => wpOpIn_mono (fun a' w' both => ih _ a' w' both.2) (h.2 i hi).2⟩

/-- The region, and where its head ends. -/
structure Headed (md : Region.Mode) (ops : Array Oper) (n : Nat) : Prop where
  sel : ∀ (j : Nat) (o : Oper) cs b, ops[j]? = some o → o.op ≠ .select cs b
  plain : ∀ (j : Nat) (o : Oper), ops[j]? = some o → ∀ c, o.op ≠ .defer c
  sink : Region.sinkB md ops n = true
  chain : Region.chainB md ops n = true
  size : n < ops.size

theorem head_takeC (hfn : ∀ f, F.fn f) {n i : Nat} {oi : Oper} {v : Value} {L : Array Bool → Act → World → Prop} (hd : Headed md ops n) (hi : ops[i]? = some oi) (hin : i < n) (hQ : ∀ c a w, Q (.panic c) (a.put oi.dst v) w → Q (.panic c) a w)
    (hdone : ∀ listed a w, L listed a w → ∀ j ∈ Region.ready md ops listed, n ≤ j) (f : Nat) :
    ∀ (listed : Array Bool) (a : Act) (w : World), HeadInv md ops n listed →
      (∀ j oj, ops[j]? = some oj → j ≠ i → listed.getD j true = false → (∀ e ∈ oj.after, Region.binds md e = true → e.on ≠ i) → oi.apart ops oj = true) →
      i ∈ Region.ready md ops listed → ReadsIn P ops C oi v a → C w →
      headC F m P md ops Q C n L f (listed.setIfInBounds i true) (a.put oi.dst v) w → headC F m P md ops Q C n L (f + 1) listed a w := by
  have small : ∀ (listed : Array Bool), HeadInv md ops n listed → i ∈ Region.ready md ops listed → ∀ j, j ∈ Region.ready md ops listed → j < n := by
    intro listed inv hr j hj
    by_cases h : j < n
    · exact h
    · exact absurd hj (tail_waits hd.sink hd.chain hd.size inv _ i rfl hin (mem_ready.1 hr).1 j (by omega))
  induction f with
  | zero =>
    intro listed a w inv free hr hy hc H
    refine ⟨List.ne_nil_of_mem hr, fun j hj => ⟨small listed inv hr j hj, ?_⟩⟩
    by_cases same : j = i
    · rw [same]
      exact hy.op hfn (hd.plain i oi hi) hi hc ⟨hc, H⟩
    · have h1 := hdone _ _ _ H j (ready_mono hj same)
      have h2 := small listed inv hr j hj
      omega
  | succ f ih =>
    intro listed a w inv free hr hy hc H
    refine ⟨List.ne_nil_of_mem hr, fun j hj => ⟨small listed inv hr j hj, ?_⟩⟩
    by_cases same : j = i
    · rw [same]
      exact hy.op hfn (hd.plain i oi hi) hi hc ⟨hc, H⟩
    · have later := (H.2 j (ready_mono hj same)).2
      obtain ⟨open_j, oj, hoj, waits⟩ := mem_ready.1 hj
      have apart : ∀ e ∈ oj.after, Region.binds md e = true → e.on ≠ i := by
        intro e he hb on_i
        have was := waits e he hb
        rw [on_i, getD_both (mem_ready.1 hr).1] at was
        cases was
      have swapped := op_put hfn (hd.plain j oj hoj) hoj (free j oj hoj same open_j apart) (fun cs b => hd.sel i oi cs b hi) (fun cs b => hd.sel j oj cs b hoj) hQ hy later
      refine wpOpIn_mono (fun a' w' both => ⟨both.2.1, ih (listed.setIfInBounds j true) a' w' (inv.set hj (small listed inv hr j hj)) ?_ (ready_mono hr (Ne.symm same)) both.1 both.2.1 ?_⟩) swapped
      · intro k ok hk hki unlisted hno
        refine free k ok hk hki ?_ hno
        by_cases hjk : j = k
        · rw [← hjk]; exact open_j
        · rwa [getD_set_ne true hjk] at unlisted
      · rw [Array.setIfInBounds_comm _ _ same]
        exact both.2.2

/-- What the walk stands at: f of the head to come. -/
def AtC (F : Fence) (m : Nat) (P : Program) (ops : Array Oper) (Q : Exit → Act → World → Prop) (C : World → Prop) (n : Nat) (L : Act → World → Prop) (f : Nat) (listed : Array Bool) (a : Act) (w : World) : Prop :=
  headC F m P .any ops Q C n (fun listed' a' w' => Region.seqB .any ops (ops.size - n) n listed' = true ∧ L a' w') f listed a w

/-- Those listed wait for none that is not. -/
def closedB (ops : Array Oper) (n : Nat) (listed : Array Bool) : Bool :=
  decide (listed.size = ops.size) && (List.range ops.size).all (fun j => !(listed.getD j false) || (match ops[j]? with
    | some oj => oj.after.all fun e => !(Region.binds .any e) || listed.getD e.on false
    | none => true)) && (List.range ops.size).all (fun t => decide (t < n) || !(listed.getD t true))
theorem closed_inv {n : Nat} {listed : Array Bool} (h : closedB ops n listed = true) : HeadInv .any ops n listed := by
  unfold closedB at h
  rw [Bool.and_eq_true, Bool.and_eq_true, decide_eq_true_eq] at h
  obtain ⟨⟨h1, h2⟩, h3⟩ := h
  refine ⟨h1, fun j oj hj hl e he hb => ?_, fun t ht hts => ?_⟩
  · have hlt : j < ops.size := (Array.getElem?_eq_some_iff.1 hj).1
    have h4 := List.all_eq_true.1 h2 j (List.mem_range.2 hlt)
    rw [hl, hj] at h4
    dsimp only at h4
    rw [Bool.not_true, Bool.false_or] at h4
    have h5 := Array.all_eq_true'.1 h4 e he
    rw [hb] at h5
    simpa using h5
  · have h4 := List.all_eq_true.1 h3 t (List.mem_range.2 hts)
    have : decide (t < n) = false := decide_eq_false (by omega)
    rw [this, Bool.false_or] at h4
    simpa using h4

theorem atC_take (hfn : ∀ f, F.fn f) {n : Nat} {L : Act → World → Prop} {f : Nat} {listed : Array Bool} {a : Act} {w : World} (hd : Headed .any ops n) (i : Nat) {oi : Oper} {v : Value} (hi : ops[i]? = some oi)
    (hB : (decide (i < n) && closedB ops n listed && Region.free .any ops listed i && (Region.ready .any ops listed).contains i) = true) (hQ : ∀ c a w, Q (.panic c) (a.put oi.dst v) w → Q (.panic c) a w)
    (hy : ReadsIn P ops C oi v a) (hc : C w) (h : AtC F m P ops Q C n L f (listed.setIfInBounds i true) (a.put oi.dst v) w) : AtC F m P ops Q C n L (f + 1) listed a w := by
  rw [Bool.and_eq_true, Bool.and_eq_true, Bool.and_eq_true, decide_eq_true_eq] at hB
  obtain ⟨⟨⟨h1, h2⟩, h3⟩, h4⟩ := hB
  exact head_takeC hfn hd hi h1 hQ (fun listed' a' w' hL => seqB_ready hL.1) f listed a w (closed_inv h2) (Region.free_spec hi h3) (by simpa using h4) hy hc h
/-- The one that may come up now. -/
theorem atC_next {n : Nat} {L : Act → World → Prop} {f : Nat} {listed : Array Bool} {a : Act} {w : World} (i : Nat) {oi : Oper} (hi : ops[i]? = some oi) (hB : (decide (i < n) && decide (Region.ready .any ops listed = [i])) = true)
    (h : ∀ K : Act → World → Prop, (∀ a' w', C w' → AtC F m P ops Q C n L f (listed.setIfInBounds i true) a' w' → K a' w') → if Region.wanted oi (yielded ops a.tmps) = true then Oper.wpIn F m P oi a w K Q else (∀ f, oi.about P w a.eval = some f → F.fn f) ∧ K (a.put oi.dst undef) w) : AtC F m P ops Q C n L (f + 1) listed a w := by
  rw [Bool.and_eq_true, decide_eq_true_eq, decide_eq_true_eq] at hB
  refine ⟨by rw [hB.2]; simp, fun j hj => ?_⟩
  rw [hB.2, List.mem_singleton] at hj
  rw [hj]
  refine ⟨hB.1, ?_⟩
  unfold wpOpIn
  rw [hi]
  exact h _ (fun a' w' h1 h2 => ⟨h1, h2⟩)
theorem atC_end {n : Nat} {L : Act → World → Prop} {listed : Array Bool} {a : Act} {w : World} (hB : Region.seqB .any ops (ops.size - n) n listed = true) (h : L a w) : AtC F m P ops Q C n L 0 listed a w := ⟨hB, h⟩

theorem headed_of {l : List Oper} {n : Nat} (h : (Region.noSelect l.toArray && l.all noDefer && Region.sinkB .any l.toArray n && Region.chainB .any l.toArray n && decide (n < l.length)) = true) : Headed .any l.toArray n := by
  rw [Bool.and_eq_true, Bool.and_eq_true, Bool.and_eq_true, Bool.and_eq_true, decide_eq_true_eq] at h
  obtain ⟨⟨⟨⟨h1, h2⟩, h3⟩, h4⟩, h5⟩ := h
  refine ⟨Region.noSelect_spec h1, fun j o ho c hc => ?_, h3, h4, by simpa using h5⟩
  have k1 : l[j]? = some o := by simpa using ho
  have k2 := List.all_eq_true.1 h2 o (List.mem_of_getElem? k1)
  unfold noDefer at k2
  rw [hc] at k2
  cases k2

/-- The region: its head's walk, then the tail in order. -/
theorem region_headC (C : World → Prop) {id : Nat} {a : Act} {w : World} {l : List Oper} (n : Nat) (hm : P.follows .mixedOrders = true) (hn : n < l.length)
    (h : AtC F m P l.toArray Q C n (fun a' w' => wpListIn F m P l.toArray Q (l.drop n) a' w') n (Array.replicate l.toArray.size false) a { w with drawn := w.drawn + 1 }) : (Code.region id l.toArray true).wpIn F m P Q a w := by
  have len2 : (l.drop n).length = l.toArray.size - n := by rw [List.length_drop]; simp
  have whole := any_of_headC (g := l.toArray.size - n) (fun listed a' w' hL => by
    rw [← len2]
    rw [← len2] at hL
    exact tail_in_order (l.drop n) n listed a' w' (fun j => by simp) hL.1 hL.2) n _ _ _ h
  have total : n + (l.toArray.size - n) = l.toArray.size := by simp; omega
  rw [total] at whole
  exact wpIn_region_any hm whole
end
end Go.Proofs.YtjnbhcakfenbhaaDoor

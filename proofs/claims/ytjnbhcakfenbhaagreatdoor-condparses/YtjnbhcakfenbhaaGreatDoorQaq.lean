/- Several texts in one: H0, V2. -/
import Derived.StillTailTactics
import Derived.TacticsInMore
import Derived.OwnWalkIn
import Derived.OrdersIn
import Derived.RangeFuncCalls
import Derived.Test.YtjnbhcakfenbhaaGreatDoorQap
/- A region that draws its order, inside a fence or a round: operations that only read are taken first, as soon as they may come up; what is left of the head comes one by one; then the tail in order. -/
namespace Go.Proofs.YtjnbhcakfenbhaaGreatDoor
open Go
set_option linter.unusedVariables false
set_option linter.unusedSimpArgs false

section
variable {F : Fence} {m : Nat} {P : Program} {ops : Array Oper} {md : Region.Mode} {Q : Exit → Act → World → Prop} {C : World → Prop}

/-- What an operation leaves in its slot, in every world of the class, which it leaves as it is. -/
def ReadsIn (P : Program) (ops : Array Oper) (C : World → Prop) (o : Oper) (v : Value) (a : Act) : Prop :=
  (Region.wanted o (yielded ops a.tmps) = true ∧ ∀ w, C w → (execOp a.eval o).run P w = .ok (.value v) w) ∨ (Region.wanted o (yielded ops a.tmps) = false ∧ v = undef)
theorem ReadsIn.same {o : Oper} {v : Value} {a a' : Act} (h : ReadsIn P ops C o v a) (he : execOp a'.eval o = execOp a.eval o) (hw : Region.wanted o (yielded ops a'.tmps) = Region.wanted o (yielded ops a.tmps)) : ReadsIn P ops C o v a' := by
  unfold ReadsIn at *
  rw [he, hw]
  exact h
theorem ReadsIn.op (hfn : ∀ f, F.fn f) {i : Nat} {o : Oper} {v : Value} {a : Act} {w : World} (hnd : ∀ c, o.op ≠ .defer c) (hi : ops[i]? = some o) (hy : ReadsIn P ops C o v a) (hc : C w) {K : Act → World → Prop} (h : K (a.put o.dst v) w) : wpOpIn F m P ops Q i K a w := by
  unfold wpOpIn
  rw [hi]
  dsimp only
  rcases hy with ⟨hw, hv⟩ | ⟨hw, rfl⟩
  · rw [if_pos hw]
    refine ⟨fun f _ => hfn f, ?_⟩
    rw [Oper.semAt_eq _ _ _ hnd, hv w hc]
    exact h
  · rw [if_neg (by rw [hw]; simp)]
    exact ⟨fun f _ => hfn f, h⟩

/-- Whether oi's value lies in its slot already makes no difference to oj. -/
theorem op_put (hfn : ∀ f, F.fn f) {j : Nat} {oi oj : Oper} {v : Value} (hndj : ∀ c, oj.op ≠ .defer c) (hj : ops[j]? = some oj) (hap : oi.apart ops oj = true)
    (hsi : ∀ cs b, oi.op ≠ .select cs b) (hsj : ∀ cs b, oj.op ≠ .select cs b) (hQ : ∀ c a w, Q (.panic c) (a.put oi.dst v) w → Q (.panic c) a w) {K : Act → World → Prop} {a : Act} {w : World}
    (hy : ReadsIn P ops C oi v a) (h : wpOpIn F m P ops Q j K (a.put oi.dst v) w) : wpOpIn F m P ops Q j (fun a' w' => ReadsIn P ops C oi v a' ∧ K (a'.put oi.dst v) w') a w := by
  obtain ⟨h1, h2, h3⟩ := Oper.apart_spec hap
  have keep : ∀ u, ReadsIn P ops C oi v (a.put oj.dst u) := fun u => hy.same (execOp_put oi hsi a oj.dst u h3) (wanted_put oi a oj.dst u h3)
  have back : ∀ u w', K ((a.put oi.dst v).put oj.dst u) w' → ReadsIn P ops C oi v (a.put oj.dst u) ∧ K ((a.put oj.dst u).put oi.dst v) w' := fun u w' hk => ⟨keep u, by rw [← Act.put_comm a v u h2]; exact hk⟩
  unfold wpOpIn at *
  rw [hj] at h ⊢
  dsimp only at h ⊢
  rw [wanted_put oj a oi.dst v h1] at h
  by_cases hw : Region.wanted oj (yielded ops a.tmps) = true
  · rw [if_pos hw] at h ⊢
    refine ⟨fun f _ => hfn f, ?_⟩
    have h' := h.2
    rw [Oper.semAt_eq _ _ _ hndj, execOp_put oj hsj a oi.dst v h1] at h'
    rw [Oper.semAt_eq _ _ _ hndj]
    generalize (execOp a.eval oj).run P w = r at h' ⊢
    match r, h' with
    | .ok (.value u) w', h' => exact back u w' h'
    | .ok .skip w', h' => exact back undef w' h'
    | .ok (.defer d) w', h' =>
      have hd : ReadsIn P ops C oi v { a with defers := d :: a.defers } := hy.same rfl rfl
      refine ⟨hd.same (execOp_put oi hsi _ oj.dst undef h3) (wanted_put oi _ oj.dst undef h3), ?_⟩
      rw [← Act.put_comm _ v undef h2, ← Act.put_defers]
      exact h'
    | .ok (.enter f args) w', h' =>
      refine ⟨h'.1, CallsIn.mono h'.2 fun e w'' he => ?_⟩
      cases e with
      | returned u => exact back u w'' he
      | panicked c => exact hQ _ _ _ he
      | outgrown => exact he
    | .ok (.row row args) w', h' => exact ⟨h'.1, RowsIn.mono h'.2 fun u w'' he => back u w'' he⟩
    | .ok (.round l f tmps assign body) w', h' =>
      refine ⟨h'.1, RoundIn.mono h'.2 fun e w'' he => ?_⟩
      cases e with
      | returned u => exact back u w'' he
      | panicked c => exact hQ _ _ _ he
      | outgrown => exact he
    | .halt x w', h' =>
      cases x <;> simp only [Oper.uponIn] at h' ⊢
      case panic u => exact hQ _ _ _ h'
  · rw [if_neg hw] at h ⊢
    exact ⟨fun f _ => hfn f, back undef w h.2⟩

/-- f operations of the head are still to come, in any order; till then the world stays in the class. -/
def headC (F : Fence) (m : Nat) (P : Program) (md : Region.Mode) (ops : Array Oper) (Q : Exit → Act → World → Prop) (C : World → Prop) (n : Nat) (L : Array Bool → Act → World → Prop) : Nat → Array Bool → Act → World → Prop
  | 0 => L
  | f + 1 => fun listed a w => Region.ready md ops listed ≠ [] ∧ ∀ i, i ∈ Region.ready md ops listed → i < n ∧ wpOpIn F m P ops Q i (fun a' w' => C w' ∧ headC F m P md ops Q C n L f (listed.setIfInBounds i true) a' w') a w

theorem any_of_headC {n g : Nat} {L : Array Bool → Act → World → Prop} (hL : ∀ listed a w, L listed a w → wpAnyIn F m P md ops Q g listed a w) (f : Nat) :
    ∀ (listed : Array Bool) (a : Act) (w : World), headC F m P md ops Q C n L f listed a w → wpAnyIn F m P md ops Q (f + g) listed a w := by
  induction f with
  | zero =>
    intro listed a w h
    have := hL listed a w h
    rwa [Nat.zero_add]
  | succ f ih =>
    intro listed a w h
    have e : f + 1 + g = f + g + 1 := Nat.add_right_comm f 1 g
    rw [e]
    exact ⟨fun none => (h.1 none).elim, fun i hi => wpOpIn_mono (fun a' w' both => ih _ a' w' both.2) (h.2 i hi).2⟩

/-- The region, and where its head ends. -/
structure Headed (md : Region.Mode) (ops : Array Oper) (n : Nat) : Prop where
  sel : ∀ (j : Nat) (o : Oper) cs b, ops[j]? = some o → o.op ≠ .select cs b
  plain : ∀ (j : Nat) (o : Oper), ops[j]? = some o → ∀ c, o.op ≠ .defer c
  sink : Region.sinkB md ops n = true
  chain : Region.chainB md ops n = true
  size : n < ops.size

theorem head_takeC (hfn : ∀ f, F.fn f) {n i : Nat} {oi : Oper} {v : Value} {L : Array Bool → Act → World → Prop} (hd : Headed md ops n) (hi : ops[i]? = some oi) (hin : i < n) (hQ : ∀ c a w, Q (.panic c) (a.put oi.dst v) w → Q (.panic c) a w)
    (hdone : ∀ listed a w, L listed a w → ∀ j ∈ Region.ready md ops listed, n ≤ j) (f : Nat) :
    ∀ (listed : Array Bool) (a : Act) (w : World), HeadInv md ops n listed →
      (∀ j oj, ops[j]? = some oj → j ≠ i → listed.getD j true = false → (∀ e ∈ oj.after, Region.binds md e = true → e.on ≠ i) → oi.apart ops oj = true) →
      i ∈ Region.ready md ops listed → ReadsIn P ops C oi v a → C w →
      headC F m P md ops Q C n L f (listed.setIfInBounds i true) (a.put oi.dst v) w → headC F m P md ops Q C n L (f + 1) listed a w := by
  have small : ∀ (listed : Array Bool), HeadInv md ops n listed → i ∈ Region.ready md ops listed → ∀ j, j ∈ Region.ready md ops listed → j < n := by
    intro listed inv hr j hj
    by_cases h : j < n
    · exact h
    · exact absurd hj (tail_waits hd.sink hd.chain hd.size inv _ i rfl hin (mem_ready.1 hr).1 j (by omega))
  induction f with
  | zero =>
    intro listed a w inv free hr hy hc H
    refine ⟨List.ne_nil_of_mem hr, fun j hj => ⟨small listed inv hr j hj, ?_⟩⟩
    by_cases same : j = i
    · rw [same]
      exact hy.op hfn (hd.plain i oi hi) hi hc ⟨hc, H⟩
    · have h1 := hdone _ _ _ H j (ready_mono hj same)
      have h2 := small listed inv hr j hj
      omega
  | succ f ih =>
    intro listed a w inv free hr hy hc H
    refine ⟨List.ne_nil_of_mem hr, fun j hj => ⟨small listed inv hr j hj, ?_⟩⟩
    by_cases same : j = i
    · rw [same]
      exact hy.op hfn (hd.plain i oi hi) hi hc ⟨hc, H⟩
    · have later := (H.2 j (ready_mono hj same)).2
      obtain ⟨open_j, oj, hoj, waits⟩ := mem_ready.1 hj
      have apart : ∀ e ∈ oj.after, Region.binds md e = true → e.on ≠ i := by
        intro e he hb on_i
        have was := waits e he hb
        rw [on_i, getD_both (mem_ready.1 hr).1] at was
        cases was
      have swapped := op_put hfn (hd.plain j oj hoj) hoj (free j oj hoj same open_j apart) (fun cs b => hd.sel i oi cs b hi) (fun cs b => hd.sel j oj cs b hoj) hQ hy later
      refine wpOpIn_mono (fun a' w' both => ⟨both.2.1, ih (listed.setIfInBounds j true) a' w' (inv.set hj (small listed inv hr j hj)) ?_ (ready_mono hr (Ne.symm same)) both.1 both.2.1 ?_⟩) swapped
      · intro k ok hk hki unlisted hno
        refine free k ok hk hki ?_ hno
        by_cases hjk : j = k
        · rw [← hjk]; exact open_j
        · rwa [getD_set_ne true hjk] at unlisted
      · rw [Array.setIfInBounds_comm _ _ same]
        exact both.2.2

/-- What the walk stands at: f of the head to come. -/
def AtC (F : Fence) (m : Nat) (P : Program) (ops : Array Oper) (Q : Exit → Act → World → Prop) (C : World → Prop) (n : Nat) (L : Act → World → Prop) (f : Nat) (listed : Array Bool) (a : Act) (w : World) : Prop :=
  headC F m P .any ops Q C n (fun listed' a' w' => Region.seqB .any ops (ops.size - n) n listed' = true ∧ L a' w') f listed a w

/-- Those listed wait for none that is not. -/
def closedB (ops : Array Oper) (n : Nat) (listed : Array Bool) : Bool :=
  decide (listed.size = ops.size) && (List.range ops.size).all (fun j => !(listed.getD j false) || (match ops[j]? with
    | some oj => oj.after.all fun e => !(Region.binds .any e) || listed.getD e.on false
    | none => true)) && (List.range ops.size).all (fun t => decide (t < n) || !(listed.getD t true))
theorem closed_inv {n : Nat} {listed : Array Bool} (h : closedB ops n listed = true) : HeadInv .any ops n listed := by
  unfold closedB at h
  rw [Bool.and_eq_true, Bool.and_eq_true, decide_eq_true_eq] at h
  obtain ⟨⟨h1, h2⟩, h3⟩ := h
  refine ⟨h1, fun j oj hj hl e he hb => ?_, fun t ht hts => ?_⟩
  · have hlt : j < ops.size := (Array.getElem?_eq_some_iff.1 hj).1
    have h4 := List.all_eq_true.1 h2 j (List.mem_range.2 hlt)
    rw [hl, hj] at h4
    dsimp only at h4
    rw [Bool.not_true, Bool.false_or] at h4
    have h5 := Array.all_eq_true'.1 h4 e he
    rw [hb] at h5
    simpa using h5
  · have h4 := List.all_eq_true.1 h3 t (List.mem_range.2 hts)
    have : decide (t < n) = false := decide_eq_false (by omega)
    rw [this, Bool.false_or] at h4
    simpa using h4

theorem atC_take (hfn : ∀ f, F.fn f) {n : Nat} {L : Act → World → Prop} {f : Nat} {listed : Array Bool} {a : Act} {w : World} (hd : Headed .any ops n) (i : Nat) {oi : Oper} {v : Value} (hi : ops[i]? = some oi)
    (hB : (decide (i < n) && closedB ops n listed && Region.free .any ops listed i && (Region.ready .any ops listed).contains i) = true) (hQ : ∀ c a w, Q (.panic c) (a.put oi.dst v) w → Q (.panic c) a w)
    (hy : ReadsIn P ops C oi v a) (hc : C w) (h : AtC F m P ops Q C n L f (listed.setIfInBounds i true) (a.put oi.dst v) w) : AtC F m P ops Q C n L (f + 1) listed a w := by
  rw [Bool.and_eq_true, Bool.and_eq_true, Bool.and_eq_true, decide_eq_true_eq] at hB
  obtain ⟨⟨⟨h1, h2⟩, h3⟩, h4⟩ := hB
  exact head_takeC hfn hd hi h1 hQ (fun listed' a' w' hL => seqB_ready hL.1) f listed a w (closed_inv h2) (Region.free_spec hi h3) (by simpa using h4) hy hc h
/-- The one that may come up now. -/
theorem atC_next {n : Nat} {L : Act → World → Prop} {f : Nat} {listed : Array Bool} {a : Act} {w : World} (i : Nat) {oi : Oper} (hi : ops[i]? = some oi) (hB : (decide (i < n) && decide (Region.ready .any ops listed = [i])) = true)
    (h : ∀ K : Act → World → Prop, (∀ a' w', C w' → AtC F m P ops Q C n L f (listed.setIfInBounds i true) a' w' → K a' w') → if Region.wanted oi (yielded ops a.tmps) = true then Oper.wpIn F m P oi a w K Q else (∀ f, oi.about P w a.eval = some f → F.fn f) ∧ K (a.put oi.dst undef) w) : AtC F m P ops Q C n L (f + 1) listed a w := by
  rw [Bool.and_eq_true, decide_eq_true_eq, decide_eq_true_eq] at hB
  refine ⟨by rw [hB.2]; simp, fun j hj => ?_⟩
  rw [hB.2, List.mem_singleton] at hj
  rw [hj]
  refine ⟨hB.1, ?_⟩
  unfold wpOpIn
  rw [hi]
  exact h _ (fun a' w' h1 h2 => ⟨h1, h2⟩)
theorem atC_end {n : Nat} {L : Act → World → Prop} {listed : Array Bool} {a : Act} {w : World} (hB : Region.seqB .any ops (ops.size - n) n listed = true) (h : L a w) : AtC F m P ops Q C n L 0 listed a w := ⟨hB, h⟩

theorem headed_of {l : List Oper} {n : Nat} (h : (Region.noSelect l.toArray && l.all noDefer && Region.sinkB .any l.toArray n && Region.chainB .any l.toArray n && decide (n < l.length)) = true) : Headed .any l.toArray n := by
  rw [Bool.and_eq_true, Bool.and_eq_true, Bool.and_eq_true, Bool.and_eq_true, decide_eq_true_eq] at h
  obtain ⟨⟨⟨⟨h1, h2⟩, h3⟩, h4⟩, h5⟩ := h
  refine ⟨Region.noSelect_spec h1, fun j o ho c hc => ?_, h3, h4, by simpa using h5⟩
  have k1 : l[j]? = some o := by simpa using ho
  have k2 := List.all_eq_true.1 h2 o (List.mem_of_getElem? k1)
  unfold noDefer at k2
  rw [hc] at k2
  cases k2

/-- The region: its head's walk, then the tail in order. -/
theorem region_headC (C : World → Prop) {id : Nat} {a : Act} {w : World} {l : List Oper} (n : Nat) (hm : P.follows .mixedOrders = true) (hn : n < l.length)
    (h : AtC F m P l.toArray Q C n (fun a' w' => wpListIn F m P l.toArray Q (l.drop n) a' w') n (Array.replicate l.toArray.size false) a { w with drawn := w.drawn + 1 }) : (Code.region id l.toArray true).wpIn F m P Q a w := by
  have len2 : (l.drop n).length = l.toArray.size - n := by rw [List.length_drop]; simp
  have whole := any_of_headC (g := l.toArray.size - n) (fun listed a' w' hL => by
    rw [← len2]
    rw [← len2] at hL
    exact tail_in_order (l.drop n) n listed a' w' (fun j => by simp) hL.1 hL.2) n _ _ _ h
  have total : n + (l.toArray.size - n) = l.toArray.size := by simp; omega
  rw [total] at whole
  exact wpIn_region_any hm whole
end
end Go.Proofs.YtjnbhcakfenbhaaGreatDoor
/- add: a node is put behind the others. -/
namespace Go.Proofs.YtjnbhcakfenbhaaGreatDoor
open Go.RowKit Go.Shelf M
set_option linter.unusedSimpArgs false
set_option linter.unusedVariables false

section
variable {F : Fence} {N : Nat} {w : World} {b t o : Nat} {cs : List Value} {ops : Array Oper} {rest : List Oper} {op : Oper} {a : Act} {Q : Exit → Act → World → Prop}
theorem plainIn (hgd : op.guard = none) (hnc : ∀ c, op.op ≠ .call c) (hnd : ∀ c, op.op ≠ .defer c) {v : Value} {W : World} (hr : (execOp a.eval op).run Tryz.prog w = .ok (.value v) W)
    (h : wpListIn F N Tryz.prog ops Q rest (a.put op.dst v) W) : wpListIn F N Tryz.prog ops Q (op :: rest) a w := by
  refine wpListIn_plain hgd fun K hK => ⟨fun f hf => ?_, ?_⟩
  · exfalso
    unfold Oper.about at hf
    cases ho : op.op <;> simp_all
  · rw [Oper.semAt_plain F _ _ hnd, hr]
    exact hK _ _ h
theorem skipIn (hgd : op.guard = none) (hnc : ∀ c, op.op ≠ .call c) (hnd : ∀ c, op.op ≠ .defer c) {W : World} (hr : (execOp a.eval op).run Tryz.prog w = .ok .skip W)
    (h : wpListIn F N Tryz.prog ops Q rest (a.put op.dst undef) W) : wpListIn F N Tryz.prog ops Q (op :: rest) a w := by
  refine wpListIn_plain hgd fun K hK => ⟨fun f hf => ?_, ?_⟩
  · exfalso
    unfold Oper.about at hf
    cases ho : op.op <;> simp_all
  · rw [Oper.semAt_plain F _ _ hnd, hr]
    exact hK _ _ h
theorem inStore1 (hgd : op.guard = none) (ty : TypeId) (x y : Operand) (ho : op.op = .store ty x y) (hx : a.eval x = .pointer (some ⟨b, o, none⟩)) (v : Value) (hy : a.eval y = v) (hc : IsS w b t cs)
    (hk : o < cs.length) (hi : (Tryz.prog.info? ty).map (·.size) = some 1) (h1 : v.oneCell' = true)
    (h : ∀ W, Upd w W b → IsS W b t (cs.set o v) → wpListIn F N Tryz.prog ops Q rest (a.put op.dst undef) W) : wpListIn F N Tryz.prog ops Q (op :: rest) a w := by
  refine skipIn hgd (by rw [ho]; intro c e; cases e) (by rw [ho]; intro c e; cases e) ?_ (h _ (Upd.setCell w b o v) (hc.set1 o v))
  unfold execOp
  simp only [ho, hx, hy, Instr.storeAt, Instr.sureAddr, Sem.run_bind, Sem.run_pure, Result.andThen_ok, run_store1 w b o ty v (hc.there o 1 (by omega)) hi h1]
end
section
variable {F : Fence} {m : Nat} {P : Program} {ops : Array Oper} {Q : Exit → Act → World → Prop} {C : World → Prop}
/-- The one that may come up now, where it only runs. -/
theorem atC_run (hfn : ∀ f, F.fn f) {n : Nat} {L : Act → World → Prop} {f : Nat} {listed : Array Bool} {a : Act} {w : World} (i : Nat) {oi : Oper} (hi : ops[i]? = some oi) (hB : (decide (i < n) && decide (Region.ready .any ops listed = [i])) = true)
    (hnd : ∀ c, oi.op ≠ .defer c) (hw : Region.wanted oi (yielded ops a.tmps) = true) {v : Value} {w' : World} (hr : (execOp a.eval oi).run P w = .ok (.value v) w') (hc : C w')
    (h : AtC F m P ops Q C n L f (listed.setIfInBounds i true) (a.put oi.dst v) w') : AtC F m P ops Q C n L (f + 1) listed a w := by
  refine atC_next i hi hB fun K hK => ?_
  rw [if_pos hw]
  refine ⟨fun f _ => hfn f, ?_⟩
  rw [Oper.semAt_eq _ _ _ hnd, hr]
  exact hK _ _ hc h
theorem atC_ex (hfn : ∀ f, F.fn f) {n : Nat} {L : Act → World → Prop} {f : Nat} {listed : Array Bool} {a : Act} {w : World} (i : Nat) {oi : Oper} (hi : ops[i]? = some oi) (hB : (decide (i < n) && decide (Region.ready .any ops listed = [i])) = true)
    (hnd : ∀ c, oi.op ≠ .defer c) (hw : Region.wanted oi (yielded ops a.tmps) = true) {R : Value → World → Prop} (hr : ∃ v w', (execOp a.eval oi).run P w = .ok (.value v) w' ∧ R v w')
    (h : ∀ v w', R v w' → C w' ∧ AtC F m P ops Q C n L f (listed.setIfInBounds i true) (a.put oi.dst v) w') : AtC F m P ops Q C n L (f + 1) listed a w := by
  obtain ⟨v, w', hr, hR⟩ := hr
  exact atC_run hfn i hi hB hnd hw hr (h v w' hR).1 (h v w' hR).2
end
theorem run_loadP {op : Oper} {a : Act} {w : World} {b t o : Nat} {cs : List Value} (ty : TypeId) (x : Operand) (ho : op.op = .load ty x) (hx : a.eval x = .pointer (some ⟨b, o, none⟩)) (hc : IsS w b t cs) (k : Nat) (sub : List Value) (hsub : (cs.drop o).take k = sub) (d : TypeDesc)
    (hu : Tryz.prog.underlying ty = some d) (hd : d.isRow = true) (hi : (Tryz.prog.info? ty).map (·.size) = some sub.length) : (execOp a.eval op).run Tryz.prog w = .ok (.value (.agg sub.toArray)) w := by
  subst hsub
  unfold execOp
  simp only [ho, hx, Sem.run_bind, run_loadAt_mid w b o ty _ d (hc.range o k) hu hd hi, Result.andThen_ok, Sem.run_pure]
theorem run_load1 {op : Oper} {a : Act} {w : World} {b t o : Nat} {cs : List Value} (ty : TypeId) (x : Operand) (ho : op.op = .load ty x) (hx : a.eval x = .pointer (some ⟨b, o, none⟩)) (hc : IsS w b t cs) {v : Value} (hv : cs[o]? = some v)
    (hl : ∀ w, w.cell? ⟨b, o, none⟩ = some v → (Instr.loadAt ty (.pointer (some ⟨b, o, none⟩))).run Tryz.prog w = .ok v w) : (execOp a.eval op).run Tryz.prog w = .ok (.value v) w := by
  unfold execOp
  simp only [ho, hx, Sem.run_bind, hl w ((hc.cell o).trans hv), Result.andThen_ok, Sem.run_pure]
theorem run_buildNd {op : Oper} {a : Act} {w : World} (x : Operand) (ho : op.op = .buildSlice 23 1 #[(0, x)]) (t : Nd) (hx : a.eval x = .agg (ndL t).toArray) :
    ∃ v W, (execOp a.eval op).run Tryz.prog w = .ok (.value v) W ∧ (∃ b, v = .slice (some ⟨b, 0, none⟩) 1 1 ∧ Fresh w W b ∧ IsS W b 62 (ndL t)) := by
  refine ⟨_, _, ?_, _, rfl, Fresh.alloc w (.cells (ndL t).toArray 62), IsS.new w 62 _⟩
  generalize a.eval = ev at hx ⊢
  unfold execOp
  simp [ho, hx, go_sem, Value.cells, ndL]
theorem run_appNd {op : Oper} {a : Act} {w : World} (sl x : Operand) (ho : op.op = .call { callee := .builtin .append, args := #[sl, x], argTypes := #[23, 23] })
    (B : Nat) (v : Value) (out : List Nd) (hs : a.eval sl = v) (hown : w.ownsRow B 62 6 v out.length (cellsL out)) (b : Nat) (nd : Nd) (hx : a.eval x = .slice (some ⟨b, 0, none⟩) 1 1) (hb : IsS w b 62 (ndL nd)) (hn : out.length ≤ 16777216) (hB : B ≤ w.heap.size) :
    ∃ v' W, (execOp a.eval op).run Tryz.prog w = .ok (.value v') W ∧ (W.ownsRow B 62 6 v' (out ++ [nd]).length (cellsL (out ++ [nd])) ∧ Step none v.ownBlock v'.ownBlock w W) := by
  obtain ⟨v', W, h1, h2, h3⟩ := run_appN B v out hown b 1 nd hb hn hB op.type
  refine ⟨v', W, ?_, h2, h3⟩
  unfold execOp
  simp only [ho, resolve, invoke, builtin, Sem.run_bind, Sem.run_pure, Result.andThen_ok, List.map_toArray, List.map_cons, List.map_nil, hs, hx, h1]
theorem own_formN {W : World} {base e s n : Nat} {v : Value} {xs : List Value} (h : W.ownsRow base e s v n xs) : ∃ a cap, v = .slice a n cap := by
  rcases h.2 with ⟨rfl, rfl⟩ | ⟨g', cap', cur, rfl, _⟩
  · exact ⟨_, _, rfl⟩
  · exact ⟨_, _, rfl⟩
theorem own_neN {W : World} {base e s n b t : Nat} {v : Value} {xs cs : List Value} (h : W.ownsRow base e s v n xs) (hc : IsS W b t cs) (hte : t ≠ e) : v.ownBlock ≠ some b := by
  rcases h.2 with ⟨rfl, _⟩ | ⟨g, cap, cur, rfl, hg, hh, rest⟩
  · intro e; cases e
  · intro e'
    cases e'
    rw [show W.heap[g]? = _ from hc] at hh
    cases hh
    exact hte rfl
theorem own_grN {W W' : World} {base e s n : Nat} {v : Value} {xs : List Value} (h : W.ownsRow base e s v n xs) (hb : Below W.heap.size W W') : W'.ownsRow base e s v n xs := by
  refine ⟨h.1, ?_⟩
  rcases h.2 with hn | ⟨g, cap, cur, rfl, hg, hh, rest⟩
  · exact Or.inl hn
  · exact Or.inr ⟨g, cap, cur, rfl, hg, (hb.block g (Array.getElem?_eq_some_iff.1 hh).1).trans hh, rest⟩
theorem own_updF {W W' : World} {base e s n b : Nat} {v : Value} {xs : List Value} (h : W.ownsRow base e s v n xs) (U : Upd W W' b) (hb : v.ownBlock ≠ some b) : W'.ownsRow base e s v n xs := by
  refine ⟨h.1, ?_⟩
  rcases h.2 with hn | ⟨g, cap, cur, rfl, hg, hh, rest⟩
  · exact Or.inl hn
  · exact Or.inr ⟨g, cap, cur, rfl, hg, (U.block g (fun e => hb (by rw [← e]; rfl))).trans hh, rest⟩
theorem infoCd : (Tryz.prog.info? 23).map (·.size) = some 1 := by kernel_rfl
section
variable {gs : List GT} {a : Option Addr} {cap base br : Nat}
theorem cadd_no (hn : Few gs) (σ : CS) (ok : Ok gs σ) (hk : 1 ≤ σ.k) (nd : Nd) (hl : σ.nodes.length = 1024) (w : World) (hP : PC gs a cap base br w σ) :
    Calls Tryz.prog 86 #[.pointer (some ⟨br, 0, none⟩), .agg (ndL nd).toArray] w fun en w' => OutC gs a cap base br w (nodeC gs σ nd) (.int .i64 (nodeI σ)) en w' := by
  obtain ⟨v, d, h1, h2, h3, h4⟩ := hP.ex
  obtain ⟨k, hk2⟩ : ∃ k, σ.k = k + 1 := ⟨σ.k - 1, by omega⟩
  have hkl := ok.k
  have e2 : nodeC gs σ nd = ⟨σ.k, σ.deep, σ.nodes, some ((gEnd gs k).line, (gEnd gs k).col, 1)⟩ := by
    unfold nodeC failC
    rw [if_neg (by rw [ok.F]; simp), if_pos hl, if_neg (by rw [ok.F]; simp), hk2, gEnd_at (by omega)]
    rfl
  rw [e2]
  obtain ⟨a0, c0, rfl⟩ := own_formN h4
  rw [hl] at h3
  rw [hk2] at h3
  refine (add_no a cap k d a0 c0 nd gs hn.1 (by have := hn.1; omega) br w hP.toks h3).mono ?_
  rintro en w' ⟨ht, B⟩
  exact OutC.thrown rfl ht (below_lower B hP.sz)
set_option maxRecDepth 100000 in
set_option maxHeartbeats 2000000 in
theorem cadd_yes (σ : CS) (ok : Ok gs σ) (nd : Nd) (hl : σ.nodes.length < 1024) (w : World) (hP : PC gs a cap base br w σ) :
    Calls Tryz.prog 86 #[.pointer (some ⟨br, 0, none⟩), .agg (ndL nd).toArray] w fun en w' => OutC gs a cap base br w (nodeC gs σ nd) (.int .i64 (nodeI σ)) en w' := by
  obtain ⟨v, d, h1, h2, h3, h4⟩ := hP.ex
  have hbr := hP.lt
  have e2 : nodeC gs σ nd = ⟨σ.k, σ.deep, σ.nodes ++ [nd], none⟩ := by unfold nodeC; rw [if_neg (by rw [ok.F]; simp), if_neg (by omega)]
  have e3 : nodeI σ = (σ.nodes.length : Int) := by unfold nodeI; rw [if_neg (by rw [ok.F]; simp; omega)]
  rw [e2, e3]
  obtain ⟨a0, c0, rfl⟩ := own_formN h4
  have hlen : ((σ.nodes.length : Int) == 1024) = false := (by simp; omega)
  have hl2 : σ.nodes.length ≤ 1024 := by omega
  go_enter Tryz.func86, Tryz.ntmps86
  go_wp2_with (first
    | (refine wpList_boxS rfl 62 _ rfl (ndL nd) rfl ?_; intro W1 b3 F1 N1; have B1 := F1.trans (Below.refl _ w) (Nat.le_refl _); have R1 := h3.fresh F1; have O1 := own_grN h4 B1; have hb3 : w.heap.size ≤ b3 := Nat.le_of_eq F1.at'.symm; have c3 : W1.cell? ⟨br, 3, none⟩ = some (.slice a0 σ.nodes.length c0) := R1.cell 3; have o3 : (Value.slice a0 σ.nodes.length c0).ownBlock ≠ some b3 := (fun hg => (by have := (h4.lt _ hg).2; omega)); clear F1))
  obtain ⟨X, hX⟩ : ∃ X : World, X = { W1 with drawn := W1.drawn + 1 } := ⟨_, rfl⟩
  have N2 : IsS X b3 62 (ndL nd) := (by rw [hX]; exact N1)
  have R2 : IsS X br 94 (rdL a gs.length cap σ.k d (.slice a0 σ.nodes.length c0)) := (by rw [hX]; exact R1)
  have B2 : Below w.heap.size w X := (by rw [hX]; exact ⟨B1.os, B1.tape, B1.output, B1.size, B1.block⟩)
  have O2 : X.ownsRow base 62 6 (.slice a0 σ.nodes.length c0) σ.nodes.length (cellsL σ.nodes) := (by rw [hX]; exact own_grN O1 ⟨rfl, rfl, rfl, Nat.le_refl _, fun _ _ => rfl⟩)
  clear N1 R1 O1 c3 h3 h4
  try dsimp only [Act.put]
  refine (wpIn_wide (n := 0)).1 ?_
  refine region_headC (fun w => IsS w br 94 (rdL a gs.length cap σ.k d (.slice a0 σ.nodes.length c0)) ∧ IsS w b3 62 (ndL nd)) 10 (by kernel_rfl) (by decide) ?_
  rw [← hX]
  clear hX B1
  refine atC_take (fun _ => trivial) (headed_of (by kernel_rfl)) 0 rfl (by kernel_rfl) (fun c a w h => h) (v := .pointer (some ⟨br, 0, none⟩)) (.inl ⟨rfl, fun w hc => ?y0⟩) ⟨R2, N2⟩ ?_
  case y0 =>
    rfl
  simp only [Act.put, List.getElem_toArray, List.getElem_cons_zero, List.getElem_cons_succ, List.setIfInBounds_toArray, List.set_cons_succ, List.set_cons_zero]
  refine atC_take (fun _ => trivial) (headed_of (by kernel_rfl)) 1 rfl (by kernel_rfl) (fun c a w h => h) (v := .pointer (some ⟨br, 0, none⟩)) (.inl ⟨rfl, fun w hc => ?y1⟩) ⟨R2, N2⟩ ?_
  case y1 =>
    rfl
  simp only [Act.put, List.getElem_toArray, List.getElem_cons_zero, List.getElem_cons_succ, List.setIfInBounds_toArray, List.set_cons_succ, List.set_cons_zero]
  refine atC_take (fun _ => trivial) (headed_of (by kernel_rfl)) 2 rfl (by kernel_rfl) (fun c a w h => h) (v := .pointer (some ⟨br, 0, none⟩)) (.inl ⟨rfl, fun w hc => ?y2⟩) ⟨R2, N2⟩ ?_
  case y2 =>
    first | rfl | simp [execOp, go_sem]
  simp only [Act.put, List.getElem_toArray, List.getElem_cons_zero, List.getElem_cons_succ, List.setIfInBounds_toArray, List.set_cons_succ, List.set_cons_zero]
  refine atC_take (fun _ => trivial) (headed_of (by kernel_rfl)) 3 rfl (by kernel_rfl) (fun c a w h => h) (v := .pointer (some ⟨br, 3, none⟩)) (.inl ⟨rfl, fun w hc => ?y3⟩) ⟨R2, N2⟩ ?_
  case y3 =>
    first | rfl | simp [execOp, go_sem]
  simp only [Act.put, List.getElem_toArray, List.getElem_cons_zero, List.getElem_cons_succ, List.setIfInBounds_toArray, List.set_cons_succ, List.set_cons_zero]
  refine atC_take (fun _ => trivial) (headed_of (by kernel_rfl)) 4 rfl (by kernel_rfl) (fun c a w h => h) (v := .slice a0 σ.nodes.length c0) (.inl ⟨rfl, fun w hc => ?y4⟩) ⟨R2, N2⟩ ?_
  case y4 =>
    exact run_load1 23 _ rfl rfl hc.1 rfl ldCd
  simp only [Act.put, List.getElem_toArray, List.getElem_cons_zero, List.getElem_cons_succ, List.setIfInBounds_toArray, List.set_cons_succ, List.set_cons_zero]
  refine atC_take (fun _ => trivial) (headed_of (by kernel_rfl)) 5 rfl (by kernel_rfl) (fun c a w h => h) (v := .agg (ndL nd).toArray) (.inl ⟨rfl, fun w hc => ?y5⟩) ⟨R2, N2⟩ ?_
  case y5 =>
    exact run_loadP 62 _ rfl rfl hc.2 6 (ndL nd) rfl _ Tryz.underlying62 rfl infoNd
  simp only [Act.put, List.getElem_toArray, List.getElem_cons_zero, List.getElem_cons_succ, List.setIfInBounds_toArray, List.set_cons_succ, List.set_cons_zero]
  refine atC_ex (fun _ => trivial) 6 rfl (by kernel_rfl) (by intro c h; cases h) rfl (run_buildNd (w := X) _ rfl nd rfl) ?_
  rintro _ Y ⟨b9, rfl, FY, NY⟩
  refine ⟨⟨R2.fresh FY, N2.fresh FY⟩, ?_⟩
  simp only [Act.put, List.getElem_toArray, List.getElem_cons_zero, List.getElem_cons_succ, List.setIfInBounds_toArray, List.set_cons_succ, List.set_cons_zero]
  have O3 := own_grN O2 (FY.trans (Below.refl _ _) (Nat.le_refl _))
  have B3 := FY.trans B2 B2.size
  have R3 := R2.fresh FY
  have N3 := N2.fresh FY
  clear R2 N2 O2 B2 FY
  refine atC_ex (fun _ => trivial) 7 rfl (by kernel_rfl) (by intro c h; cases h) rfl (run_appNd (w := Y) _ _ rfl base (.slice a0 σ.nodes.length c0) σ.nodes rfl O3 b9 nd rfl NY (by omega) (Nat.le_trans hP.sz B3.size)) ?_
  rintro v2 Z ⟨O4, S4⟩
  have nrow := own_neN O3 R3 (by decide)
  have R4 := R3.step S4 (by intro e; cases e) (Ne.symm nrow)
  have N4 := N3.step S4 (by intro e; cases e) (Ne.symm o3)
  refine ⟨⟨R4, N4⟩, ?_⟩
  simp only [Act.put, List.getElem_toArray, List.getElem_cons_zero, List.getElem_cons_succ, List.setIfInBounds_toArray, List.set_cons_succ, List.set_cons_zero]
  refine atC_take (fun _ => trivial) (headed_of (by kernel_rfl)) 8 rfl (by kernel_rfl) (fun c a w h => h) (v := .pointer (some ⟨br, 0, none⟩)) (.inl ⟨rfl, fun w hc => ?y8⟩) ⟨R4, N4⟩ ?_
  case y8 =>
    first | rfl | simp [execOp, go_sem]
  simp only [Act.put, List.getElem_toArray, List.getElem_cons_zero, List.getElem_cons_succ, List.setIfInBounds_toArray, List.set_cons_succ, List.set_cons_zero]
  refine atC_take (fun _ => trivial) (headed_of (by kernel_rfl)) 9 rfl (by kernel_rfl) (fun c a w h => h) (v := .pointer (some ⟨br, 3, none⟩)) (.inl ⟨rfl, fun w hc => ?y9⟩) ⟨R4, N4⟩ ?_
  case y9 =>
    first | rfl | simp [execOp, go_sem]
  simp only [Act.put, List.getElem_toArray, List.getElem_cons_zero, List.getElem_cons_succ, List.setIfInBounds_toArray, List.set_cons_succ, List.set_cons_zero]
  have B4 : Below base w Z := (below_lower B3 hP.sz).trans (S4.below (by intro b e; cases e) (fun b e => (O3.lt b e).1) (Nat.le_trans hP.sz B3.size))
  have nrow2 := own_neN O4 R4 (by decide)
  refine atC_end (by kernel_rfl) ?_
  simp only [List.drop_succ_cons, List.drop_zero]
  obtain ⟨m, hm⟩ : ∃ m, (σ.nodes ++ [nd]).length = m := ⟨_, rfl⟩
  have HM : Hid ((m : Int) - 1 = (σ.nodes.length : Int)) := (by show _ = _; rw [← hm]; simp)
  have HN : Hid ((σ.nodes ++ [nd]).length = m) := hm
  have hm2 : m ≤ 1024 := (by rw [← hm]; simp; omega)
  have hm1 : 1 ≤ m := (by rw [← hm]; simp)
  rw [hm] at O4
  clear hm
  obtain ⟨a5, c5, rfl⟩ := own_formN O4
  gi_wp2_with (first
    | (refine inStore1 rfl 23 _ _ rfl rfl (.slice a5 m c5) rfl R4 (by simp [rdL]) infoCd rfl ?_; intro W9 U9 R9x; have R9 : IsS W9 br 94 (rdL a gs.length cap σ.k d (.slice a5 m c5)) := R9x; have O9 := own_updF O4 U9 nrow2; have B9 : Below base w W9 := U9.trans B4 hP.bb; have c9 : W9.cell? ⟨br, 3, none⟩ = some (.slice a5 m c5) := R9.cell 3))
  clear R4 N4 O3 S4 nrow nrow2 O4 B4 NY R3 N3
  go_wp2_with fail
  go_ret
  rw [HM.out]
  exact OutC.ret rfl ⟨⟨_, d, h1, h2, R9, (by show W9.ownsRow base _ 6 _ (σ.nodes ++ [nd]).length _; rw [HN.out]; exact O9)⟩, toks_low hP.toks hP.tb B9, hP.tb, hP.bb, Nat.le_trans hP.sz B9.size, (by show (σ.nodes ++ [nd]).length ≤ _; rw [HN.out]; exact hm2)⟩ B9
theorem cadd_any (hn : Few gs) (σ : CS) (ok : Ok gs σ) (hk : 1 ≤ σ.k) (nd : Nd) (w : World) (hP : PC gs a cap base br w σ) :
    Calls Tryz.prog 86 #[.pointer (some ⟨br, 0, none⟩), .agg (ndL nd).toArray] w fun en w' => OutC gs a cap base br w (nodeC gs σ nd) (.int .i64 (nodeI σ)) en w' := by
  have := hP.len
  by_cases h : σ.nodes.length = 1024
  · exact cadd_no hn σ ok hk nd h w hP
  · exact cadd_yes σ ok nd (by omega) w hP
end
end Go.Proofs.YtjnbhcakfenbhaaGreatDoor

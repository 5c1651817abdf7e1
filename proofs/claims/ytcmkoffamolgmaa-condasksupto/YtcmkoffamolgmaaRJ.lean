/- Steps of such a region. -/
import Derived.Test.YtcmkoffamolgmaaRI
namespace Go.Proofs.Ytcmkoffamolgmaa
open Go
set_option linter.unusedVariables false
set_option linter.unusedSimpArgs false
section
variable {P : Program} {ops : Array Oper} {Q : Exit → Act → World → Prop}
theorem region_invA {id : Nat} {a : Act} {w : World} {l : List Oper} (n : Nat) (I : Act → Array Bool → Act → World → Prop) (hm : P.follows .mixedOrders = true)
    (hB : (Region.sinkB .any l.toArray n && Region.chainB .any l.toArray n && decide (n < l.length) && fwdB l.toArray n && Region.seqB .any l.toArray (l.drop n).length n (fullB l.length n)) = true)
    (h0 : I a (Array.replicate l.length false) a { w with drawn := w.drawn + 1 })
    (hstep : ∀ i listed a' w', i < n → i ∈ Region.ready .any l.toArray listed → I a listed a' w' → wpOp P l.toArray Q i (fun a'' w'' => I a (listed.setIfInBounds i true) a'' w'') a' w')
    (hend : ∀ a' w', I a (fullB l.length n) a' w' → wpList P l.toArray Q (l.drop n) a' w') : (Code.region id l.toArray true).wp P Q a w :=
  region_inv n (I a) hm hB h0 hstep hend
theorem wpOp_value {i : Nat} {o : Oper} {K : Act → World → Prop} {a : Act} {w w' : World} {v : Value} (hi : ops[i]? = some o) (hg : o.guard = none) (hr : (execOp a.eval o).run P w = .ok (.value v) w') (h : K (a.put o.dst v) w') : wpOp P ops Q i K a w := by
  unfold wpOp
  rw [hi]
  simp only [Region.wanted, hg, if_true]
  refine Or.inl ?_
  unfold Oper.wp
  rw [hr]
  exact h
theorem wpOp_call {i : Nat} {o : Oper} {K : Act → World → Prop} {a : Act} {w : World} {f : FuncId} {args : Array Value} (hi : ops[i]? = some o) (hg : o.guard = none) (hr : (execOp a.eval o).run P w = .ok (.enter f args) w) (h : Calls P f args w fun e w' => ∃ v, e = .returned v ∧ K (a.put o.dst v) w') : wpOp P ops Q i K a w := by
  unfold wpOp
  rw [hi]
  simp only [Region.wanted, hg, if_true]
  refine Or.inl ?_
  unfold Oper.wp
  rw [hr]
  refine Calls.mono h fun e w' he => ?_
  obtain ⟨v, rfl, hk⟩ := he
  exact hk
/-- What is listed behind one more was listed, but for that one. -/
theorem keep {listed : Array Bool} {i j : Nat} (hij : i ≠ j) (h : (listed.setIfInBounds i true).getD j false = true) : listed.getD j false = true := by rw [getD_set_ne false hij] at h; exact h
theorem not_rep {n j : Nat} (h : (Array.replicate n false).getD j false = true) : False := by rw [getD_replicate_false] at h; cases h
end
end Go.Proofs.Ytcmkoffamolgmaa

/- Laws that the law of Replay wants besides. -/
import Derived.Test.YtmoieckmbimgoaaR8
import Derived.Test.YtmoieckmbimgoaaFQ
import Derived.Test.YtmoieckmbimgoaaGC
namespace Go.Proofs.Ytmoieckmbimgoaa
open Go.RowKit M
set_option linter.unusedSimpArgs false
set_option linter.unusedVariables false

theorem wpList_loadGW {w : World} {b t : Nat} {cs : List Value} {ops : Array Oper} {rest : List Oper} {op : Oper} {a : Act} {Q : Exit → Act → World → Prop} (hw : Region.wanted op (yielded ops a.tmps) = true) (ty : TypeId) (x : Operand) (ho : op.op = .load ty x) (hx : a.eval x = .pointer (some ⟨b, 0, none⟩)) (hc : IsS w b t cs) (d : TypeDesc)
    (hu : Try.prog.underlying ty = some d) (hd : d.isRow = true) (hi : (Try.prog.info? ty).map (·.size) = some cs.length)
    (h : wpList Try.prog ops Q rest (a.put op.dst (.agg cs.toArray)) w) : wpList Try.prog ops Q (op :: rest) a w := by
  refine wpList_step fun K hK => ?_
  simp only [hw, if_true]
  have hr := run_loadAt_mid (P := Try.prog) w b 0 ty cs d (fun i u hu => by rw [Nat.zero_add]; exact (hc.cell i).trans hu) hu hd hi
  unfold Oper.wp execOp
  simp only [ho, hx, Sem.run_bind, hr, Result.andThen_ok, Sem.run_pure]
  exact hK _ _ h
theorem putL_len : ∀ (vs cs : List Value) (o : Nat), (putL cs o vs).length = cs.length
  | [], cs, o => rfl
  | v :: vs, cs, o => by show (putL (cs.set o v) (o + 1) vs).length = _; rw [putL_len vs, List.length_set]
section
variable {w : World} {ops : Array Oper} {rest : List Oper} {op : Oper} {a : Act} {Q : Exit → Act → World → Prop}
theorem wpList_storeM {b o t : Nat} {cs : List Value} (hgd : op.guard = none) (ty : TypeId) (x y : Operand) (ho : op.op = .store ty x y) (hx : a.eval x = .pointer (some ⟨b, o, none⟩)) (vs : List Value) (hy : a.eval y = .agg vs.toArray) (hc : IsS w b t cs) (hk : o + vs.length ≤ cs.length)
    (hf : (Try.prog.info? ty).map (·.size) = some vs.length) (h1 : ∀ v ∈ vs, v.oneCell' = true) (h : ∀ W cs', Upd w W b → cs'.length = cs.length → IsS W b t cs' → wpList Try.prog ops Q rest (a.put op.dst undef) W) : wpList Try.prog ops Q (op :: rest) a w := by
  refine wpList_store_mid hgd ty x y ho b o vs.toArray hx hy (hc.there o _ (by simpa using hk)) (by simpa using hf) (all_oneCell_toArray h1) ?_
  have := h _ _ (Upd.setCells b vs o w) (putL_len ..) (IsS.setL vs o cs w hc)
  simpa using this
end
theorem own_any3 {W : World} {B g t n c : Nat} {cs : List Value} (hB : B ≤ g) (I : IsS W g t cs) (hc : n ≤ c) (hm : c ≤ maxLen) (hl : cs.length = c * 3) : W.ownsRow B t 3 (.slice (some ⟨g, 0, none⟩) n c) n (cs.take (n * 3)) := by
  refine ⟨by rw [List.length_take]; omega, .inr ⟨g, c, cs.toArray, rfl, hB, I, hc, hm, by simp [hl], by simp⟩⟩
theorem own_opn3 {w : World} {B t n : Nat} {v : Value} {xs : List Value} (h : w.ownsRow B t 3 v n xs) (h0 : 0 < n) :
    ∃ g c cs, v = .slice (some ⟨g, 0, none⟩) n c ∧ B ≤ g ∧ IsS w g t cs ∧ n ≤ c ∧ c ≤ maxLen ∧ cs.length = c * 3 := by
  rcases h.2 with ⟨_, h1⟩ | ⟨g, cap, cur, hv, hg, hh, hc, hm, hs, ht⟩
  · omega
  · exact ⟨g, cap, cur.toList, hv, hg, by unfold IsS; rw [hh], hc, hm, by simpa using hs⟩
theorem pk_one3 {x : Int} : ∀ v ∈ [Value.int .i64 x, .int .i64 0, .int .i64 0], v.oneCell' = true := by
  intro v hv
  simp only [List.mem_cons, List.not_mem_nil, or_false] at hv
  rcases hv with rfl | rfl | rfl <;> rfl
theorem build_pk0 {w : World} {op : Oper} {a : Act} {x : Operand} {n : Int} (ho : op.op = .build 35 #[(0, x)]) (hx : a.eval x = .int .i64 n) : (execOp a.eval op).run Try.prog w = .ok (.value (.agg #[.int .i64 n, .int .i64 0, .int .i64 0])) w := by
  have h : Try.t35.zero = some (.agg #[.int .i64 0, .int .i64 0, .int .i64 0]) := by kernel_rfl
  generalize a.eval = ev at hx ⊢
  unfold execOp
  simp [ho, hx, go_sem, zeroValue, h]
theorem wpList_neqFG {w : World} {ops : Array Oper} {rest : List Oper} {op : Oper} {a : Act} {Q : Exit → Act → World → Prop} (hw : Region.wanted op (yielded ops a.tmps) = true) {x y : Operand} {vs : List Int} (hv : vs.length ≤ 48) (ho : op.op = .binOp .neq 42 x y 42) (hx : a.eval x = .agg (finL vs).toArray) (hy : a.eval y = .agg (finL vs).toArray)
    (h : wpList Try.prog ops Q rest (a.put op.dst (.bool false)) w) : wpList Try.prog ops Q (op :: rest) a w := by
  refine wpList_step fun K hK => ?_
  simp only [hw, if_true]
  unfold Oper.wp
  rw [exec_neqF hv ho hx hy]
  exact hK _ _ h
theorem wpList_bpk {w : World} {ops : Array Oper} {rest : List Oper} {op : Oper} {a : Act} {Q : Exit → Act → World → Prop} (hgd : op.guard = none) (x : Operand) (ho : op.op = .build 35 #[(0, x)]) (n : Int) (hx : a.eval x = .int .i64 n) (h : wpList Try.prog ops Q rest (a.put op.dst (.agg (pkL (n, 0, 0)).toArray)) w) : wpList Try.prog ops Q (op :: rest) a w := by
  refine wpList_plain hgd fun K hK => ?_
  unfold Oper.wp
  rw [build_pk0 ho hx]
  exact hK _ _ h
end Go.Proofs.Ytmoieckmbimgoaa

/- References in memory: loaded, compared. -/
import Derived.Test.YtcmkoffamolgmaaH1
import Derived.Test.YtcmkoffamolgmaaKB
namespace Go.Proofs.Ytcmkoffamolgmaa
open Go Go.RowKit M
set_option linter.unusedSimpArgs false
set_option linter.unusedVariables false

theorem fieldsK : (Try.prog.fieldsOf 39).toList = [{ name := "Thread", type := 3, offset := 0, embedded := false, tag := "", pkgPath := "", byteOffset := 0 },
        { name := "Name", type := 9, offset := 1, embedded := false, tag := "", pkgPath := "", byteOffset := 8 }] := by kernel_rfl
theorem stoodK : Try.prog.stoodInHeld 39 = false := by kernel_rfl
theorem undK : Try.prog.underlying 39 = some (.struct (Try.prog.fieldsOf 39)) := by kernel_rfl
theorem partK0 (x : RK) (w : World) : (part 3 (rkL x).toArray 0).run Try.prog w = .ok (.int .i64 (thI x)) w := by
  have h : (rkL x)[0]? = some (Value.int .i64 (thI x)) := rfl
  unfold part; simp [Sem.run_bind, Try.isAgg3, h]
theorem partK1 (x : RK) (w : World) : (part 9 (rkL x).toArray 1).run Try.prog w = .ok (.string x.2) w := by
  have h : (rkL x)[1]? = some (Value.string x.2) := rfl
  unfold part; simp [Sem.run_bind, Try.isAgg9, h]
theorem eqFieldsK (xs ys : Array Value) (d : Nat) : Op.eqFields (d + 2) xs ys [{ name := "Thread", type := 3, offset := 0, embedded := false, tag := "", pkgPath := "", byteOffset := 0 },
        { name := "Name", type := 9, offset := 1, embedded := false, tag := "", pkgPath := "", byteOffset := 8 }] = (do
      let a ← part 3 xs 0
      let b ← part 3 ys 0
      let r ← Op.equalIn (d + 2) 3 a b
      if (!r) = true then pure false else do
        let a ← part 9 xs 1
        let b ← part 9 ys 1
        let r ← Op.equalIn (d + 2) 9 a b
        if (!r) = true then pure false else pure true) := by
  simp [Op.eqFields]
theorem equalK3 (n m : Int) (w : World) (d : Nat) : (Op.equalIn (d + 2) 3 (.int .i64 n) (.int .i64 m)).run Try.prog w = .ok (n == m) w := by
  have := run_equalIn_int (P := Try.prog) w (d + 1) 3 .i64 .i64 n m Try.underlying3
  simpa using this
theorem equalK9 (s t : ByteArray) (w : World) (d : Nat) : (Op.equalIn (d + 2) 9 (.string s) (.string t)).run Try.prog w = .ok (s.toList == t.toList) w := by
  have := run_equalIn_string (P := Try.prog) w (d + 1) 9 s t Try.underlying9
  simpa using this
theorem equalKS (c c' : Array Value) (w : World) (d : Nat) : (Op.equalIn (d + 3) 39 (.agg c) (.agg c')).run Try.prog w = (Op.eqFields (d + 2) c c' (Try.prog.fieldsOf 39).toList).run Try.prog w :=
  run_equalIn_struct w (d + 2) 39 c c' undK stoodK
theorem eqDoK (c c' : Array Value) (n n' : Int) (s s' : ByteArray) (q : Bool) (w : World) (E : TypeId → Value → Value → Sem Bool) (h0 : (E 3 (.int .i64 n) (.int .i64 n')).run Try.prog w = .ok (n == n') w) (h1 : (part 3 c 0).run Try.prog w = .ok (.int .i64 n) w) (h1' : (part 3 c' 0).run Try.prog w = .ok (.int .i64 n') w)
    (h2 : (part 9 c 1).run Try.prog w = .ok (.string s) w) (h2' : (part 9 c' 1).run Try.prog w = .ok (.string s') w) (h3 : (E 9 (.string s) (.string s')).run Try.prog w = .ok q w) : (do
      let a ← part 3 c 0
      let b ← part 3 c' 0
      let r ← E 3 a b
      if (!r) = true then pure false else do
        let a ← part 9 c 1
        let b ← part 9 c' 1
        let r ← E 9 a b
        if (!r) = true then pure false else pure true : Sem Bool).run Try.prog w = .ok ((n == n') && q) w := by
  cases hn : (n == n') <;> cases q <;> simp only [Sem.run_bind, h0, h1, h1', h2, h2', h3, hn, Result.andThen_ok, Bool.not_true, Bool.not_false, Bool.false_eq_true, if_false, if_true, Sem.run_pure, Bool.and_false, Bool.and_true, Bool.true_and, Bool.false_and]
theorem equalKC (c c' : Array Value) (n n' : Int) (s s' : ByteArray) (w : World) (d : Nat) (h1 : (part 3 c 0).run Try.prog w = .ok (.int .i64 n) w) (h1' : (part 3 c' 0).run Try.prog w = .ok (.int .i64 n') w) (h2 : (part 9 c 1).run Try.prog w = .ok (.string s) w) (h2' : (part 9 c' 1).run Try.prog w = .ok (.string s') w) : (Op.equalIn (d + 3) 39 (.agg c) (.agg c')).run Try.prog w = .ok ((n == n') && (s.toList == s'.toList)) w :=
  (equalKS c c' w d).trans ((congrArg (fun s : Sem Bool => s.run Try.prog w) ((congrArg (Op.eqFields (d + 2) c c') fieldsK).trans (eqFieldsK c c' d))).trans
    (eqDoK c c' n n' s s' _ w (Op.equalIn (d + 2)) (equalK3 n n' w d) h1 h1' h2 h2' (equalK9 s s' w d)))
theorem eqk (x y : RK) : ((thI x == thI y) && (x.2.toList == y.2.toList)) = decide (x = y) := by
  rw [Bool.eq_iff_iff, Bool.and_eq_true, decide_eq_true_iff]
  constructor
  · rintro ⟨h1, h2⟩
    have h1 := eq_of_beq h1
    have h2 := eq_of_beq h2
    unfold thI at h1
    refine Prod.ext (by omega) (ba_eq ?_)
    rwa [toL, toL] at h2
  · rintro rfl; simp
theorem equalKK (x y : RK) (w : World) : (Op.equalIn 10000 39 (.agg (rkL x).toArray) (.agg (rkL y).toArray)).run Try.prog w = .ok (decide (x = y)) w := by
  rw [← eqk x y]
  exact equalKC (rkL x).toArray (rkL y).toArray (thI x) (thI y) x.2 y.2 w 9997 (partK0 x w) (partK0 y w) (partK1 x w) (partK1 y w)
theorem eqlK (x y : RK) (w : World) : (binOp .eql 39 (.agg (rkL x).toArray) (.agg (rkL y).toArray)).run Try.prog w = .ok (.bool (decide (x = y))) w := by
  have := equalKK x y w
  rw [run_eql_struct, this]; rfl
theorem eqGuardK (op : BinOp) (x y : Operand) (c d : Array Value) (w : World) : (eqGuard op 39 x y (.agg c) (.agg d)).run Try.prog w = .ok () w :=
  run_eqGuard_agg w op 39 x y _ _ (by kernel_rfl)
theorem neqK (x y : RK) (w : World) : (binOp .neq 39 (.agg (rkL x).toArray) (.agg (rkL y).toArray)).run Try.prog w = .ok (.bool (!decide (x = y))) w := by
  have := equalKK x y w
  rw [run_neq_struct, this]; rfl
theorem exec_eqK {w : World} {op : Oper} {a : Act} {p q : Operand} {x y : RK} (ho : op.op = .binOp .eql 39 p q 39) (hx : a.eval p = .agg (rkL x).toArray) (hy : a.eval q = .agg (rkL y).toArray) : (execOp a.eval op).run Try.prog w = .ok (.value (.bool (decide (x = y)))) w := by
  unfold execOp
  simp only [ho, hx, hy, Sem.run_bind, eqGuardK, eqlK x y w, Result.andThen_ok, Sem.run_pure]
theorem exec_neqK {w : World} {op : Oper} {a : Act} {p q : Operand} {x y : RK} (ho : op.op = .binOp .neq 39 p q 39) (hx : a.eval p = .agg (rkL x).toArray) (hy : a.eval q = .agg (rkL y).toArray) : (execOp a.eval op).run Try.prog w = .ok (.value (.bool (!decide (x = y)))) w := by
  unfold execOp
  simp only [ho, hx, hy, Sem.run_bind, eqGuardK, neqK x y w, Result.andThen_ok, Sem.run_pure]
section
variable {w : World} {b o : Nat} {x y : RK} {ops : Array Oper} {rest : List Oper} {op : Oper} {a : Act} {Q : Exit → Act → World → Prop}
theorem wpList_loadK (hgd : op.guard = none) (p : Operand) (ho : op.op = .load 39 p) (hp : a.eval p = .pointer (some ⟨b, o, none⟩)) (hc : w.rangeAt b o (rkL x))
    (h : wpList Try.prog ops Q rest (a.put op.dst (.agg (rkL x).toArray)) w) : wpList Try.prog ops Q (op :: rest) a w := by
  refine wpList_plain hgd fun K hK => ?_
  unfold Oper.wp
  rw [exec_loadR ho hp hc Try.underlying39 rfl infoRk]
  exact hK _ _ h
theorem WG.rk {W : World} {Q : Act → Prop} (hw : Region.wanted op (yielded ops a.tmps) = true) (p : Operand) (ho : op.op = .load 39 p) (hp : a.eval p = .pointer (some ⟨b, o, none⟩)) (hb : b < W.heap.size) (hc : W.rangeAt b o (rkL x))
    (h : WG ops W Q rest (a.put op.dst (.agg (rkL x).toArray))) : WG ops W Q (op :: rest) a :=
  WG.range hw 39 p ho hp (rkL x) hb hc _ Try.underlying39 rfl infoRk h
theorem WG.eqK {W : World} {Q : Act → Prop} (hw : Region.wanted op (yielded ops a.tmps) = true) (p q : Operand) (ho : op.op = .binOp .eql 39 p q 39) (hx : a.eval p = .agg (rkL x).toArray) (hy : a.eval q = .agg (rkL y).toArray)
    (v : Bool) (hv : decide (x = y) = v) (h : WG ops W Q rest (a.put op.dst (.bool v))) : WG ops W Q (op :: rest) a :=
  WG.put hw (v := .bool v) (fun w => by rw [exec_eqK ho hx hy, hv]) h
theorem WG.neqK {W : World} {Q : Act → Prop} (hw : Region.wanted op (yielded ops a.tmps) = true) (p q : Operand) (ho : op.op = .binOp .neq 39 p q 39) (hx : a.eval p = .agg (rkL x).toArray) (hy : a.eval q = .agg (rkL y).toArray)
    (v : Bool) (hv : (!decide (x = y)) = v) (h : WG ops W Q rest (a.put op.dst (.bool v))) : WG ops W Q (op :: rest) a :=
  WG.put hw (v := .bool v) (fun w => by rw [exec_neqK ho hx hy, hv]) h
end
theorem rk_at : ∀ (l : List RK) (i : Nat) (r : RK), l[i]? = some r → ∀ (e : Nat) (v : Value), (rkL r)[e]? = some v → (l.flatMap rkL)[i * 2 + e]? = some v
  | [], i, r, h, _, _, _ => by simp at h
  | x :: l, 0, r, h, e, v, hv => by
    simp at h; subst h
    rw [List.flatMap_cons, List.getElem?_append_left (by rw [Nat.zero_mul, Nat.zero_add]; exact (List.getElem?_eq_some_iff.1 hv).1), Nat.zero_mul, Nat.zero_add]; exact hv
  | x :: l, i + 1, r, h, e, v, hv => by
    have hx : (rkL x).length = 2 := rfl
    rw [List.flatMap_cons, List.getElem?_append_right (by rw [hx]; omega), hx, show (i + 1) * 2 + e - 2 = i * 2 + e by omega]
    exact rk_at l i r (by simpa using h) e v hv
theorem seg_rk {w : World} {a : Option Addr} {l : List RK} (h : Seg w a (l.flatMap rkL)) {i : Nat} {r : RK} (hr : l[i]? = some r) : ∃ b o, a = some ⟨b, o, none⟩ ∧ b < w.heap.size ∧ w.rangeAt b (o + i * 2) (rkL r) := by
  obtain ⟨b, o, e, hb, _⟩ := h _ _ (rk_at l i r hr 0 _ rfl)
  refine ⟨b, o, e, hb, fun j v hv => ?_⟩
  obtain ⟨b', o', e', _, h2⟩ := h _ _ (rk_at l i r hr j v hv)
  rw [e] at e'; cases e'
  rw [Nat.add_assoc]; exact h2
end Go.Proofs.Ytcmkoffamolgmaa

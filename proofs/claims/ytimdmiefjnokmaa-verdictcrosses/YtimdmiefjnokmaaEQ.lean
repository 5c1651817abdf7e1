/- Final states held against each other by ==. -/
import Derived.Test.YtimdmiefjnokmaaSF
import Derived.ChangeKeysEq
namespace Go.Proofs.Ytimdmiefjnokmaa
open Go Go.RowKit M
set_option linter.unusedSimpArgs false
set_option linter.unusedVariables false

def ints (l : List Int) : Array Value := (l.map (Value.int .i64)).toArray
theorem infoE2 : ∃ i, Try.prog.info? 2 = some i := by
  have h : (Try.prog.info? 2).isSome = true := by kernel_rfl
  exact Option.isSome_iff_exists.1 h
theorem cellsE2 : Try.prog.cellsOf 2 = 1 := by kernel_rfl
theorem partE2 (l : List Int) (hl : l.length = 48) (w : World) (i : Nat) (hi : i < 48) : (part 2 (ints l) (i * 1)).run Try.prog w = .ok (.int .i64 (l.getD i 0)) w := by
  unfold part
  have h : (l.map (Value.int .i64))[i]? = some (Value.int .i64 (l.getD i 0)) := by
    rw [List.getElem?_map, List.getElem?_eq_getElem (by omega)]; simp [hl, hi]
  unfold ints
  simp [Sem.run_bind, Try.isAgg2, h]
theorem eqItemsG (l m : List Int) (hl : l.length = 48) (hm : m.length = 48) (w : World) (d : Nat) : ∀ is : List Nat, (∀ i ∈ is, i < 48) → (Op.eqItems (d + 1) 2 1 (ints l) (ints m) is).run Try.prog w = .ok (is.all fun i => l.getD i 0 == m.getD i 0) w
  | [], _ => by simp [Op.eqItems]
  | i :: is, h => by
    have h1 := partE2 l hl w i (h i (by simp))
    have h1' := partE2 m hm w i (h i (by simp))
    have h2 := eqItemsG l m hl hm w d is (fun j hj => h j (by simp [hj]))
    simp only [Op.eqItems, Sem.run_bind, h1, h1', Result.andThen_ok]
    rw [run_equalIn_int w d 2 .i64 .i64 _ _ Try.underlying2]
    simp only [Result.andThen_ok, List.all_cons]
    cases hq : (l.getD i 0 == m.getD i 0) with
    | true =>
      have : l.getD i 0 = m.getD i 0 := by simpa using hq
      simp [this]
      simpa using h2
    | false =>
      have : ¬ (l.getD i 0 = m.getD i 0) := by simpa using hq
      simp [this]
theorem fieldsF : (Try.prog.fieldsOf 25).toList = [{ name := "N", type := 3, offset := 0, embedded := false, tag := "", pkgPath := "", byteOffset := 0 },
        { name := "V", type := 23, offset := 1, embedded := false, tag := "", pkgPath := "", byteOffset := 8 }] := by kernel_rfl
theorem stoodF : Try.prog.stoodInHeld 25 = false := by kernel_rfl
theorem undF : Try.prog.underlying 25 = some (.struct (Try.prog.fieldsOf 25)) := by kernel_rfl
theorem partFN (x : FS) (w : World) : (part 3 (encF x).toArray 0).run Try.prog w = .ok (.int .i64 x.n) w := by
  have h : (encF x)[0]? = some (Value.int .i64 x.n) := rfl
  unfold part; simp [Sem.run_bind, Try.isAgg3, h]
theorem ext_fin (x : FS) : (encF x).toArray.extract 1 49 = ints x.v := by
  rw [List.extract_toArray]
  unfold ints
  congr 1
  unfold encF
  rw [List.extract_eq_take_drop, List.drop_succ_cons, List.drop_zero, List.take_of_length_le (by rw [List.length_map, x.h]; omega)]
theorem partFR (x : FS) (w : World) : (part 23 (encF x).toArray 1).run Try.prog w = .ok (.agg (ints x.v)) w := by
  have e := ext_fin x
  unfold part
  generalize (encF x).toArray = c at *
  generalize ints x.v = r at *
  simp only [Sem.run_bind, Try.isAgg23, Try.sizeOf23, Result.andThen_ok, if_true, Sem.run_pure, Nat.reduceAdd, e]
theorem eqFieldsF (xs ys : Array Value) (d : Nat) : Op.eqFields (d + 2) xs ys [{ name := "N", type := 3, offset := 0, embedded := false, tag := "", pkgPath := "", byteOffset := 0 },
        { name := "V", type := 23, offset := 1, embedded := false, tag := "", pkgPath := "", byteOffset := 8 }] = (do
      let a ← part 3 xs 0
      let b ← part 3 ys 0
      let r ← Op.equalIn (d + 2) 3 a b
      if (!r) = true then pure false else do
        let a ← part 23 xs 1
        let b ← part 23 ys 1
        let r ← Op.equalIn (d + 2) 23 a b
        if (!r) = true then pure false else pure true) := by
  simp [Op.eqFields]
theorem equalF3 (n m : Int) (w : World) (d : Nat) : (Op.equalIn (d + 2) 3 (.int .i64 n) (.int .i64 m)).run Try.prog w = .ok (n == m) w := by
  have := run_equalIn_int (P := Try.prog) w (d + 1) 3 .i64 .i64 n m Try.underlying3
  simpa using this
theorem equalFR (l m : List Int) (hl : l.length = 48) (hm : m.length = 48) (w : World) (d : Nat) : (Op.equalIn (d + 2) 23 (.agg (ints l)) (.agg (ints m))).run Try.prog w = .ok ((List.range 48).all fun i => l.getD i 0 == m.getD i 0) w := by
  obtain ⟨i, hi⟩ := infoE2
  have := run_equalIn_array (P := Try.prog) w (d + 1) (ints l) (ints m) Try.underlying23 hi
  rw [cellsE2] at this
  rw [this]
  exact eqItemsG l m hl hm w d _ (by simp)
theorem equalFS (c c' : Array Value) (w : World) (d : Nat) : (Op.equalIn (d + 3) 25 (.agg c) (.agg c')).run Try.prog w = (Op.eqFields (d + 2) c c' (Try.prog.fieldsOf 25).toList).run Try.prog w :=
  run_equalIn_struct w (d + 2) 25 c c' undF stoodF
theorem eqDoF (c c' r r' : Array Value) (n n' : Int) (q : Bool) (w : World) (E : TypeId → Value → Value → Sem Bool) (h0 : (E 3 (.int .i64 n) (.int .i64 n')).run Try.prog w = .ok (n == n') w) (h1 : (part 3 c 0).run Try.prog w = .ok (.int .i64 n) w) (h1' : (part 3 c' 0).run Try.prog w = .ok (.int .i64 n') w)
    (h2 : (part 23 c 1).run Try.prog w = .ok (.agg r) w) (h2' : (part 23 c' 1).run Try.prog w = .ok (.agg r') w) (h3 : (E 23 (.agg r) (.agg r')).run Try.prog w = .ok q w) : (do
      let a ← part 3 c 0
      let b ← part 3 c' 0
      let r ← E 3 a b
      if (!r) = true then pure false else do
        let a ← part 23 c 1
        let b ← part 23 c' 1
        let r ← E 23 a b
        if (!r) = true then pure false else pure true : Sem Bool).run Try.prog w = .ok ((n == n') && q) w := by
  cases hn : (n == n') <;> cases q <;> simp only [Sem.run_bind, h0, h1, h1', h2, h2', h3, hn, Result.andThen_ok, Bool.not_true, Bool.not_false, Bool.false_eq_true, if_false, if_true, Sem.run_pure, Bool.and_false, Bool.and_true, Bool.true_and, Bool.false_and]
theorem equalFC (c c' r r' : Array Value) (n n' : Int) (q : Bool) (w : World) (d : Nat) (h1 : (part 3 c 0).run Try.prog w = .ok (.int .i64 n) w) (h1' : (part 3 c' 0).run Try.prog w = .ok (.int .i64 n') w) (h2 : (part 23 c 1).run Try.prog w = .ok (.agg r) w) (h2' : (part 23 c' 1).run Try.prog w = .ok (.agg r') w)
    (h3 : (Op.equalIn (d + 2) 23 (.agg r) (.agg r')).run Try.prog w = .ok q w) : (Op.equalIn (d + 3) 25 (.agg c) (.agg c')).run Try.prog w = .ok ((n == n') && q) w :=
  (equalFS c c' w d).trans ((congrArg (fun s : Sem Bool => s.run Try.prog w) ((congrArg (Op.eqFields (d + 2) c c') fieldsF).trans (eqFieldsF c c' d))).trans
    (eqDoF c c' r r' n n' q w (Op.equalIn (d + 2)) (equalF3 n n' w d) h1 h1' h2 h2' h3))
theorem all_range (x y : FS) : ((x.n == y.n) && ((List.range 48).all fun i => x.v.getD i 0 == y.v.getD i 0)) = decide (x = y) := by
  rw [Bool.eq_iff_iff]
  simp only [Bool.and_eq_true, beq_iff_eq, List.all_eq_true, List.mem_range, decide_eq_true_eq]
  constructor
  · rintro ⟨h1, h2⟩
    refine FS.eq h1 (List.ext_getElem (by rw [x.h, y.h]) fun i hi hi' => ?_)
    have := h2 i (by rw [x.h] at hi; exact hi)
    rw [List.getD_eq_getElem?_getD, List.getD_eq_getElem?_getD, List.getElem?_eq_getElem hi, List.getElem?_eq_getElem hi'] at this
    simpa using this
  · rintro rfl; exact ⟨rfl, fun _ _ => rfl⟩
theorem equalFF (x y : FS) (w : World) : (Op.equalIn 10000 25 (.agg (encF x).toArray) (.agg (encF y).toArray)).run Try.prog w = .ok (decide (x = y)) w := by
  rw [← all_range x y]
  exact equalFC (encF x).toArray (encF y).toArray (ints x.v) (ints y.v) x.n y.n _ w 9997 (partFN x w) (partFN y w) (partFR x w) (partFR y w) (equalFR x.v y.v x.h y.h w 9997)
theorem eqlF (x y : FS) (w : World) : (binOp .eql 25 (.agg (encF x).toArray) (.agg (encF y).toArray)).run Try.prog w = .ok (.bool (decide (x = y))) w := by
  have := equalFF x y w
  rw [run_eql_struct, this]; rfl
theorem eqGuardF (op : BinOp) (x y : Operand) (c d : Array Value) (w : World) : (eqGuard op 25 x y (.agg c) (.agg d)).run Try.prog w = .ok () w :=
  run_eqGuard_agg w op 25 x y _ _ (by kernel_rfl)
theorem neqF (x y : FS) (w : World) : (binOp .neq 25 (.agg (encF x).toArray) (.agg (encF y).toArray)).run Try.prog w = .ok (.bool (!decide (x = y))) w := by
  have := equalFF x y w
  rw [run_neq_struct, this]; rfl
theorem exec_eqF {w : World} {op : Oper} {a : Act} {p q : Operand} {x y : FS} (ho : op.op = .binOp .eql 25 p q 25) (hx : a.eval p = .agg (encF x).toArray) (hy : a.eval q = .agg (encF y).toArray) : (execOp a.eval op).run Try.prog w = .ok (.value (.bool (decide (x = y)))) w := by
  unfold execOp
  simp only [ho, hx, hy, Sem.run_bind, eqGuardF, eqlF x y w, Result.andThen_ok, Sem.run_pure]
theorem exec_neqF {w : World} {op : Oper} {a : Act} {p q : Operand} {x y : FS} (ho : op.op = .binOp .neq 25 p q 25) (hx : a.eval p = .agg (encF x).toArray) (hy : a.eval q = .agg (encF y).toArray) : (execOp a.eval op).run Try.prog w = .ok (.value (.bool (!decide (x = y)))) w := by
  unfold execOp
  simp only [ho, hx, hy, Sem.run_bind, eqGuardF, neqF x y w, Result.andThen_ok, Sem.run_pure]
section
variable {w : World} {x y : FS} {ops : Array Oper} {rest : List Oper} {op : Oper} {a : Act} {Q : Exit → Act → World → Prop}
theorem wpList_eqF (hgd : op.guard = none) (p q : Operand) (ho : op.op = .binOp .eql 25 p q 25) (hx : a.eval p = .agg (encF x).toArray) (hy : a.eval q = .agg (encF y).toArray) (h : wpList Try.prog ops Q rest (a.put op.dst (.bool (decide (x = y)))) w) : wpList Try.prog ops Q (op :: rest) a w := by
  refine wpList_plain hgd fun K hK => ?_
  unfold Oper.wp
  rw [exec_eqF ho hx hy]
  exact hK _ _ h
theorem wpList_neqF (hgd : op.guard = none) (p q : Operand) (ho : op.op = .binOp .neq 25 p q 25) (hx : a.eval p = .agg (encF x).toArray) (hy : a.eval q = .agg (encF y).toArray) (h : wpList Try.prog ops Q rest (a.put op.dst (.bool (!decide (x = y)))) w) : wpList Try.prog ops Q (op :: rest) a w := by
  refine wpList_plain hgd fun K hK => ?_
  unfold Oper.wp
  rw [exec_neqF ho hx hy]
  exact hK _ _ h
end
end Go.Proofs.Ytimdmiefjnokmaa

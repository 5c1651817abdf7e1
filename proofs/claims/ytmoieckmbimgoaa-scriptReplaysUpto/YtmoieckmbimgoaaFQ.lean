/- Final states held against each other. -/
import Derived.Test.YtmoieckmbimgoaaR9
import Derived.ChangeKeysEq
namespace Go.Proofs.Ytmoieckmbimgoaa
open Go Go.RowKit M
set_option linter.unusedSimpArgs false
set_option linter.unusedVariables false

def finR (vs : List Int) : List Value := (padI vs).map (.int .i64)
theorem infoE2 : ∃ i, Try.prog.info? 2 = some i := by
  have h : (Try.prog.info? 2).isSome = true := by kernel_rfl
  exact Option.isSome_iff_exists.1 h
theorem cellsE2 : Try.prog.cellsOf 2 = 1 := by kernel_rfl
theorem partE2 (vs : List Int) (hv : vs.length ≤ 48) (w : World) (i : Nat) (hi : i < 48) : ∃ x : Int, (part 2 (finR vs).toArray (i * 1)).run Try.prog w = .ok (.int .i64 x) w := by
  obtain ⟨x, hx⟩ : ∃ x, (padI vs)[i]? = some x := ⟨_, List.getElem?_eq_getElem (by rw [padI_len hv]; exact hi)⟩
  refine ⟨x, ?_⟩
  unfold part
  have h : (finR vs)[i]? = some (Value.int .i64 x) := by unfold finR; rw [List.getElem?_map, hx]; rfl
  simp [Sem.run_bind, Try.isAgg2, h]
theorem eqItemsF (vs : List Int) (hv : vs.length ≤ 48) (w : World) (d : Nat) : ∀ is : List Nat, (∀ i ∈ is, i < 48) → (Op.eqItems (d + 1) 2 1 (finR vs).toArray (finR vs).toArray is).run Try.prog w = .ok true w
  | [], _ => by simp [Op.eqItems]
  | i :: is, h => by
    obtain ⟨x, h1⟩ := partE2 vs hv w i (h i (by simp))
    have h2 := eqItemsF vs hv w d is (fun j hj => h j (by simp [hj]))
    simp only [Op.eqItems, Sem.run_bind, h1, Result.andThen_ok]
    rw [run_equalIn_int w d 2 .i64 .i64 _ _ Try.underlying2]
    simpa using h2
theorem fieldsF : (Try.prog.fieldsOf 42).toList = [{ name := "N", type := 3, offset := 0, embedded := false, tag := "", pkgPath := "", byteOffset := 0 },
        { name := "V", type := 40, offset := 1, embedded := false, tag := "", pkgPath := "", byteOffset := 8 }] := by kernel_rfl
theorem stoodF : Try.prog.stoodInHeld 42 = false := by kernel_rfl
theorem undF : Try.prog.underlying 42 = some (.struct (Try.prog.fieldsOf 42)) := by kernel_rfl
theorem partFN (vs : List Int) (w : World) : (part 3 (finL vs).toArray 0).run Try.prog w = .ok (.int .i64 (vs.length : Int)) w := by
  have h : (finL vs)[0]? = some (Value.int .i64 (vs.length : Int)) := rfl
  unfold part; simp [Sem.run_bind, Try.isAgg3, h]
theorem ext_fin (vs : List Int) (hv : vs.length ≤ 48) : (finL vs).toArray.extract 1 49 = (finR vs).toArray := by
  rw [List.extract_toArray]
  congr 1
  unfold finL finR
  rw [List.extract_eq_take_drop, List.drop_succ_cons, List.drop_zero, List.take_of_length_le (by rw [List.length_map, padI_len hv]; omega)]
theorem partFR (vs : List Int) (hv : vs.length ≤ 48) (w : World) : (part 40 (finL vs).toArray 1).run Try.prog w = .ok (.agg (finR vs).toArray) w := by
  have e := ext_fin vs hv
  unfold part
  generalize (finL vs).toArray = c at *
  generalize (finR vs).toArray = r at *
  simp only [Sem.run_bind, Try.isAgg40, Try.sizeOf40, Result.andThen_ok, if_true, Sem.run_pure, Nat.reduceAdd, e]
theorem eqFieldsF (xs ys : Array Value) (d : Nat) : Op.eqFields (d + 2) xs ys [{ name := "N", type := 3, offset := 0, embedded := false, tag := "", pkgPath := "", byteOffset := 0 },
        { name := "V", type := 40, offset := 1, embedded := false, tag := "", pkgPath := "", byteOffset := 8 }] = (do
      let a ← part 3 xs 0
      let b ← part 3 ys 0
      let r ← Op.equalIn (d + 2) 3 a b
      if (!r) = true then pure false else do
        let a ← part 40 xs 1
        let b ← part 40 ys 1
        let r ← Op.equalIn (d + 2) 40 a b
        if (!r) = true then pure false else pure true) := by
  simp [Op.eqFields]
theorem equalF3 (n : Int) (w : World) (d : Nat) : (Op.equalIn (d + 2) 3 (.int .i64 n) (.int .i64 n)).run Try.prog w = .ok true w := by
  have := run_equalIn_int (P := Try.prog) w (d + 1) 3 .i64 .i64 n n Try.underlying3
  simpa using this
theorem equalFR (vs : List Int) (hv : vs.length ≤ 48) (w : World) (d : Nat) : (Op.equalIn (d + 2) 40 (.agg (finR vs).toArray) (.agg (finR vs).toArray)).run Try.prog w = .ok true w := by
  obtain ⟨i, hi⟩ := infoE2
  have := run_equalIn_array (P := Try.prog) w (d + 1) (finR vs).toArray (finR vs).toArray Try.underlying40 hi
  rw [cellsE2] at this
  rw [this]
  exact eqItemsF vs hv w d _ (by simp)
theorem equalFS (c : Array Value) (w : World) (d : Nat) : (Op.equalIn (d + 3) 42 (.agg c) (.agg c)).run Try.prog w = (Op.eqFields (d + 2) c c (Try.prog.fieldsOf 42).toList).run Try.prog w :=
  run_equalIn_struct w (d + 2) 42 c c undF stoodF
theorem eqDoF (c r : Array Value) (n : Int) (w : World) (E : TypeId → Value → Value → Sem Bool) (h0 : (E 3 (.int .i64 n) (.int .i64 n)).run Try.prog w = .ok true w) (h1 : (part 3 c 0).run Try.prog w = .ok (.int .i64 n) w) (h2 : (part 40 c 1).run Try.prog w = .ok (.agg r) w)
    (h3 : (E 40 (.agg r) (.agg r)).run Try.prog w = .ok true w) : (do
      let a ← part 3 c 0
      let b ← part 3 c 0
      let r ← E 3 a b
      if (!r) = true then pure false else do
        let a ← part 40 c 1
        let b ← part 40 c 1
        let r ← E 40 a b
        if (!r) = true then pure false else pure true : Sem Bool).run Try.prog w = .ok true w := by
  simp only [Sem.run_bind, h0, h1, h2, h3, Result.andThen_ok, Bool.not_true, Bool.false_eq_true, if_false, Sem.run_pure]
theorem equalFC (c r : Array Value) (n : Int) (w : World) (d : Nat) (h1 : (part 3 c 0).run Try.prog w = .ok (.int .i64 n) w) (h2 : (part 40 c 1).run Try.prog w = .ok (.agg r) w)
    (h3 : (Op.equalIn (d + 2) 40 (.agg r) (.agg r)).run Try.prog w = .ok true w) : (Op.equalIn (d + 3) 42 (.agg c) (.agg c)).run Try.prog w = .ok true w :=
  (equalFS c w d).trans ((congrArg (fun s : Sem Bool => s.run Try.prog w) ((congrArg (Op.eqFields (d + 2) c c) fieldsF).trans (eqFieldsF c c d))).trans
    (eqDoF c r n w (Op.equalIn (d + 2)) (equalF3 n w d) h1 h2 h3))
theorem equalFF (vs : List Int) (hv : vs.length ≤ 48) (w : World) : (Op.equalIn 10000 42 (.agg (finL vs).toArray) (.agg (finL vs).toArray)).run Try.prog w = .ok true w :=
  equalFC (finL vs).toArray (finR vs).toArray vs.length w 9997 (partFN vs w) (partFR vs hv w) (equalFR vs hv w 9997)
theorem eqlF (vs : List Int) (hv : vs.length ≤ 48) (w : World) : (binOp .eql 42 (.agg (finL vs).toArray) (.agg (finL vs).toArray)).run Try.prog w = .ok (.bool true) w := by
  have := equalFF vs hv w
  rw [run_eql_struct, this]; rfl
theorem eqGuardF (op : BinOp) (x y : Operand) (c d : Array Value) (w : World) : (eqGuard op 42 x y (.agg c) (.agg d)).run Try.prog w = .ok () w :=
  run_eqGuard_agg w op 42 x y _ _ (by kernel_rfl)
theorem exec_eqF {w : World} {op : Oper} {a : Act} {x y : Operand} {vs : List Int} (hv : vs.length ≤ 48) (ho : op.op = .binOp .eql 42 x y 42) (hx : a.eval x = .agg (finL vs).toArray) (hy : a.eval y = .agg (finL vs).toArray) : (execOp a.eval op).run Try.prog w = .ok (.value (.bool true)) w := by
  unfold execOp
  simp only [ho, hx, hy, Sem.run_bind, eqGuardF, eqlF vs hv w, Result.andThen_ok, Sem.run_pure]
theorem neqlF (vs : List Int) (hv : vs.length ≤ 48) (w : World) : (binOp .neq 42 (.agg (finL vs).toArray) (.agg (finL vs).toArray)).run Try.prog w = .ok (.bool false) w := by
  have := equalFF vs hv w
  rw [run_neq_struct, this]; rfl
theorem exec_neqF {w : World} {op : Oper} {a : Act} {x y : Operand} {vs : List Int} (hv : vs.length ≤ 48) (ho : op.op = .binOp .neq 42 x y 42) (hx : a.eval x = .agg (finL vs).toArray) (hy : a.eval y = .agg (finL vs).toArray) : (execOp a.eval op).run Try.prog w = .ok (.value (.bool false)) w := by
  unfold execOp
  simp only [ho, hx, hy, Sem.run_bind, eqGuardF, neqlF vs hv w, Result.andThen_ok, Sem.run_pure]
end Go.Proofs.Ytmoieckmbimgoaa

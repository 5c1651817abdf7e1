/- Whether two relations over the same numbers are equal. -/
import Derived.Test.YtkccckjiemijeabDoorR1
namespace Go.Proofs.YtkccckjiemijeabDoor
open Go.RowKit
set_option linter.unusedSimpArgs false
set_option linter.unusedVariables false

def rowsEq (f g : Nat → Nat) : Bool := (List.range 64).all fun i => decide (f i = g i)
theorem rowsEq_iff (f g : Nat → Nat) : rowsEq f g = true ↔ ∀ i, i < 64 → f i = g i := by
  unfold rowsEq
  rw [List.all_eq_true]
  exact ⟨fun h i hi => of_decide_eq_true (h i (by simpa using hi)), fun h i hi => decide_eq_true (h i (by simpa using hi))⟩
theorem eqItemsG (f g : Nat → Nat) (w : World) (d : Nat) : ∀ is : List Nat, (∀ i ∈ is, i < 64) → (Op.eqItems (d + 1) 22 1 (rowsL f).toArray (rowsL g).toArray is).run Tryd.prog w = .ok (is.all fun i => decide (f i = g i)) w
  | [], _ => by simp [Op.eqItems]
  | i :: is, h => by
    have h1 := part22 f w i (h i (by simp))
    have h1' := part22 g w i (h i (by simp))
    have h2 := eqItemsG f g w d is (fun j hj => h j (by simp [hj]))
    simp only [Op.eqItems, Sem.run_bind, h1, h1', Result.andThen_ok]
    rw [run_equalIn_int w d 22 .u64 .u64 _ _ Tryd.underlying22]
    by_cases e : f i = g i
    · simpa [e] using h2
    · have e' : ¬ ((f i : Int) = (g i : Int)) := by omega
      simp [e, e']
theorem equal23G (f g : Nat → Nat) (w : World) (d : Nat) : (Op.equalIn (d + 2) 23 (.agg (rowsL f).toArray) (.agg (rowsL g).toArray)).run Tryd.prog w = .ok (rowsEq f g) w := by
  obtain ⟨i, hi⟩ := info22
  have := run_equalIn_array (P := Tryd.prog) w (d + 1) (rowsL f).toArray (rowsL g).toArray Tryd.underlying23 hi
  rw [cells22] at this
  rw [this]
  exact eqItemsG f g w d _ (by simp)
theorem eqDoG (c c' r r' : Array Value) (n : Int) (b : Bool) (w : World) (E : TypeId → Value → Value → Sem Bool) (h0 : (E 3 (.int .i64 n) (.int .i64 n)).run Tryd.prog w = .ok true w) (h1 : (part 3 c 0).run Tryd.prog w = .ok (.int .i64 n) w) (h2 : (part 23 c 1).run Tryd.prog w = .ok (.agg r) w)
    (h1' : (part 3 c' 0).run Tryd.prog w = .ok (.int .i64 n) w) (h2' : (part 23 c' 1).run Tryd.prog w = .ok (.agg r') w)
    (h3 : (E 23 (.agg r) (.agg r')).run Tryd.prog w = .ok b w) : (do
      let a ← part 3 c 0
      let b ← part 3 c' 0
      let r ← E 3 a b
      if (!r) = true then pure false else do
        let a ← part 23 c 1
        let b ← part 23 c' 1
        let r ← E 23 a b
        if (!r) = true then pure false else pure true : Sem Bool).run Tryd.prog w = .ok b w := by
  simp only [Sem.run_bind, h0, h1, h2, h1', h2', h3, Result.andThen_ok, Bool.not_true, Bool.false_eq_true, if_false, Sem.run_pure]
  cases b <;> simp
theorem equal25G (c c' : Array Value) (w : World) (d : Nat) : (Op.equalIn (d + 3) 25 (.agg c) (.agg c')).run Tryd.prog w = (Op.eqFields (d + 2) c c' (Tryd.prog.fieldsOf 25).toList).run Tryd.prog w :=
  run_equalIn_struct w (d + 2) 25 c c' und25 stood25
theorem equalCG (c c' r r' : Array Value) (n : Int) (b : Bool) (w : World) (d : Nat) (h1 : (part 3 c 0).run Tryd.prog w = .ok (.int .i64 n) w) (h2 : (part 23 c 1).run Tryd.prog w = .ok (.agg r) w)
    (h1' : (part 3 c' 0).run Tryd.prog w = .ok (.int .i64 n) w) (h2' : (part 23 c' 1).run Tryd.prog w = .ok (.agg r') w)
    (h3 : (Op.equalIn (d + 2) 23 (.agg r) (.agg r')).run Tryd.prog w = .ok b w) : (Op.equalIn (d + 3) 25 (.agg c) (.agg c')).run Tryd.prog w = .ok b w :=
  (equal25G c c' w d).trans ((congrArg (fun s : Sem Bool => s.run Tryd.prog w) ((congrArg (Op.eqFields (d + 2) c c') fields25).trans (eqFieldsR c c' d))).trans
    (eqDoG c c' r r' n b w (Op.equalIn (d + 2)) (equal3 n w d) h1 h2 h1' h2' h3))
theorem equalRG' (n : Int) (f g : Nat → Nat) (w : World) (d : Nat) : (Op.equalIn (d + 3) 25 (.agg (cellsR n f)) (.agg (cellsR n g))).run Tryd.prog w = .ok (rowsEq f g) w :=
  equalCG (cellsR n f) (cellsR n g) (rowsL f).toArray (rowsL g).toArray n _ w d (partN n f w) (partRows n f w) (partN n g w) (partRows n g w) (equal23G f g w d)
theorem equalRG (n : Int) (f g : Nat → Nat) (w : World) : (Op.equalIn 10000 25 (.agg (cellsR n f)) (.agg (cellsR n g))).run Tryd.prog w = .ok (rowsEq f g) w := equalRG' n f g w 9997
theorem eqlG (n : Int) (f g : Nat → Nat) (w : World) : (binOp .eql 25 (relv n f) (relv n g)).run Tryd.prog w = .ok (.bool (rowsEq f g)) w := by
  have := equalRG n f g w
  unfold relv
  rw [run_eql_struct, this]; rfl
end Go.Proofs.YtkccckjiemijeabDoor

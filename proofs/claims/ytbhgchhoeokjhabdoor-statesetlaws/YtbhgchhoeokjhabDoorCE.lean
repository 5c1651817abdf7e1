/- Code of the reference; Decode in plain mathematics; struct literals of final states. -/
import Derived.Test.YtbhgchhoeokjhabDoorCD
namespace Go.Proofs.YtbhgchhoeokjhabDoor
open Go.RowKit M
set_option linter.unusedSimpArgs false
set_option linter.unusedVariables false

/-- A final state of some values. -/
def mkF (n : Int) (vs : List Int) : FS := ⟨n, (vs ++ List.replicate 48 0).take 48, by simp⟩
theorem mkF_nil : mkF 0 [] = FS.zero := FS.eq rfl (by simp [mkF, FS.zero])
theorem mkF_getD (n : Int) (vs : List Int) (j : Nat) (hj : j < 48) : (mkF n vs).v.getD j 0 = vs.getD j 0 := by
  unfold mkF
  simp only [List.getD_eq_getElem?_getD, List.getElem?_take, if_pos hj]
  by_cases h : j < vs.length
  · rw [List.getElem?_append_left h]
  · rw [List.getElem?_append_right (by omega), List.getElem?_eq_none (l := vs) (by omega), List.getElem?_replicate, if_pos (by omega)]; rfl
theorem encF_ext {a : List Value} {y : FS} (hl : a.length = 49) (h0 : a[0]? = some (.int .i64 y.n)) (h : ∀ j, j < 48 → a[j + 1]? = some (.int .i64 (y.v.getD j 0))) : a = encF y := by
  refine List.ext_getElem? fun i => ?_
  cases i with
  | zero => exact h0
  | succ j =>
    by_cases hj : j < 48
    · rw [h j hj, encF_get y j hj]
    · rw [List.getElem?_eq_none (by omega), List.getElem?_eq_none (by rw [encF_len]; omega)]
theorem encF_set (n : Int) (vs : List Int) (v : Int) (h : vs.length < 48) : (encF (mkF n vs)).set (1 + vs.length) (.int .i64 v) = encF (mkF n (vs ++ [v])) := by
  refine encF_ext (by rw [List.length_set, encF_len]) (by rw [List.getElem?_set_ne (by omega)]; rfl) fun j hj => ?_
  rw [mkF_getD _ _ _ hj]
  by_cases e : j = vs.length
  · subst e
    rw [Nat.add_comm 1, List.getElem?_set_self (by rw [encF_len]; omega)]
    simp
  · rw [List.getElem?_set_ne (by omega), encF_get _ _ hj, mkF_getD _ _ _ hj]
    congr 2
    rw [List.getD_eq_getElem?_getD, List.getD_eq_getElem?_getD]
    by_cases h' : j < vs.length
    · rw [List.getElem?_append_left h']
    · rw [List.getElem?_eq_none (by omega), List.getElem?_append_right (by omega), List.getElem?_eq_none (by simp; omega)]
/-- So many values are taken from a place on. -/
def manyA (s : ByteArray) : Nat → Nat → Option (List Int × Nat)
  | 0, p => some ([], p)
  | k + 1, p => match takeA s (p : Int) with
    | none => none
    | some (v, n) => match manyA s k (p + n) with
      | none => none
      | some (vs, e) => some (v :: vs, e)
/-- The final state that has a code. -/
def decO (s : ByteArray) : Option FS :=
  match takeA s 0 with
  | none => none
  | some (n, k) => if 0 ≤ n ∧ n ≤ 48 then
      match manyA s n.toNat k with
      | none => none
      | some (vs, e) => if e = s.size then some (mkF n vs) else none
    else none
def decV (s : ByteArray) : Value := match decO s with
  | none => .tuple #[.agg (encF FS.zero).toArray, .int .i64 5]
  | some f => .tuple #[.agg (encF f).toArray, .int .i64 0]
section
variable {w : World} {ops : Array Oper} {rest : List Oper} {op : Oper} {a : Act} {Q : Exit → Act → World → Prop}
theorem run_build0 (ho : op.op = .build 27 #[]) : (execOp a.eval op).run Tryd.prog w = .ok (.value (.agg (encF FS.zero).toArray)) w := by
  have h : Tryd.t27.zero = some (.agg (encF FS.zero).toArray) := by kernel_rfl
  unfold execOp
  simp [ho, go_sem, zeroValue, h]
theorem run_buildN {x : Operand} {n : Int} (ho : op.op = .build 27 #[(0, x)]) (hx : a.eval x = .int .i64 n) : (execOp a.eval op).run Tryd.prog w = .ok (.value (.agg (encF (mkF n [])).toArray)) w := by
  have h : Tryd.t27.zero = some (.agg (encF FS.zero).toArray) := by kernel_rfl
  generalize a.eval = ev at hx ⊢
  unfold execOp
  have e1 : ¬ (encF FS.zero = []) := by intro e; have := encF_len FS.zero; rw [e] at this; simp at this
  have e2 : (encF FS.zero).set 0 (.int .i64 n) = encF (mkF n []) := by unfold encF; simp [mkF, FS.zero]
  simp [ho, hx, go_sem, zeroValue, h, e1, e2]
end
end Go.Proofs.YtbhgchhoeokjhabDoor

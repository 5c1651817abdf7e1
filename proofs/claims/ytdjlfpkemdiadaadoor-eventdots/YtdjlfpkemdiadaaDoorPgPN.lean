/- Names of a program, of both sides. -/
import Derived.Test.YtdjlfpkemdiadaaDoorPgPE
namespace Go.Proofs.YtdjlfpkemdiadaaDoor
open Go.RowKit M
set_option linter.unusedSimpArgs false
set_option linter.unusedVariables false

theorem wpList_build2 {w : World} {ops : Array Oper} {rest : List Oper} {op : Oper} {a : Act} {Q : Exit → Act → World → Prop} {t T by' : Nat} {z : Value} (E : Elt t T 2 z by') (hgd : op.guard = none) (x : Operand) (ho : op.op = .buildSlice T 1 #[(0, x)]) (u1 u2 : Value) (hx : a.eval x = .agg #[u1, u2])
    (h : ∀ W b, Fresh w W b → IsS W b t [u1, u2] → wpList Tryd.prog ops Q rest (a.put op.dst (.slice (some ⟨b, 0, none⟩) 1 1)) W) : wpList Tryd.prog ops Q (op :: rest) a w := by
  refine wpList_plain hgd fun K hK => ?_
  unfold Oper.wp
  rw [exec_build2 E x ho u1 u2 hx]
  exact hK _ _ (h _ _ (Fresh.alloc w _) (IsS.new w t [u1, u2]))
abbrev RF := Int × ByteArray
def refL (r : RF) : List Value := [.int .i64 r.1, .string r.2]
theorem ref_one (l : List RF) : ∀ v ∈ l.flatMap refL, v.oneCell' = true := fun v hv => by
  obtain ⟨r, _, h⟩ := List.mem_flatMap.1 hv
  simp [refL] at h
  rcases h with rfl | rfl <;> rfl
theorem ref_len (l : List RF) : (l.flatMap refL).length = l.length * 2 := by
  induction l with
  | nil => rfl
  | cons r l ih => rw [List.flatMap_cons, List.length_append, ih, List.length_cons]; simp [refL]; omega
def nmOf (i : Nat) (l : List ByteArray) : List RF := l.map fun s => ((i : Int), s)
def namesR : Nat → List (List ByteArray) → List RF
  | _, [] => []
  | i, l :: ls => nmOf i l ++ namesR (i + 1) ls
theorem namesR_app : ∀ (i : Nat) (a b : List (List ByteArray)), namesR i (a ++ b) = namesR i a ++ namesR (i + a.length) b
  | i, [], b => by simp [namesR]
  | i, x :: a, b => by
    show nmOf i x ++ namesR (i + 1) (a ++ b) = _
    rw [namesR_app (i + 1) a b]; simp [namesR]; congr 1; omega
theorem namesR_len : ∀ (i : Nat) (a : List (List ByteArray)), (namesR i a).length = a.flatten.length
  | i, [] => rfl
  | i, x :: a => by show (nmOf i x ++ namesR (i + 1) a).length = _; rw [List.length_append, namesR_len (i + 1) a, List.flatten_cons, List.length_append]; simp [nmOf]
theorem namesR_at {ls : List (List ByteArray)} {k : Nat} {l : List ByteArray} (h : ls[k]? = some l) : namesR 0 (ls.take (k + 1)) = namesR 0 (ls.take k) ++ nmOf k l := by
  rw [take_at h, namesR_app]
  have hk := (List.getElem?_eq_some_iff.1 h).1
  simp [namesR, List.length_take]
  rw [Nat.min_eq_left (by omega)]
def lcOf (l : List ByteArray) : List RF := l.map fun s => (-1, s)
def namesP (p : PG) : List RF := namesR 0 p.regs ++ lcOf p.locs
theorem nm_at {i : Nat} {l : List ByteArray} {j : Nat} {s : ByteArray} (h : l[j]? = some s) : nmOf i (l.take (j + 1)) = nmOf i (l.take j) ++ [((i : Int), s)] := by rw [take_at h]; simp [nmOf]
theorem lc_at {l : List ByteArray} {j : Nat} {s : ByteArray} (h : l[j]? = some s) : lcOf (l.take (j + 1)) = lcOf (l.take j) ++ [(-1, s)] := by rw [take_at h]; simp [lcOf]
end Go.Proofs.YtdjlfpkemdiadaaDoor

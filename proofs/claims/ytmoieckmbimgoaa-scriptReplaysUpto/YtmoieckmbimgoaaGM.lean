/- Machines by tables: what they answer, in plain mathematics; a table in memory. -/
import Derived.Test.YtmoieckmbimgoaaKB
namespace Go.Proofs.Ytmoieckmbimgoaa
open Go.RowKit M
set_option linter.unusedSimpArgs false
set_option linter.unusedVariables false

/-- A table. -/
structure GR where
  to : List (List Int)
  ends : Int
  odd : Bool
  holes : Int
/-- The table of a machine, in a block of its own. -/
structure GB (W : World) (g : GR) (b : Nat) : Prop where
  ex : ∃ a c, IsS W b 25 [.slice a g.to.length c, .int .u64 g.ends, .bool g.odd, .int .i64 g.holes] ∧ RowsV W (.slice a g.to.length c) intE g.to
theorem GB.below {W W' : World} {g : GR} {b : Nat} (h : GB W g b) (hB : Below W.heap.size W W') : GB W' g b := by
  obtain ⟨a, c, h1, h2⟩ := h.ex
  exact ⟨a, c, h1.grown hB, h2.below hB⟩
/-- No more than so much. -/
structure GR.Few (g : GR) : Prop where
  t : g.to.length ≤ 200
  r : ∀ l ∈ g.to, l.length ≤ 1048576
/-- The number of a state's text. -/
def numG (g : GR) (T : ByteArray) : Option Nat := if h : T.size = 1 then (if (T[0]'(by omega)).toNat < g.to.length then some (T[0]'(by omega)).toNat else none) else none
def numI (g : GR) (T : ByteArray) : Int := match numG g T with | none => -1 | some n => (n : Int)
theorem num_lt {g : GR} {T : ByteArray} {n : Nat} (h : numG g T = some n) : n < g.to.length := by
  unfold numG at h
  split at h
  · split at h
    · cases h; assumption
    · cases h
  · cases h
abbrev PK := Int × Int × Int
def pkL (k : PK) : List Value := [.int .i64 k.1, .int .i64 k.2.1, .int .i64 k.2.2]
/-- The picks of a state. -/
def rowPk (n : Nat) : List PK := (List.range n).map fun (i : Nat) => ((i : Int), (1 : Int), (0 : Int))
def picksG (g : GR) (T : ByteArray) : List PK := match numG g T with | none => [] | some n => (if g.odd then [(99, 1, 0)] else []) ++ rowPk (g.to.getD n []).length
theorem rowPk_succ (n : Nat) : rowPk (n + 1) = rowPk n ++ [((n : Int), 1, 0)] := by simp [rowPk, List.range_succ]
theorem rowPk_len (n : Nat) : (rowPk n).length = n := by simp [rowPk]
theorem pk_len (l : List PK) : (l.flatMap pkL).length = l.length * 3 := by
  induction l with
  | nil => rfl
  | cons r l ih => rw [List.flatMap_cons, List.length_append, ih, List.length_cons]; simp [pkL]; omega
theorem pk_oneC (k : PK) : ∀ v ∈ pkL k, v.oneCell' = true := by simp [pkL, Value.oneCell']
theorem pk_oneL (l : List PK) : ∀ v ∈ l.flatMap pkL, v.oneCell' = true := fun v hv => by
  obtain ⟨r, _, h⟩ := List.mem_flatMap.1 hv; exact pk_oneC r v h
theorem pk_at : ∀ (l : List PK) (i : Nat) (j : PK), l[i]? = some j → ∀ (e : Nat) (v : Value), (pkL j)[e]? = some v → (l.flatMap pkL)[i * 3 + e]? = some v
  | [], i, j, h, e, v, hv => by simp at h
  | x :: l, 0, j, h, e, v, hv => by
    simp at h; subst h
    have he : e < (pkL x).length := (List.getElem?_eq_some_iff.1 hv).1
    show (pkL x ++ l.flatMap pkL)[0 * 3 + e]? = some v
    rw [Nat.zero_mul, Nat.zero_add, List.getElem?_append_left he]; exact hv
  | x :: l, i + 1, j, h, e, v, hv => by
    have := pk_at l i j (by simpa using h) e v hv
    show (pkL x ++ l.flatMap pkL)[(i + 1) * 3 + e]? = some v
    have e1 : (pkL x).length = 3 := rfl
    rw [List.getElem?_append_right (by omega), e1, show (i + 1) * 3 + e - 3 = i * 3 + e by omega]
    exact this
theorem pk_range {w : World} {a : Option Addr} {l : List PK} (h : Seg w a (l.flatMap pkL)) {i : Nat} {j : PK} (hj : l[i]? = some j) : ∃ b o, a = some ⟨b, o, none⟩ ∧ b < w.heap.size ∧ w.rangeAt b (o + i * 3) (pkL j) := by
  obtain ⟨b, o, e, hb, _⟩ := h (i * 3 + 0) _ (pk_at l i j hj 0 _ rfl)
  refine ⟨b, o, e, hb, fun k v hv => ?_⟩
  obtain ⟨b', o', e', _, hc⟩ := h (i * 3 + k) v (pk_at l i j hj k v hv)
  rw [e] at e'; cases e'
  rw [Nat.add_assoc]; exact hc
theorem infoPk : (Try.prog.info? 35).map (·.size) = some 3 := by kernel_rfl
theorem infoMc : (Try.prog.info? 32).map (·.size) = some 4 := by kernel_rfl
theorem infoGr : (Try.prog.info? 25).map (·.size) = some 4 := by kernel_rfl
end Go.Proofs.Ytmoieckmbimgoaa

/- Replays, in plain mathematics. -/
import Derived.Test.YtmoieckmbimgoaaG7
namespace Go.Proofs.Ytmoieckmbimgoaa
open Go.RowKit M
set_option linter.unusedSimpArgs false
set_option linter.unusedVariables false

section
variable (f : ByteArray → PK → ByteArray × Bool)
def nxt (s : ByteArray) (k : PK) : ByteArray := if (f s k).2 then (f s k).1 else s
/-- The state behind picks. -/
def lastS (s : ByteArray) (l : List PK) : ByteArray := l.foldl (nxt f) s
/-- The states behind each. -/
def stsF : ByteArray → List PK → List ByteArray
  | _, [] => []
  | s, k :: l => nxt f s k :: stsF (nxt f s k) l
/-- Which are taken. -/
def tkF : ByteArray → List PK → List Bool
  | _, [] => []
  | s, k :: l => (f s k).2 :: tkF (nxt f s k) l
/-- Those that are taken, and the states behind them. -/
def plP : ByteArray → List PK → List PK
  | _, [] => []
  | s, k :: l => if (f s k).2 then k :: plP (nxt f s k) l else plP (nxt f s k) l
def plS : ByteArray → List PK → List ByteArray
  | _, [] => []
  | s, k :: l => if (f s k).2 then nxt f s k :: plS (nxt f s k) l else plS (nxt f s k) l
end
section
variable {f : ByteArray → PK → ByteArray × Bool}
theorem last_snoc (s : ByteArray) (l : List PK) (k : PK) : lastS f s (l ++ [k]) = nxt f (lastS f s l) k := by simp [lastS]
theorem sts_snoc : ∀ (l : List PK) (s : ByteArray) (k : PK), stsF f s (l ++ [k]) = stsF f s l ++ [nxt f (lastS f s l) k]
  | [], s, k => rfl
  | x :: l, s, k => by show nxt f s x :: stsF f (nxt f s x) (l ++ [k]) = _; rw [sts_snoc l]; rfl
theorem tk_snoc : ∀ (l : List PK) (s : ByteArray) (k : PK), tkF f s (l ++ [k]) = tkF f s l ++ [(f (lastS f s l) k).2]
  | [], s, k => rfl
  | x :: l, s, k => by show (f s x).2 :: tkF f (nxt f s x) (l ++ [k]) = _; rw [tk_snoc l]; rfl
theorem plP_snoc : ∀ (l : List PK) (s : ByteArray) (k : PK), plP f s (l ++ [k]) = plP f s l ++ (if (f (lastS f s l) k).2 then [k] else [])
  | [], s, k => by show plP f s [k] = _; unfold plP; cases h : (f s k).2 <;> simp [h, lastS, plP]
  | x :: l, s, k => by
    have ih := plP_snoc l (nxt f s x) k
    have e : lastS f s (x :: l) = lastS f (nxt f s x) l := rfl
    show (if (f s x).2 then x :: plP f (nxt f s x) (l ++ [k]) else plP f (nxt f s x) (l ++ [k])) = (if (f s x).2 then x :: plP f (nxt f s x) l else plP f (nxt f s x) l) ++ _
    rw [ih, e]
    cases h : (f s x).2 <;> simp
theorem plS_snoc : ∀ (l : List PK) (s : ByteArray) (k : PK), plS f s (l ++ [k]) = plS f s l ++ (if (f (lastS f s l) k).2 then [nxt f (lastS f s l) k] else [])
  | [], s, k => by show plS f s [k] = _; unfold plS; cases h : (f s k).2 <;> simp [h, lastS, plS]
  | x :: l, s, k => by
    have ih := plS_snoc l (nxt f s x) k
    have e : lastS f s (x :: l) = lastS f (nxt f s x) l := rfl
    show (if (f s x).2 then nxt f s x :: plS f (nxt f s x) (l ++ [k]) else plS f (nxt f s x) (l ++ [k])) = (if (f s x).2 then nxt f s x :: plS f (nxt f s x) l else plS f (nxt f s x) l) ++ _
    rw [ih, e]
    cases h : (f s x).2 <;> simp
theorem sts_len : ∀ (l : List PK) (s : ByteArray), (stsF f s l).length = l.length
  | [], s => rfl
  | x :: l, s => by show (_ :: stsF f (nxt f s x) l).length = _; rw [List.length_cons, sts_len l, List.length_cons]
theorem tk_len : ∀ (l : List PK) (s : ByteArray), (tkF f s l).length = l.length
  | [], s => rfl
  | x :: l, s => by show (_ :: tkF f (nxt f s x) l).length = _; rw [List.length_cons, tk_len l, List.length_cons]
theorem plP_len : ∀ (l : List PK) (s : ByteArray), (plP f s l).length ≤ l.length
  | [], s => Nat.le_refl _
  | x :: l, s => by
    unfold plP; have := plP_len l (nxt f s x)
    split
    · rw [List.length_cons, List.length_cons]; omega
    · rw [List.length_cons]; omega
theorem plS_len : ∀ (l : List PK) (s : ByteArray), (plS f s l).length = (plP f s l).length
  | [], s => rfl
  | x :: l, s => by
    unfold plP plS; have := plS_len l (nxt f s x)
    split
    · rw [List.length_cons, List.length_cons, this]
    · exact this
/-- What is at a place. -/
theorem sts_get : ∀ (l : List PK) (s : ByteArray) (i : Nat), i ≤ l.length → (s :: stsF f s l)[i]? = some (lastS f s (l.take i))
  | l, s, 0, h => rfl
  | [], s, i + 1, h => by simp at h
  | x :: l, s, i + 1, h => by
    rw [List.getElem?_cons_succ]
    show (nxt f s x :: stsF f (nxt f s x) l)[i]? = _
    rw [sts_get l (nxt f s x) i (by simpa using h)]
    rfl
theorem tk_get : ∀ (l : List PK) (s : ByteArray) (i : Nat) (k : PK), l[i]? = some k → (tkF f s l)[i]? = some (f (lastS f s (l.take i)) k).2
  | [], s, i, k, h => by simp at h
  | x :: l, s, 0, k, h => by simp at h; subst h; rfl
  | x :: l, s, i + 1, k, h => by
    show (_ :: tkF f (nxt f s x) l)[i + 1]? = _
    rw [List.getElem?_cons_succ, tk_get l (nxt f s x) i k (by simpa using h)]
    rfl
theorem last_size (hf : ∀ s k, (f s k).1.size ≤ 1) : ∀ (l : List PK) (s : ByteArray), s.size ≤ 1 → (lastS f s l).size ≤ 1
  | [], s, h => h
  | x :: l, s, h => by
    show (lastS f (nxt f s x) l).size ≤ 1
    refine last_size hf l _ ?_
    unfold nxt; split
    · exact hf s x
    · exact h
theorem nxt_true {s : ByteArray} {k : PK} (h : (f s k).2 = true) : nxt f s k = (f s k).1 := by unfold nxt; rw [h]; rfl
theorem nxt_false {s : ByteArray} {k : PK} (h : (f s k).2 = false) : nxt f s k = s := by unfold nxt; rw [h]; rfl
/-- Picks that are taken lead alone through the same states. -/
theorem sts_pl : ∀ (l : List PK) (s : ByteArray), stsF f s (plP f s l) = plS f s l
  | [], s => rfl
  | x :: l, s => by
    unfold plP plS
    cases h : (f s x).2 with
    | true =>
      simp only [if_true]
      show nxt f s x :: stsF f (nxt f s x) _ = _
      rw [sts_pl l]
    | false => rw [nxt_false h]; exact sts_pl l s
end
/-- q is the last place at which there is what is at p. -/
structure LastAt (S : List ByteArray) (p q : Nat) : Prop where
  le : p ≤ q
  lt : q < S.length
  eq : S[q]? = S[p]?
  no : ∀ i, q < i → S[i]? ≠ S[p]? ∨ S.length ≤ i
theorem LastAt.uniq {S : List ByteArray} {p q q' : Nat} (h : LastAt S p q) (h' : LastAt S p q') : q = q' := by
  rcases Nat.lt_trichotomy q q' with hl | hl | hl
  · rcases h.no q' hl with h1 | h1
    · exact absurd h'.eq h1
    · have := h'.lt; omega
  · exact hl
  · rcases h'.no q hl with h1 | h1
    · exact absurd h.eq h1
    · have := h.lt; omega
/-- The picks without rounds, from a place on. -/
inductive StrR (S : List ByteArray) (P : List PK) : Nat → List PK → Prop
  | stop {p q : Nat} : LastAt S p q → P.length ≤ q → StrR S P p []
  | more {p q : Nat} {k : PK} {R : List PK} : LastAt S p q → P[q]? = some k → StrR S P (q + 1) R → StrR S P p (k :: R)
theorem StrR.uniq {S : List ByteArray} {P : List PK} {p : Nat} {R R' : List PK} (h : StrR S P p R) (h' : StrR S P p R') : R = R' := by
  induction h generalizing R' with
  | stop h1 h2 =>
    cases h' with
    | stop => rfl
    | more h3 h4 => rw [h1.uniq h3] at h2; rw [List.getElem?_eq_none h2] at h4; cases h4
  | more h1 h2 _ ih =>
    cases h' with
    | stop h3 h4 => rw [h1.uniq h3] at h2; rw [List.getElem?_eq_none h4] at h2; cases h2
    | more h3 h4 h5 =>
      have e := h1.uniq h3
      subst e
      rw [h2] at h4; cases h4
      rw [ih h5]
theorem StrR.len {S : List ByteArray} {P : List PK} {p : Nat} {R : List PK} (h : StrR S P p R) : R.length + p ≤ P.length ∨ R = [] := by
  induction h with
  | stop => exact .inr rfl
  | more h1 h2 _ ih =>
    have hq := (List.getElem?_eq_some_iff.1 h2).1
    have := h1.le
    left
    rw [List.length_cons]
    rcases ih with ih | ih
    · omega
    · rw [ih]; simp; omega
theorem StrR.len0 {S : List ByteArray} {P : List PK} {R : List PK} (h : StrR S P 0 R) : R.length ≤ P.length := by
  rcases h.len with h1 | h1
  · omega
  · rw [h1]; simp
end Go.Proofs.Ytmoieckmbimgoaa

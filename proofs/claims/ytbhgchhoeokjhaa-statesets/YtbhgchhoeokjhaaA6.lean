/- What union, meet and difference of two sets are, in plain mathematics. -/
import Derived.Test.YtbhgchhoeokjhaaA5
namespace Go.Proofs.Ytbhgchhoeokjhaa
open Go.RowKit M
set_option linter.unusedSimpArgs false
set_option linter.unusedVariables false

def orB (p q : Bool) : Bool := p || q
def andB (p q : Bool) : Bool := p && q
def subB (p q : Bool) : Bool := p && !q
theorem two_union {a b : List FS} (ha : IsSet a) (hb : IsSet b) : twoF orB a b = setF (a ++ b) := by
  refine setF_of (ris_twoF ha.1 hb.1) fun x => ?_
  rw [mem_twoF ha.1 hb.1]
  unfold orB
  simp only [List.mem_append, Bool.or_eq_true, decide_eq_true_eq]
  constructor
  · rintro ⟨h, _⟩; exact ⟨h, by rcases h with h | h; exact ha.2 x h; exact hb.2 x h⟩
  · rintro ⟨h, _⟩; exact ⟨h, h⟩
theorem two_meet {a b : List FS} (ha : Ris a) (hb : Ris b) : twoF andB a b = a.filter fun x => decide (x ∈ b) := by
  refine ris_ext (ris_twoF ha hb) (Ris.pairwise.2 ((Ris.pairwise.1 ha).sublist List.filter_sublist)) fun x => ?_
  rw [mem_twoF ha hb]
  unfold andB
  simp only [Bool.and_eq_true, decide_eq_true_eq, List.mem_filter]
  constructor
  · rintro ⟨_, h⟩; exact h
  · intro h; exact ⟨.inl h.1, h⟩
theorem two_minus {a b : List FS} (ha : Ris a) (hb : Ris b) : twoF subB a b = a.filter fun x => !decide (x ∈ b) := by
  refine ris_ext (ris_twoF ha hb) (Ris.pairwise.2 ((Ris.pairwise.1 ha).sublist List.filter_sublist)) fun x => ?_
  rw [mem_twoF ha hb]
  unfold subB
  simp only [Bool.and_eq_true, decide_eq_true_eq, List.mem_filter, Bool.not_eq_true', decide_eq_false_iff_not]
  constructor
  · rintro ⟨_, h⟩; exact h
  · intro h; exact ⟨.inl h.1, h⟩
theorem fmap_len {f : Bool → Bool → Bool} (u v : Bool) (l : List FS) : ((l.map fun y => (y, u, v)).filter fun p : FS × Bool × Bool => f p.2.1 p.2.2).length = if f u v then l.length else 0 := by
  induction l with
  | nil => simp
  | cons x l ih =>
    rw [List.map_cons, List.filter_cons]
    cases h : f u v <;> simp [h] at ih ⊢ <;> try exact ih
theorem two_len {f : Bool → Bool → Bool} {a b : List FS} : (twoF f a b).length = ((mrg a b).filter fun p => f p.2.1 p.2.2).length := by unfold twoF; rw [List.length_map]
theorem two_lens : ∀ a b : List FS, (twoF orB a b).length + (twoF andB a b).length = a.length + b.length := by
  simp only [two_len]
  refine mrg_ind ?_ ?_ ?_
  · intro b; rw [mrg_nil_left, fmap_len, fmap_len]; simp [orB, andB]
  · intro x a; rw [mrg_nil_right, fmap_len, fmap_len]; simp [orB, andB]
  · intro x y a b h1 h2 h3
    rw [mrg_cons]
    simp only [List.length_cons] at *
    split
    · simp [List.filter_cons, orB, andB] at *; omega
    · split
      · simp [List.filter_cons, orB, andB] at *; omega
      · simp [List.filter_cons, orB, andB] at *; omega
theorem two_lens2 : ∀ a b : List FS, (twoF subB a b).length + (twoF andB a b).length = a.length := by
  simp only [two_len]
  refine mrg_ind ?_ ?_ ?_
  · intro b; rw [mrg_nil_left, fmap_len, fmap_len]; simp [subB, andB]
  · intro x a; rw [mrg_nil_right, fmap_len, fmap_len]; simp [subB, andB]
  · intro x y a b h1 h2 h3
    rw [mrg_cons]
    simp only [List.length_cons] at *
    split
    · simp [List.filter_cons, subB, andB] at *; omega
    · split
      · simp [List.filter_cons, subB, andB] at *; omega
      · simp [List.filter_cons, subB, andB] at *; omega
theorem two_le {f : Bool → Bool → Bool} (a b : List FS) : (twoF f a b).length ≤ a.length + b.length := by
  rw [two_len]; exact Nat.le_trans (List.length_filter_le _ _) (mrg_len a b)
theorem two_set {f : Bool → Bool → Bool} {a b : List FS} (ha : IsSet a) (hb : IsSet b) : IsSet (twoF f a b) :=
  ⟨ris_twoF ha.1 hb.1, fun x hx => by rcases ((mem_twoF ha.1 hb.1 x).1 hx).1 with h | h; exact ha.2 x h; exact hb.2 x h⟩
/-- What is answered of any two lists: nothing and an error if one is no set. -/
def twoE (a b : List FS) : Int := if setB a = true ∧ setB b = true then 0 else 100
def twoL (f : Bool → Bool → Bool) (a b : List FS) : List FS := if setB a = true ∧ setB b = true then twoF f a b else []
theorem twoL_le {f : Bool → Bool → Bool} (a b : List FS) : (twoL f a b).length ≤ a.length + b.length := by
  unfold twoL; split
  · exact two_le a b
  · simp
end Go.Proofs.Ytbhgchhoeokjhaa

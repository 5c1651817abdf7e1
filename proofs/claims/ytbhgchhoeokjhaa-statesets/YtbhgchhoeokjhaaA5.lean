/- Merging two sets, in plain mathematics: what walk goes through, and what choose answers. -/
import Derived.Test.YtbhgchhoeokjhaaA2
namespace Go.Proofs.Ytbhgchhoeokjhaa
open Go.RowKit M
set_option linter.unusedSimpArgs false
set_option linter.unusedVariables false

/-- Both lists side by side: each member once, and which of both have it. -/
def mrgI (x : FS) (a : List FS) (m : List FS → List (FS × Bool × Bool)) : List FS → List (FS × Bool × Bool)
  | [] => (x :: a).map fun x => (x, true, false)
  | y :: b => if ltF x y then (x, true, false) :: m (y :: b) else if x = y then (x, true, true) :: m b else (y, false, true) :: mrgI x a m b
def mrg : List FS → List FS → List (FS × Bool × Bool)
  | [] => fun b => b.map fun y => (y, false, true)
  | x :: a => mrgI x a (mrg a)
theorem mrg_nil_right (a : List FS) : mrg a [] = a.map fun x => (x, true, false) := by cases a <;> rfl
theorem mrg_nil_left (b : List FS) : mrg [] b = b.map fun y => (y, false, true) := rfl
theorem mrg_cons (x y : FS) (a b : List FS) : mrg (x :: a) (y :: b) = if ltF x y then (x, true, false) :: mrg a (y :: b) else if x = y then (x, true, true) :: mrg a b else (y, false, true) :: mrg (x :: a) b := rfl
theorem mrg_ind {P : List FS → List FS → Prop} (h1 : ∀ b, P [] b) (h2 : ∀ x a, P (x :: a) []) (h3 : ∀ x y a b, P a (y :: b) → P a b → P (x :: a) b → P (x :: a) (y :: b)) : ∀ a b, P a b := by
  intro a
  induction a with
  | nil => exact h1
  | cons x a iha =>
    intro b
    induction b with
    | nil => exact h2 x a
    | cons y b ihb => exact h3 x y a b (iha _) (iha _) ihb
theorem mrg_len : ∀ a b : List FS, (mrg a b).length ≤ a.length + b.length := by
  refine mrg_ind ?_ ?_ ?_
  · intro b; simp [mrg_nil_left]
  · intro x a; simp [mrg_nil_right]
  · intro x y a b h1 h2 h3
    rw [mrg_cons]
    simp only [List.length_cons] at *
    split
    · simp only [List.length_cons]; omega
    · split
      · simp only [List.length_cons]; omega
      · simp only [List.length_cons]; omega
theorem not_mem_lt {x : FS} {l : List FS} (h : ∀ y ∈ l, ltF x y) : x ∉ l := fun hx => ltF_irrefl x (h x hx)
theorem mrg_mem : ∀ a b : List FS, Ris a → Ris b → ∀ p : FS × Bool × Bool, p ∈ mrg a b ↔ (p.1 ∈ a ∨ p.1 ∈ b) ∧ p.2.1 = decide (p.1 ∈ a) ∧ p.2.2 = decide (p.1 ∈ b) := by
  refine mrg_ind ?_ ?_ ?_
  · rintro b - - ⟨z, u, v⟩
    rw [mrg_nil_left]
    simp only [List.mem_map, Prod.mk.injEq, List.not_mem_nil, false_or, decide_false]
    constructor
    · rintro ⟨y, hy, rfl, rfl, rfl⟩; simp [hy]
    · rintro ⟨h1, h2, h3⟩; exact ⟨z, h1, rfl, by rw [h2], by rw [h3]; simp [h1]⟩
  · rintro x a - - ⟨z, u, v⟩
    rw [mrg_nil_right]
    simp only [List.mem_map, Prod.mk.injEq, List.not_mem_nil, or_false, decide_false]
    constructor
    · rintro ⟨y, hy, rfl, rfl, rfl⟩; exact ⟨hy, by simp only [decide_eq_true hy], rfl⟩
    · rintro ⟨h1, h2, h3⟩; exact ⟨z, h1, rfl, by rw [h2]; exact (decide_eq_true h1).symm, by rw [h3]⟩
  · rintro x y a b I1 I2 I3 ha hb ⟨z, u, v⟩
    rw [mrg_cons]
    have ha' := ha.tail
    have hb' := hb.tail
    have hxa := not_mem_lt ha.head
    have hyb := not_mem_lt hb.head
    by_cases h1 : ltF x y
    · have hxb : x ∉ y :: b := not_mem_lt fun w hw => by
        rcases List.mem_cons.1 hw with rfl | hw
        · exact h1
        · exact ltF_trans h1 (hb.head w hw)
      rw [if_pos h1, List.mem_cons, I1 ha' hb (z, u, v)]
      by_cases hz : z = x
      · subst hz
        simp only [Prod.mk.injEq, true_and, hxa, hxb, or_self, false_and, or_false, List.mem_cons, true_or, decide_true, decide_false]
      · simp only [Prod.mk.injEq, hz, false_and, false_or, List.mem_cons]
    · rw [if_neg h1]
      by_cases h2 : x = y
      · subst h2
        rw [if_pos rfl, List.mem_cons, I2 ha' hb' (z, u, v)]
        by_cases hz : z = x
        · subst hz
          simp [hxa, hyb]
        · simp only [Prod.mk.injEq, hz, false_and, false_or, List.mem_cons]
      · rw [if_neg h2]
        have h3 : ltF y x := by
          rcases ltF_tri x y with h | h | h
          · exact absurd h h1
          · exact absurd h h2
          · exact h
        have hya : y ∉ x :: a := not_mem_lt fun w hw => by
          rcases List.mem_cons.1 hw with rfl | hw
          · exact h3
          · exact ltF_trans h3 (ha.head w hw)
        rw [List.mem_cons, I3 ha hb' (z, u, v)]
        by_cases hz : z = y
        · subst hz
          have hya' : ¬ (z = x ∨ z ∈ a) := fun h => hya (List.mem_cons.2 h)
          simp [hya', hyb]
        · simp only [Prod.mk.injEq, hz, false_and, false_or, List.mem_cons]
theorem mrg_ris : ∀ a b : List FS, Ris a → Ris b → Ris ((mrg a b).map (·.1)) := by
  refine mrg_ind ?_ ?_ ?_
  · intro b _ hb; rw [mrg_nil_left, List.map_map, show ((fun p : FS × Bool × Bool => p.1) ∘ fun y => (y, false, true)) = id from rfl, List.map_id]; exact hb
  · intro x a ha _; rw [mrg_nil_right, List.map_map, show ((fun p : FS × Bool × Bool => p.1) ∘ fun y => (y, true, false)) = id from rfl, List.map_id]; exact ha
  · intro x y a b I1 I2 I3 ha hb
    have key : ∀ (z : FS) (c d : List FS), Ris c → Ris d → (∀ w ∈ c, ltF z w) → (∀ w ∈ d, ltF z w) → ∀ w ∈ (mrg c d).map (·.1), ltF z w := fun z c d hc hd h1 h2 w hw => by
      obtain ⟨p, hp, rfl⟩ := List.mem_map.1 hw
      rcases ((mrg_mem c d hc hd p).1 hp).1 with h | h
      · exact h1 _ h
      · exact h2 _ h
    rw [mrg_cons]
    by_cases h1 : ltF x y
    · rw [if_pos h1, List.map_cons]
      refine Ris.cons (I1 ha.tail hb) (key x a (y :: b) ha.tail hb ha.head fun w hw => ?_)
      rcases List.mem_cons.1 hw with rfl | hw
      · exact h1
      · exact ltF_trans h1 (hb.head w hw)
    · rw [if_neg h1]
      by_cases h2 : x = y
      · subst h2
        rw [if_pos rfl, List.map_cons]
        exact Ris.cons (I2 ha.tail hb.tail) (key x a b ha.tail hb.tail ha.head hb.head)
      · have h3 : ltF y x := by
          rcases ltF_tri x y with h | h | h
          · exact absurd h h1
          · exact absurd h h2
          · exact h
        rw [if_neg h2, List.map_cons]
        refine Ris.cons (I3 ha hb.tail) (key y (x :: a) b ha hb.tail (fun w hw => ?_) hb.head)
        rcases List.mem_cons.1 hw with rfl | hw
        · exact h3
        · exact ltF_trans h3 (ha.head w hw)
/-- What choose answers of two sets. -/
def twoF (f : Bool → Bool → Bool) (a b : List FS) : List FS := ((mrg a b).filter fun p => f p.2.1 p.2.2).map (·.1)
theorem mem_twoF {f : Bool → Bool → Bool} {a b : List FS} (ha : Ris a) (hb : Ris b) (x : FS) : x ∈ twoF f a b ↔ (x ∈ a ∨ x ∈ b) ∧ f (decide (x ∈ a)) (decide (x ∈ b)) = true := by
  unfold twoF
  simp only [List.mem_map, List.mem_filter]
  constructor
  · rintro ⟨p, ⟨hp, hf⟩, rfl⟩
    obtain ⟨h1, h2, h3⟩ := (mrg_mem a b ha hb p).1 hp
    exact ⟨h1, by rw [← h2, ← h3]; exact hf⟩
  · rintro ⟨h1, h2⟩
    exact ⟨(x, decide (x ∈ a), decide (x ∈ b)), ⟨(mrg_mem a b ha hb _).2 ⟨h1, rfl, rfl⟩, h2⟩, rfl⟩
theorem ris_twoF {f : Bool → Bool → Bool} {a b : List FS} (ha : Ris a) (hb : Ris b) : Ris (twoF f a b) := by
  have h := Ris.pairwise.1 (mrg_ris a b ha hb)
  unfold twoF
  rw [Ris.pairwise]
  exact h.sublist (List.Sublist.map _ List.filter_sublist)
end Go.Proofs.Ytbhgchhoeokjhaa

/- Several texts in one: A2, A5, A6. -/
import Derived.Test.YtbhgchhoeokjhabDoorA1
import Derived.Test.YtbhgchhoeokjhabDoorRW
import Derived.Test.YtbhgchhoeokjhabDoorCE
/- Projections in plain mathematics. -/
namespace Go.Proofs.YtbhgchhoeokjhabDoor
open Go.RowKit M
set_option linter.unusedSimpArgs false
set_option linter.unusedVariables false

/-- The final state of the values that have these numbers. -/
def prjF (ks : List Int) (x : FS) : FS := mkF (ks.length : Int) (ks.map fun k => x.v.getD k.toNat 0)
/-- All numbers are from 0 to n - 1. -/
def inB (ks : List Int) (n : Int) : Bool := ks.all fun k => decide (0 ≤ k ∧ k < n)
def prjE (l : List FS) (ks : List Int) : Int := if setB l = false then 100 else if 48 < ks.length then 1 else if (l.all fun x => inB ks x.n) = false then 4 else 0
def prjL (l : List FS) (ks : List Int) : List FS := if prjE l ks = 0 then setF (l.map (prjF ks)) else []
theorem cmpF_n {a b : FS} (h : cmpF a b < 0) : a.n ≤ b.n := by
  unfold cmpF at h
  by_cases h1 : a.n < b.n
  · omega
  · by_cases h2 : b.n < a.n
    · rw [if_neg h1, if_pos h2] at h; omega
    · omega
theorem inB_le {ks : List Int} {n m : Int} (h : inB ks n = true) (hm : n ≤ m) : inB ks m = true := by
  unfold inB at *
  rw [List.all_eq_true] at *
  intro k hk
  have := h k hk
  simp at *
  omega
theorem inB_all {l : List FS} {ks : List Int} (h : IsSet l) (h0 : 0 < l.length) : (l.all fun x => inB ks x.n) = inB ks (l.getD 0 FS.zero).n := by
  cases l with
  | nil => simp at h0
  | cons y l =>
    have e : (y :: l).getD 0 FS.zero = y := rfl
    rw [e, List.all_cons]
    cases hq : inB ks y.n with
    | false => rfl
    | true =>
      rw [Bool.true_and, List.all_eq_true]
      intro x hx
      exact inB_le hq (cmpF_n (h.1.head x hx))
theorem prjE_100 {l : List FS} {ks : List Int} (h : setB l = false) : prjE l ks = 100 := by unfold prjE; rw [if_pos h]
theorem prjE_1 {l : List FS} {ks : List Int} (h : setB l = true) (h' : 48 < ks.length) : prjE l ks = 1 := by unfold prjE; rw [if_neg (by rw [h]; simp), if_pos h']
theorem prjE_4 {l : List FS} {ks : List Int} (h : setB l = true) (h' : ¬ 48 < ks.length) (h2 : (l.all fun x => inB ks x.n) = false) : prjE l ks = 4 := by unfold prjE; rw [if_neg (by rw [h]; simp), if_neg h', if_pos h2]
theorem prjE_0 {l : List FS} {ks : List Int} (h : setB l = true) (h' : ¬ 48 < ks.length) (h2 : (l.all fun x => inB ks x.n) = true) : prjE l ks = 0 := by unfold prjE; rw [if_neg (by rw [h]; simp), if_neg h', if_neg (by rw [h2]; simp)]
theorem prjL_bad {l : List FS} {ks : List Int} (h : prjE l ks ≠ 0) : prjL l ks = [] := by unfold prjL; rw [if_neg h]
theorem prjL_ok {l : List FS} {ks : List Int} (h : prjE l ks = 0) : prjL l ks = setF (l.map (prjF ks)) := by unfold prjL; rw [if_pos h]
theorem prjL_len (l : List FS) (ks : List Int) : (prjL l ks).length ≤ l.length := by
  unfold prjL
  split
  · have := setF_len (l.map (prjF ks)); rwa [List.length_map] at this
  · simp
theorem inB_at {ks : List Int} {n : Int} (h : inB ks n = true) (j : Nat) (hj : j < ks.length) : 0 ≤ ks.getD j 0 ∧ ks.getD j 0 < n := by
  unfold inB at h
  rw [List.all_eq_true] at h
  have := h (ks.getD j 0) (by simp [hj])
  simpa using this
theorem inB_no {ks : List Int} {n : Int} {j : Nat} (hj : j < ks.length) (h : ¬ (0 ≤ ks.getD j 0 ∧ ks.getD j 0 < n)) : inB ks n = false := by
  rw [Bool.eq_false_iff]
  intro e
  exact h (inB_at e j hj)
theorem inB_yes {ks : List Int} {n : Int} (h : ∀ j, j < ks.length → 0 ≤ ks.getD j 0 ∧ ks.getD j 0 < n) : inB ks n = true := by
  unfold inB
  rw [List.all_eq_true]
  intro k hk
  obtain ⟨j, hj, rfl⟩ := List.getElem_of_mem hk
  have := h j hj
  rw [List.getD_eq_getElem?_getD, List.getElem?_eq_getElem hj] at this
  simpa using this
theorem all_noF {l : List FS} {ks : List Int} {j : Nat} (hj : j < l.length) (h : inB ks (l.getD j FS.zero).n = false) : (l.all fun x => inB ks x.n) = false := by
  rw [Bool.eq_false_iff]
  intro e
  rw [List.all_eq_true] at e
  have := e (l.getD j FS.zero) (by simp [hj])
  rw [h] at this; cases this
theorem all_yesF {l : List FS} {ks : List Int} (h : ∀ j, j < l.length → inB ks (l.getD j FS.zero).n = true) : (l.all fun x => inB ks x.n) = true := by
  rw [List.all_eq_true]
  intro x hx
  obtain ⟨j, hj, rfl⟩ := List.getElem_of_mem hx
  have := h j hj
  rwa [getD_at l j hj] at this
/-- The projection's values one by one. -/
theorem prj_take (ks : List Int) (x : FS) (j : Nat) (hj : j < ks.length) : (ks.take (j + 1)).map (fun k => x.v.getD k.toNat 0) = (ks.take j).map (fun k => x.v.getD k.toNat 0) ++ [x.v.getD (ks.getD j 0).toNat 0] := by
  rw [List.take_succ_eq_append_getElem hj, List.map_append]
  simp [hj]
/-- Numbers in memory. -/
def NumS (w : World) (a : Option Addr) (ks : List Int) : Prop := Seg w a (ks.map (Value.int .i64))
theorem NumS.at {w : World} {a : Option Addr} {ks : List Int} (h : NumS w a ks) (j : Nat) (hj : j < ks.length) : ∃ b o, a = some ⟨b, o, none⟩ ∧ b < w.heap.size ∧ w.cell? ⟨b, o + j, none⟩ = some (.int .i64 (ks.getD j 0)) := by
  refine h j _ ?_
  rw [List.getElem?_map, List.getElem?_eq_getElem hj]
  simp [hj]
theorem NumS.below {w W : World} {a : Option Addr} {ks : List Int} (h : NumS w a ks) (hB : Below w.heap.size w W) : NumS W a ks := Seg.below h hB
end Go.Proofs.YtbhgchhoeokjhabDoor
/- Merging two sets, in plain mathematics: what walk goes through, and what choose answers. -/
namespace Go.Proofs.YtbhgchhoeokjhabDoor
open Go.RowKit M
set_option linter.unusedSimpArgs false
set_option linter.unusedVariables false

/-- Both lists side by side: each member once, and which of both have it. -/
def mrgI (x : FS) (a : List FS) (m : List FS → List (FS × Bool × Bool)) : List FS → List (FS × Bool × Bool)
  | [] => (x :: a).map fun x => (x, true, false)
  | y :: b => if ltF x y then (x, true, false) :: m (y :: b) else if x = y then (x, true, true) :: m b else (y, false, true) :: mrgI x a m b
def mrg : List FS → List FS → List (FS × Bool × Bool)
  | [] => fun b => b.map fun y => (y, false, true)
  | x :: a => mrgI x a (mrg a)
theorem mrg_nil_right (a : List FS) : mrg a [] = a.map fun x => (x, true, false) := by cases a <;> rfl
theorem mrg_nil_left (b : List FS) : mrg [] b = b.map fun y => (y, false, true) := rfl
theorem mrg_cons (x y : FS) (a b : List FS) : mrg (x :: a) (y :: b) = if ltF x y then (x, true, false) :: mrg a (y :: b) else if x = y then (x, true, true) :: mrg a b else (y, false, true) :: mrg (x :: a) b := rfl
theorem mrg_ind {P : List FS → List FS → Prop} (h1 : ∀ b, P [] b) (h2 : ∀ x a, P (x :: a) []) (h3 : ∀ x y a b, P a (y :: b) → P a b → P (x :: a) b → P (x :: a) (y :: b)) : ∀ a b, P a b := by
  intro a
  induction a with
  | nil => exact h1
  | cons x a iha =>
    intro b
    induction b with
    | nil => exact h2 x a
    | cons y b ihb => exact h3 x y a b (iha _) (iha _) ihb
theorem mrg_len : ∀ a b : List FS, (mrg a b).length ≤ a.length + b.length := by
  refine mrg_ind ?_ ?_ ?_
  · intro b; simp [mrg_nil_left]
  · intro x a; simp [mrg_nil_right]
  · intro x y a b h1 h2 h3
    rw [mrg_cons]
    simp only [List.length_cons] at *
    split
    · simp only [List.length_cons]; omega
    · split
      · simp only [List.length_cons]; omega
      · simp only [List.length_cons]; omega
theorem not_mem_lt {x : FS} {l : List FS} (h : ∀ y ∈ l, ltF x y) : x ∉ l := fun hx => ltF_irrefl x (h x hx)
theorem mrg_mem : ∀ a b : List FS, Ris a → Ris b → ∀ p : FS × Bool × Bool, p ∈ mrg a b ↔ (p.1 ∈ a ∨ p.1 ∈ b) ∧ p.2.1 = decide (p.1 ∈ a) ∧ p.2.2 = decide (p.1 ∈ b) := by
  refine mrg_ind ?_ ?_ ?_
  · rintro b - - ⟨z, u, v⟩
    rw [mrg_nil_left]
    simp only [List.mem_map, Prod.mk.injEq, List.not_mem_nil, false_or, decide_false]
    constructor
    · rintro ⟨y, hy, rfl, rfl, rfl⟩; simp [hy]
    · rintro ⟨h1, h2, h3⟩; exact ⟨z, h1, rfl, by rw [h2], by rw [h3]; simp [h1]⟩
  · rintro x a - - ⟨z, u, v⟩
    rw [mrg_nil_right]
    simp only [List.mem_map, Prod.mk.injEq, List.not_mem_nil, or_false, decide_false]
    constructor
    · rintro ⟨y, hy, rfl, rfl, rfl⟩; exact ⟨hy, by simp only [decide_eq_true hy], rfl⟩
    · rintro ⟨h1, h2, h3⟩; exact ⟨z, h1, rfl, by rw [h2]; exact (decide_eq_true h1).symm, by rw [h3]⟩
  · rintro x y a b I1 I2 I3 ha hb ⟨z, u, v⟩
    rw [mrg_cons]
    have ha' := ha.tail
    have hb' := hb.tail
    have hxa := not_mem_lt ha.head
    have hyb := not_mem_lt hb.head
    by_cases h1 : ltF x y
    · have hxb : x ∉ y :: b := not_mem_lt fun w hw => by
        rcases List.mem_cons.1 hw with rfl | hw
        · exact h1
        · exact ltF_trans h1 (hb.head w hw)
      rw [if_pos h1, List.mem_cons, I1 ha' hb (z, u, v)]
      by_cases hz : z = x
      · subst hz
        simp only [Prod.mk.injEq, true_and, hxa, hxb, or_self, false_and, or_false, List.mem_cons, true_or, decide_true, decide_false]
      · simp only [Prod.mk.injEq, hz, false_and, false_or, List.mem_cons]
    · rw [if_neg h1]
      by_cases h2 : x = y
      · subst h2
        rw [if_pos rfl, List.mem_cons, I2 ha' hb' (z, u, v)]
        by_cases hz : z = x
        · subst hz
          simp [hxa, hyb]
        · simp only [Prod.mk.injEq, hz, false_and, false_or, List.mem_cons]
      · rw [if_neg h2]
        have h3 : ltF y x := by
          rcases ltF_tri x y with h | h | h
          · exact absurd h h1
          · exact absurd h h2
          · exact h
        have hya : y ∉ x :: a := not_mem_lt fun w hw => by
          rcases List.mem_cons.1 hw with rfl | hw
          · exact h3
          · exact ltF_trans h3 (ha.head w hw)
        rw [List.mem_cons, I3 ha hb' (z, u, v)]
        by_cases hz : z = y
        · subst hz
          have hya' : ¬ (z = x ∨ z ∈ a) := fun h => hya (List.mem_cons.2 h)
          simp [hya', hyb]
        · simp only [Prod.mk.injEq, hz, false_and, false_or, List.mem_cons]
theorem mrg_ris : ∀ a b : List FS, Ris a → Ris b → Ris ((mrg a b).map (·.1)) := by
  refine mrg_ind ?_ ?_ ?_
  · intro b _ hb; rw [mrg_nil_left, List.map_map, show ((fun p : FS × Bool × Bool => p.1) ∘ fun y => (y, false, true)) = id from rfl, List.map_id]; exact hb
  · intro x a ha _; rw [mrg_nil_right, List.map_map, show ((fun p : FS × Bool × Bool => p.1) ∘ fun y => (y, true, false)) = id from rfl, List.map_id]; exact ha
  · intro x y a b I1 I2 I3 ha hb
    have key : ∀ (z : FS) (c d : List FS), Ris c → Ris d → (∀ w ∈ c, ltF z w) → (∀ w ∈ d, ltF z w) → ∀ w ∈ (mrg c d).map (·.1), ltF z w := fun z c d hc hd h1 h2 w hw => by
      obtain ⟨p, hp, rfl⟩ := List.mem_map.1 hw
      rcases ((mrg_mem c d hc hd p).1 hp).1 with h | h
      · exact h1 _ h
      · exact h2 _ h
    rw [mrg_cons]
    by_cases h1 : ltF x y
    · rw [if_pos h1, List.map_cons]
      refine Ris.cons (I1 ha.tail hb) (key x a (y :: b) ha.tail hb ha.head fun w hw => ?_)
      rcases List.mem_cons.1 hw with rfl | hw
      · exact h1
      · exact ltF_trans h1 (hb.head w hw)
    · rw [if_neg h1]
      by_cases h2 : x = y
      · subst h2
        rw [if_pos rfl, List.map_cons]
        exact Ris.cons (I2 ha.tail hb.tail) (key x a b ha.tail hb.tail ha.head hb.head)
      · have h3 : ltF y x := by
          rcases ltF_tri x y with h | h | h
          · exact absurd h h1
          · exact absurd h h2
          · exact h
        rw [if_neg h2, List.map_cons]
        refine Ris.cons (I3 ha hb.tail) (key y (x :: a) b ha hb.tail (fun w hw => ?_) hb.head)
        rcases List.mem_cons.1 hw with rfl | hw
        · exact h3
        · exact ltF_trans h3 (ha.head w hw)
/-- What choose answers of two sets. -/
def twoF (f : Bool → Bool → Bool) (a b : List FS) : List FS := ((mrg a b).filter fun p => f p.2.1 p.2.2).map (·.1)
theorem mem_twoF {f : Bool → Bool → Bool} {a b : List FS} (ha : Ris a) (hb : Ris b) (x : FS) : x ∈ twoF f a b ↔ (x ∈ a ∨ x ∈ b) ∧ f (decide (x ∈ a)) (decide (x ∈ b)) = true := by
  unfold twoF
  simp only [List.mem_map, List.mem_filter]
  constructor
  · rintro ⟨p, ⟨hp, hf⟩, rfl⟩
    obtain ⟨h1, h2, h3⟩ := (mrg_mem a b ha hb p).1 hp
    exact ⟨h1, by rw [← h2, ← h3]; exact hf⟩
  · rintro ⟨h1, h2⟩
    exact ⟨(x, decide (x ∈ a), decide (x ∈ b)), ⟨(mrg_mem a b ha hb _).2 ⟨h1, rfl, rfl⟩, h2⟩, rfl⟩
theorem ris_twoF {f : Bool → Bool → Bool} {a b : List FS} (ha : Ris a) (hb : Ris b) : Ris (twoF f a b) := by
  have h := Ris.pairwise.1 (mrg_ris a b ha hb)
  unfold twoF
  rw [Ris.pairwise]
  exact h.sublist (List.Sublist.map _ List.filter_sublist)
end Go.Proofs.YtbhgchhoeokjhabDoor
/- What union, meet and difference of two sets are, in plain mathematics. -/
namespace Go.Proofs.YtbhgchhoeokjhabDoor
open Go.RowKit M
set_option linter.unusedSimpArgs false
set_option linter.unusedVariables false

def orB (p q : Bool) : Bool := p || q
def andB (p q : Bool) : Bool := p && q
def subB (p q : Bool) : Bool := p && !q
theorem two_union {a b : List FS} (ha : IsSet a) (hb : IsSet b) : twoF orB a b = setF (a ++ b) := by
  refine setF_of (ris_twoF ha.1 hb.1) fun x => ?_
  rw [mem_twoF ha.1 hb.1]
  unfold orB
  simp only [List.mem_append, Bool.or_eq_true, decide_eq_true_eq]
  constructor
  · rintro ⟨h, _⟩; exact ⟨h, by rcases h with h | h; exact ha.2 x h; exact hb.2 x h⟩
  · rintro ⟨h, _⟩; exact ⟨h, h⟩
theorem two_meet {a b : List FS} (ha : Ris a) (hb : Ris b) : twoF andB a b = a.filter fun x => decide (x ∈ b) := by
  refine ris_ext (ris_twoF ha hb) (Ris.pairwise.2 ((Ris.pairwise.1 ha).sublist List.filter_sublist)) fun x => ?_
  rw [mem_twoF ha hb]
  unfold andB
  simp only [Bool.and_eq_true, decide_eq_true_eq, List.mem_filter]
  constructor
  · rintro ⟨_, h⟩; exact h
  · intro h; exact ⟨.inl h.1, h⟩
theorem two_minus {a b : List FS} (ha : Ris a) (hb : Ris b) : twoF subB a b = a.filter fun x => !decide (x ∈ b) := by
  refine ris_ext (ris_twoF ha hb) (Ris.pairwise.2 ((Ris.pairwise.1 ha).sublist List.filter_sublist)) fun x => ?_
  rw [mem_twoF ha hb]
  unfold subB
  simp only [Bool.and_eq_true, decide_eq_true_eq, List.mem_filter, Bool.not_eq_true', decide_eq_false_iff_not]
  constructor
  · rintro ⟨_, h⟩; exact h
  · intro h; exact ⟨.inl h.1, h⟩
theorem fmap_len {f : Bool → Bool → Bool} (u v : Bool) (l : List FS) : ((l.map fun y => (y, u, v)).filter fun p : FS × Bool × Bool => f p.2.1 p.2.2).length = if f u v then l.length else 0 := by
  induction l with
  | nil => simp
  | cons x l ih =>
    rw [List.map_cons, List.filter_cons]
    cases h : f u v <;> simp [h] at ih ⊢ <;> try exact ih
theorem two_len {f : Bool → Bool → Bool} {a b : List FS} : (twoF f a b).length = ((mrg a b).filter fun p => f p.2.1 p.2.2).length := by unfold twoF; rw [List.length_map]
theorem two_lens : ∀ a b : List FS, (twoF orB a b).length + (twoF andB a b).length = a.length + b.length := by
  simp only [two_len]
  refine mrg_ind ?_ ?_ ?_
  · intro b; rw [mrg_nil_left, fmap_len, fmap_len]; simp [orB, andB]
  · intro x a; rw [mrg_nil_right, fmap_len, fmap_len]; simp [orB, andB]
  · intro x y a b h1 h2 h3
    rw [mrg_cons]
    simp only [List.length_cons] at *
    split
    · simp [List.filter_cons, orB, andB] at *; omega
    · split
      · simp [List.filter_cons, orB, andB] at *; omega
      · simp [List.filter_cons, orB, andB] at *; omega
theorem two_lens2 : ∀ a b : List FS, (twoF subB a b).length + (twoF andB a b).length = a.length := by
  simp only [two_len]
  refine mrg_ind ?_ ?_ ?_
  · intro b; rw [mrg_nil_left, fmap_len, fmap_len]; simp [subB, andB]
  · intro x a; rw [mrg_nil_right, fmap_len, fmap_len]; simp [subB, andB]
  · intro x y a b h1 h2 h3
    rw [mrg_cons]
    simp only [List.length_cons] at *
    split
    · simp [List.filter_cons, subB, andB] at *; omega
    · split
      · simp [List.filter_cons, subB, andB] at *; omega
      · simp [List.filter_cons, subB, andB] at *; omega
theorem two_le {f : Bool → Bool → Bool} (a b : List FS) : (twoF f a b).length ≤ a.length + b.length := by
  rw [two_len]; exact Nat.le_trans (List.length_filter_le _ _) (mrg_len a b)
theorem two_set {f : Bool → Bool → Bool} {a b : List FS} (ha : IsSet a) (hb : IsSet b) : IsSet (twoF f a b) :=
  ⟨ris_twoF ha.1 hb.1, fun x hx => by rcases ((mem_twoF ha.1 hb.1 x).1 hx).1 with h | h; exact ha.2 x h; exact hb.2 x h⟩
/-- What is answered of any two lists: nothing and an error if one is no set. -/
def twoE (a b : List FS) : Int := if setB a = true ∧ setB b = true then 0 else 100
def twoL (f : Bool → Bool → Bool) (a b : List FS) : List FS := if setB a = true ∧ setB b = true then twoF f a b else []
theorem twoL_le {f : Bool → Bool → Bool} (a b : List FS) : (twoL f a b).length ≤ a.length + b.length := by
  unfold twoL; split
  · exact two_le a b
  · simp
end Go.Proofs.YtbhgchhoeokjhabDoor

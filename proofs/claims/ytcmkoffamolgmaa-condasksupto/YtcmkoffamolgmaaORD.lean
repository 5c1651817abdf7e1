/- Rising lists, sets, sorting and what is left of neighbours that are the same, by whatever comparison. No program named. -/
import Derived.Test.YtcmkoffamolgmaaProg
namespace Go.Proofs.Ytcmkoffamolgmaa
set_option linter.unusedSimpArgs false
set_option linter.unusedVariables false
set_option linter.unusedSectionVars false

/-- A comparison that orders. -/
structure Ords {α : Type} (c : α → α → Int) : Prop where
  irrefl : ∀ x, ¬ c x x < 0
  trans : ∀ x y z, c x y < 0 → c y z < 0 → c x z < 0
  tri : ∀ x y, c x y < 0 ∨ x = y ∨ c y x < 0
section
variable {α : Type} {c : α → α → Int}
theorem Ords.asymm (h : Ords c) {x y : α} (h1 : c x y < 0) : ¬ c y x < 0 := fun h2 => h.irrefl x (h.trans x y x h1 h2)
/-- The list rises. -/
def RisL (c : α → α → Int) : List α → Prop
  | [] => True
  | [_] => True
  | a :: b :: l => c a b < 0 ∧ RisL c (b :: l)
theorem RisL.tail {a : α} {l : List α} (h : RisL c (a :: l)) : RisL c l := by
  cases l with
  | nil => trivial
  | cons b l => exact h.2
theorem RisL.head (O : Ords c) {a : α} : ∀ {l : List α}, RisL c (a :: l) → ∀ x ∈ l, c a x < 0
  | [], _, x, hx => by cases hx
  | b :: l, h, x, hx => by
    rcases List.mem_cons.1 hx with rfl | hx
    · exact h.1
    · exact O.trans _ _ _ h.1 (RisL.head O h.2 x hx)
theorem RisL.cons {a : α} {l : List α} (h : RisL c l) (h' : ∀ x ∈ l, c a x < 0) : RisL c (a :: l) := by
  cases l with
  | nil => trivial
  | cons b l => exact ⟨h' b (by simp), h⟩
theorem RisL.pairwise (O : Ords c) {l : List α} : RisL c l ↔ l.Pairwise (fun x y => c x y < 0) := by
  induction l with
  | nil => exact ⟨fun _ => .nil, fun _ => trivial⟩
  | cons a l ih => exact ⟨fun h => .cons (RisL.head O h) (ih.1 h.tail), fun h => by cases h with | cons h1 h2 => exact (ih.2 h2).cons h1⟩
theorem risL_ext (O : Ords c) : ∀ {l m : List α}, RisL c l → RisL c m → (∀ x, x ∈ l ↔ x ∈ m) → l = m
  | [], [], _, _, _ => rfl
  | [], b :: m, _, _, h => by have := (h b).2 (by simp); cases this
  | a :: l, [], _, _, h => by have := (h a).1 (by simp); cases this
  | a :: l, b :: m, hl, hm, h => by
    have hab : a = b := by
      rcases O.tri a b with h1 | h1 | h1
      · rcases List.mem_cons.1 ((h a).1 (by simp)) with h2 | h2
        · exact h2
        · exact absurd h1 (O.asymm (hm.head O a h2))
      · exact h1
      · rcases List.mem_cons.1 ((h b).2 (by simp)) with h2 | h2
        · exact h2.symm
        · exact absurd h1 (O.asymm (hl.head O b h2))
    subst hab
    congr 1
    refine risL_ext O hl.tail hm.tail fun x => ?_
    constructor
    · intro hx
      rcases List.mem_cons.1 ((h x).1 (by simp [hx])) with h2 | h2
      · subst h2; exact absurd (hl.head O x hx) (O.irrefl x)
      · exact h2
    · intro hx
      rcases List.mem_cons.1 ((h x).2 (by simp [hx])) with h2 | h2
      · subst h2; exact absurd (hm.head O x hx) (O.irrefl x)
      · exact h2
theorem risL_nodup (O : Ords c) {l : List α} (h : RisL c l) : l.Nodup := ((RisL.pairwise O).1 h).imp fun h e => by subst e; exact O.irrefl _ h
variable [DecidableEq α]
/-- One is put into a rising list, once. -/
def insL (c : α → α → Int) (x : α) : List α → List α
  | [] => [x]
  | y :: l => if c x y < 0 then x :: y :: l else if x = y then y :: l else y :: insL c x l
theorem mem_insL (x z : α) : ∀ l, z ∈ insL c x l ↔ z = x ∨ z ∈ l
  | [] => by simp [insL]
  | y :: l => by
    unfold insL
    split
    · simp
    · split
      · rename_i h; subst h; simp
      · simp only [List.mem_cons, mem_insL x z l]
        constructor
        · rintro (h | h | h) <;> simp [h]
        · rintro (h | h | h) <;> simp [h]
theorem ris_insL (O : Ords c) (x : α) : ∀ l, RisL c l → RisL c (insL c x l)
  | [], _ => trivial
  | y :: l, h => by
    unfold insL
    split
    · exact ⟨‹_›, h⟩
    · split
      · exact h
      · rename_i h1 h2
        have hyx : c y x < 0 := by
          rcases O.tri x y with h3 | h3 | h3
          · exact absurd h3 h1
          · exact absurd h3 h2
          · exact h3
        refine RisL.cons (ris_insL O x l h.tail) fun z hz => ?_
        rcases (mem_insL x z l).1 hz with rfl | hz
        · exact hyx
        · exact h.head O z hz
theorem insL_len (x : α) : ∀ l, (insL c x l).length ≤ l.length + 1
  | [] => by simp [insL]
  | y :: l => by
    unfold insL
    split
    · simp
    · split
      · simp
      · have := insL_len x l; simp; omega
/-- The set of a list. -/
def setL (c : α → α → Int) (l : List α) : List α := l.foldl (fun s x => insL c x s) []
theorem setL_snoc (l : List α) (x : α) : setL c (l ++ [x]) = insL c x (setL c l) := by unfold setL; rw [List.foldl_append]; rfl
theorem foldl_insL (O : Ords c) : ∀ (l s : List α), RisL c s → RisL c (l.foldl (fun s x => insL c x s) s) ∧ ∀ z, z ∈ l.foldl (fun s x => insL c x s) s ↔ z ∈ s ∨ z ∈ l
  | [], s, h => ⟨h, by simp⟩
  | x :: l, s, h => by
    obtain ⟨h1, h2⟩ := foldl_insL O l (insL c x s) (ris_insL O x s h)
    refine ⟨h1, fun z => ?_⟩
    rw [List.foldl_cons, h2, mem_insL]
    simp only [List.mem_cons]
    constructor
    · rintro ((h | h) | h) <;> simp [h]
    · rintro (h | h | h) <;> simp [h]
theorem setL_ris (O : Ords c) (l : List α) : RisL c (setL c l) := (foldl_insL O _ [] trivial).1
theorem mem_setL (O : Ords c) (l : List α) (z : α) : z ∈ setL c l ↔ z ∈ l := by
  unfold setL; rw [(foldl_insL O _ [] trivial).2]; simp
theorem setL_len (l : List α) : (setL c l).length ≤ l.length := by
  suffices h : ∀ (l s : List α), (l.foldl (fun s x => insL c x s) s).length ≤ s.length + l.length by simpa [setL] using h l []
  intro l
  induction l with
  | nil => intro s; simp
  | cons x l ih => intro s; have := ih (insL c x s); have := insL_len (c := c) x s; simp only [List.foldl_cons, List.length_cons]; omega
theorem setL_of (O : Ords c) {l s : List α} (h : RisL c s) (h' : ∀ x, x ∈ s ↔ x ∈ l) : s = setL c l :=
  risL_ext O h (setL_ris O l) fun x => by rw [h', mem_setL O]
/-- Of neighbours that are the same the first one. -/
def cmG : α → List α → List α
  | _, [] => []
  | p, x :: xs => if x = p then cmG p xs else x :: cmG x xs
def cmpG : List α → List α
  | [] => []
  | x :: xs => x :: cmG x xs
theorem cmG_snoc (z0 : α) : ∀ (xs : List α) (p x : α), cmG p (xs ++ [x]) = if x = (p :: xs).getD xs.length z0 then cmG p xs else cmG p xs ++ [x]
  | [], p, x => by simp [cmG]
  | y :: xs, p, x => by
    rw [List.cons_append, cmG, cmG]
    by_cases h : y = p
    · subst h
      rw [if_pos rfl, if_pos rfl, cmG_snoc z0 xs y x]
      simp
    · rw [if_neg h, if_neg h, cmG_snoc z0 xs y x]
      by_cases h2 : x = (y :: xs).getD xs.length z0
      · rw [if_pos h2, if_pos (by simpa using h2)]
      · rw [if_neg h2, if_neg (by simpa using h2)]; simp
theorem getD_atG (z0 : α) (l : List α) (k : Nat) (h : k < l.length) : l.getD k z0 = l[k] := by simp [List.getD_eq_getElem?_getD, h]
theorem take_snocG (z0 : α) (l : List α) (k : Nat) (h : k < l.length) : l.take (k + 1) = l.take k ++ [l.getD k z0] := by
  rw [List.take_succ_eq_append_getElem h, getD_atG z0 l k h]
theorem cmpG_take (z0 : α) {l : List α} {k : Nat} (h0 : 0 < k) (h : k < l.length) : cmpG (l.take (k + 1)) = if l.getD k z0 = l.getD (k - 1) z0 then cmpG (l.take k) else cmpG (l.take k) ++ [l.getD k z0] := by
  rw [take_snocG z0 l k h]
  cases l with
  | nil => simp at h
  | cons p xs =>
    obtain ⟨j, rfl⟩ : ∃ j, k = j + 1 := ⟨k - 1, by omega⟩
    rw [List.take_succ_cons, List.cons_append]
    show p :: cmG p _ = _
    rw [cmG_snoc z0]
    have hl : (xs.take j).length = j := by rw [List.length_take]; simp at h; omega
    have e : (p :: xs.take j).getD (xs.take j).length z0 = (p :: xs).getD (j + 1 - 1) z0 := by
      rw [hl, Nat.add_sub_cancel, List.getD_eq_getElem?_getD, List.getD_eq_getElem?_getD, ← List.take_succ_cons, List.getElem?_take, if_pos (by omega)]
    rw [e]
    by_cases h2 : (p :: xs).getD (j + 1) z0 = (p :: xs).getD (j + 1 - 1) z0
    · rw [if_pos h2, if_pos h2]; rfl
    · rw [if_neg h2, if_neg h2]; rfl
theorem cmpG_one (l : List α) (h : 0 < l.length) : cmpG (l.take 1) = l.take 1 := by
  cases l with
  | nil => simp at h
  | cons p xs => simp [cmpG, cmG]
theorem cmpG_small {l : List α} (h : l.length < 2) : cmpG l = l := by
  match l, h with
  | [], _ => rfl
  | [x], _ => rfl
theorem cmG_mem : ∀ (xs : List α) (p z : α), z = p ∨ z ∈ cmG p xs ↔ z = p ∨ z ∈ xs
  | [], p, z => by simp [cmG]
  | x :: xs, p, z => by
    rw [cmG]
    by_cases h : x = p
    · subst h
      rw [if_pos rfl, cmG_mem xs x z]; simp
    · rw [if_neg h, List.mem_cons, cmG_mem xs x z]; simp
theorem cmpG_mem (l : List α) (z : α) : z ∈ cmpG l ↔ z ∈ l := by
  cases l with
  | nil => rfl
  | cons p xs => show z ∈ p :: cmG p xs ↔ _; rw [List.mem_cons, cmG_mem, List.mem_cons]
theorem cmG_ris (O : Ords c) : ∀ (xs : List α) (p : α), (p :: xs).Pairwise (fun x y => ¬ c y x < 0) → RisL c (p :: cmG p xs)
  | [], p, _ => trivial
  | x :: xs, p, h => by
    rw [cmG]
    by_cases e : x = p
    · subst e
      rw [if_pos rfl]
      exact cmG_ris O xs x (by cases h with | cons _ h2 => exact h2)
    · rw [if_neg e]
      refine ⟨?_, cmG_ris O xs x (by cases h with | cons _ h2 => exact h2)⟩
      have h1 : ¬ c x p < 0 := by cases h with | cons h1 _ => exact h1 x (by simp)
      rcases O.tri p x with h2 | h2 | h2
      · exact h2
      · exact absurd h2.symm e
      · exact absurd h2 h1
theorem cmpG_ris (O : Ords c) {l : List α} (h : l.Pairwise fun x y => ¬ c y x < 0) : RisL c (cmpG l) := by
  cases l with
  | nil => trivial
  | cons p xs => exact cmG_ris O xs p h
theorem cmpG_len : ∀ (l : List α), (cmpG l).length ≤ l.length
  | [] => by simp [cmpG]
  | p :: xs => by
    have h : ∀ (xs : List α) (p : α), (cmG p xs).length ≤ xs.length := by
      intro xs
      induction xs with
      | nil => intro p; simp [cmG]
      | cons x xs ih => intro p; rw [cmG]; split <;> simp <;> have := ih p <;> have := ih x <;> omega
    have := h xs p
    simp [cmpG]; omega
/-- What is sorted, each once, is the set. -/
theorem cmpG_set (O : Ords c) {l s : List α} (h : s.Pairwise fun x y => ¬ c y x < 0) (hp : ∀ x, x ∈ s ↔ x ∈ l) : cmpG s = setL c l :=
  setL_of O (cmpG_ris O h) fun x => by rw [cmpG_mem, hp]
end
end Go.Proofs.Ytcmkoffamolgmaa

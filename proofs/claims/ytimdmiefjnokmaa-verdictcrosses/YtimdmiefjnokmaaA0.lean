/- Final states in plain mathematics: their order, sets of them. No program is named. -/
import Derived.Sort.Statements
namespace Go.Proofs.Ytimdmiefjnokmaa.M
set_option linter.unusedSimpArgs false
set_option linter.unusedVariables false

/-- A final state: a number, and 48 values. -/
structure FS where
  n : Int
  v : List Int
  h : v.length = 48
theorem FS.eq {a b : FS} (h1 : a.n = b.n) (h2 : a.v = b.v) : a = b := by
  cases a; cases b; cases h1; cases h2; rfl
instance : DecidableEq FS := fun a b =>
  if h : a.n = b.n ∧ a.v = b.v then isTrue (FS.eq h.1 h.2) else isFalse fun e => h ⟨by rw [e], by rw [e]⟩
def FS.zero : FS := ⟨0, List.replicate 48 0, by simp⟩
instance : Inhabited FS := ⟨FS.zero⟩

/-- Lists by the first value in which they differ. -/
def cmpL : List Int → List Int → Int
  | [], [] => 0
  | [], _ :: _ => -1
  | _ :: _, [] => 1
  | x :: xs, y :: ys => if x < y then -1 else if y < x then 1 else cmpL xs ys
theorem cmpL_refl : ∀ l : List Int, cmpL l l = 0
  | [] => rfl
  | x :: xs => by simp [cmpL, cmpL_refl xs]
theorem cmpL_zero : ∀ a b : List Int, cmpL a b = 0 → a = b
  | [], [], _ => rfl
  | [], _ :: _, h => by simp [cmpL] at h
  | _ :: _, [], h => by simp [cmpL] at h
  | x :: xs, y :: ys, h => by
    unfold cmpL at h
    split at h
    · cases h
    · split at h
      · cases h
      · rw [cmpL_zero xs ys h]; congr 1; omega
theorem cmpL_neg : ∀ a b : List Int, cmpL b a = - cmpL a b
  | [], [] => rfl
  | [], _ :: _ => rfl
  | _ :: _, [] => rfl
  | x :: xs, y :: ys => by
    unfold cmpL
    by_cases h1 : x < y
    · simp [h1, show ¬ y < x by omega]
    · by_cases h2 : y < x
      · simp [h1, h2]
      · simp [h1, h2, cmpL_neg xs ys]
theorem cmpL_bd : ∀ a b : List Int, cmpL a b = -1 ∨ cmpL a b = 0 ∨ cmpL a b = 1
  | [], [] => by simp [cmpL]
  | [], _ :: _ => by simp [cmpL]
  | _ :: _, [] => by simp [cmpL]
  | x :: xs, y :: ys => by
    unfold cmpL
    split
    · simp
    · split
      · simp
      · exact cmpL_bd xs ys
theorem cmpL_trans : ∀ a b c : List Int, cmpL a b ≤ 0 → cmpL b c ≤ 0 → cmpL a c ≤ 0
  | [], b, [], _, _ => by simp [cmpL]
  | [], b, _ :: _, _, _ => by simp [cmpL]
  | _ :: _, [], _, h, _ => by simp [cmpL] at h
  | x :: xs, y :: ys, [], _, h => by simp [cmpL] at h
  | x :: xs, y :: ys, z :: zs, h1, h2 => by
    unfold cmpL at *
    by_cases a1 : x < y
    · by_cases b1 : y < z
      · simp [show x < z by omega]
      · by_cases b2 : z < y
        · simp [b1, b2] at h2
        · simp [show x < z by omega]
    · by_cases a2 : y < x
      · simp [a1, a2] at h1
      · have : x = y := by omega
        subst this
        by_cases b1 : x < z
        · simp [b1]
        · by_cases b2 : z < x
          · simp [b1, b2] at h2
          · simp only [b1, b2, if_false, Int.lt_irrefl] at *
            exact cmpL_trans xs ys zs h1 h2
/-- The order of final states. -/
def cmpF (a b : FS) : Int := if a.n < b.n then -1 else if b.n < a.n then 1 else cmpL a.v b.v
theorem cmpF_refl (a : FS) : cmpF a a = 0 := by simp [cmpF, cmpL_refl]
theorem cmpF_zero {a b : FS} (h : cmpF a b = 0) : a = b := by
  unfold cmpF at h
  split at h
  · cases h
  · split at h
    · cases h
    · exact FS.eq (by omega) (cmpL_zero _ _ h)
theorem cmpF_eq_zero {a b : FS} : cmpF a b = 0 ↔ a = b := ⟨cmpF_zero, fun h => by rw [h, cmpF_refl]⟩
theorem cmpF_neg (a b : FS) : cmpF b a = - cmpF a b := by
  unfold cmpF
  by_cases h1 : a.n < b.n
  · simp [h1, show ¬ b.n < a.n by omega]
  · by_cases h2 : b.n < a.n
    · simp [h1, h2]
    · simp [h1, h2, cmpL_neg a.v b.v]
theorem cmpF_bd (a b : FS) : cmpF a b = -1 ∨ cmpF a b = 0 ∨ cmpF a b = 1 := by
  unfold cmpF
  split
  · simp
  · split
    · simp
    · exact cmpL_bd _ _
theorem cmpF_trans {a b c : FS} (h1 : cmpF a b ≤ 0) (h2 : cmpF b c ≤ 0) : cmpF a c ≤ 0 := by
  unfold cmpF at *
  by_cases a1 : a.n < b.n
  · by_cases b1 : b.n < c.n
    · simp [show a.n < c.n by omega]
    · by_cases b2 : c.n < b.n
      · simp [b1, b2] at h2
      · simp [show a.n < c.n by omega]
  · by_cases a2 : b.n < a.n
    · simp [a1, a2] at h1
    · by_cases b1 : b.n < c.n
      · simp [show a.n < c.n by omega]
      · by_cases b2 : c.n < b.n
        · simp [b1, b2] at h2
        · simp only [a1, a2, b1, b2, if_false, show ¬ a.n < c.n by omega, show ¬ c.n < a.n by omega] at *
          exact cmpL_trans _ _ _ h1 h2
/-- a stands ahead of b. -/
def ltF (a b : FS) : Prop := cmpF a b < 0
instance (x y : FS) : Decidable (ltF x y) := inferInstanceAs (Decidable (cmpF x y < 0))
theorem ltF_trans {a b c : FS} (h1 : ltF a b) (h2 : ltF b c) : ltF a c := by
  unfold ltF at *
  have h := cmpF_trans (Int.le_of_lt h1) (Int.le_of_lt h2)
  rcases Int.lt_or_eq_of_le h with h | h
  · exact h
  · have e := cmpF_zero h
    subst e
    have := cmpF_neg a b
    omega
theorem ltF_irrefl (a : FS) : ¬ ltF a a := by unfold ltF; rw [cmpF_refl]; omega
theorem ltF_asymm {a b : FS} (h : ltF a b) : ¬ ltF b a := fun h' => ltF_irrefl a (ltF_trans h h')
theorem ltF_tri (a b : FS) : ltF a b ∨ a = b ∨ ltF b a := by
  unfold ltF
  have := cmpF_neg a b
  rcases cmpF_bd a b with h | h | h
  · left; omega
  · right; left; exact cmpF_zero h
  · right; right; omega

/-- Each stands behind the one ahead of it. -/
def Ris : List FS → Prop
  | [] => True
  | [_] => True
  | a :: b :: l => ltF a b ∧ Ris (b :: l)
theorem Ris.tail {a : FS} {l : List FS} (h : Ris (a :: l)) : Ris l := by
  cases l with
  | nil => trivial
  | cons b l => exact h.2
theorem Ris.head {a : FS} : ∀ {l : List FS}, Ris (a :: l) → ∀ x ∈ l, ltF a x
  | [], _, x, hx => by cases hx
  | b :: l, h, x, hx => by
    rcases List.mem_cons.1 hx with rfl | hx
    · exact h.1
    · exact ltF_trans h.1 (Ris.head h.2 x hx)
theorem Ris.cons {a : FS} {l : List FS} (h : Ris l) (h' : ∀ x ∈ l, ltF a x) : Ris (a :: l) := by
  cases l with
  | nil => trivial
  | cons b l => exact ⟨h' b (by simp), h⟩
theorem Ris.pairwise {l : List FS} : Ris l ↔ l.Pairwise ltF := by
  induction l with
  | nil => exact ⟨fun _ => .nil, fun _ => trivial⟩
  | cons a l ih => exact ⟨fun h => .cons (Ris.head h) (ih.1 h.tail), fun h => by cases h with | cons h1 h2 => exact (ih.2 h2).cons h1⟩
/-- Rising lists with the same members are the same. -/
theorem ris_ext : ∀ {l m : List FS}, Ris l → Ris m → (∀ x, x ∈ l ↔ x ∈ m) → l = m
  | [], [], _, _, _ => rfl
  | [], b :: m, _, _, h => by have := (h b).2 (by simp); cases this
  | a :: l, [], _, _, h => by have := (h a).1 (by simp); cases this
  | a :: l, b :: m, hl, hm, h => by
    have hab : a = b := by
      rcases ltF_tri a b with h1 | h1 | h1
      · rcases List.mem_cons.1 ((h a).1 (by simp)) with h2 | h2
        · exact h2
        · exact absurd h1 (ltF_asymm (hm.head a h2))
      · exact h1
      · rcases List.mem_cons.1 ((h b).2 (by simp)) with h2 | h2
        · exact h2.symm
        · exact absurd h1 (ltF_asymm (hl.head b h2))
    subst hab
    congr 1
    refine ris_ext hl.tail hm.tail fun x => ?_
    constructor
    · intro hx
      rcases List.mem_cons.1 ((h x).1 (by simp [hx])) with h2 | h2
      · subst h2; exact absurd (hl.head x hx) (ltF_irrefl x)
      · exact h2
    · intro hx
      rcases List.mem_cons.1 ((h x).2 (by simp [hx])) with h2 | h2
      · subst h2; exact absurd (hm.head x hx) (ltF_irrefl x)
      · exact h2

/-- A final state is right. -/
def okF (f : FS) : Bool := decide (0 ≤ f.n ∧ f.n ≤ 48) && (f.v.drop f.n.toNat).all (· == 0)
/-- A list is a set. -/
def IsSet (l : List FS) : Prop := Ris l ∧ ∀ x ∈ l, okF x = true
/-- One is put into a rising list, once. -/
def insF (x : FS) : List FS → List FS
  | [] => [x]
  | y :: l => if ltF x y then x :: y :: l else if x = y then y :: l else y :: insF x l
theorem mem_insF (x z : FS) : ∀ l, z ∈ insF x l ↔ z = x ∨ z ∈ l
  | [] => by simp [insF]
  | y :: l => by
    unfold insF
    split
    · simp
    · split
      · rename_i h; subst h; simp
      · simp only [List.mem_cons, mem_insF x z l]
        constructor
        · rintro (h | h | h) <;> simp [h]
        · rintro (h | h | h) <;> simp [h]
theorem ris_insF (x : FS) : ∀ l, Ris l → Ris (insF x l)
  | [], _ => trivial
  | y :: l, h => by
    unfold insF
    split
    · exact ⟨‹_›, h⟩
    · split
      · exact h
      · rename_i h1 h2
        have hyx : ltF y x := by
          rcases ltF_tri x y with h3 | h3 | h3
          · exact absurd h3 h1
          · exact absurd h3 h2
          · exact h3
        refine Ris.cons (ris_insF x l h.tail) fun z hz => ?_
        rcases (mem_insF x z l).1 hz with rfl | hz
        · exact hyx
        · exact h.head z hz
/-- The set of a list. -/
def setF (l : List FS) : List FS := (l.filter okF).foldl (fun s x => insF x s) []
theorem foldl_ins : ∀ (l s : List FS), Ris s → Ris (l.foldl (fun s x => insF x s) s) ∧ ∀ z, z ∈ l.foldl (fun s x => insF x s) s ↔ z ∈ s ∨ z ∈ l
  | [], s, h => ⟨h, by simp⟩
  | x :: l, s, h => by
    obtain ⟨h1, h2⟩ := foldl_ins l (insF x s) (ris_insF x s h)
    refine ⟨h1, fun z => ?_⟩
    rw [List.foldl_cons, h2, mem_insF]
    simp only [List.mem_cons]
    constructor
    · rintro ((h | h) | h) <;> simp [h]
    · rintro (h | h | h) <;> simp [h]
theorem setF_ris (l : List FS) : Ris (setF l) := (foldl_ins _ [] trivial).1
theorem mem_setF (l : List FS) (z : FS) : z ∈ setF l ↔ z ∈ l ∧ okF z = true := by
  unfold setF; rw [(foldl_ins _ [] trivial).2]; simp
theorem setF_set (l : List FS) : IsSet (setF l) := ⟨setF_ris l, fun x hx => ((mem_setF l x).1 hx).2⟩
theorem setF_ext {l m : List FS} (h : ∀ x, okF x = true → (x ∈ l ↔ x ∈ m)) : setF l = setF m :=
  ris_ext (setF_ris l) (setF_ris m) fun x => by
    rw [mem_setF, mem_setF]
    constructor
    · rintro ⟨h1, h2⟩; exact ⟨(h x h2).1 h1, h2⟩
    · rintro ⟨h1, h2⟩; exact ⟨(h x h2).2 h1, h2⟩
/-- What rises and has just the right members is the set. -/
theorem setF_of {l s : List FS} (h : Ris s) (h' : ∀ x, x ∈ s ↔ x ∈ l ∧ okF x = true) : s = setF l :=
  ris_ext h (setF_ris l) fun x => by rw [h', mem_setF]
theorem setF_same {l : List FS} (h : IsSet l) : setF l = l := (setF_of h.1 fun x => ⟨fun hx => ⟨hx, h.2 x hx⟩, fun hx => hx.1⟩).symm
theorem ris_nodup {l : List FS} (h : Ris l) : l.Nodup := (Ris.pairwise.1 h).imp fun h e => by subst e; exact ltF_irrefl _ h
theorem insF_len (x : FS) : ∀ l, (insF x l).length ≤ l.length + 1
  | [] => by simp [insF]
  | y :: l => by
    unfold insF
    split
    · simp
    · split
      · simp
      · have := insF_len x l; simp; omega
theorem foldl_ins_len : ∀ (l s : List FS), (l.foldl (fun s x => insF x s) s).length ≤ s.length + l.length
  | [], s => by simp
  | x :: l, s => by
    have h1 := foldl_ins_len l (insF x s)
    have h2 := insF_len x s
    rw [List.foldl_cons, List.length_cons]; omega
theorem setF_len (l : List FS) : (setF l).length ≤ l.length := by
  have h1 := foldl_ins_len (l.filter okF) []
  have h2 := List.length_filter_le okF l
  unfold setF; simp at h1; omega
end Go.Proofs.Ytimdmiefjnokmaa.M

/- Refs of the reference. -/
import Derived.Test.YtcmkoffamolgmaaB6
import Derived.Test.YtcmkoffamolgmaaR5
namespace Go.Proofs.Ytcmkoffamolgmaa
open Go Go.RowKit M
set_option linter.unusedSimpArgs false
set_option linter.unusedVariables false

/-- A part of a row of one's own, read. -/
theorem sl_from {w : World} {B n c k : Nat} {a : Option Addr} {l : List NK} (h : OwnK w B (.slice a n c) l) (hn : l.length = n) (hk : k ≤ n) :
    ∃ a' c', (∀ w', (Instr.sliceAt 24 (.slice a n c) (some (.int .i64 (k : Int))) none none).run Try.prog w' = .ok (.slice a' (n - k) c') w') ∧ ∀ w', OwnK w' B (.slice a n c) l → RowV w' (.slice a' (n - k) c') (n - k) (flatR (l.drop k)) := by
  subst hn
  rcases h.2 with ⟨e, h0⟩ | ⟨g, cap, cur, e, hg, hh, hc, hm, hs, ht⟩
  · have e1 : l = [] := List.length_eq_zero_iff.1 h0
    subst e1
    cases e
    have e2 : k = 0 := by simpa using hk
    subst e2
    refine ⟨none, 0, fun w' => by simp [go_sem, Instr.sliceAt], fun w' _ => ⟨none, 0, rfl, fun j v hv => by simp [flatR] at hv, fun _ => rfl⟩⟩
  · cases e
    unfold maxLen at hm
    have h1 : (0 : Int) ≤ (k : Int) ∧ (k : Int) ≤ (c : Int) := by omega
    have hs' : ¬ ((k : Int) < 0) := by omega
    have h2 : k ≤ c := by omega
    have hnc : l.length ≤ c := by omega
    by_cases h3 : c = k
    · refine ⟨some ⟨g, 0, none⟩, c - k, fun w' => by simp [go_sem, Instr.sliceAt, h1, hk, h2, h3, hnc] <;> omega, fun w' _ => ?_⟩
      rw [List.drop_eq_nil_of_le (by omega)]
      exact ⟨_, _, rfl, fun j v hv => by simp [flatR] at hv, fun e => by cases e⟩
    · refine ⟨some ⟨g, k * 2, none⟩, c - k, fun w' => by simp [go_sem, Instr.sliceAt, h1, hk, h2, h3, hnc], fun w' h' => ?_⟩
      refine ⟨_, _, rfl, ?_, fun e => by cases e⟩
      have hS : Seg w' (some ⟨g, 0, none⟩) (flatR l) := by
        obtain ⟨a2, c2, e2, hS, _⟩ := own_row h'
        cases e2; exact hS
      rw [← flatR_drop]
      intro j v hv
      rw [List.getElem?_drop] at hv
      obtain ⟨b, o, e, hb, hcell⟩ := hS _ _ hv
      cases e
      exact ⟨_, _, rfl, hb, by rw [show k * 2 + j = 0 + (k * 2 + j) by omega]; exact hcell⟩
/-- A row's first so many, still one's own. -/
theorem sl_upto {w : World} {B n c k : Nat} {a : Option Addr} {l : List NK} (h : OwnK w B (.slice a n c) l) (hn : l.length = n) (hk : k ≤ n) :
    (∀ w', (Instr.sliceAt 24 (.slice a n c) none (some (.int .i64 (k : Int))) none).run Try.prog w' = .ok (.slice a k c) w') ∧ ∀ w', OwnK w' B (.slice a n c) l → OwnK w' B (.slice a k c) (l.take k) := by
  subst hn
  have hl : (l.take k).length = k := by rw [List.length_take]; omega
  constructor
  · intro w'
    rcases h.2 with ⟨e, h0⟩ | ⟨g, cap, cur, e, hg, hh, hc, hm, hs, ht⟩
    · have e1 : l = [] := List.length_eq_zero_iff.1 h0
      subst e1
      cases e
      have e2 : k = 0 := by simpa using hk
      subst e2
      simp [go_sem, Instr.sliceAt]
    · cases e
      unfold maxLen at hm
      have h1 : (0 : Int) ≤ (k : Int) ∧ (k : Int) ≤ (c : Int) := by omega
      have hs' : ¬ ((k : Int) < 0) := by omega
      have h2 : k ≤ c := by omega
      have hnc : l.length ≤ c := by omega
      simp [go_sem, Instr.sliceAt, h1, hk, h2, hnc]
  · intro w' h'
    unfold OwnK
    rw [hl]
    refine ⟨by rw [flatR_len, hl], ?_⟩
    rcases h'.2 with ⟨e, h0⟩ | ⟨g, cap, cur, e, hg, hh, hc, hm, hs, ht⟩
    · have e1 : l = [] := List.length_eq_zero_iff.1 h0
      subst e1
      cases e
      have e2 : k = 0 := by simpa using hk
      subst e2
      exact .inl ⟨rfl, rfl⟩
    · cases e
      refine .inr ⟨g, c, cur, rfl, hg, hh, by omega, hm, hs, ?_⟩
      rw [← flatR_take, ← ht, List.take_take]
      congr 1
      have := Nat.mul_le_mul_right 2 hk
      omega
/-- A row that lies apart from a block that an append turned. -/
theorem own_apart {W W' : World} {K e s n : Nat} {v : Value} {xs : List Value} {ob : Option Nat} (h : W.ownsRow K e s v n xs) (hG : W.grownBy W' ob) (hob : ∀ g, ob = some g → g < K) : W'.ownsRow K e s v n xs := by
  refine ⟨h.1, ?_⟩
  rcases h.2 with hn | ⟨g, cap, cur, rfl, hg, hh, rest⟩
  · exact Or.inl hn
  · exact Or.inr ⟨g, cap, cur, rfl, hg, (hG.block g (Array.getElem?_eq_some_iff.1 hh).1 (fun e => by have := hob g e.symm; omega)).trans hh, rest⟩
/-- The place where one comes into a rising list. -/
def insAt (c : NK → NK → Int) (l : List NK) (x : NK) (k : Nat) : Prop := k ≤ l.length ∧ ∀ j y, j < k → l[j]? = some y → c y x < 0
theorem insAt_ins {l : List NK} {x : NK} : ∀ {k : Nat}, insAt cmN l x k → (∀ y, l[k]? = some y → ¬ cmN y x < 0) → (l[k]? = some x → insL cmN x l = l) ∧ (l[k]? ≠ some x → insL cmN x l = l.take k ++ [x] ++ l.drop k) := by
  induction l with
  | nil => intro k h _; simp [insL]
  | cons z l ih =>
    intro k h hk
    cases k with
    | zero =>
      have hz : ¬ cmN z x < 0 := hk z rfl
      refine ⟨fun e => ?_, fun e => ?_⟩
      · simp at e
        subst e
        unfold insL
        rw [if_neg hz, if_pos rfl]
      · have hne : ¬ z = x := by simpa using e
        have hne' : ¬ x = z := fun e => hne e.symm
        have hlt : cmN x z < 0 := by
          rcases ordN.tri x z with h1 | h1 | h1
          · exact h1
          · exact absurd h1 hne'
          · exact absurd h1 hz
        unfold insL
        first | rw [if_pos hlt]; simp | rw [if_neg hz, if_neg hne]; simp | rw [if_neg hz, if_neg hne']; simp
    | succ k =>
      have h0 : cmN z x < 0 := h.2 0 z (by omega) rfl
      have hi := ih (k := k) ⟨by have := h.1; simp at this; omega, fun j y hj hy => h.2 (j + 1) y (by omega) (by simpa using hy)⟩ (fun y hy => hk y (by simpa using hy))
      have hnz : ¬ cmN x z < 0 := fun e => ordN.irrefl _ (ordN.trans _ _ _ e h0)
      have hne : ¬ x = z := fun e => by subst e; exact ordN.irrefl _ h0
      have hne' : ¬ z = x := fun e => hne e.symm
      have e1 : insL cmN x (z :: l) = z :: insL cmN x l := by
        conv => lhs; unfold insL
        first | rw [if_pos h0] | rw [if_neg hnz, if_neg hne] | rw [if_neg hnz, if_neg hne']
      constructor
      · intro e; rw [e1, hi.1 (by simpa using e)]
      · intro e; rw [e1, hi.2 (by simpa using e)]; simp
theorem insAt_zero (c : NK → NK → Int) (l : List NK) (x : NK) : insAt c l x 0 := ⟨Nat.zero_le _, fun j y hj _ => absurd hj (Nat.not_lt_zero _)⟩
theorem insAt_next {c : NK → NK → Int} {l : List NK} {x y : NK} {k : Nat} (h : insAt c l x k) (hy : l[k]? = some y) (hc : c y x < 0) : insAt c l x (k + 1) :=
  ⟨(List.getElem?_eq_some_iff.1 hy).1, fun j z hj hz => by
    by_cases e : j = k
    · subst e; rw [hy] at hz; cases hz; exact hc
    · exact h.2 j z (by omega) hz⟩
end Go.Proofs.Ytcmkoffamolgmaa

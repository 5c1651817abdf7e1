/-
  Plain mathematics: lists that are laid step by step, each step an option of a state, the options rising: the list with a number and the number of a list are each other's inverse, and numbers rise with the lists. No program is named.
-/
namespace Go.Proofs.Ytghfomammdbgoaa.K
set_option linter.unusedSimpArgs false
set_option linter.unusedVariables false

section
variable {σ : Type}
/-- The list with a number, among options. -/
def pickAt (f : σ → Nat → List Int) (sz : σ → Nat) : List (Int × σ) → Nat → List Int
  | [], _ => []
  | p :: r, n => if n < sz p.2 then p.1 :: f p.2 n else pickAt f sz r (n - sz p.2)
/-- The number of a list, among options. -/
def pickRk (f : σ → List Int → Nat) (sz : σ → Nat) (x : Int) (l : List Int) : List (Int × σ) → Nat
  | [] => 0
  | p :: r => if p.1 = x then f p.2 l else sz p.2 + pickRk f sz x l r
/-- How many lists there are among options. -/
def sumO (sz : σ → Nat) : List (Int × σ) → Nat
  | [] => 0
  | p :: r => sz p.2 + sumO sz r
/-- How many lists of d steps there are. -/
def szG (opt : σ → List (Int × σ)) : Nat → σ → Nat
  | 0, _ => 1
  | d + 1, s => sumO (szG opt d) (opt s)
def atG (opt : σ → List (Int × σ)) : Nat → σ → Nat → List Int
  | 0, _, _ => []
  | d + 1, s, n => pickAt (atG opt d) (szG opt d) (opt s) n
def rkG (opt : σ → List (Int × σ)) : Nat → σ → List Int → Nat
  | 0, _, _ => 0
  | _ + 1, _, [] => 0
  | d + 1, s, x :: l => pickRk (rkG opt d) (szG opt d) x l (opt s)
/-- A list of d steps. -/
def InG (opt : σ → List (Int × σ)) : Nat → σ → List Int → Prop
  | 0, _, l => l = []
  | d + 1, s, l => ∃ x t l', l = x :: l' ∧ (x, t) ∈ opt s ∧ InG opt d t l'
/-- All options rise. -/
def UpG (opt : σ → List (Int × σ)) : Nat → σ → Prop
  | 0, _ => True
  | d + 1, s => (opt s).Pairwise (fun p q => p.1 < q.1) ∧ ∀ p ∈ opt s, UpG opt d p.2

/-- One list comes ahead of another one of its length. -/
def lessL : List Int → List Int → Prop
  | x :: a, y :: b => x < y ∨ (x = y ∧ lessL a b)
  | _, _ => False

theorem pick_at {f : σ → Nat → List Int} {g : σ → List Int → Nat} {sz : σ → Nat} : ∀ (L : List (Int × σ)) (n : Nat), L.Pairwise (fun p q => p.1 < q.1) → (∀ p ∈ L, ∀ m, m < sz p.2 → g p.2 (f p.2 m) = m) → n < sumO sz L →
    ∃ p ∈ L, ∃ m, m < sz p.2 ∧ pickAt f sz L n = p.1 :: f p.2 m ∧ pickRk g sz p.1 (f p.2 m) L = n
  | [], n, _, _, h => by simp [sumO] at h
  | p :: r, n, hup, hg, h => by
      by_cases hn : n < sz p.2
      · refine ⟨p, by simp, n, hn, ?_, ?_⟩
        · rw [pickAt, if_pos hn]
        · rw [pickRk, if_pos rfl]; exact hg p (by simp) n hn
      · rw [List.pairwise_cons] at hup
        obtain ⟨q, hq, m, hm, h1, h2⟩ := pick_at r (n - sz p.2) hup.2 (fun q hq => hg q (by simp [hq])) (by rw [sumO] at h; omega)
        refine ⟨q, by simp [hq], m, hm, ?_, ?_⟩
        · rw [pickAt, if_neg hn, h1]
        · have hlt := hup.1 q hq
          rw [pickRk, if_neg (by omega), h2]; omega
theorem pick_rk {f : σ → Nat → List Int} {g : σ → List Int → Nat} {sz : σ → Nat} : ∀ (L : List (Int × σ)) (x : Int) (t : σ) (l : List Int), L.Pairwise (fun p q => p.1 < q.1) → (x, t) ∈ L → g t l < sz t → f t (g t l) = l →
    pickRk g sz x l L < sumO sz L ∧ pickAt f sz L (pickRk g sz x l L) = x :: l
  | [], x, t, l, _, h, _, _ => by simp at h
  | p :: r, x, t, l, hup, h, h1, h2 => by
      rw [List.pairwise_cons] at hup
      by_cases hp : p.1 = x
      · have hpt : p.2 = t := by
          rcases List.mem_cons.1 h with h | h
          · rw [← h]
          · have := hup.1 _ h; rw [hp] at this; exact absurd this (by simp)
        rw [pickRk, if_pos hp, hpt, sumO, pickAt, hpt, if_pos h1, hp, h2]
        exact ⟨by omega, rfl⟩
      · have hm : (x, t) ∈ r := by
          rcases List.mem_cons.1 h with h | h
          · exact absurd (by rw [← h]) hp
          · exact h
        obtain ⟨k1, k2⟩ := pick_rk r x t l hup.2 hm h1 h2
        rw [pickRk, if_neg hp, sumO, pickAt, if_neg (by omega), show sz p.2 + pickRk g sz x l r - sz p.2 = pickRk g sz x l r by omega, k2]
        exact ⟨by omega, rfl⟩
theorem pick_less {f : σ → Nat → List Int} {sz : σ → Nat} : ∀ (L : List (Int × σ)) (n m : Nat), L.Pairwise (fun p q => p.1 < q.1) → (∀ p ∈ L, ∀ i j, i < j → j < sz p.2 → lessL (f p.2 i) (f p.2 j)) → n < m → m < sumO sz L →
    lessL (pickAt f sz L n) (pickAt f sz L m)
  | [], n, m, _, _, _, h => by simp [sumO] at h
  | p :: r, n, m, hup, hf, hnm, h => by
      rw [List.pairwise_cons] at hup
      by_cases hm : m < sz p.2
      · rw [pickAt, if_pos (by omega), pickAt, if_pos hm]
        exact Or.inr ⟨rfl, hf p (by simp) n m hnm hm⟩
      · by_cases hn : n < sz p.2
        · rw [pickAt, if_pos hn, pickAt, if_neg hm]
          have key : ∀ (L : List (Int × σ)) (k : Nat), k < sumO sz L → ∃ q ∈ L, ∃ y, pickAt f sz L k = q.1 :: y := by
            intro L
            induction L with
            | nil => intro k hk; simp [sumO] at hk
            | cons q L ih =>
                intro k hk
                by_cases hq : k < sz q.2
                · exact ⟨q, by simp, _, by rw [pickAt, if_pos hq]⟩
                · obtain ⟨q', hq', y, hy⟩ := ih (k - sz q.2) (by rw [sumO] at hk; omega)
                  exact ⟨q', by simp [hq'], y, by rw [pickAt, if_neg hq, hy]⟩
          obtain ⟨q, hq, y, hy⟩ := key r (m - sz p.2) (by rw [sumO] at h; omega)
          rw [hy]
          exact Or.inl (hup.1 q hq)
        · rw [pickAt, if_neg hn, pickAt, if_neg hm]
          exact pick_less r _ _ hup.2 (fun q hq => hf q (by simp [hq])) (by omega) (by rw [sumO] at h; omega)

theorem at_ok {opt : σ → List (Int × σ)} : ∀ (d : Nat) (s : σ) (n : Nat), UpG opt d s → n < szG opt d s → InG opt d s (atG opt d s n) ∧ rkG opt d s (atG opt d s n) = n
  | 0, s, n, _, h => by
      have : n = 0 := by simp [szG] at h; exact h
      subst this
      exact ⟨rfl, rfl⟩
  | d + 1, s, n, hup, h => by
      obtain ⟨p, hp, m, hm, h1, h2⟩ := pick_at (f := atG opt d) (g := rkG opt d) (sz := szG opt d) (opt s) n hup.1 (fun p hp m hm => (at_ok d p.2 m (hup.2 p hp) hm).2) h
      have e : atG opt (d + 1) s n = p.1 :: atG opt d p.2 m := h1
      rw [e]
      exact ⟨⟨p.1, p.2, _, rfl, hp, (at_ok d p.2 m (hup.2 p hp) hm).1⟩, h2⟩
theorem rk_ok {opt : σ → List (Int × σ)} : ∀ (d : Nat) (s : σ) (l : List Int), UpG opt d s → InG opt d s l → rkG opt d s l < szG opt d s ∧ atG opt d s (rkG opt d s l) = l
  | 0, s, l, _, h => by
      have : l = [] := h
      subst this
      exact ⟨by simp [rkG, szG], rfl⟩
  | d + 1, s, l, hup, h => by
      obtain ⟨x, t, l', rfl, hm, hin⟩ := h
      obtain ⟨k1, k2⟩ := rk_ok d t l' (hup.2 _ hm) hin
      exact pick_rk (f := atG opt d) (g := rkG opt d) (sz := szG opt d) (opt s) x t l' hup.1 hm k1 k2
theorem at_less {opt : σ → List (Int × σ)} : ∀ (d : Nat) (s : σ) (n m : Nat), UpG opt d s → n < m → m < szG opt d s → lessL (atG opt d s n) (atG opt d s m)
  | 0, s, n, m, _, hnm, h => by simp [szG] at h; omega
  | d + 1, s, n, m, hup, hnm, h => pick_less (f := atG opt d) (sz := szG opt d) (opt s) n m hup.1 (fun p hp i j hij hj => at_less d p.2 i j (hup.2 p hp) hij hj) hnm h
theorem in_len {opt : σ → List (Int × σ)} : ∀ (d : Nat) (s : σ) (l : List Int), InG opt d s l → l.length = d
  | 0, s, l, h => by rw [show l = [] from h]; rfl
  | d + 1, s, l, h => by
      obtain ⟨x, t, l', rfl, _, hin⟩ := h
      rw [List.length_cons, in_len d t l' hin]
end
end Go.Proofs.Ytghfomammdbgoaa.K

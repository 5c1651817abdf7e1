/- Closures of relations, in plain mathematics: no program is named. -/
namespace Go.Proofs.YtkccckjiemijeabDoor.P
set_option linter.unusedVariables false

/-- A relation's pairs, as a row for each number. -/
def Bt (F : Nat → Nat) (a b : Nat) : Prop := (F a).testBit b = true

/-- One round of the closing: every row that leads to k takes row k. -/
def stp (F : Nat → Nat) (k : Nat) : Nat → Nat := fun a => if (F a).testBit k then F a ||| F k else F a
def wsh (F : Nat → Nat) : Nat → Nat → Nat
  | 0 => F
  | k + 1 => stp (wsh F k) k

theorem stp_bit (F : Nat → Nat) (k a b : Nat) : Bt (stp F k) a b ↔ Bt F a b ∨ (Bt F a k ∧ Bt F k b) := by
  unfold Bt stp
  split
  · rename_i h
    rw [Nat.testBit_or, Bool.or_eq_true]
    exact ⟨fun h' => h'.imp id (fun x => ⟨h, x⟩), fun h' => h'.imp id (·.2)⟩
  · rename_i h
    exact ⟨Or.inl, fun h' => h'.elim id (fun x => absurd x.1 h)⟩

theorem wsh_trans (F : Nat → Nat) : ∀ K a b c, c < K → Bt (wsh F K) a c → Bt (wsh F K) c b → Bt (wsh F K) a b := by
  intro K
  induction K with
  | zero => intro a b c h; omega
  | succ K ih =>
    intro a b c hc h1 h2
    unfold wsh at h1 h2 ⊢
    rw [stp_bit] at h1 h2 ⊢
    by_cases e : c = K
    · subst e
      refine Or.inr ⟨h1.elim id (·.1), h2.elim id (·.2)⟩
    · have hK : c < K := by omega
      rcases h1 with h1 | ⟨h1, h1'⟩ <;> rcases h2 with h2 | ⟨h2, h2'⟩
      · exact Or.inl (ih a b c hK h1 h2)
      · exact Or.inr ⟨ih a K c hK h1 h2, h2'⟩
      · exact Or.inr ⟨h1, ih K b c hK h1' h2⟩
      · exact Or.inr ⟨h1, h2'⟩
theorem wsh_has (F : Nat → Nat) (K a b : Nat) (h : Bt F a b) : Bt (wsh F K) a b := by
  induction K with
  | zero => exact h
  | succ K ih => unfold wsh; rw [stp_bit]; exact Or.inl ih
theorem wsh_least (F : Nat → Nat) (T : Nat → Nat → Prop) (hF : ∀ a b, Bt F a b → T a b) (hT : ∀ a b c, T a b → T b c → T a c) : ∀ K a b, Bt (wsh F K) a b → T a b := by
  intro K
  induction K with
  | zero => exact hF
  | succ K ih =>
    intro a b h
    unfold wsh at h
    rw [stp_bit] at h
    rcases h with h | ⟨h1, h2⟩
    · exact ih a b h
    · exact hT a K b (ih a K h1) (ih K b h2)
theorem stp_lt {F : Nat → Nat} (h : ∀ i, F i < 18446744073709551616) (k i : Nat) : stp F k i < 18446744073709551616 := by
  unfold stp
  split
  · exact Nat.or_lt_two_pow (n := 64) (h i) (h k)
  · exact h i
theorem wsh_lt {F : Nat → Nat} (h : ∀ i, F i < 18446744073709551616) : ∀ K i, wsh F K i < 18446744073709551616
  | 0, i => h i
  | K + 1, i => stp_lt (wsh_lt h K) K i

/-- Pairs stay within N numbers. -/
def In (N : Nat) (F : Nat → Nat) : Prop := ∀ a b, a < 64 → Bt F a b → a < N ∧ b < N

/-- G is the closure of F: on the rows below 64. -/
structure Clo (F G : Nat → Nat) : Prop where
  has : ∀ a b, a < 64 → Bt F a b → Bt G a b
  trans : ∀ a b c, a < 64 → b < 64 → Bt G a b → Bt G b c → Bt G a c
  least : ∀ T : Nat → Nat → Prop, (∀ a b, a < 64 → b < 64 → Bt F a b → T a b) → (∀ a b c, T a b → T b c → T a c) → ∀ a b, a < 64 → Bt G a b → T a b
theorem Clo.eq {F G H : Nat → Nat} (hF : ∀ a b, a < 64 → Bt F a b → b < 64) (hG : Clo F G) (hH : Clo F H) (wG : ∀ a b, a < 64 → Bt G a b → b < 64) (wH : ∀ a b, a < 64 → Bt H a b → b < 64) (a : Nat) (ha : a < 64) : G a = H a := by
  apply Nat.eq_of_testBit_eq
  intro b
  have k1 : Bt G a b → Bt H a b := fun h => by
    have := hG.least (fun a b => a < 64 ∧ b < 64 ∧ Bt H a b) (fun a b h1 h2 h3 => ⟨h1, h2, hH.has a b h1 h3⟩) (fun a b c ⟨h1, h2, h3⟩ ⟨h4, h5, h6⟩ => ⟨h1, h5, hH.trans a b c h1 h2 h3 h6⟩) a b ha h
    exact this.2.2
  have k2 : Bt H a b → Bt G a b := fun h => by
    have := hH.least (fun a b => a < 64 ∧ b < 64 ∧ Bt G a b) (fun a b h1 h2 h3 => ⟨h1, h2, hG.has a b h1 h3⟩) (fun a b c ⟨h1, h2, h3⟩ ⟨h4, h5, h6⟩ => ⟨h1, h5, hG.trans a b c h1 h2 h3 h6⟩) a b ha h
    exact this.2.2
  unfold Bt at k1 k2
  cases h1 : (G a).testBit b <;> cases h2 : (H a).testBit b <;> simp_all

theorem wsh_in {N : Nat} {F : Nat → Nat} (hN : N ≤ 64) (hF : In N F) : ∀ K, K ≤ N → In N (wsh F K)
  | 0, _ => hF
  | K + 1, h => by
    intro a b ha hab
    unfold wsh at hab
    rw [stp_bit] at hab
    rcases hab with hab | ⟨h1, h2⟩
    · exact wsh_in hN hF K (by omega) a b ha hab
    · exact ⟨(wsh_in hN hF K (by omega) a K ha h1).1, (wsh_in hN hF K (by omega) K b (by omega) h2).2⟩
theorem wsh_clo {N : Nat} {F : Nat → Nat} (hN : N ≤ 64) (hF : In N F) : Clo F (wsh F N) := by
  refine ⟨fun a b _ h => wsh_has F N a b h, fun a b c ha hb h1 h2 => ?_, ?_⟩
  · exact wsh_trans F N a c b (wsh_in hN hF N (Nat.le_refl _) a b ha h1).2 h1 h2
  · intro T hT hT' a b ha h
    have key : ∀ K, K ≤ N → ∀ a b, a < 64 → Bt (wsh F K) a b → T a b := by
      intro K
      induction K with
      | zero => intro _ a b ha h; exact hT a b ha (by have := (hF a b ha h).2; omega) h
      | succ K ih =>
        intro hK a b ha h
        unfold wsh at h
        rw [stp_bit] at h
        rcases h with h | ⟨h1, h2⟩
        · exact ih (by omega) a b ha h
        · exact hT' a K b (ih (by omega) a K ha h1) (ih (by omega) K b (by omega) h2)
    exact key N (Nat.le_refl _) a b ha h

/-- How many pairs there are. -/
def prs : List (Nat × Nat) := (List.range 64).flatMap fun a => (List.range 64).map fun b => (a, b)
theorem mem_prs (a b : Nat) : (a, b) ∈ prs ↔ a < 64 ∧ b < 64 := by
  simp [prs]
def cnt (F : Nat → Nat) : Nat := prs.countP fun e => (F e.1).testBit e.2
theorem prs_len : prs.length = 4096 := by decide +kernel
theorem cnt_le (F : Nat → Nat) : cnt F ≤ 4096 := by
  have := List.countP_le_length (p := fun e : Nat × Nat => (F e.1).testBit e.2) (l := prs)
  rw [prs_len] at this
  exact this
theorem countP_lt {α : Type} (p q : α → Bool) : ∀ (l : List α), (∀ x ∈ l, p x = true → q x = true) → (∃ x ∈ l, q x = true ∧ p x = false) → l.countP p < l.countP q
  | [], _, ⟨x, hx, _⟩ => by cases hx
  | y :: l, h, ⟨x, hx, hq, hp⟩ => by
    have hm : l.countP p ≤ l.countP q := List.countP_mono_left (fun x hx => h x (List.mem_cons_of_mem _ hx))
    rw [List.countP_cons, List.countP_cons]
    rcases List.mem_cons.1 hx with rfl | hx'
    · rw [hp, hq]; simp; omega
    · have := countP_lt p q l (fun x hx => h x (List.mem_cons_of_mem _ hx)) ⟨x, hx', hq, hp⟩
      have hy := h y (by simp)
      cases h1 : p y <;> cases h2 : q y <;> simp_all <;> omega
theorem cnt_lt {F G : Nat → Nat} (h : ∀ a b, a < 64 → Bt F a b → Bt G a b) (hx : ∃ a b, a < 64 ∧ b < 64 ∧ Bt G a b ∧ ¬ Bt F a b) : cnt F < cnt G := by
  refine countP_lt _ _ prs (fun e he hp => h e.1 e.2 ?_ hp) ?_
  · obtain ⟨a, b⟩ := e
    exact ((mem_prs a b).1 he).1
  · obtain ⟨a, b, ha, hb, h1, h2⟩ := hx
    exact ⟨(a, b), (mem_prs a b).2 ⟨ha, hb⟩, h1, by unfold Bt at h2; simpa using h2⟩
end Go.Proofs.YtkccckjiemijeabDoor.P

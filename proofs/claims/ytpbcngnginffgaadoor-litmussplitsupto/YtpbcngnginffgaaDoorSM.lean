/- Files of a bundle: plain mathematics of bytes. -/
namespace Go.Proofs.YtpbcngnginffgaaDoor.M
set_option linter.unusedVariables false
set_option linter.unusedSimpArgs false
def blkC (c : UInt8) : Bool := c == 32 || c == 9 || c == 10 || c == 13
def blankB (l : List UInt8) : Bool := l.all blkC
def opensB (l : List UInt8) : Bool := l.take 4 == [88, 56, 54, 32] || l.take 4 == [88, 56, 54, 9]
def headB (l : List UInt8) (i : Nat) : Bool := opensB (l.drop i) && (i == 0 || l[i - 1]? == some 10)
def sliceL (l : List UInt8) (a b : Nat) : List UInt8 := (l.take b).drop a
def stepS (l : List UInt8) (o : List (Nat × Nat)) (f n : Nat) : List (Nat × Nat) := if blankB (sliceL l f n) then o else o ++ [(f, n)]
def cuts (l : List UInt8) : Nat → List (Nat × Nat) × Nat
  | 0 => ([], 0)
  | n + 1 => if headB l n then (stepS l (cuts l n).1 (cuts l n).2 n, n) else cuts l n
def splitF (l : List UInt8) : List (Nat × Nat) := stepS l (cuts l l.length).1 (cuts l l.length).2 l.length
/-- Pieces one behind the other. -/
def Cover : List (Nat × Nat) → Nat → Nat → Prop
  | [], a, b => a = b
  | (x, y) :: t, a, b => x = a ∧ a < y ∧ Cover t y b
theorem cover_snoc : ∀ {o : List (Nat × Nat)} {a b n : Nat}, Cover o a b → b < n → Cover (o ++ [(b, n)]) a n
  | [], a, b, n, h, hn => by cases h; exact ⟨rfl, hn, rfl⟩
  | (x, y) :: t, a, b, n, h, hn => ⟨h.1, h.2.1, cover_snoc h.2.2 hn⟩
theorem cover_le : ∀ {o : List (Nat × Nat)} {a b : Nat}, Cover o a b → a ≤ b
  | [], a, b, h => Nat.le_of_eq h
  | (x, y) :: t, a, b, h => Nat.le_trans (Nat.le_of_lt h.2.1) (cover_le h.2.2)
theorem cover_zero {o : List (Nat × Nat)} {a : Nat} (h : Cover o a 0) : o = [] := by
  cases o with
  | nil => rfl
  | cons p t =>
    obtain ⟨x, y⟩ := p
    have := cover_le h.2.2
    have := h.2.1
    omega
theorem opens_pos {l : List UInt8} (h : opensB l = true) : 4 ≤ l.length ∧ l[0]? = some 88 := by
  unfold opensB at h
  simp only [Bool.or_eq_true, beq_iff_eq] at h
  rcases h with h | h
  all_goals
    have h1 := congrArg List.length h
    rw [List.length_take] at h1
    have h2 := congrArg (fun x => x[0]?) h
    simp at h1 h2
    exact ⟨by omega, h2⟩
theorem opens_not {l : List UInt8} {n : Nat} (h : opensB l = true) (hn : 0 < n) : blankB (l.take n) = false := by
  have h1 := (opens_pos h)
  cases l with
  | nil => simp at h1
  | cons c t =>
    obtain ⟨n, rfl⟩ : ∃ m, n = m + 1 := ⟨n - 1, by omega⟩
    simp at h1
    rw [h1.2]
    simp [blankB, blkC]
theorem slice_drop (l : List UInt8) (a b : Nat) : sliceL l a b = (l.drop a).take (b - a) := by
  unfold sliceL; rw [List.drop_take]
theorem head_opens {l : List UInt8} {i : Nat} (h : headB l i = true) : opensB (l.drop i) = true := by
  unfold headB at h; simp only [Bool.and_eq_true] at h; exact h.1
theorem head_lt {l : List UInt8} {i : Nat} (h : headB l i = true) : i + 4 ≤ l.length := by
  have := (opens_pos (head_opens h)).1; rw [List.length_drop] at this; omega
/-- Where the cutting stands. -/
structure CutAt (l : List UInt8) (n : Nat) (o : List (Nat × Nat)) (f : Nat) : Prop where
  le : f ≤ n
  at' : f = 0 ∨ (headB l f = true ∧ f < n)
  cov : ∃ a, Cover o a f ∧ blankB (l.take a) = true
theorem cut_step {l : List UInt8} {n : Nat} {o : List (Nat × Nat)} {f : Nat} (h : CutAt l n o f) : ∃ a, Cover (stepS l o f n) a n ∧ blankB (l.take a) = true := by
  obtain ⟨a, hc, hb⟩ := h.cov
  unfold stepS
  by_cases hs : blankB (sliceL l f n) = true
  · rw [if_pos hs]
    rcases h.at' with rfl | ⟨h1, h2⟩
    · have := cover_zero hc; subst this
      exact ⟨n, rfl, by simpa [sliceL] using hs⟩
    · rw [slice_drop, opens_not (head_opens h1) (by omega)] at hs; simp at hs
  · rw [if_neg hs]
    refine ⟨a, cover_snoc hc ?_, hb⟩
    rcases Nat.lt_or_ge f n with h1 | h1
    · exact h1
    · exfalso; apply hs; rw [slice_drop, show n - f = 0 by omega]; rfl
theorem cuts_at (l : List UInt8) : ∀ n, CutAt l n (cuts l n).1 (cuts l n).2
  | 0 => ⟨Nat.le_refl _, .inl rfl, 0, rfl, rfl⟩
  | n + 1 => by
    have ih := cuts_at l n
    unfold cuts
    by_cases hh : headB l n = true
    · rw [if_pos hh]
      exact ⟨by show n ≤ n + 1; omega, .inr ⟨hh, by show n < n + 1; omega⟩, cut_step ih⟩
    · rw [if_neg hh]
      exact ⟨Nat.le_succ_of_le ih.le, ih.at'.imp id (fun h => ⟨h.1, Nat.lt_succ_of_lt h.2⟩), ih.cov⟩
theorem split_cover (l : List UInt8) : ∃ a, Cover (splitF l) a l.length ∧ blankB (l.take a) = true := cut_step (cuts_at l l.length)
theorem cuts_skip (l : List UInt8) (a : Nat) : ∀ b, a < b → (∀ k, a < k → k < b → l[k - 1]? ≠ some 10) → cuts l b = cuts l (a + 1)
  | 0, h, _ => by omega
  | b + 1, h, hk => by
    by_cases e : a = b
    · rw [e]
    · have hn : headB l b = false := by
        unfold headB
        have := hk b (by omega) (by omega)
        have h0 : (b == 0) = false := by simp; omega
        rw [h0]
        simp [this]
      have := cuts_skip l a b (by omega) (fun k h1 h2 => hk k h1 (by omega))
      rw [← this]
      conv => lhs; unfold cuts
      rw [hn]; rfl
theorem cuts_head {l : List UInt8} {n : Nat} (h : headB l n = true) : cuts l (n + 1) = (stepS l (cuts l n).1 (cuts l n).2 n, n) := by
  conv => lhs; unfold cuts
  rw [if_pos h]
theorem cuts_none {l : List UInt8} {n : Nat} (h : headB l n = false) : cuts l (n + 1) = cuts l n := by
  conv => lhs; unfold cuts
  rw [h]; rfl
/-- The reference's own test. -/
theorem ref_test {l : List UInt8} {n : Nat} {o : List (Nat × Nat)} {f : Nat} (h : CutAt l n o f) : (decide (f < n) && (decide (0 < f) || opensB l || !blankB (sliceL l f n))) = !blankB (sliceL l f n) := by
  by_cases hs : blankB (sliceL l f n) = true
  · rw [hs]
    rcases h.at' with rfl | ⟨h1, h2⟩
    · rcases Nat.eq_zero_or_pos n with rfl | hn
      · simp
      · have : opensB l = false := by
          cases ho : opensB l with
          | false => rfl
          | true => rw [slice_drop, Nat.sub_zero, List.drop_zero, opens_not ho hn] at hs; simp at hs
        simp [this]
    · rw [slice_drop, opens_not (head_opens h1) (by omega)] at hs; simp at hs
  · have hs' : blankB (sliceL l f n) = false := by simpa using hs
    rw [hs']
    rcases Nat.lt_or_ge f n with h1 | h1
    · simp [h1]
    · exfalso; apply hs; rw [slice_drop, show n - f = 0 by omega]; rfl
theorem cuts_len (l : List UInt8) : ∀ n, (cuts l n).1.length ≤ n
  | 0 => Nat.le_refl _
  | n + 1 => by
    have := cuts_len l n
    unfold cuts
    split
    · unfold stepS
      split
      · exact Nat.le_succ_of_le this
      · show (_ ++ [_]).length ≤ _
        rw [List.length_append]; simpa using this
    · exact Nat.le_succ_of_le this
end Go.Proofs.YtpbcngnginffgaaDoor.M

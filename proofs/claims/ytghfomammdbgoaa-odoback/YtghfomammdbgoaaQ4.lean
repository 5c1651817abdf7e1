/-
  Plain mathematics: weaves laid step by step. No program is named.
-/
import Derived.Test.YtghfomammdbgoaaQ3
namespace Go.Proofs.Ytghfomammdbgoaa.K
set_option linter.unusedSimpArgs false
set_option linter.unusedVariables false

/-- What may come next, from the number i on: each number of which some are left. -/
def opFrom (c : List Nat) : Nat → Nat → List (Int × List Nat)
  | 0, _ => []
  | k + 1, i => if 0 < c.getD i 0 then ((i : Int), dec c i) :: opFrom c k (i + 1) else opFrom c k (i + 1)
def opW (c : List Nat) : List (Int × List Nat) := opFrom c c.length 0
theorem mem_from {c : List Nat} {p : Int × List Nat} : ∀ (k i : Nat), p ∈ opFrom c k i ↔ ∃ j, i ≤ j ∧ j < i + k ∧ 0 < c.getD j 0 ∧ p = ((j : Int), dec c j)
  | 0, i => by simp [opFrom]; intro j h1 h2; omega
  | k + 1, i => by
      rw [opFrom]
      by_cases h : 0 < c.getD i 0
      · rw [if_pos h, List.mem_cons, mem_from k (i + 1)]
        constructor
        · rintro (rfl | ⟨j, h1, h2, h3, h4⟩)
          · exact ⟨i, by omega, by omega, h, rfl⟩
          · exact ⟨j, by omega, by omega, h3, h4⟩
        · rintro ⟨j, h1, h2, h3, h4⟩
          by_cases e : j = i
          · subst e; exact Or.inl h4
          · exact Or.inr ⟨j, by omega, by omega, h3, h4⟩
      · rw [if_neg h, mem_from k (i + 1)]
        constructor
        · rintro ⟨j, h1, h2, h3, h4⟩; exact ⟨j, by omega, by omega, h3, h4⟩
        · rintro ⟨j, h1, h2, h3, h4⟩
          by_cases e : j = i
          · subst e; exact absurd h3 h
          · exact ⟨j, by omega, by omega, h3, h4⟩
theorem from_up (c : List Nat) : ∀ (k i : Nat), (opFrom c k i).Pairwise (fun p q => p.1 < q.1)
  | 0, i => by simp [opFrom]
  | k + 1, i => by
      rw [opFrom]
      split
      · refine List.pairwise_cons.2 ⟨fun p hp => ?_, from_up c k (i + 1)⟩
        obtain ⟨j, h1, _, _, rfl⟩ := (mem_from k (i + 1)).1 hp
        show (i : Int) < (j : Int)
        omega
      · exact from_up c k (i + 1)
/-- The sum of the shares from i on. -/
def shSum (c : List Nat) : Nat → Nat → Nat
  | 0, _ => 0
  | k + 1, i => shW c i + shSum c k (i + 1)
theorem from_sum (c : List Nat) : ∀ (k i : Nat), sumO (wvN 0) (opFrom c k i) = shSum c k i
  | 0, i => rfl
  | k + 1, i => by
      rw [opFrom, shSum]
      by_cases h : 0 < c.getD i 0
      · rw [if_pos h, sumO, from_sum c k (i + 1), shW_pos h]
      · rw [if_neg h, from_sum c k (i + 1), shW_zero h]; omega
theorem sh_mul (c : List Nat) (i : Nat) : shW c i * sumN c = wvN 0 c * c.getD i 0 := by
  by_cases h : 0 < c.getD i 0
  · rw [shW_pos h, wv_dec c i h]
  · rw [shW_zero h, show c.getD i 0 = 0 by omega]; simp
theorem shSum_mul (c : List Nat) : ∀ (k i : Nat), i + k = c.length → shSum c k i * sumN c = wvN 0 c * sumN (c.drop i)
  | 0, i, h => by rw [List.drop_eq_nil_of_le (by omega)]; simp [shSum, sumN]
  | k + 1, i, h => by
      have hi : i < c.length := by omega
      rw [shSum, Nat.add_mul, sh_mul, shSum_mul c k (i + 1) (by omega), List.drop_eq_getElem_cons hi, sumN, Nat.mul_add, List.getD_eq_getElem?_getD, List.getElem?_eq_getElem hi]; rfl
theorem shSum_all {c : List Nat} (h : 0 < sumN c) : shSum c c.length 0 = wvN 0 c := by
  have := shSum_mul c c.length 0 (by omega)
  rw [List.drop_zero] at this
  exact Nat.eq_of_mul_eq_mul_right h this
theorem sumO_congr {σ : Type} {f g : σ → Nat} : ∀ (L : List (Int × σ)), (∀ p ∈ L, f p.2 = g p.2) → sumO f L = sumO g L
  | [], _ => rfl
  | p :: r, h => by rw [sumO, sumO, h p (by simp), sumO_congr r (fun q hq => h q (by simp [hq]))]
theorem szW : ∀ (d : Nat) (c : List Nat), sumN c = d → szG opW d c = wvN 0 c
  | 0, c, h => by
      have h1 := wvN_fact c 0
      rw [h] at h1
      have e0 : factN 0 = 1 := rfl
      rw [e0, Nat.mul_one] at h1
      show 1 = wvN 0 c
      exact (Nat.eq_one_of_mul_eq_one_right h1).symm
  | d + 1, c, h => by
      show sumO (szG opW d) (opW c) = _
      rw [sumO_congr (g := wvN 0) (opW c) (fun p hp => ?_)]
      · unfold opW
        rw [from_sum, shSum_all (by omega)]
      · obtain ⟨j, _, _, h3, rfl⟩ := (mem_from c.length 0).1 hp
        have := dec_sum c j h3
        exact szW d _ (by show sumN (dec c j) = d; omega)
theorem upW : ∀ (d : Nat) (c : List Nat), sumN c = d → UpG opW d c
  | 0, c, _ => trivial
  | d + 1, c, h => ⟨from_up c _ _, fun p hp => by
      obtain ⟨j, _, _, h3, rfl⟩ := (mem_from c.length 0).1 hp
      have := dec_sum c j h3
      exact upW d _ (by show sumN (dec c j) = d; omega)⟩

/-- The number in whose share n lies, from i on, and what is left of n. -/
def scanW (c : List Nat) : Nat → Nat → Nat → Nat × Nat
  | 0, i, n => (i, n)
  | k + 1, i, n => if n < shW c i then (i, n) else scanW c k (i + 1) (n - shW c i)
theorem pick_scan {c : List Nat} {f : List Nat → Nat → List Int} {sz : List Nat → Nat} (hsz : ∀ j, 0 < c.getD j 0 → sz (dec c j) = wvN 0 (dec c j)) : ∀ (k i n : Nat), n < shSum c k i →
    pickAt f sz (opFrom c k i) n = ((scanW c k i n).1 : Int) :: f (dec c (scanW c k i n).1) (scanW c k i n).2 ∧ (scanW c k i n).2 < shW c (scanW c k i n).1 ∧ i ≤ (scanW c k i n).1 ∧ (scanW c k i n).1 < i + k
  | 0, i, n, h => by simp [shSum] at h
  | k + 1, i, n, h => by
      by_cases hp : 0 < c.getD i 0
      · have hs := hsz i hp
        have hsh := shW_pos hp
        rw [opFrom, if_pos hp, pickAt, scanW]
        by_cases hn : n < shW c i
        · rw [if_pos (by show n < sz (dec c i); rw [hs, ← hsh]; exact hn), if_pos hn]
          exact ⟨rfl, hn, Nat.le_refl _, by omega⟩
        · rw [if_neg (by show ¬ n < sz (dec c i); rw [hs, ← hsh]; exact hn), if_neg hn]
          rw [shSum] at h
          obtain ⟨h1, h2, h3, h4⟩ := pick_scan hsz (f := f) k (i + 1) (n - shW c i) (by omega)
          refine ⟨?_, h2, by omega, by omega⟩
          rw [show n - sz ((i : Int), dec c i).2 = n - shW c i by show n - sz (dec c i) = _; rw [hs, ← hsh]]
          exact h1
      · have hsh := shW_zero hp
        rw [opFrom, if_neg hp, scanW, hsh, if_neg (by omega), Nat.sub_zero]
        rw [shSum, hsh] at h
        obtain ⟨h1, h2, h3, h4⟩ := pick_scan hsz (f := f) k (i + 1) n (by omega)
        exact ⟨h1, h2, by omega, by omega⟩
/-- The list with a number, as the program lays it. -/
def atW : Nat → List Nat → Nat → List Int
  | 0, _, _ => []
  | d + 1, c, n => ((scanW c c.length 0 n).1 : Int) :: atW d (dec c (scanW c c.length 0 n).1) (scanW c c.length 0 n).2
theorem sh_some {c : List Nat} {i n : Nat} (h : n < shW c i) : 0 < c.getD i 0 := Classical.byContradiction fun hn => by rw [shW_zero hn] at h; omega
theorem atW_eq : ∀ (d : Nat) (c : List Nat) (n : Nat), sumN c = d → n < wvN 0 c → atW d c n = atG opW d c n
  | 0, c, n, _, _ => rfl
  | d + 1, c, n, h, hn => by
      have hsz : ∀ j, 0 < c.getD j 0 → szG opW d (dec c j) = wvN 0 (dec c j) := fun j hj => by
        have := dec_sum c j hj
        exact szW d _ (by omega)
      obtain ⟨h1, h2, _, _⟩ := pick_scan (f := atG opW d) hsz c.length 0 n (by rw [shSum_all (by omega)]; exact hn)
      show _ = pickAt (atG opW d) (szG opW d) (opFrom c c.length 0) n
      rw [h1, atW]
      have hp := sh_some h2
      have hd := dec_sum c _ hp
      rw [atW_eq d _ _ (by omega) (by rw [← shW_pos hp]; exact h2)]
/-- The shares below a number. -/
def shTo (c : List Nat) : Nat → Nat
  | 0 => 0
  | x + 1 => shTo c x + shW c x
theorem shTo_succ (c : List Nat) : ∀ (k i : Nat), shSum c k i + shTo c i = shTo c (i + k)
  | 0, i => by simp [shSum]
  | k + 1, i => by
      have := shTo_succ c k (i + 1)
      rw [shSum, show i + (k + 1) = i + 1 + k by omega, ← this, shTo]; omega
theorem pick_to {c : List Nat} {g : List Nat → List Int → Nat} {sz : List Nat → Nat} (hsz : ∀ j, 0 < c.getD j 0 → sz (dec c j) = wvN 0 (dec c j)) {l : List Int} {x : Nat} (hx : 0 < c.getD x 0) : ∀ (k i : Nat), i ≤ x → x < i + k →
    pickRk g sz (x : Int) l (opFrom c k i) + shTo c i = shTo c x + g (dec c x) l
  | 0, i, h1, h2 => by omega
  | k + 1, i, h1, h2 => by
      by_cases hp : 0 < c.getD i 0
      · rw [opFrom, if_pos hp, pickRk]
        by_cases e : i = x
        · subst e; rw [if_pos rfl]; show g (dec c i) l + _ = _; omega
        · have hne : ¬ ((i : Int), dec c i).1 = (x : Int) := by show ¬ (i : Int) = x; omega
          have ih := pick_to hsz (g := g) (l := l) hx k (i + 1) (by omega) (by omega)
          rw [if_neg hne]
          rw [shTo] at ih
          have hs := hsz i hp
          have hsh := shW_pos hp
          show sz (dec c i) + _ + _ = _
          omega
      · have e : i ≠ x := fun e => hp (by rw [e]; exact hx)
        have ih := pick_to hsz (g := g) (l := l) hx k (i + 1) (by omega) (by omega)
        rw [shTo, shW_zero hp] at ih
        rw [opFrom, if_neg hp]; omega
/-- The number of a list, as the program reckons it. -/
def rkW : Nat → List Nat → List Int → Nat
  | 0, _, _ => 0
  | _ + 1, _, [] => 0
  | d + 1, c, x :: l => shTo c x.toNat + rkW d (dec c x.toNat) l
theorem rkW_eq : ∀ (d : Nat) (c : List Nat) (l : List Int), sumN c = d → InG opW d c l → rkW d c l = rkG opW d c l
  | 0, c, l, _, _ => rfl
  | d + 1, c, l, h, hin => by
      obtain ⟨x, t, l', rfl, hm, hin'⟩ := hin
      obtain ⟨j, _, h2, h3, he⟩ := (mem_from c.length 0).1 hm
      obtain ⟨rfl, rfl⟩ := Prod.mk.inj he
      have hd := dec_sum c j h3
      have hsz : ∀ j, 0 < c.getD j 0 → szG opW d (dec c j) = wvN 0 (dec c j) := fun j hj => by
        have := dec_sum c j hj
        exact szW d _ (by omega)
      have := pick_to hsz (g := rkG opW d) (l := l') h3 c.length 0 (by omega) h2
      show _ = pickRk (rkG opW d) (szG opW d) (j : Int) l' (opFrom c c.length 0)
      rw [rkW, Int.toNat_natCast, rkW_eq d _ l' (by omega) hin']
      have e0 : shTo c 0 = 0 := rfl
      omega

/-- The first list: each number so often as it stands. -/
def fstW : Nat → List Nat → List Int
  | _, [] => []
  | i, a :: l => List.replicate a (i : Int) ++ fstW (i + 1) l
theorem fst_len : ∀ (c : List Nat) (i : Nat), (fstW i c).length = sumN c
  | [], i => rfl
  | a :: l, i => by rw [fstW, List.length_append, List.length_replicate, fst_len l (i + 1), sumN]
theorem mem_fst {x : Int} : ∀ (c : List Nat) (i : Nat), x ∈ fstW i c → ∃ j, 0 < c.getD j 0 ∧ x = ((i + j : Nat) : Int) ∧ j < c.length
  | [], i, h => by simp [fstW] at h
  | a :: l, i, h => by
      rw [fstW, List.mem_append] at h
      rcases h with h | h
      · obtain ⟨h1, h2⟩ := List.mem_replicate.1 h
        exact ⟨0, by simp; omega, by rw [h2]; rfl, by simp⟩
      · obtain ⟨j, h1, h2, h3⟩ := mem_fst l (i + 1) h
        exact ⟨j + 1, by simpa using h1, by rw [h2]; congr 1; omega, by simpa using h3⟩
theorem fst_dec : ∀ (c : List Nat) (i j : Nat), 0 < c.getD j 0 → (fstW i c).Perm (((i + j : Nat) : Int) :: fstW i (dec c j))
  | [], i, j, h => by simp at h
  | a :: l, i, 0, h => by
      have h' : 0 < a := by simpa using h
      obtain ⟨b, rfl⟩ : ∃ b, a = b + 1 := ⟨a - 1, by omega⟩
      have e : dec ((b + 1) :: l) 0 = b :: l := by simp [dec]
      rw [e, fstW, fstW, List.replicate_succ]
      exact List.Perm.refl _
  | a :: l, i, j + 1, h => by
      have h' : 0 < l.getD j 0 := by simpa using h
      have e : dec (a :: l) (j + 1) = a :: dec l j := by simp [dec]
      have ih := fst_dec l (i + 1) j h'
      rw [e, fstW, fstW, show i + (j + 1) = i + 1 + j by omega]
      exact (List.Perm.append_left _ ih).trans List.perm_middle
theorem inW : ∀ (d : Nat) (c : List Nat) (l : List Int), sumN c = d → (InG opW d c l ↔ l.Perm (fstW 0 c))
  | 0, c, l, h => by
      have : fstW 0 c = [] := List.eq_nil_of_length_eq_zero (by rw [fst_len]; exact h)
      rw [this, List.perm_nil]; rfl
  | d + 1, c, l, h => by
      constructor
      · rintro ⟨x, t, l', rfl, hm, hin⟩
        obtain ⟨j, _, h2, h3, he⟩ := (mem_from c.length 0).1 hm
        obtain ⟨rfl, rfl⟩ := Prod.mk.inj he
        have hd := dec_sum c j h3
        have h4 := (inW d _ l' (by omega)).1 hin
        have h5 := fst_dec c 0 j h3
        rw [Nat.zero_add] at h5
        exact ((List.perm_cons _).2 h4).trans h5.symm
      · intro hp
        cases l with
        | nil => have := hp.length_eq; rw [fst_len] at this; simp at this; omega
        | cons x l =>
            obtain ⟨j, h1, h2, h3⟩ := mem_fst (x := x) c 0 (hp.mem_iff.1 (by simp))
            rw [Nat.zero_add] at h2
            subst h2
            have hd := dec_sum c j h1
            have h5 := fst_dec c 0 j h1
            rw [Nat.zero_add] at h5
            refine ⟨_, dec c j, l, rfl, (mem_from c.length 0).2 ⟨j, by omega, by omega, h1, rfl⟩, (inW d _ l (by omega)).2 ?_⟩
            exact (List.perm_cons _).1 (hp.trans h5)
theorem fst_sorted : ∀ (c : List Nat) (i : Nat), (fstW i c).Pairwise (· ≤ ·)
  | [], i => by simp [fstW]
  | a :: l, i => by
      rw [fstW, List.pairwise_append]
      refine ⟨List.pairwise_replicate.2 (Or.inr (Int.le_refl _)), fst_sorted l (i + 1), fun x hx y hy => ?_⟩
      rw [(List.mem_replicate.1 hx).2]
      obtain ⟨j, _, h2, _⟩ := mem_fst l (i + 1) hy
      rw [h2]; omega
end Go.Proofs.Ytghfomammdbgoaa.K

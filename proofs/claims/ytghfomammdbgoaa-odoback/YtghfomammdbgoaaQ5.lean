/-
  Products: the list with a number and the number of a list, as the general coding by rising options has them.
-/
import Derived.Test.YtghfomammdbgoaaA4
import Derived.Test.YtghfomammdbgoaaQ4
namespace Go.Proofs.Ytghfomammdbgoaa
open K
set_option linter.unusedSimpArgs false
set_option linter.unusedVariables false

/-- What may come next: each number below the first size. -/
def opP : List Nat → List (Int × List Nat)
  | [] => []
  | x :: r => (List.range x).map fun i : Nat => ((i : Int), r)
theorem mem_opP {x : Nat} {r : List Nat} {p : Int × List Nat} : p ∈ opP (x :: r) ↔ ∃ i : Nat, i < x ∧ p = ((i : Int), r) := by
  unfold opP
  rw [List.mem_map]
  constructor
  · rintro ⟨i, hi, rfl⟩; exact ⟨i, by simpa using hi, rfl⟩
  · rintro ⟨i, hi, rfl⟩; exact ⟨i, by simpa using hi, rfl⟩
theorem opP_len (x : Nat) (r : List Nat) : (opP (x :: r)).length = x := by simp [opP]
theorem opP_get (x : Nat) (r : List Nat) (i : Nat) (h : i < (opP (x :: r)).length) : (opP (x :: r))[i] = ((i : Int), r) := by simp [opP]
theorem szP : ∀ (l : List Nat), szG opP l.length l = prodN l
  | [] => rfl
  | x :: r => by
      have hs : ∀ p ∈ opP (x :: r), szG opP r.length p.2 = prodN r := fun p hp => by
        obtain ⟨i, hi, rfl⟩ := mem_opP.1 hp
        exact szP r
      show sumO (szG opP r.length) (opP (x :: r)) = _
      rw [sumO_same _ hs, opP_len]; rfl
theorem upP : ∀ (l : List Nat), UpG opP l.length l
  | [] => trivial
  | x :: r => by
      refine ⟨?_, fun p hm => ?_⟩
      · unfold opP
        rw [List.pairwise_map]
        refine List.Pairwise.imp ?_ (List.pairwise_lt_range (n := x))
        intro i j hij
        exact Int.ofNat_lt.2 hij
      · obtain ⟨i, hi, rfl⟩ := mem_opP.1 hm
        exact upP r

/-- The digits of a number. -/
def dg : List Nat → Nat → List Int
  | [], _ => []
  | x :: r, m => ((m / prodN r % x : Nat) : Int) :: dg r m
theorem dg_len : ∀ (l : List Nat) (m : Nat), (dg l m).length = l.length
  | [], m => rfl
  | x :: r, m => by rw [dg, List.length_cons, dg_len r m, List.length_cons]
theorem dg_mod : ∀ (r : List Nat) (m : Nat), dg r (m % prodN r) = dg r m
  | [], m => rfl
  | y :: s, m => by
      have e1 : m % (y * prodN s) / prodN s % y = m / prodN s % y := by
        rw [Nat.mul_comm y, Nat.mod_mul_right_div_self, Nat.mod_mod]
      have e2 : dg s (m % (y * prodN s)) = dg s m := by
        rw [← dg_mod s (m % (y * prodN s)), Nat.mod_mul_left_mod, dg_mod s m]
      rw [prodN, dg, dg, e1, e2]
theorem dg_get : ∀ (l : List Nat) (m j : Nat), j < l.length → (dg l m).getD j 0 = ((m / prodN (l.drop (j + 1)) % l.getD j 0 : Nat) : Int)
  | [], m, j, h => by simp at h
  | x :: r, m, 0, h => by simp [dg]
  | x :: r, m, j + 1, h => by
      have := dg_get r m j (by simpa using h)
      simpa [dg] using this
theorem atG_dg : ∀ (l : List Nat) (m : Nat), m < prodN l → atG opP l.length l m = dg l m
  | [], m, _ => rfl
  | x :: r, m, hm => by
      have hF : 0 < prodN r := Nat.pos_of_ne_zero fun e => by rw [prodN, e] at hm; omega
      have hs : ∀ p ∈ opP (x :: r), szG opP r.length p.2 = prodN r := fun p hp => by
        obtain ⟨i, hi, rfl⟩ := mem_opP.1 hp
        exact szP r
      have hq : m / prodN r < x := Nat.div_lt_of_lt_mul (by rw [Nat.mul_comm]; exact hm)
      have hk : m / prodN r < (opP (x :: r)).length := by rw [opP_len]; exact hq
      show pickAt (atG opP r.length) (szG opP r.length) (opP (x :: r)) m = _
      rw [pickAt_same hF _ m hs hk, opP_get _ _ _ hk, atG_dg r _ (Nat.mod_lt _ hF), dg_mod, dg, Nat.mod_eq_of_lt hq]
theorem stA_at (l : List Nat) (n : Nat) : ∀ i k, i + k = l.length → (stA l n (backF l.length k)).1 = n / prodN (l.drop k) ∧ ∀ j, k ≤ j → j < l.length → (stA l n (backF l.length k)).2.getD j 0 = ((n / prodN (l.drop (j + 1)) % l.getD j 0 : Nat) : Int)
  | 0, k, h => by
      obtain rfl : k = l.length := by omega
      rw [backF_end]
      refine ⟨by simp [stA, prodN], fun j h1 h2 => by omega⟩
  | i + 1, k, h => by
      have hk : k < l.length := by omega
      obtain ⟨h1, h2⟩ := stA_at l n i (k + 1) (by omega)
      have hd : prodN (l.drop k) = l.getD k 0 * prodN (l.drop (k + 1)) := by
        rw [List.drop_eq_getElem_cons hk, prodN, List.getD_eq_getElem?_getD, List.getElem?_eq_getElem hk]; rfl
      have hlen := stA_len l n (backF l.length (k + 1))
      rw [backF_step l.length k hk, stA_snoc]
      refine ⟨?_, fun j hj1 hj2 => ?_⟩
      · show (stA l n (backF l.length (k + 1))).1 / l.getD k 0 = _
        rw [h1, hd, Nat.div_div_eq_div_mul, Nat.mul_comm]
      · show ((stA l n (backF l.length (k + 1))).2.set k _).getD j 0 = _
        rw [List.getD_eq_getElem?_getD, List.getElem?_set]
        by_cases e : k = j
        · subst e
          rw [if_pos rfl, if_pos (by omega), Option.getD_some, h1]
        · rw [if_neg e, ← List.getD_eq_getElem?_getD]
          exact h2 j (by omega) hj2
theorem atP_eq (l : List Nat) (n : Nat) (h : n < prodN l) : atP l n = atG opP l.length l n := by
  rw [atG_dg l n h]
  apply List.ext_getElem (by rw [atP_len, dg_len])
  intro j h1 h2
  have hj : j < l.length := by rw [atP_len] at h1; exact h1
  have e1 := (stA_at l n l.length 0 rfl).2 j (by omega) hj
  have e2 := dg_get l n j hj
  have e3 : (atP l n)[j] = (atP l n).getD j 0 := by rw [List.getD_eq_getElem?_getD, List.getElem?_eq_getElem h1]; rfl
  have e4 : (dg l n)[j] = (dg l n).getD j 0 := by rw [List.getD_eq_getElem?_getD, List.getElem?_eq_getElem h2]; rfl
  rw [e3, e4, e2]
  exact e1

/-- The number of a list, from the front. -/
def rkC : List Nat → List Int → Nat
  | _ :: r, z :: zs => z.toNat * prodN r + rkC r zs
  | _, _ => 0
theorem rkC_snoc : ∀ (l : List Nat) (zs : List Int) (x : Nat) (z : Int), l.length = zs.length → rkC (l ++ [x]) (zs ++ [z]) = rkC l zs * x + z.toNat
  | [], [], x, z, _ => by simp [rkC, prodN]
  | y :: l, v :: zs, x, z, h => by
      simp only [List.cons_append, rkC, prodN_snoc]
      rw [rkC_snoc l zs x z (by simpa using h), Nat.add_mul, Nat.mul_assoc, Nat.add_assoc]
  | [], v :: zs, x, z, h => by simp at h
  | y :: l, [], x, z, h => by simp at h
theorem rkP_C (l : List Nat) (zs : List Int) (hl : zs.length = l.length) : ∀ k, k ≤ l.length → rkP l zs k = rkC (l.take k) (zs.take k)
  | 0, _ => by simp [rkP, rkC]
  | k + 1, h => by
      rw [takeN_snoc l k (by omega), take_snoc zs k (by omega), rkC_snoc _ _ _ _ (by simp; omega), rkP, rkP_C l zs hl k (by omega)]
theorem hasP_cons {x : Nat} {r : List Nat} {z : Int} {zs : List Int} : HasP (x :: r) (z :: zs) ↔ (0 ≤ z ∧ z < (x : Int)) ∧ HasP r zs := by
  unfold HasP hasTo
  constructor
  · rintro ⟨h1, h2⟩
    refine ⟨by simpa using h2 0 (by simp), by simpa using h1, fun j hj => ?_⟩
    have := h2 (j + 1) (by simpa using hj)
    simpa using this
  · rintro ⟨h1, h2, h3⟩
    refine ⟨by simpa using h2, fun j hj => ?_⟩
    cases j with
    | zero => simpa using h1
    | succ j => simpa using h3 j (by simpa using hj)
theorem inP : ∀ (l : List Nat) (zs : List Int), InG opP l.length l zs ↔ HasP l zs
  | [], zs => by
      show zs = [] ↔ _
      constructor
      · rintro rfl; exact ⟨rfl, fun j hj => absurd hj (by simp)⟩
      · intro h; exact List.eq_nil_of_length_eq_zero h.1
  | x :: r, zs => by
      constructor
      · rintro ⟨z, t, l', rfl, hm, hin⟩
        obtain ⟨i, hi, he⟩ := mem_opP.1 hm
        obtain ⟨rfl, rfl⟩ := Prod.mk.inj he
        exact hasP_cons.2 ⟨by omega, (inP _ l').1 hin⟩
      · intro h
        cases zs with
        | nil => have := h.1; simp at this
        | cons z zs =>
            obtain ⟨h1, h2⟩ := hasP_cons.1 h
            exact ⟨z, r, zs, rfl, mem_opP.2 ⟨z.toNat, by omega, by rw [Int.toNat_of_nonneg h1.1]⟩, (inP r zs).2 h2⟩
theorem rkG_C : ∀ (l : List Nat) (zs : List Int), HasP l zs → rkG opP l.length l zs = rkC l zs
  | [], zs, _ => by cases zs <;> rfl
  | x :: r, [], h => by have := h.1; simp at this
  | x :: r, z :: zs, h => by
      obtain ⟨h1, h2⟩ := hasP_cons.1 h
      have hs : ∀ p ∈ opP (x :: r), szG opP r.length p.2 = prodN r := fun p hp => by
        obtain ⟨i, hi, rfl⟩ := mem_opP.1 hp
        exact szP r
      have hk : z.toNat < (opP (x :: r)).length := by rw [opP_len]; omega
      show pickRk (rkG opP r.length) (szG opP r.length) z zs (opP (x :: r)) = _
      rw [pickRk_same _ z.toNat hs hk (by rw [opP_get _ _ _ hk]; exact Int.toNat_of_nonneg h1.1) (fun j hj e => ?_), opP_get _ _ _ hk, rkC, rkG_C r zs h2]
      have hj' : j < (opP (x :: r)).length := by omega
      rw [opP_get _ _ j hj'] at e
      have e2 : (j : Int) = z := e
      omega
theorem rkP_eq (l : List Nat) (zs : List Int) (h : HasP l zs) : rkP l zs l.length = rkG opP l.length l zs := by
  rw [rkG_C l zs h, rkP_C l zs h.1 _ (Nat.le_refl _), List.take_length, ← h.1, List.take_length]
end Go.Proofs.Ytghfomammdbgoaa

/-
  Plain mathematics: orders of numbers, the list with a number by factorials, the number of a list by what is left. No program is named.
-/
import Derived.Test.YtghfomammdbgoaaM0
import Derived.Test.YtghfomammdbgoaaQ1
namespace Go.Proofs.Ytghfomammdbgoaa.K
set_option linter.unusedSimpArgs false
set_option linter.unusedVariables false

section
variable {σ : Type}
theorem sumO_same {sz : σ → Nat} {F : Nat} : ∀ (L : List (Int × σ)), (∀ p ∈ L, sz p.2 = F) → sumO sz L = L.length * F
  | [], _ => by simp [sumO]
  | p :: r, h => by rw [sumO, sumO_same r (fun q hq => h q (by simp [hq])), h p (by simp), List.length_cons, Nat.add_mul, Nat.one_mul]; omega
theorem pickAt_same {f : σ → Nat → List Int} {sz : σ → Nat} {F : Nat} (hF : 0 < F) : ∀ (L : List (Int × σ)) (n : Nat), (∀ p ∈ L, sz p.2 = F) → (h : n / F < L.length) → pickAt f sz L n = (L[n / F]).1 :: f (L[n / F]).2 (n % F)
  | [], n, _, h => by simp at h
  | p :: r, n, hs, h => by
      have hp := hs p (by simp)
      by_cases hn : n < F
      · have h0 : n / F = 0 := Nat.div_eq_of_lt hn
        rw [pickAt, hp, if_pos hn]
        simp [h0, Nat.mod_eq_of_lt hn]
      · have h1 : n / F = (n - F) / F + 1 := by rw [Nat.div_eq_sub_div hF (by omega)]
        have h2 : n % F = (n - F) % F := Nat.mod_eq_sub_mod (by omega)
        rw [pickAt, hp, if_neg hn, pickAt_same hF r (n - F) (fun q hq => hs q (by simp [hq])) (by rw [List.length_cons] at h; omega), h2]
        simp [h1]
theorem pickRk_same {g : σ → List Int → Nat} {sz : σ → Nat} {F : Nat} {x : Int} {l : List Int} : ∀ (L : List (Int × σ)) (k : Nat), (∀ p ∈ L, sz p.2 = F) → (h : k < L.length) → (L[k]).1 = x → (∀ j (hj : j < k), (L[j]'(by omega)).1 ≠ x) → pickRk g sz x l L = k * F + g (L[k]).2 l
  | [], k, _, h, _, _ => by simp at h
  | p :: r, 0, hs, h, hx, _ => by
      have hx' : p.1 = x := hx
      rw [pickRk, if_pos hx']; simp
  | p :: r, k + 1, hs, h, hx, hno => by
      have h0 : p.1 ≠ x := hno 0 (by omega)
      rw [pickRk, if_neg h0, hs p (by simp), pickRk_same r k (fun q hq => hs q (by simp [hq])) (by simpa using h) (by simpa using hx) (fun j hj => by have := hno (j + 1) (by omega); simpa using this)]
      simp [Nat.add_mul]; omega
end

theorem perm_idx {rest : List Int} {i : Nat} (hi : i < rest.length) : (rest[i] :: rest.eraseIdx i).Perm rest := by
  have e1 : rest.eraseIdx i = rest.take i ++ rest.drop (i + 1) := List.eraseIdx_eq_take_drop_succ rest i
  have e2 : rest = rest.take i ++ rest[i] :: rest.drop (i + 1) := by rw [← List.drop_eq_getElem_cons hi, List.take_append_drop]
  rw [e1]
  have h := (List.perm_middle (a := rest[i]) (l₁ := rest.take i) (l₂ := rest.drop (i + 1))).symm
  rwa [← e2] at h
/-- What may come next: each of what is left. -/
def opO (rest : List Int) : List (Int × List Int) := (List.range rest.length).map fun i => (rest.getD i 0, rest.eraseIdx i)
theorem opO_len (rest : List Int) : (opO rest).length = rest.length := by simp [opO]
theorem opO_get (rest : List Int) (i : Nat) (h : i < (opO rest).length) : (opO rest)[i] = (rest.getD i 0, rest.eraseIdx i) := by simp [opO]
theorem mem_opO {rest : List Int} {p : Int × List Int} : p ∈ opO rest ↔ ∃ i, i < rest.length ∧ p = (rest.getD i 0, rest.eraseIdx i) := by
  unfold opO
  rw [List.mem_map]
  constructor
  · rintro ⟨i, hi, rfl⟩; exact ⟨i, by simpa using hi, rfl⟩
  · rintro ⟨i, hi, rfl⟩; exact ⟨i, by simpa using hi, rfl⟩
theorem erase_len {rest : List Int} {i d : Nat} (h : rest.length = d + 1) (hi : i < rest.length) : (rest.eraseIdx i).length = d := by
  rw [List.length_eraseIdx_of_lt hi]; omega
theorem szO : ∀ (d : Nat) (rest : List Int), rest.length = d → szG opO d rest = factN d
  | 0, rest, _ => rfl
  | d + 1, rest, h => by
      have hs : ∀ p ∈ opO rest, szG opO d p.2 = factN d := fun p hp => by
        obtain ⟨i, hi, rfl⟩ := mem_opO.1 hp
        exact szO d _ (erase_len h hi)
      show sumO (szG opO d) (opO rest) = _
      rw [sumO_same (opO rest) hs, opO_len, h, Nat.mul_comm]; rfl
theorem upO : ∀ (d : Nat) (rest : List Int), rest.length = d → rest.Pairwise (· < ·) → UpG opO d rest
  | 0, rest, _, _ => trivial
  | d + 1, rest, h, hp => by
      refine ⟨?_, fun p hm => ?_⟩
      · unfold opO
        rw [List.pairwise_map]
        refine List.Pairwise.imp_of_mem ?_ (List.pairwise_lt_range (n := rest.length))
        intro i j hi hj hij
        have hi' : i < rest.length := by simpa using hi
        have hj' : j < rest.length := by simpa using hj
        show rest.getD i 0 < rest.getD j 0
        rw [List.getD_eq_getElem?_getD, List.getD_eq_getElem?_getD, List.getElem?_eq_getElem hi', List.getElem?_eq_getElem hj']
        exact List.pairwise_iff_getElem.1 hp i j hi' hj' hij
      · obtain ⟨i, hi, rfl⟩ := mem_opO.1 hm
        exact upO d _ (erase_len h hi) (hp.sublist (List.eraseIdx_sublist rest i))

/-- The list with a number, as the program lays it. -/
def atO : Nat → List Int → Nat → List Int
  | 0, _, _ => []
  | d + 1, rest, n => rest.getD (n / factN d) 0 :: atO d (rest.eraseIdx (n / factN d)) (n % factN d)
theorem atO_eq : ∀ (d : Nat) (rest : List Int) (n : Nat), rest.length = d → n < factN d → atO d rest n = atG opO d rest n
  | 0, rest, n, _, _ => rfl
  | d + 1, rest, n, h, hn => by
      have hF := factN_pos d
      have hs : ∀ p ∈ opO rest, szG opO d p.2 = factN d := fun p hp => by
        obtain ⟨i, hi, rfl⟩ := mem_opO.1 hp
        exact szO d _ (erase_len h hi)
      have hq : n / factN d < d + 1 := Nat.div_lt_of_lt_mul (by exact hn)
      have hk : n / factN d < (opO rest).length := by rw [opO_len, h]; exact hq
      show _ = pickAt (atG opO d) (szG opO d) (opO rest) n
      rw [pickAt_same hF (opO rest) n hs hk, opO_get rest _ hk, atO]
      rw [atO_eq d _ _ (erase_len h (by omega)) (Nat.mod_lt _ hF)]
/-- The number of a list, as the program reckons it. -/
def rkO : Nat → List Int → List Int → Nat
  | 0, _, _ => 0
  | _ + 1, _, [] => 0
  | d + 1, rest, x :: l => rest.idxOf x * factN d + rkO d (rest.eraseIdx (rest.idxOf x)) l
theorem perm_erase {rest l : List Int} {x : Int} (h : (x :: l).Perm rest) : rest.idxOf x < rest.length ∧ rest.getD (rest.idxOf x) 0 = x ∧ l.Perm (rest.eraseIdx (rest.idxOf x)) := by
  have hm : x ∈ rest := h.mem_iff.1 (by simp)
  have hi := List.idxOf_lt_length_iff.2 hm
  have hx : rest.getD (rest.idxOf x) 0 = x := by
    rw [List.getD_eq_getElem?_getD, List.getElem?_eq_getElem hi]; simp
  refine ⟨hi, hx, ?_⟩
  have h2 : rest.Perm (rest[rest.idxOf x] :: rest.eraseIdx (rest.idxOf x)) := (perm_idx hi).symm
  have h3 : rest[rest.idxOf x] = x := by simp
  rw [h3] at h2
  exact (List.perm_cons x).1 (h.trans h2)
theorem inO : ∀ (d : Nat) (rest l : List Int), rest.length = d → (InG opO d rest l ↔ l.Perm rest)
  | 0, rest, l, h => by
      have : rest = [] := List.eq_nil_of_length_eq_zero h
      subst this
      show l = [] ↔ _
      rw [List.perm_nil]
  | d + 1, rest, l, h => by
      constructor
      · rintro ⟨x, t, l', rfl, hm, hin⟩
        obtain ⟨i, hi, he⟩ := mem_opO.1 hm
        obtain ⟨rfl, rfl⟩ := Prod.mk.inj he
        have h2 := (inO d _ l' (erase_len h hi)).1 hin
        have h3 : rest.getD i 0 = rest[i] := by rw [List.getD_eq_getElem?_getD, List.getElem?_eq_getElem hi]; rfl
        rw [h3]
        exact ((List.perm_cons _).2 h2).trans (perm_idx hi)
      · intro hp
        cases l with
        | nil => have := hp.length_eq; simp at this; omega
        | cons x l =>
            obtain ⟨h1, h2, h3⟩ := perm_erase hp
            exact ⟨x, rest.eraseIdx (rest.idxOf x), l, rfl, mem_opO.2 ⟨_, h1, by rw [h2]⟩, (inO d _ l (erase_len h h1)).2 h3⟩
theorem rkO_eq : ∀ (d : Nat) (rest l : List Int), rest.length = d → rest.Nodup → l.Perm rest → rkO d rest l = rkG opO d rest l
  | 0, rest, l, _, _, _ => rfl
  | d + 1, rest, [], h, _, hp => by have := hp.length_eq; simp at this; omega
  | d + 1, rest, x :: l, h, hnd, hp => by
      obtain ⟨h1, h2, h3⟩ := perm_erase hp
      have hs : ∀ p ∈ opO rest, szG opO d p.2 = factN d := fun p hp => by
        obtain ⟨i, hi, rfl⟩ := mem_opO.1 hp
        exact szO d _ (erase_len h hi)
      have hk : rest.idxOf x < (opO rest).length := by rw [opO_len]; exact h1
      show _ = pickRk (rkG opO d) (szG opO d) x l (opO rest)
      rw [pickRk_same (opO rest) (rest.idxOf x) hs hk (by rw [opO_get rest _ hk]; exact h2) (fun j hj e => ?_), opO_get rest _ hk, rkO]
      · rw [rkO_eq d _ l (erase_len h h1) (hnd.sublist (List.eraseIdx_sublist _ _)) h3]
      · have hj' : j < (opO rest).length := by omega
        rw [opO_get rest j hj'] at e
        have hjl : j < rest.length := by rw [opO_len] at hj'; exact hj'
        have e2 : rest[j] = x := by
          have : rest.getD j 0 = rest[j] := by rw [List.getD_eq_getElem?_getD, List.getElem?_eq_getElem hjl]; rfl
          rw [← this]; exact e
        have := List.not_of_lt_findIdx (p := (· == x)) (xs := rest) (i := j) hj
        simp at this
        exact this e2
end Go.Proofs.Ytghfomammdbgoaa.K

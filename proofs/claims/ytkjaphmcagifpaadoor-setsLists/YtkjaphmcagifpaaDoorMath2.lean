/- Plain mathematics: a list's set; a set's numbers rise, and what follows for ranks, next numbers, and one number more or less. -/
import Derived.Test.YtkjaphmcagifpaaDoorMath
namespace Go.Proofs.YtkjaphmcagifpaaDoor.M
set_option linter.unusedSimpArgs false
set_option linter.unusedVariables false

/-- The set of a list of numbers, and whether they all fit. -/
def setOf (zs : List Int) : Nat := zs.foldl wthN 0
def fitsAll (zs : List Int) : Bool := zs.all fun z => decide (0 ≤ z ∧ z < 64)
def ofS (zs : List Int) : Nat := if fitsAll zs then setOf zs else 0
def ofE (zs : List Int) : Int := if fitsAll zs then 0 else 4

theorem setOf_snoc (zs : List Int) (z : Int) : setOf (zs ++ [z]) = wthN (setOf zs) z := by simp [setOf]
theorem fitsAll_snoc (zs : List Int) (z : Int) : fitsAll (zs ++ [z]) = (fitsAll zs && decide (0 ≤ z ∧ z < 64)) := by simp [fitsAll]
theorem fitsAll_take (zs : List Int) (k : Nat) (h : fitsAll zs = true) : fitsAll (zs.take k) = true := by
  unfold fitsAll at *
  rw [List.all_eq_true] at *
  intro x hx
  exact h x (List.mem_of_mem_take hx)

theorem foldl_wthN_lt (zs : List Int) : ∀ s, s < 2 ^ 64 → zs.foldl wthN s < 2 ^ 64 := by
  induction zs with
  | nil => intro s h; exact h
  | cons z zs ih => intro s h; exact ih _ (wthN_lt s z h)
theorem setOf_lt (zs : List Int) : setOf zs < 2 ^ 64 := foldl_wthN_lt zs 0 (by decide)

theorem testBit_foldl (zs : List Int) : ∀ (s j : Nat), j < 64 → (zs.foldl wthN s).testBit j = (s.testBit j || decide ((j : Int) ∈ zs)) := by
  induction zs with
  | nil => intro s j hj; simp
  | cons z zs ih =>
    intro s j hj
    rw [List.foldl_cons, ih _ _ hj, wthN, Nat.testBit_or, testBit_oneN]
    by_cases h : (j : Int) = z
    · simp [h, hj]
    · simp [h]

theorem setOf_lst (s : Nat) (hs : s < 2 ^ 64) : setOf ((lst s).map fun n : Nat => (n : Int)) = s := by
  apply eq_of_bits (setOf_lt _) hs
  intro i hi
  unfold setOf
  rw [testBit_foldl _ _ _ hi, Nat.zero_testBit, Bool.false_or, Bool.eq_iff_iff]
  simp only [List.mem_map, mem_lst, decide_eq_true_eq]
  constructor
  · rintro ⟨a, ⟨_, hb⟩, he⟩
    obtain rfl : a = i := by omega
    exact hb
  · intro hb
    exact ⟨i, ⟨hi, hb⟩, rfl⟩

theorem fits_lst (s : Nat) : fitsAll ((lst s).map fun n : Nat => (n : Int)) = true := by
  unfold fitsAll
  rw [List.all_eq_true]
  intro x hx
  simp only [List.mem_map] at hx
  obtain ⟨n, hn, rfl⟩ := hx
  have := (mem_lst.1 hn).1
  simp
  omega

theorem lst_rises (s : Nat) : (lst s).Pairwise (· < ·) := List.Pairwise.sublist List.filter_sublist List.pairwise_lt_range
theorem lst_nodup (s : Nat) : (lst s).Nodup := (lst_rises s).imp (fun h => by omega)

theorem rises_get {l : List Nat} (h : l.Pairwise (· < ·)) {i j : Nat} (hij : i < j) (hj : j < l.length) : l.getD i 0 < l.getD j 0 := by
  have := List.pairwise_iff_getElem.1 h i j (by omega) hj hij
  rw [List.getD_eq_getElem?_getD, List.getD_eq_getElem?_getD, List.getElem?_eq_getElem (by omega), List.getElem?_eq_getElem hj]
  exact this

theorem getD_mem {l : List Nat} {k : Nat} (h : k < l.length) : l.getD k 0 ∈ l := by
  rw [List.getD_eq_getElem?_getD, List.getElem?_eq_getElem h]
  exact List.getElem_mem h

theorem rank_get {l : List Nat} (h : l.Pairwise (· < ·)) {k : Nat} (hk : k < l.length) : (l.filter fun j : Nat => decide ((j : Int) < (l.getD k 0 : Nat))).length = k := by
  have e : l = l.take k ++ l.drop k := (List.take_append_drop k l).symm
  generalize hx : l.getD k 0 = x
  rw [e, List.filter_append]
  have h1 : (l.take k).filter (fun j : Nat => decide ((j : Int) < (x : Nat))) = l.take k := by
    rw [List.filter_eq_self]
    intro a ha
    obtain ⟨i, hi, rfl⟩ := List.mem_iff_getElem.1 ha
    have hik : i < k := by simpa using (Nat.lt_of_lt_of_le hi (by simp [List.length_take]; omega : (l.take k).length ≤ k))
    have := rises_get h hik hk
    rw [List.getD_eq_getElem?_getD, List.getElem?_eq_getElem (by omega), hx] at this
    simp
    simpa using this
  have h2 : (l.drop k).filter (fun j : Nat => decide ((j : Int) < (x : Nat))) = [] := by
    rw [List.filter_eq_nil_iff]
    intro a ha
    obtain ⟨i, hi, rfl⟩ := List.mem_iff_getElem.1 ha
    have hil : k + i < l.length := by simp at hi; omega
    have hge : x ≤ l[k + i] := by
      by_cases h0 : i = 0
      · subst h0
        rw [← hx, List.getD_eq_getElem?_getD, List.getElem?_eq_getElem hk]
        exact Nat.le_refl _
      · have := rises_get h (show k < k + i by omega) hil
        rw [hx, List.getD_eq_getElem?_getD, List.getElem?_eq_getElem hil] at this
        exact Nat.le_of_lt this
    simp
    exact hge
  rw [h1, h2, List.append_nil, List.length_take]
  omega

theorem rnk_get (s k : Nat) (hk : k < (lst s).length) : rnk s ((lst s).getD k 0 : Nat) = k := rank_get (lst_rises s) hk

theorem rnk_64 (s : Nat) : rnk s 64 = (lst s).length := by
  unfold rnk
  congr 1
  rw [List.filter_eq_self]
  intro a ha
  have := (mem_lst.1 ha).1
  simp
  omega

theorem atN_get (s k : Nat) (hk : k < (lst s).length) : atN s k = ((lst s).getD k 0 : Nat) := by
  unfold atN
  rw [if_neg (by omega)]
  rfl
theorem atN_len (s : Nat) : atN s (lst s).length = -1 := by unfold atN; rw [if_pos (by omega)]

/-- The number before the k-th; -1 before the first. -/
def lastN (s k : Nat) : Int := if k = 0 then -1 else ((lst s).getD (k - 1) 0 : Nat)

theorem lastN_zero (s : Nat) : lastN s 0 = -1 := rfl
theorem lastN_succ (s k : Nat) : lastN s (k + 1) = ((lst s).getD k 0 : Nat) := by simp [lastN]
theorem lastN_lt (s k : Nat) (hk : k < (lst s).length) : lastN s k < ((lst s).getD k 0 : Nat) := by
  unfold lastN
  split
  · omega
  · have := rises_get (lst_rises s) (show k - 1 < k by omega) hk
    omega
theorem lastN_ge (s k : Nat) : -1 ≤ lastN s k := by unfold lastN; split <;> omega

theorem nxt_last (s k : Nat) (hk : k < (lst s).length) : nxt s (lastN s k + 1) = ((lst s).getD k 0 : Nat) := by
  have hm := getD_mem hk
  obtain ⟨h64, hb⟩ := mem_lst.1 hm
  have hl := lastN_lt s k hk
  refine nxt_hit s _ _ h64 hb (by omega) ?_
  intro j hj hij
  cases hbj : s.testBit j with
  | false => rfl
  | true =>
    exfalso
    have hjm : j ∈ lst s := mem_lst.2 ⟨by omega, hbj⟩
    obtain ⟨i, hi, he⟩ := List.mem_iff_getElem.1 hjm
    have e : (lst s).getD i 0 = j := by rw [List.getD_eq_getElem?_getD, List.getElem?_eq_getElem hi]; exact he
    by_cases hik : i < k
    · unfold lastN at hij
      rw [if_neg (by omega)] at hij
      by_cases hi1 : i = k - 1
      · subst hi1; omega
      · have := rises_get (lst_rises s) (show i < k - 1 by omega) (by omega)
        omega
    · by_cases hik2 : i = k
      · subst hik2; omega
      · have := rises_get (lst_rises s) (show k < i by omega) hi
        omega

theorem hasB_get (s k : Nat) (hk : k < (lst s).length) : hasB s ((lst s).getD k 0 : Nat) = true := by
  obtain ⟨h64, hb⟩ := mem_lst.1 (getD_mem hk)
  rw [hasB_nat _ _ h64]; exact hb

theorem testBit_wth (s : Nat) (i : Int) (j : Nat) : (wthN s i).testBit j = (s.testBit j || decide ((j : Int) = i ∧ j < 64)) := by rw [wthN, Nat.testBit_or, testBit_oneN]
theorem testBit_wou (s : Nat) (i : Int) (j : Nat) (hj : j < 64) : (wouN s i).testBit j = (s.testBit j && !decide ((j : Int) = i)) := by
  rw [wouN, Nat.testBit_and, testBit_not _ _ (oneN_lt i) hj, testBit_oneN]
  simp [hj]

theorem hasB_true {s : Nat} {i : Int} (h : hasB s i = true) : 0 ≤ i ∧ i < 64 ∧ s.testBit i.toNat = true := by
  unfold hasB at h
  simp only [Bool.and_eq_true, decide_eq_true_eq] at h
  exact ⟨h.1.1, h.1.2, h.2⟩

theorem wth_wou (s : Nat) (i : Int) (hs : s < 2 ^ 64) (h : hasB s i = true) : wthN (wouN s i) i = s := by
  obtain ⟨h0, h1, hb⟩ := hasB_true h
  apply eq_of_bits (wthN_lt _ _ (wouN_lt _ _ hs)) hs
  intro j hj
  rw [testBit_wth, testBit_wou _ _ _ hj]
  by_cases e : (j : Int) = i
  · have : j = i.toNat := by omega
    rw [this, hb]; simp; omega
  · simp [e]

theorem wou_wth (s : Nat) (i : Int) (hs : s < 2 ^ 64) (h : hasB s i = false) : wouN (wthN s i) i = s := by
  apply eq_of_bits (wouN_lt _ _ (wthN_lt _ _ hs)) hs
  intro j hj
  rw [testBit_wou _ _ _ hj, testBit_wth]
  by_cases e : (j : Int) = i
  · have hb : s.testBit j = false := by
      have := hasB_nat s j hj
      rw [e, h] at this
      exact this.symm
    simp [e, hb]
  · simp [e]

theorem lst_wou (s : Nat) (i : Int) (h : hasB s i = true) : (lst (wouN s i)).length + 1 = (lst s).length := by
  obtain ⟨h0, h1, hb⟩ := hasB_true h
  have e : lst (wouN s i) = (lst s).erase i.toNat := by
    rw [(lst_nodup s).erase_eq_filter]
    unfold lst
    rw [List.filter_filter]
    apply List.filter_congr
    intro j hj
    have hj' : j < 64 := by simpa using hj
    rw [testBit_wou _ _ _ hj', Bool.and_comm]
    congr 1
    rw [Bool.eq_iff_iff]
    simp
    omega
  have hm : i.toNat ∈ lst s := mem_lst.2 ⟨by omega, hb⟩
  have hp : 0 < (lst s).length := List.length_pos_of_mem hm
  rw [e, List.length_erase_of_mem hm]
  omega

theorem lst_wth (s : Nat) (i : Int) (hs : s < 2 ^ 64) (h : hasB s i = false) : (((lst (wthN s i)).length : Int) == ((lst s).length : Int) + 1) = (decide (0 ≤ i) && decide (i < 64)) := by
  by_cases hr : 0 ≤ i ∧ i < 64
  · have hh : hasB (wthN s i) i = true := by
      unfold hasB
      rw [testBit_wth]
      simp [hr]
      omega
    have := lst_wou (wthN s i) i hh
    rw [wou_wth s i hs h] at this
    simp [hr]
    omega
  · have e : wthN s i = s := by
      have : oneN i = 0 := by simp [oneN, hr]
      simp [wthN, this]
    rw [e]
    have h2 : (decide (0 ≤ i) && decide (i < 64)) = false := by simp; omega
    rw [h2]
    simp
    omega

end Go.Proofs.YtkjaphmcagifpaaDoor.M

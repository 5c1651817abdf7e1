/- Several texts in one: EM, EA. -/
import Derived.Test.YtdjlfpkemdiadaaDoorRlM
import Derived.Test.YtdjlfpkemdiadaaDoorQR
/- Plain mathematics of events: masks of places, rows of pairs, what reads read, orders of writes. No program is named here. -/
namespace Go.Proofs.YtdjlfpkemdiadaaDoor.M
set_option linter.unusedSimpArgs false
set_option linter.unusedVariables false

/-- The places below n of which something is so. -/
def maskN : Nat → (Nat → Bool) → Nat
  | 0, _ => 0
  | n + 1, q => if q n then maskN n q ||| 2 ^ n else maskN n q
theorem maskN_bit (q : Nat → Bool) (b : Nat) : ∀ n, (maskN n q).testBit b = (decide (b < n) && q b)
  | 0 => by simp [maskN]
  | n + 1 => by
    unfold maskN
    by_cases hq : q n = true
    · rw [if_pos hq, Nat.testBit_or, Nat.testBit_two_pow, maskN_bit q b n]
      by_cases hb : n = b
      · subst hb; simp [hq]
      · by_cases h1 : b < n
        · simp [h1, show b < n + 1 by omega, hb]
        · simp [h1, show ¬ b < n + 1 by omega, hb]
    · rw [if_neg hq, maskN_bit q b n]
      by_cases hb : b = n
      · subst hb; simp [hq]
      · by_cases h1 : b < n
        · simp [h1, show b < n + 1 by omega]
        · simp [h1, show ¬ b < n + 1 by omega]
theorem maskN_lt (q : Nat → Bool) (n : Nat) : maskN n q < 2 ^ n :=
  Nat.lt_pow_two_of_testBit _ fun b hb => by rw [maskN_bit]; simp; intro h; omega
theorem maskN_lt64 (q : Nat → Bool) {n : Nat} (hn : n ≤ 64) : maskN n q < 18446744073709551616 :=
  Nat.lt_of_lt_of_le (maskN_lt q n) (show (2 : Nat) ^ n ≤ 2 ^ 64 from Nat.pow_le_pow_right (by omega) hn)
theorem maskN_congr {p q : Nat → Bool} : ∀ {n : Nat}, (∀ b, b < n → p b = q b) → maskN n p = maskN n q
  | 0, _ => rfl
  | n + 1, h => by
    unfold maskN
    rw [h n (by omega), maskN_congr (fun b hb => h b (by omega))]
theorem maskN_or (p q : Nat → Bool) (n : Nat) : maskN n p ||| maskN n q = maskN n (fun b => p b || q b) := by
  refine Nat.eq_of_testBit_eq fun b => ?_
  rw [Nat.testBit_or, maskN_bit, maskN_bit, maskN_bit]
  cases decide (b < n) <;> simp
theorem maskN_and (p q : Nat → Bool) (n : Nat) : maskN n p &&& maskN n q = maskN n (fun b => p b && q b) := by
  refine Nat.eq_of_testBit_eq fun b => ?_
  rw [Nat.testBit_and, maskN_bit, maskN_bit, maskN_bit]
  cases decide (b < n) <;> simp

/-- Rows of pairs, as far as they are laid: the first i rows whole, and k places of the next one. -/
def parF (n : Nat) (q : Nat → Nat → Bool) (i k : Nat) : Nat → Nat := fun a => if a < i then maskN n (q a) else if a = i then maskN k (q a) else 0
/-- All rows. -/
def prF (n : Nat) (q : Nat → Nat → Bool) : Nat → Nat := fun a => if a < n then maskN n (q a) else 0
theorem parF_start (n : Nat) (q : Nat → Nat → Bool) (a : Nat) : parF n q 0 0 a = 0 := by unfold parF; rw [if_neg (by omega)]; split <;> rfl
theorem parF_next (n : Nat) (q : Nat → Nat → Bool) (i a : Nat) : parF n q i n a = parF n q (i + 1) 0 a := by
  unfold parF
  by_cases h : a < i
  · rw [if_pos h, if_pos (by omega)]
  · rw [if_neg h]
    by_cases h2 : a = i
    · rw [if_pos h2, if_pos (by omega)]
    · rw [if_neg h2, if_neg (by omega)]; split <;> rfl
theorem parF_end (n : Nat) (q : Nat → Nat → Bool) (a : Nat) : parF n q n 0 a = prF n q a := by
  unfold parF prF
  by_cases h : a < n
  · rw [if_pos h, if_pos h]
  · rw [if_neg h, if_neg h]; split <;> rfl
theorem parF_at (n : Nat) (q : Nat → Nat → Bool) (i k : Nat) : parF n q i k i = maskN k (q i) := by unfold parF; rw [if_neg (by omega), if_pos rfl]
theorem parF_yes (n : Nat) (q : Nat → Nat → Bool) (i k a : Nat) (h : q i k = true) : (if a = i then parF n q i k i ||| 2 ^ k else parF n q i k a) = parF n q i (k + 1) a := by
  by_cases e : a = i
  · subst e; rw [if_pos rfl, parF_at, parF_at]; show _ = if _ then _ else _; rw [if_pos h]
  · rw [if_neg e]; unfold parF; by_cases h2 : a < i
    · rw [if_pos h2, if_pos h2]
    · rw [if_neg h2, if_neg h2, if_neg e, if_neg e]
theorem parF_no (n : Nat) (q : Nat → Nat → Bool) (i k a : Nat) (h : q i k = false) : parF n q i k a = parF n q i (k + 1) a := by
  by_cases e : a = i
  · subst e; rw [parF_at, parF_at]; show _ = if _ then _ else _; rw [h]; rfl
  · unfold parF; by_cases h2 : a < i
    · rw [if_pos h2, if_pos h2]
    · rw [if_neg h2, if_neg h2, if_neg e, if_neg e]
theorem prF_bit (n : Nat) (q : Nat → Nat → Bool) (a b : Nat) : (prF n q a).testBit b = (decide (a < n) && decide (b < n) && q a b) := by
  unfold prF
  by_cases h : a < n
  · rw [if_pos h, maskN_bit]; simp [h]
  · rw [if_neg h]; simp [h]
theorem prF_lt (n : Nat) (hn : n ≤ 64) (q : Nat → Nat → Bool) (a : Nat) : prF n q a < 18446744073709551616 := by
  unfold prF; split
  · exact maskN_lt64 _ hn
  · decide
theorem parF_lt (n : Nat) (hn : n ≤ 64) (q : Nat → Nat → Bool) (i k a : Nat) (hk : k ≤ 64) : parF n q i k a < 18446744073709551616 := by
  unfold parF; split
  · exact maskN_lt64 _ hn
  · split
    · exact maskN_lt64 _ hk
    · decide
/-- Rows that have the same bits are the same. -/
theorem rows_ext {f : Nat → Nat} {n : Nat} {q : Nat → Nat → Bool} (h : ∀ a b, a < 64 → (f a).testBit b = (decide (a < n) && decide (b < n) && q a b)) (a : Nat) (ha : a < 64) : f a = prF n q a :=
  Nat.eq_of_testBit_eq fun b => by rw [h a b ha, prF_bit]

/-- Who reads whom: of the first k places. -/
def rfF (n : Nat) (l : List Int) (k : Nat) : Nat → Nat := fun w => if w < n then maskN k (fun at' => decide (l[at']? = some (w : Int))) else 0
theorem rfF_start (n : Nat) (l : List Int) (w : Nat) : rfF n l 0 w = 0 := by unfold rfF; split <;> rfl
theorem rfF_yes (n : Nat) (l : List Int) (k v a : Nat) (h : l[k]? = some (v : Int)) (hv : v < n) : (if a = v then rfF n l k v ||| 2 ^ k else rfF n l k a) = rfF n l (k + 1) a := by
  unfold rfF
  by_cases e : a = v
  · subst e; rw [if_pos rfl, if_pos hv, if_pos hv]; show _ = if _ then _ else _; rw [if_pos (by simp [h])]
  · rw [if_neg e]
    by_cases ha : a < n
    · rw [if_pos ha, if_pos ha]; show _ = if _ then _ else _; rw [if_neg (by simp [h]; omega)]
    · rw [if_neg ha, if_neg ha]
theorem rfF_no (n : Nat) (l : List Int) (k a : Nat) (v : Int) (h : l[k]? = some v) (hv : ¬ (0 ≤ v ∧ v < n)) : rfF n l k a = rfF n l (k + 1) a := by
  unfold rfF
  by_cases ha : a < n
  · rw [if_pos ha, if_pos ha]; show _ = if _ then _ else _; rw [if_neg (by simp [h]; omega)]
  · rw [if_neg ha, if_neg ha]
theorem rfF_bit (n : Nat) (l : List Int) (k a b : Nat) : (rfF n l k a).testBit b = true ↔ a < n ∧ b < k ∧ l[b]? = some (a : Int) := by
  unfold rfF
  by_cases ha : a < n
  · rw [if_pos ha, maskN_bit]; simp [ha]
  · rw [if_neg ha]; simp [ha]
theorem rfF_lt (n : Nat) (l : List Int) (k a : Nat) (hk : k ≤ 64) : rfF n l k a < 18446744073709551616 := by
  unfold rfF; split
  · exact maskN_lt64 _ hk
  · decide

/-- Orders of writes: a list gone through from its end. -/
def coB (n : Nat) (F : Nat → Nat) : List Int → (Nat → Nat) × Nat
  | [] => (F, 0)
  | x :: xs => if 0 ≤ x ∧ x < n then (fun a => if a = x.toNat then (coB n F xs).1 a ||| (coB n F xs).2 else (coB n F xs).1 a, (coB n F xs).2 ||| 2 ^ x.toNat) else coB n F xs
/-- The same from its head: what stood already is written down. -/
def coA (n : Nat) : (Nat → Nat) → Nat → List Int → (Nat → Nat) × Nat
  | F, s, [] => (F, s)
  | F, s, x :: xs => if 0 ≤ x ∧ x < n then coA n (fun a => if a < n ∧ s.testBit a = true then F a ||| 2 ^ x.toNat else F a) (s ||| 2 ^ x.toNat) xs else coA n F s xs
/-- One stands ahead of the other. -/
def Ahead (a b : Nat) : List Int → Prop
  | [] => False
  | x :: xs => (x = (a : Int) ∧ (b : Int) ∈ xs) ∨ Ahead a b xs
theorem coB_set (n : Nat) (F : Nat → Nat) (b : Nat) : ∀ l, (coB n F l).2.testBit b = true ↔ b < n ∧ (b : Int) ∈ l
  | [] => by simp [coB]
  | x :: xs => by
    have ih := coB_set n F b xs
    unfold coB
    by_cases h : 0 ≤ x ∧ x < n
    · rw [if_pos h]
      show (_ ||| _ : Nat).testBit b = true ↔ _
      rw [Nat.testBit_or, Nat.testBit_two_pow, Bool.or_eq_true, ih, decide_eq_true_eq, List.mem_cons]
      constructor
      · rintro (⟨h1, h2⟩ | h1)
        · exact ⟨h1, .inr h2⟩
        · exact ⟨by omega, .inl (by omega)⟩
      · rintro ⟨h1, h2 | h2⟩
        · exact .inr (by omega)
        · exact .inl ⟨h1, h2⟩
    · rw [if_neg h, ih, List.mem_cons]
      constructor
      · rintro ⟨h1, h2⟩; exact ⟨h1, .inr h2⟩
      · rintro ⟨h1, h2 | h2⟩
        · omega
        · exact ⟨h1, h2⟩
theorem coB_bit (n : Nat) (F : Nat → Nat) (a b : Nat) : ∀ l, ((coB n F l).1 a).testBit b = true ↔ (F a).testBit b = true ∨ (a < n ∧ b < n ∧ Ahead a b l)
  | [] => by simp [coB, Ahead]
  | x :: xs => by
    have ih := coB_bit n F a b xs
    have is := coB_set n F b xs
    unfold coB
    by_cases h : 0 ≤ x ∧ x < n
    · rw [if_pos h]
      show (if a = x.toNat then _ else _ : Nat).testBit b = true ↔ _
      by_cases e : a = x.toNat
      · rw [if_pos e, Nat.testBit_or, Bool.or_eq_true, ih, is]
        constructor
        · rintro ((h1 | ⟨h1, h2, h3⟩) | ⟨h1, h2⟩)
          · exact .inl h1
          · exact .inr ⟨h1, h2, .inr h3⟩
          · exact .inr ⟨by omega, h1, .inl ⟨by omega, h2⟩⟩
        · rintro (h1 | ⟨h1, h2, ⟨h3, h4⟩ | h3⟩)
          · exact .inl (.inl h1)
          · exact .inr ⟨h2, h4⟩
          · exact .inl (.inr ⟨h1, h2, h3⟩)
      · rw [if_neg e, ih]
        constructor
        · rintro (h1 | ⟨h1, h2, h3⟩)
          · exact .inl h1
          · exact .inr ⟨h1, h2, .inr h3⟩
        · rintro (h1 | ⟨h1, h2, ⟨h3, h4⟩ | h3⟩)
          · exact .inl h1
          · omega
          · exact .inr ⟨h1, h2, h3⟩
    · rw [if_neg h, ih]
      constructor
      · rintro (h1 | ⟨h1, h2, h3⟩)
        · exact .inl h1
        · exact .inr ⟨h1, h2, .inr h3⟩
      · rintro (h1 | ⟨h1, h2, ⟨h3, h4⟩ | h3⟩)
        · exact .inl h1
        · omega
        · exact .inr ⟨h1, h2, h3⟩
theorem coA_bit (n : Nat) (a b : Nat) : ∀ (l : List Int) (F : Nat → Nat) (s : Nat), ((coA n F s l).1 a).testBit b = true ↔ (F a).testBit b = true ∨ (a < n ∧ b < n ∧ (Ahead a b l ∨ (s.testBit a = true ∧ (b : Int) ∈ l)))
  | [], F, s => by simp [coA, Ahead]
  | x :: xs, F, s => by
    unfold coA
    by_cases h : 0 ≤ x ∧ x < n
    · rw [if_pos h, coA_bit n a b xs]
      show ((if a < n ∧ s.testBit a = true then F a ||| 2 ^ x.toNat else F a : Nat).testBit b = true ∨ _) ↔ _
      rw [Nat.testBit_or, Nat.testBit_two_pow, Bool.or_eq_true, decide_eq_true_eq]
      have hF : ((if a < n ∧ s.testBit a = true then F a ||| 2 ^ x.toNat else F a : Nat).testBit b = true) ↔ (F a).testBit b = true ∨ (a < n ∧ s.testBit a = true ∧ x.toNat = b) := by
        by_cases e : a < n ∧ s.testBit a = true
        · rw [if_pos e, Nat.testBit_or, Nat.testBit_two_pow, Bool.or_eq_true, decide_eq_true_eq]
          exact ⟨fun h => h.imp id fun h => ⟨e.1, e.2, h⟩, fun h => h.imp id fun h => h.2.2⟩
        · rw [if_neg e]
          exact ⟨.inl, fun h => h.elim id fun h => absurd ⟨h.1, h.2.1⟩ e⟩
      rw [hF, List.mem_cons]
      constructor
      · rintro ((h1 | ⟨h1, h2, h3⟩) | ⟨h1, h2, h3 | ⟨h3 | h3, h4⟩⟩)
        · exact .inl h1
        · exact .inr ⟨h1, by omega, .inr ⟨h2, .inl (by omega)⟩⟩
        · exact .inr ⟨h1, h2, .inl (.inr h3)⟩
        · exact .inr ⟨h1, h2, .inr ⟨h3, .inr h4⟩⟩
        · exact .inr ⟨h1, h2, .inl (.inl ⟨by omega, h4⟩)⟩
      · rintro (h1 | ⟨h1, h2, (⟨h3, h4⟩ | h3) | ⟨h3, h4 | h4⟩⟩)
        · exact .inl (.inl h1)
        · exact .inr ⟨h1, h2, .inr ⟨.inr (by omega), h4⟩⟩
        · exact .inr ⟨h1, h2, .inl h3⟩
        · exact .inl (.inr ⟨h1, h3, by omega⟩)
        · exact .inr ⟨h1, h2, .inr ⟨.inl h3, h4⟩⟩
    · rw [if_neg h, coA_bit n a b xs, List.mem_cons]
      constructor
      · rintro (h1 | ⟨h1, h2, h3 | ⟨h3, h4⟩⟩)
        · exact .inl h1
        · exact .inr ⟨h1, h2, .inl (.inr h3)⟩
        · exact .inr ⟨h1, h2, .inr ⟨h3, .inr h4⟩⟩
      · rintro (h1 | ⟨h1, h2, (⟨h3, h4⟩ | h3) | ⟨h3, h4 | h4⟩⟩)
        · exact .inl h1
        · omega
        · exact .inr ⟨h1, h2, .inl h3⟩
        · omega
        · exact .inr ⟨h1, h2, .inr ⟨h3, h4⟩⟩
/-- Both ways through a list are one. -/
theorem co_same (n : Nat) (F : Nat → Nat) (l : List Int) (a : Nat) : (coB n F l).1 a = (coA n F 0 l).1 a := by
  refine Nat.eq_of_testBit_eq fun b => ?_
  rw [Bool.eq_iff_iff, coB_bit, coA_bit]
  simp
/-- All lists, each from its end. -/
def odF (n : Nat) : List (List Int) → (Nat → Nat) → Nat → Nat
  | [], F => F
  | l :: ls, F => odF n ls (coB n F l).1
end Go.Proofs.YtdjlfpkemdiadaaDoor.M
/- Small functions of event and of the reference: lists as they are taken, places, the relation of no pairs. -/
namespace Go.Proofs.YtdjlfpkemdiadaaDoor
open Go.RowKit M
set_option linter.unusedSimpArgs false
set_option linter.unusedVariables false

/-- How many events are taken. -/
def shN (n : Nat) : Nat := if n ≤ 64 then n else 0
theorem shN_le (n : Nat) : shN n ≤ 64 := by unfold shN; split <;> omega
/-- A list as it is taken. -/
def knV (a : Option Addr) (n c : Nat) : Value := if n ≤ 64 then .slice a n c else .slice none 0 0
theorem knV_form (a : Option Addr) (n c : Nat) : ∃ a' c', knV a n c = .slice a' (shN n) c' := by unfold knV shN; split <;> exact ⟨_, _, rfl⟩
set_option maxHeartbeats 400000 in
theorem known_any (a : Option Addr) (n c : Nat) (w : World) (hn : n ≤ 9223372036854775807) : Calls Tryd.prog 44 #[.slice a n c] w fun e w' => e = .returned (knV a n c) ∧ w' = w := by
  by_cases h : n ≤ 64
  · have HV : Hid (knV a n c = .slice a n c) := if_pos h
    go_enter Tryd.func44, Tryd.ntmps44
    go_wp2
    go_ret
    exact ⟨by rw [HV.out]; rfl, rfl⟩
  · have HV : Hid (knV a n c = .slice none 0 0) := if_neg h
    go_enter Tryd.func44, Tryd.ntmps44
    go_wp2
    go_ret
    exact ⟨by rw [HV.out]; rfl, rfl⟩
set_option maxHeartbeats 400000 in
theorem short_any (a : Option Addr) (n c : Nat) (w : World) (hn : n ≤ 9223372036854775807) : Calls Tryd.prog 51 #[.slice a n c] w fun e w' => e = .returned (knV a n c) ∧ w' = w := by
  by_cases h : n ≤ 64
  · have HV : Hid (knV a n c = .slice a n c) := if_pos h
    go_enter Tryd.func51, Tryd.ntmps51
    go_wp2
    go_ret
    exact ⟨by rw [HV.out]; rfl, rfl⟩
  · have HV : Hid (knV a n c = .slice none 0 0) := if_neg h
    go_enter Tryd.func51, Tryd.ntmps51
    go_wp2
    go_ret
    exact ⟨by rw [HV.out]; rfl, rfl⟩
set_option maxHeartbeats 400000 in
theorem over_any (a : Option Addr) (n c : Nat) (w : World) (hn : n ≤ 9223372036854775807) : Calls Tryd.prog 35 #[.slice a n c] w fun e w' => e = .returned (relv (shN n) void) ∧ Below w.heap.size w w' := by
  have hk := fun W => known_any a n c W hn
  obtain ⟨a', c', e⟩ := knV_form a n c
  rw [e] at hk
  clear e
  have hs := shN_le n
  generalize shN n = N at *
  go_enter Tryd.func35, Tryd.ntmps35
  go_wp2_with (first
    | (refine wpList_allocR rfl rfl ?_; intro W1 b1 F1 r1; have B1 := Fresh.trans (Below.refl _ w) (Nat.le_refl _) F1)
    | (go_at_call 44; refine (hk _).mono ?_; rintro e w' ⟨rfl, hw'⟩; replace hw' := hw'.symm; subst hw')
    | (refine wpList_buildRN rfl _ rfl rfl ?_)
    | (refine wpList_storeR rfl _ _ rfl rfl rfl r1 ?_; intro W3 U3 r3))
  refine ret_R rfl rfl rfl r3 ⟨rfl, U3.trans B1 (by rw [F1.at']; exact Nat.le_refl _)⟩
set_option maxHeartbeats 400000 in
theorem isPlace_any (x n : Int) (w : World) : Calls Tryd.prog 36 #[.int .i64 x, .int .i64 n] w fun e w' => e = .returned (.bool (decide (0 ≤ x ∧ x < n))) ∧ w' = w := by
  by_cases h1 : 0 ≤ x
  · by_cases h2 : x < n
    · go_enter Tryd.func36, Tryd.ntmps36
      go_wp2
      go_ret
      exact ⟨ret_bool (by simp [h1, h2]), rfl⟩
    · go_enter Tryd.func36, Tryd.ntmps36
      go_wp2
      go_ret
      exact ⟨ret_bool (by simp [h1, h2]), rfl⟩
  · go_enter Tryd.func36, Tryd.ntmps36
    go_wp2
    go_ret
    exact ⟨ret_bool (by rw [decide_eq_false (show ¬ 0 ≤ x by omega)]; rfl), rfl⟩
theorem place_yes (x : Int) (n : Nat) (h : 0 ≤ x ∧ x < n) (w : World) : Calls Tryd.prog 36 #[.int .i64 x, .int .i64 (n : Int)] w fun e w' => e = .returned (.bool true) ∧ w' = w := by
  have := isPlace_any x n w; rwa [decide_eq_true h] at this
theorem place_no (x : Int) (n : Nat) (h : ¬ (0 ≤ x ∧ x < n)) (w : World) : Calls Tryd.prog 36 #[.int .i64 x, .int .i64 (n : Int)] w fun e w' => e = .returned (.bool false) ∧ w' = w := by
  have := isPlace_any x n w; rwa [decide_eq_false h] at this
theorem seg_null {w : World} {cs : List Value} (h : Seg w none cs) : cs = [] := by
  cases cs with
  | nil => rfl
  | cons v cs => obtain ⟨b, o, e, _⟩ := h 0 v rfl; cases e
/-- What stands at a place of a list of numbers. -/
theorem seg_int {w : World} {a : Option Addr} {l : List Int} (h : Seg w a (l.flatMap intE)) {k : Nat} {x : Int} (hk : l[k]? = some x) : ∃ b o, a = some ⟨b, o, none⟩ ∧ b < w.heap.size ∧ w.cell? ⟨b, o + k, none⟩ = some (.int .i64 x) := h k _ (int_at hk)
end Go.Proofs.YtdjlfpkemdiadaaDoor

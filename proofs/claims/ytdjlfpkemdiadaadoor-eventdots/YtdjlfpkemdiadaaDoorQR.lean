/- Several texts in one: RlR2, RlR3, RlR4. -/
import Derived.Test.YtdjlfpkemdiadaaDoorRlR1
import Derived.Test.YtdjlfpkemdiadaaDoorRlM
/- What the small functions of rel and of the reference answer. -/
namespace Go.Proofs.YtdjlfpkemdiadaaDoor
open Go.RowKit M
set_option linter.unusedSimpArgs false
set_option linter.unusedVariables false

theorem ret_bool {a b : Bool} (h : a = b) : Ending.returned (.bool a) = .returned (.bool b) := by rw [h]
theorem wrap_nat (x : Nat) (h : x < 18446744073709551616) : IntKind.u64.wrap (x : Int) = (x : Int) := by rw [IntKind.wrap_u64]; omega
theorem wrap_pow (n : Nat) (h : n < 64) : IntKind.u64.wrap ((2 : Int) ^ n) = ((2 ^ n : Nat) : Int) := by
  have h1 : 2 ^ n < 2 ^ 64 := Nat.pow_lt_pow_right (by decide) h
  have e : ((2 : Int) ^ n) = ((2 ^ n : Nat) : Int) := by simp
  rw [e]
  exact wrap_nat _ h1
theorem shr_bits (s : Nat) (i : Nat) (h1 : i < 64) (hs : s < 18446744073709551616) : bits BinOp.and IntKind.u64 ((s : Int) / 2 ^ i) 1 = ((s / 2 ^ i % 2 : Nat) : Int) := by
  have e : ((s : Int) / 2 ^ i) = ((s / 2 ^ i : Nat) : Int) := by simp
  rw [e]
  have h2 : s / 2 ^ i < 18446744073709551616 := Nat.lt_of_le_of_lt (Nat.div_le_self _ _) hs
  have := u64_and_nat (s / 2 ^ i) 1 h2 (by omega)
  rw [Nat.and_one_is_mod] at this
  exact this
theorem bit_of (s i : Nat) : s / 2 ^ i % 2 = if s.testBit i then 1 else 0 := by
  have := Nat.testBit_eq_decide_div_mod_eq (x := s) (i := i)
  rw [this]
  by_cases h : s / 2 ^ i % 2 = 1
  · simp [h]
  · have : s / 2 ^ i % 2 = 0 := by omega
    simp [this]

theorem fits_any (n : Int) (w : World) : Calls Tryd.prog 75 #[.int .i64 n] w fun e w' => e = .returned (.bool (decide (0 ≤ n ∧ n ≤ 64))) ∧ w' = w := by
  by_cases h0 : 0 ≤ n
  · by_cases h1 : n ≤ 64
    · go_enter Tryd.func75, Tryd.ntmps75
      go_wp2
      all_goals (go_ret; exact ⟨ret_bool (by simp [h0, h1]), rfl⟩)
    · go_enter Tryd.func75, Tryd.ntmps75
      go_wp2
      all_goals (go_ret; exact ⟨ret_bool (by simp [h0, h1]), rfl⟩)
  · go_enter Tryd.func75, Tryd.ntmps75
    go_wp2
    all_goals (go_ret; exact ⟨ret_bool (by simp; omega), rfl⟩)

theorem all_any (n : Int) (w : World) (h0 : 0 ≤ n) (h1 : n ≤ 64) : Calls Tryd.prog 71 #[.int .i64 n] w fun e w' => e = .returned (.int .u64 (bel n : Nat)) ∧ w' = w := by
  by_cases h2 : n < 64
  · have hw := wrap_pow n.toNat (by omega)
    go_enter Tryd.func71, Tryd.ntmps71
    go_wp2
    go_ret
    refine ⟨ret_int ?_, rfl⟩
    have h3 : 0 < 2 ^ n.toNat := Nat.two_pow_pos _
    have h4 : 2 ^ n.toNat < 2 ^ 64 := Nat.pow_lt_pow_right (by decide) (by omega)
    (try rw [hw])
    rw [IntKind.wrap_u64]
    unfold bel
    by_cases h5 : n < 1
    · have : n = 0 := by omega
      subst this
      simp
    · rw [if_neg h5, if_neg (by omega)]
      have e : ((2 : Int) ^ n.toNat) = ((2 ^ n.toNat : Nat) : Int) := by simp
      (try rw [e])
      generalize 2 ^ n.toNat = p at *
      omega
  · have : n = 64 := by omega
    subst this
    go_enter Tryd.func71, Tryd.ntmps71
    go_wp2
    go_ret
    exact ⟨ret_int (by decide), rfl⟩

/-- Is row a as the relation's number of numbers asks? -/
def okRow (n : Int) (f : Nat → Nat) (a : Nat) : Bool := decide ((a : Int) < n ∨ f a = 0) && decide (f a &&& (18446744073709551615 - bel n) = 0)
def rightB (n : Int) (f : Nat → Nat) : Bool := decide (0 ≤ n ∧ n ≤ 64) && (List.range 64).all (okRow n f)
def checkN (n : Int) (f : Nat → Nat) : Int := if rightB n f then 0 else 20
def Wf (f : Nat → Nat) : Prop := ∀ i, f i < 18446744073709551616

theorem rowsL_get (f : Nat → Nat) (i : Nat) (h : i < 64) : (rowsL f)[i]? = some (.int .u64 (f i : Nat)) := by simp [rowsL, h]

theorem index23 (f : Nat → Nat) (i : Nat) (h : i < 64) (w : World) : (Instr.index 41 (.agg (rowsL f).toArray) (.int .i64 i)).run Tryd.prog w = .ok (.int .u64 (f i : Nat)) w := by
  have hp : (rowsL f).toArray[i]? = some (.int .u64 (f i : Nat)) := by rw [List.getElem?_toArray]; exact rowsL_get f i h
  generalize (rowsL f).toArray = c at *
  simp [Instr.index, go_sem, hp, h]
theorem right_bad (n : Int) (f : Nat → Nat) (k : Nat) (hk : k < 64) (h : okRow n f k = false) : checkN n f = 20 := by
  unfold checkN rightB
  have : (List.range 64).all (okRow n f) = false := by
    rw [List.all_eq_false]
    exact ⟨k, by simp [hk], by simp [h]⟩
  simp [this]
theorem right_out (n : Int) (f : Nat → Nat) (h : ¬ (0 ≤ n ∧ n ≤ 64)) : checkN n f = 20 := by
  unfold checkN rightB
  simp [h]
theorem right_good (n : Int) (f : Nat → Nat) (h0 : 0 ≤ n ∧ n ≤ 64) (h : ∀ k, k < 64 → okRow n f k = true) : checkN n f = 0 := by
  unfold checkN rightB
  have : (List.range 64).all (okRow n f) = true := by
    rw [List.all_eq_true]
    intro k hk
    exact h k (by simpa using hk)
  simp [this, h0]

set_option maxRecDepth 100000 in
theorem check_any (n : Int) (f : Nat → Nat) (w : World) (hf : Hid (Wf f)) : Calls Tryd.prog 91 #[relv n f] w fun e w' => e = .returned (.int .i64 (checkN n f)) ∧ Below w.heap.size w w' := by
  by_cases h0 : 0 ≤ n ∧ n ≤ 64
  · have hd : decide (0 ≤ n ∧ n ≤ 64) = true := decide_eq_true h0
    have H0 : Hid (0 ≤ n ∧ n ≤ 64) := h0
    go_enter Tryd.func91, Tryd.ntmps91
    go_wp2_with (first
      | (refine wpList_boxR rfl _ rfl rfl ?_; intro W1 b1 F1 r1; have B1 := Fresh.trans (Below.refl _ w) (Nat.le_refl _) F1; have hn := r1.n)
      | (refine wpList_loadRows rfl _ rfl rfl r1 ?_)
      | (go_at_call 75; refine (fits_any _ _).mono ?_; rintro e w' ⟨rfl, hw'⟩; replace hw' := hw'.symm; subst hw'))
    go_loop [11] (fun i => ∃ k : Nat, k ≤ 64 ∧ i = .int .i64 k ∧ Hid (∀ j, j < k → okRow n f j = true)) (fun i => 64 - (intOf i).toNat)
    case atStart => exact ⟨0, by omega, rfl, fun j hj => by omega⟩
    case round =>
      obtain ⟨k, hk, rfl, HK⟩ := hrel
      by_cases hlt : k < 64
      · have hrow := index23 f k hlt W1
        have hxl := hf.out k
        have hand := u64_andNot_nat (f k) (bel n) hxl (bel_lt n)
        have HO : Hid (okRow n f k = (decide ((k : Int) < n ∨ f k = 0) && decide (f k &&& (18446744073709551615 - bel n) = 0))) := rfl
        obtain ⟨y, hy⟩ : ∃ y, f k &&& (18446744073709551615 - bel n) = y := ⟨_, rfl⟩
        have HO' : Hid (okRow n f k = (decide ((k : Int) < n ∨ f k = 0) && decide (y = 0))) := by rw [← hy]; exact HO
        clear HO
        rw [hy] at hand
        obtain ⟨x, hx⟩ : ∃ x, f k = x := ⟨_, rfl⟩
        rw [hx] at hrow hand hxl
        have HO : Hid (okRow n f k = (decide ((k : Int) < n ∨ x = 0) && decide (y = 0))) := by rw [← hx]; exact HO'
        clear HO' hx hy
        have HB : Hid (okRow n f k = false → checkN n f = 20) := right_bad n f k hlt
        have HN : Hid (okRow n f k = true → ∀ j, j < k + 1 → okRow n f j = true) := fun h j hj => by
          by_cases e : j = k
          · subst e; exact h
          · exact HK.out j (by omega)
        clear HK
        by_cases hA : (k : Int) < n
        · by_cases hy0 : y = 0
          · subst hy0
            have H1 : Hid (okRow n f k = true) := (show okRow n f k = true by rw [HO.out]; simp [hA])
            go_wp2_with (first
              | (go_at_call 71; refine (all_any n _ H0.out.1 H0.out.2).mono ?_; rintro e w' ⟨rfl, hw'⟩; replace hw' := hw'.symm; subst hw'))
            go_round
            case rel => exact ⟨k + 1, by omega, by simp, HN.out H1.out⟩
            case measure => simp [intOf]; omega
          · have H1 : Hid (okRow n f k = false) := (show okRow n f k = false by rw [HO.out]; simp [hy0])
            go_wp2_with (first
              | (go_at_call 71; refine (all_any n _ H0.out.1 H0.out.2).mono ?_; rintro e w' ⟨rfl, hw'⟩; replace hw' := hw'.symm; subst hw'))
            all_goals (go_ret; exact ⟨ret_int (HB.out H1.out).symm, B1⟩)
        · by_cases hx0 : x = 0
          · subst hx0
            have hand0 : bits .andNot .u64 0 (bel n : Int) = 0 := by
              have := u64_andNot_nat 0 (bel n) (by omega) (bel_lt n)
              simpa using this
            have H1 : Hid (okRow n f k = true) := (show okRow n f k = true by
              rw [HO.out]
              have : y = 0 := by
                have h1 : ((y : Nat) : Int) = 0 := by rw [← hand]; exact hand0
                omega
              simp [this])
            clear hand
            go_wp2_with (first
              | (go_at_call 71; refine (all_any n _ H0.out.1 H0.out.2).mono ?_; rintro e w' ⟨rfl, hw'⟩; replace hw' := hw'.symm; subst hw'))
            go_round
            case rel => exact ⟨k + 1, by omega, by simp, HN.out H1.out⟩
            case measure => simp [intOf]; omega
          · have H1 : Hid (okRow n f k = false) := (show okRow n f k = false by rw [HO.out]; simp [hA, hx0])
            go_wp2
            all_goals (go_ret; exact ⟨ret_int (HB.out H1.out).symm, B1⟩)
      · have H1 : Hid (checkN n f = 0) := right_good n f H0.out (fun j hj => HK.out j (by omega))
        go_wp2
        all_goals (go_ret; exact ⟨ret_int H1.out.symm, B1⟩)
  · have hd : decide (0 ≤ n ∧ n ≤ 64) = false := decide_eq_false h0
    have H1 : Hid (checkN n f = 20) := right_out n f h0
    go_enter Tryd.func91, Tryd.ntmps91
    go_wp2_with (first
      | (refine wpList_boxR rfl _ rfl rfl ?_; intro W1 b1 F1 r1; have B1 := Fresh.trans (Below.refl _ w) (Nat.le_refl _) F1; have hn := r1.n)
      | (refine wpList_loadRows rfl _ rfl rfl r1 ?_)
      | (go_at_call 75; refine (fits_any _ _).mono ?_; rintro e w' ⟨rfl, hw'⟩; replace hw' := hw'.symm; subst hw'))
    all_goals (go_ret; exact ⟨ret_int H1.out.symm, B1⟩)
end Go.Proofs.YtdjlfpkemdiadaaDoor
/- The reference's Check; On of rel and of the reference. -/
namespace Go.Proofs.YtdjlfpkemdiadaaDoor
open Go.RowKit M
set_option linter.unusedSimpArgs false
set_option linter.unusedVariables false

theorem okRow_bits (n : Int) (f : Nat → Nat) (a : Nat) (hf : f a < 18446744073709551616) : okRow n f a = true ↔ ∀ b, b < 64 → (f a).testBit b = true → (a : Int) < n ∧ (b : Int) < n := by
  unfold okRow
  rw [Bool.and_eq_true, decide_eq_true_eq, decide_eq_true_eq]
  constructor
  · rintro ⟨h1, h2⟩ b hb ht
    have h3 : (f a &&& (18446744073709551615 - bel n)).testBit b = false := by rw [h2]; simp
    rw [Nat.testBit_and, ht, testBit_not _ _ (bel_lt n) hb, testBit_bel _ _ hb] at h3
    refine ⟨?_, by simpa using h3⟩
    rcases h1 with h1 | h1
    · exact h1
    · rw [h1] at ht; simp at ht
  · intro h
    constructor
    · by_cases h0 : f a = 0
      · exact .inr h0
      · obtain ⟨b, hb⟩ := Nat.exists_testBit_of_ne_zero h0
        by_cases hb64 : b < 64
        · exact .inl (h b hb64 hb).1
        · rw [testBit_high hf hb64] at hb; cases hb
    · apply Nat.eq_of_testBit_eq
      intro b
      rw [Nat.testBit_and, Nat.zero_testBit]
      by_cases hb64 : b < 64
      · rw [testBit_not _ _ (bel_lt n) hb64, testBit_bel _ _ hb64]
        cases ht : (f a).testBit b
        · rfl
        · simp [(h b hb64 ht).2]
      · rw [testBit_high hf hb64]; rfl

theorem IsR.drew {w : World} {b : Nat} {n : Int} {f : Nat → Nat} (h : IsR w b n f) : IsR w.drew b n f := h

/-- The rows of On, k of them. -/
def onF (s k : Nat) : Nat → Nat := fun j => if j < k then s &&& 2 ^ j else 0
def onV (n : Int) (s : Nat) : Value := if 0 ≤ n ∧ n ≤ 64 then relv n (onF s n.toNat) else relv 0 void
theorem onF_succ (s k j : Nat) : upd (onF s k) k (s &&& 2 ^ k) j = onF s (k + 1) j := by
  unfold upd onF
  by_cases h : j = k
  · subst h; simp
  · rw [if_neg h]
    by_cases h1 : j < k
    · rw [if_pos h1, if_pos (by omega)]
    · rw [if_neg h1, if_neg (by omega)]
theorem pow_cast (k : Nat) : ((2 : Int) ^ k) = ((2 ^ k : Nat) : Int) := by simp
theorem pow_lt (k : Nat) (h : k < 64) : 2 ^ k < 18446744073709551616 := Nat.pow_lt_pow_right (a := 2) (m := k) (n := 64) (by decide) h
theorem and_pow (s k : Nat) (hs : s < 18446744073709551616) (h : k < 64) : bits .and .u64 (s : Int) ((2 : Int) ^ k) = ((s &&& 2 ^ k : Nat) : Int) := by
  rw [pow_cast]; exact u64_and_nat s _ hs (pow_lt k h)
theorem or_pow (s k : Nat) (hs : s < 18446744073709551616) (h : k < 64) : bits .or .u64 (s : Int) ((2 : Int) ^ k) = ((s ||| 2 ^ k : Nat) : Int) := by
  rw [pow_cast]; exact u64_or_nat s _ hs (pow_lt k h)

set_option maxRecDepth 100000 in
theorem on_any (n : Int) (s : Nat) (w : World) (hs : s < 18446744073709551616) : Calls Tryd.prog 41 #[.int .i64 n, .int .u64 s] w fun e w' => e = .returned (onV n s) ∧ Below w.heap.size w w' := by
  by_cases h0 : 0 ≤ n ∧ n ≤ 64
  · have hd : decide (0 ≤ n ∧ n ≤ 64) = true := decide_eq_true h0
    obtain ⟨N, hNn⟩ : ∃ N : Nat, n = (N : Int) := ⟨n.toNat, by omega⟩
    have hN : N ≤ 64 := by omega
    have HV : Hid (onV n s = relv n (onF s N)) := by
      unfold onV; rw [if_pos h0, hNn]; rfl
    have HN : Hid (n = (N : Int)) := hNn
    clear h0 hNn
    have tk : True := trivial
    go_enter Tryd.func41, Tryd.ntmps41
    go_wp2_with (first
      | (go_at_call 75; refine (fits_any _ _).mono ?_; rintro e w' ⟨rfl, hw'⟩; replace hw' := hw'.symm; subst hw')
      | (refine wpList_allocR rfl rfl ?_; clear tk; intro W1 b1 F1 r1; have B1 := Fresh.trans (Below.refl _ w) (Nat.le_refl _) F1)
      | (refine wpList_allocR rfl rfl ?_; intro W2 b2 F2 r2; replace B1 := Fresh.trans B1 B1.size F2; replace r1 := r1.fresh F2)
      | (refine wpList_buildRN rfl _ rfl rfl ?_)
      | (refine wpList_storeR rfl _ _ rfl rfl rfl r2 ?_; intro W3 U3 r3))
    have hb1 : w.heap.size ≤ b1 := by rw [F1.at']; exact Nat.le_refl _
    have hb2 : b1 < b2 := by rw [F2.at', F1.size]; omega
    replace B1 := U3.trans B1 (by omega)
    replace r1 := r1.upd U3 (by omega)
    go_loopw [14] (fun i wr => ∃ k : Nat, k ≤ N ∧ i = .int .i64 k ∧ IsR wr b2 n (onF s k) ∧ IsR wr b1 0 void ∧ Below w.heap.size w wr) (fun i _ => N - (intOf i).toNat)
    case atStart => exact ⟨0, by omega, rfl, r3.congr (fun i _ => by simp [void, onF]), r1, B1⟩
    case round =>
      obtain ⟨k, hk, rfl, q2, q1, BB⟩ := hrel
      by_cases hlt : k < N
      · have hki : (k : Int) < n := by rw [HN.out]; omega
        have hrow := q2.row k (by omega)
        have hfz := q2.frozen (1 + k)
        have hw := wrap_pow k (by omega)
        have hand := and_pow s k hs (by omega)
        have hs2 := q2.set k (s &&& 2 ^ k) (by omega)
        have BB' := (Upd.setCell wr b2 (1 + k) (.int .u64 ((s &&& 2 ^ k : Nat) : Int))).trans BB (by omega)
        have q1' := q1.upd (Upd.setCell wr b2 (1 + k) (.int .u64 ((s &&& 2 ^ k : Nat) : Int))) (by omega)
        go_wp2
        go_roundw
        case rel => exact ⟨k + 1, by omega, by simp, hs2.congr (fun j _ => onF_succ s k j), q1', BB'⟩
        case measure => simp [intOf]; omega
      · have : k = N := by omega
        subst this
        have hki : ¬ (k : Int) < n := by rw [HN.out]; omega
        go_wp2_with (first
          | (refine wpList_loadR rfl _ rfl rfl q2 ?_)
          | (refine wpList_storeR rfl _ _ rfl rfl rfl q1 ?_; intro W4 U4 r4))
        refine ret_R rfl rfl rfl r4 ⟨by rw [HV.out], U4.trans BB (by omega)⟩
  · have hd : decide (0 ≤ n ∧ n ≤ 64) = false := decide_eq_false h0
    have HV : Hid (onV n s = relv 0 void) := by unfold onV; rw [if_neg h0]; rfl
    go_enter Tryd.func41, Tryd.ntmps41
    go_wp2_with (first
      | (go_at_call 75; refine (fits_any _ _).mono ?_; rintro e w' ⟨rfl, hw'⟩; replace hw' := hw'.symm; subst hw')
      | (refine wpList_allocR rfl rfl ?_; intro W1 b1 F1 r1; have B1 := Fresh.trans (Below.refl _ w) (Nat.le_refl _) F1)
      | (refine wpList_buildR0 rfl rfl ?_)
      | (refine wpList_storeR rfl _ _ rfl rfl rfl r1 ?_; intro W3 U3 r3))
    refine ret_R rfl rfl rfl r3 ⟨by rw [HV.out], U3.trans B1 (by rw [F1.at']; exact Nat.le_refl _)⟩

theorem onF_yes (s k : Nat) (h : s.testBit k = true) : onF s k k ||| 2 ^ k = s &&& 2 ^ k := by
  unfold onF
  rw [if_neg (by omega), Nat.zero_or]
  apply Nat.eq_of_testBit_eq
  intro j
  rw [Nat.testBit_and, Nat.testBit_two_pow]
  by_cases e : k = j
  · subst e; simp [h]
  · simp [e]
theorem onF_no (s k j : Nat) (h : s.testBit k = false) : onF s k j = onF s (k + 1) j := by
  unfold onF
  by_cases h1 : j < k
  · rw [if_pos h1, if_pos (by omega)]
  · rw [if_neg h1]
    by_cases h2 : j = k
    · subst h2
      rw [if_pos (by omega)]
      symm
      apply Nat.eq_of_testBit_eq
      intro i
      rw [Nat.testBit_and, Nat.testBit_two_pow, Nat.zero_testBit]
      by_cases e : j = i
      · subst e; simp [h]
      · simp [e]
    · rw [if_neg (by omega)]

end Go.Proofs.YtdjlfpkemdiadaaDoor
/- The reference's Cross. -/
namespace Go.Proofs.YtdjlfpkemdiadaaDoor
open Go.RowKit M
set_option linter.unusedSimpArgs false
set_option linter.unusedVariables false

def crRow (f t : Nat) (m : Int) (j : Nat) : Nat := if f.testBit j then t &&& bel m else 0
def crF (f t N k m : Nat) : Nat → Nat := fun j => if j < k then crRow f t N j else if j = k then crRow f t m j else 0
def crV (n : Int) (f t : Nat) : Value := if 0 ≤ n ∧ n ≤ 64 then relv n (crF f t n.toNat n.toNat 0) else relv 0 void
theorem bel_zero : bel 0 = 0 := by decide
theorem crRow_zero (f t j : Nat) : crRow f t ((0 : Nat) : Int) j = 0 := by
  show crRow f t 0 j = 0
  unfold crRow; rw [bel_zero]; simp
theorem crF_start (f t N j : Nat) : crF f t N 0 0 j = 0 := by
  unfold crF; rw [if_neg (by omega), crRow_zero]; simp
theorem crF_next (f t N k j : Nat) : crF f t N k N j = crF f t N (k + 1) 0 j := by
  unfold crF
  by_cases h1 : j < k
  · rw [if_pos h1, if_pos (by omega)]
  · rw [if_neg h1]
    by_cases h2 : j = k
    · rw [if_pos h2, if_pos (by omega)]
    · rw [if_neg h2, if_neg (by omega), crRow_zero]; simp
theorem crF_step (f t N k m x j : Nat) (hx : x = crRow f t ((m + 1 : Nat) : Int) k) : upd (crF f t N k m) k x j = crF f t N k (m + 1) j := by
  subst hx
  unfold upd crF
  by_cases h2 : j = k
  · subst h2; simp
  · rw [if_neg h2, if_neg h2, if_neg h2]
theorem crF_at (f t N k m : Nat) : crF f t N k m k = crRow f t m k := by unfold crF; simp
theorem crF_same (f t N k m j : Nat) (h : crRow f t m k = crRow f t ((m + 1 : Nat) : Int) k) : crF f t N k m j = crF f t N k (m + 1) j := by
  unfold crF
  by_cases h2 : j = k
  · subst h2; simp [h]
  · rw [if_neg h2, if_neg h2]
theorem crRow_lt (f t : Nat) (m : Int) (j : Nat) : crRow f t m j < 18446744073709551616 := by
  unfold crRow
  split
  · exact Nat.lt_of_le_of_lt Nat.and_le_right (bel_lt m)
  · omega
theorem crRow_yes (f t m k : Nat) (hm : m < 64) (h1 : f.testBit k = true) (h2 : t.testBit m = true) : crRow f t m k ||| 2 ^ m = crRow f t ((m + 1 : Nat) : Int) k := by
  unfold crRow
  rw [if_pos h1, if_pos h1]
  apply Nat.eq_of_testBit_eq
  intro i
  rw [Nat.testBit_or, Nat.testBit_and, Nat.testBit_and, Nat.testBit_two_pow]
  by_cases hi : i < 64
  · rw [testBit_bel _ _ hi, testBit_bel _ _ hi]
    by_cases e : m = i
    · subst e; simp [h2]; omega
    · have : decide ((i : Int) < (m : Int)) = decide ((i : Int) < ((m + 1 : Nat) : Int)) := by
        rw [decide_eq_decide]; omega
      rw [this]; simp [e]
  · rw [testBit_high (bel_lt _) hi, testBit_high (bel_lt _) hi]
    have : ¬ m = i := by omega
    simp [this]
theorem crRow_no (f t m k : Nat) (hm : m < 64) (h : f.testBit k = false ∨ t.testBit m = false) : crRow f t m k = crRow f t ((m + 1 : Nat) : Int) k := by
  unfold crRow
  split
  · rename_i h1
    have h2 : t.testBit m = false := by rcases h with h | h; · rw [h] at h1; cases h1
                                        · exact h
    apply Nat.eq_of_testBit_eq
    intro i
    rw [Nat.testBit_and, Nat.testBit_and]
    by_cases hi : i < 64
    · rw [testBit_bel _ _ hi, testBit_bel _ _ hi]
      by_cases e : m = i
      · subst e; simp [h2]
      · have : decide ((i : Int) < (m : Int)) = decide ((i : Int) < ((m + 1 : Nat) : Int)) := by
          rw [decide_eq_decide]; omega
        rw [this]
    · rw [testBit_high (bel_lt _) hi, testBit_high (bel_lt _) hi]
  · rfl

end Go.Proofs.YtdjlfpkemdiadaaDoor

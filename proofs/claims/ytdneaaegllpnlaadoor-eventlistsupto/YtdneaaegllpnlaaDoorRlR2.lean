/- What the small functions of rel and of the reference answer. -/
import Derived.Test.YtdneaaegllpnlaaDoorRlR1
import Derived.Test.YtdneaaegllpnlaaDoorRlM
namespace Go.Proofs.YtdneaaegllpnlaaDoor
open Go.RowKit M
set_option linter.unusedSimpArgs false
set_option linter.unusedVariables false

theorem ret_bool {a b : Bool} (h : a = b) : Ending.returned (.bool a) = .returned (.bool b) := by rw [h]
theorem wrap_nat (x : Nat) (h : x < 18446744073709551616) : IntKind.u64.wrap (x : Int) = (x : Int) := by rw [IntKind.wrap_u64]; omega
theorem wrap_pow (n : Nat) (h : n < 64) : IntKind.u64.wrap ((2 : Int) ^ n) = ((2 ^ n : Nat) : Int) := by
  have h1 : 2 ^ n < 2 ^ 64 := Nat.pow_lt_pow_right (by decide) h
  have e : ((2 : Int) ^ n) = ((2 ^ n : Nat) : Int) := by simp
  rw [e]
  exact wrap_nat _ h1
theorem shr_bits (s : Nat) (i : Nat) (h1 : i < 64) (hs : s < 18446744073709551616) : bits BinOp.and IntKind.u64 ((s : Int) / 2 ^ i) 1 = ((s / 2 ^ i % 2 : Nat) : Int) := by
  have e : ((s : Int) / 2 ^ i) = ((s / 2 ^ i : Nat) : Int) := by simp
  rw [e]
  have h2 : s / 2 ^ i < 18446744073709551616 := Nat.lt_of_le_of_lt (Nat.div_le_self _ _) hs
  have := u64_and_nat (s / 2 ^ i) 1 h2 (by omega)
  rw [Nat.and_one_is_mod] at this
  exact this
theorem bit_of (s i : Nat) : s / 2 ^ i % 2 = if s.testBit i then 1 else 0 := by
  have := Nat.testBit_eq_decide_div_mod_eq (x := s) (i := i)
  rw [this]
  by_cases h : s / 2 ^ i % 2 = 1
  · simp [h]
  · have : s / 2 ^ i % 2 = 0 := by omega
    simp [this]

theorem fits_any (n : Int) (w : World) : Calls Tryd.prog 102 #[.int .i64 n] w fun e w' => e = .returned (.bool (decide (0 ≤ n ∧ n ≤ 64))) ∧ w' = w := by
  by_cases h0 : 0 ≤ n
  · by_cases h1 : n ≤ 64
    · go_enter Tryd.func102, Tryd.ntmps102
      go_wp2
      all_goals (go_ret; exact ⟨ret_bool (by simp [h0, h1]), rfl⟩)
    · go_enter Tryd.func102, Tryd.ntmps102
      go_wp2
      all_goals (go_ret; exact ⟨ret_bool (by simp [h0, h1]), rfl⟩)
  · go_enter Tryd.func102, Tryd.ntmps102
    go_wp2
    all_goals (go_ret; exact ⟨ret_bool (by simp; omega), rfl⟩)

theorem all_any (n : Int) (w : World) (h0 : 0 ≤ n) (h1 : n ≤ 64) : Calls Tryd.prog 98 #[.int .i64 n] w fun e w' => e = .returned (.int .u64 (bel n : Nat)) ∧ w' = w := by
  by_cases h2 : n < 64
  · have hw := wrap_pow n.toNat (by omega)
    go_enter Tryd.func98, Tryd.ntmps98
    go_wp2
    go_ret
    refine ⟨ret_int ?_, rfl⟩
    have h3 : 0 < 2 ^ n.toNat := Nat.two_pow_pos _
    have h4 : 2 ^ n.toNat < 2 ^ 64 := Nat.pow_lt_pow_right (by decide) (by omega)
    (try rw [hw])
    rw [IntKind.wrap_u64]
    unfold bel
    by_cases h5 : n < 1
    · have : n = 0 := by omega
      subst this
      simp
    · rw [if_neg h5, if_neg (by omega)]
      have e : ((2 : Int) ^ n.toNat) = ((2 ^ n.toNat : Nat) : Int) := by simp
      (try rw [e])
      generalize 2 ^ n.toNat = p at *
      omega
  · have : n = 64 := by omega
    subst this
    go_enter Tryd.func98, Tryd.ntmps98
    go_wp2
    go_ret
    exact ⟨ret_int (by decide), rfl⟩

/-- Is row a as the relation's number of numbers asks? -/
def okRow (n : Int) (f : Nat → Nat) (a : Nat) : Bool := decide ((a : Int) < n ∨ f a = 0) && decide (f a &&& (18446744073709551615 - bel n) = 0)
def rightB (n : Int) (f : Nat → Nat) : Bool := decide (0 ≤ n ∧ n ≤ 64) && (List.range 64).all (okRow n f)
def checkN (n : Int) (f : Nat → Nat) : Int := if rightB n f then 0 else 20
def Wf (f : Nat → Nat) : Prop := ∀ i, f i < 18446744073709551616

theorem rowsL_get (f : Nat → Nat) (i : Nat) (h : i < 64) : (rowsL f)[i]? = some (.int .u64 (f i : Nat)) := by simp [rowsL, h]

theorem index23 (f : Nat → Nat) (i : Nat) (h : i < 64) (w : World) : (Instr.index 52 (.agg (rowsL f).toArray) (.int .i64 i)).run Tryd.prog w = .ok (.int .u64 (f i : Nat)) w := by
  have hp : (rowsL f).toArray[i]? = some (.int .u64 (f i : Nat)) := by rw [List.getElem?_toArray]; exact rowsL_get f i h
  generalize (rowsL f).toArray = c at *
  simp [Instr.index, go_sem, hp, h]
theorem right_bad (n : Int) (f : Nat → Nat) (k : Nat) (hk : k < 64) (h : okRow n f k = false) : checkN n f = 20 := by
  unfold checkN rightB
  have : (List.range 64).all (okRow n f) = false := by
    rw [List.all_eq_false]
    exact ⟨k, by simp [hk], by simp [h]⟩
  simp [this]
theorem right_out (n : Int) (f : Nat → Nat) (h : ¬ (0 ≤ n ∧ n ≤ 64)) : checkN n f = 20 := by
  unfold checkN rightB
  simp [h]
theorem right_good (n : Int) (f : Nat → Nat) (h0 : 0 ≤ n ∧ n ≤ 64) (h : ∀ k, k < 64 → okRow n f k = true) : checkN n f = 0 := by
  unfold checkN rightB
  have : (List.range 64).all (okRow n f) = true := by
    rw [List.all_eq_true]
    intro k hk
    exact h k (by simpa using hk)
  simp [this, h0]

set_option maxRecDepth 100000 in
theorem check_any (n : Int) (f : Nat → Nat) (w : World) (hf : Hid (Wf f)) : Calls Tryd.prog 115 #[relv n f] w fun e w' => e = .returned (.int .i64 (checkN n f)) ∧ Below w.heap.size w w' := by
  by_cases h0 : 0 ≤ n ∧ n ≤ 64
  · have hd : decide (0 ≤ n ∧ n ≤ 64) = true := decide_eq_true h0
    have H0 : Hid (0 ≤ n ∧ n ≤ 64) := h0
    go_enter Tryd.func115, Tryd.ntmps115
    go_wp2_with (first
      | (refine wpList_boxR rfl _ rfl rfl ?_; intro W1 b1 F1 r1; have B1 := Fresh.trans (Below.refl _ w) (Nat.le_refl _) F1; have hn := r1.n)
      | (refine wpList_loadRows rfl _ rfl rfl r1 ?_)
      | (go_at_call 102; refine (fits_any _ _).mono ?_; rintro e w' ⟨rfl, hw'⟩; replace hw' := hw'.symm; subst hw'))
    go_loop [11] (fun i => ∃ k : Nat, k ≤ 64 ∧ i = .int .i64 k ∧ Hid (∀ j, j < k → okRow n f j = true)) (fun i => 64 - (intOf i).toNat)
    case atStart => exact ⟨0, by omega, rfl, fun j hj => by omega⟩
    case round =>
      obtain ⟨k, hk, rfl, HK⟩ := hrel
      by_cases hlt : k < 64
      · have hrow := index23 f k hlt W1
        have hxl := hf.out k
        have hand := u64_andNot_nat (f k) (bel n) hxl (bel_lt n)
        have HO : Hid (okRow n f k = (decide ((k : Int) < n ∨ f k = 0) && decide (f k &&& (18446744073709551615 - bel n) = 0))) := rfl
        obtain ⟨y, hy⟩ : ∃ y, f k &&& (18446744073709551615 - bel n) = y := ⟨_, rfl⟩
        have HO' : Hid (okRow n f k = (decide ((k : Int) < n ∨ f k = 0) && decide (y = 0))) := by rw [← hy]; exact HO
        clear HO
        rw [hy] at hand
        obtain ⟨x, hx⟩ : ∃ x, f k = x := ⟨_, rfl⟩
        rw [hx] at hrow hand hxl
        have HO : Hid (okRow n f k = (decide ((k : Int) < n ∨ x = 0) && decide (y = 0))) := by rw [← hx]; exact HO'
        clear HO' hx hy
        have HB : Hid (okRow n f k = false → checkN n f = 20) := right_bad n f k hlt
        have HN : Hid (okRow n f k = true → ∀ j, j < k + 1 → okRow n f j = true) := fun h j hj => by
          by_cases e : j = k
          · subst e; exact h
          · exact HK.out j (by omega)
        clear HK
        by_cases hA : (k : Int) < n
        · by_cases hy0 : y = 0
          · subst hy0
            have H1 : Hid (okRow n f k = true) := (show okRow n f k = true by rw [HO.out]; simp [hA])
            go_wp2_with (first
              | (go_at_call 98; refine (all_any n _ H0.out.1 H0.out.2).mono ?_; rintro e w' ⟨rfl, hw'⟩; replace hw' := hw'.symm; subst hw'))
            go_round
            case rel => exact ⟨k + 1, by omega, by simp, HN.out H1.out⟩
            case measure => simp [intOf]; omega
          · have H1 : Hid (okRow n f k = false) := (show okRow n f k = false by rw [HO.out]; simp [hy0])
            go_wp2_with (first
              | (go_at_call 98; refine (all_any n _ H0.out.1 H0.out.2).mono ?_; rintro e w' ⟨rfl, hw'⟩; replace hw' := hw'.symm; subst hw'))
            all_goals (go_ret; exact ⟨ret_int (HB.out H1.out).symm, B1⟩)
        · by_cases hx0 : x = 0
          · subst hx0
            have hand0 : bits .andNot .u64 0 (bel n : Int) = 0 := by
              have := u64_andNot_nat 0 (bel n) (by omega) (bel_lt n)
              simpa using this
            have H1 : Hid (okRow n f k = true) := (show okRow n f k = true by
              rw [HO.out]
              have : y = 0 := by
                have h1 : ((y : Nat) : Int) = 0 := by rw [← hand]; exact hand0
                omega
              simp [this])
            clear hand
            go_wp2_with (first
              | (go_at_call 98; refine (all_any n _ H0.out.1 H0.out.2).mono ?_; rintro e w' ⟨rfl, hw'⟩; replace hw' := hw'.symm; subst hw'))
            go_round
            case rel => exact ⟨k + 1, by omega, by simp, HN.out H1.out⟩
            case measure => simp [intOf]; omega
          · have H1 : Hid (okRow n f k = false) := (show okRow n f k = false by rw [HO.out]; simp [hA, hx0])
            go_wp2
            all_goals (go_ret; exact ⟨ret_int (HB.out H1.out).symm, B1⟩)
      · have H1 : Hid (checkN n f = 0) := right_good n f H0.out (fun j hj => HK.out j (by omega))
        go_wp2
        all_goals (go_ret; exact ⟨ret_int H1.out.symm, B1⟩)
  · have hd : decide (0 ≤ n ∧ n ≤ 64) = false := decide_eq_false h0
    have H1 : Hid (checkN n f = 20) := right_out n f h0
    go_enter Tryd.func115, Tryd.ntmps115
    go_wp2_with (first
      | (refine wpList_boxR rfl _ rfl rfl ?_; intro W1 b1 F1 r1; have B1 := Fresh.trans (Below.refl _ w) (Nat.le_refl _) F1; have hn := r1.n)
      | (refine wpList_loadRows rfl _ rfl rfl r1 ?_)
      | (go_at_call 102; refine (fits_any _ _).mono ?_; rintro e w' ⟨rfl, hw'⟩; replace hw' := hw'.symm; subst hw'))
    all_goals (go_ret; exact ⟨ret_int H1.out.symm, B1⟩)
end Go.Proofs.YtdneaaegllpnlaaDoor

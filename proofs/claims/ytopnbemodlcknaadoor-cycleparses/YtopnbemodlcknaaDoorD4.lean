/- size and value: what a number's digits say. -/
import Derived.Test.YtopnbemodlcknaaDoorD3
namespace Go.Proofs.YtopnbemodlcknaaDoor
open Go.RowKit M
set_option linter.unusedSimpArgs false
set_option linter.unusedVariables false

theorem take_snocB (s : ByteArray) (k : Nat) (h : k < s.size) : s.data.toList.take (k + 1) = s.data.toList.take k ++ [s[k]] := by
  rw [List.take_succ_eq_append_getElem (by simpa using h)]; rfl

/-- What size answers. -/
def sizeV (v : Nat) : Value := if 18446744073709551615 < v then .tuple #[.int .u64 0, .bool false] else .tuple #[.int .u64 (v : Int), .bool true]

set_option maxRecDepth 100000 in
set_option maxHeartbeats 2000000 in
theorem size_any (m : Bool) (base : Nat) (D : ByteArray) (n : Nat) (hD : D.size ≤ maxLen) (hbase : base = 10 ∨ base = 16) (w : World) :
    Calls Tryd.prog 68 #[numV m base D n] w fun e w' => e = .returned (sizeV (val base D.data.toList)) ∧ Below w.heap.size w w' := by
  unfold maxLen at hD
  obtain ⟨B, hB, hB1, hB2⟩ : ∃ B : Int, B = (base : Int) ∧ 1 ≤ B ∧ B ≤ 16 := ⟨_, rfl, by omega, by omega⟩
  have hb1 : 1 ≤ base := by omega
  have HV0 : Hid (val base (D.data.toList.take 0) ≤ 18446744073709551615) := by show val base [] ≤ _; exact Nat.zero_le _
  clear hbase
  go_enter Tryd.func68, Tryd.ntmps68
  go_wp2_with (first
    | (refine wpList_boxN rfl _ rfl rfl ?_; intro W1 b F1 N1; have Bel := F1.trans (Below.refl _ _) (Nat.le_refl _); clear F1; have cB : W1.cell? ⟨b, 1, none⟩ = some (.int .u64 B) := (by rw [hB]; exact N1.cB); have cD := N1.cD))
  go_loop [4, 10] (fun t i => ∃ (k : Nat) (x : Int), k ≤ D.size ∧ 0 ≤ x ∧ x ≤ 18446744073709551615 ∧ t = .int .u64 x ∧ i = .int .i64 k ∧ Hid (x = (val base (D.data.toList.take k) : Int))) (fun _ i => D.size - (intOf i).toNat)
  case atStart => exact ⟨0, 0, by omega, by omega, by omega, rfl, rfl, rfl⟩
  case round =>
    obtain ⟨k, x, hk, hx0, hx1, rfl, rfl, HX⟩ := hrel
    by_cases hlt : k < D.size
    · have hd := fun w => digit_any D[k].toNat D[k].toNat_lt w
      have hdl := dig_le D[k].toNat
      obtain ⟨d, hdd⟩ : ∃ d : Int, d = (dig D[k].toNat : Int) := ⟨_, rfl⟩
      have hd0 : 0 ≤ d := by omega
      have hd1 : d ≤ 18446744073709551615 := by omega
      rw [← hdd] at hd
      have HS : Hid (val base (D.data.toList.take (k + 1)) = val base (D.data.toList.take k) * base + dig D[k].toNat) := by
        show _ = _
        rw [take_snocB D k hlt, val_snoc]
      have HDD : Hid (d = (dig D[k].toNat : Int)) := hdd
      have HB : Hid (B = (base : Int)) := hB
      have hover := over_iff (n := val base (D.data.toList.take k)) hb1 hdl
      clear hdd hdl
      by_cases hov : 18446744073709551615 < val base (D.data.toList.take k) * base + dig D[k].toNat
      · have hgt : (18446744073709551615 - d) / B < x := by
          have h2 := hover.2 hov
          rw [HX.out, HDD.out, hB]
          have h3 : ((18446744073709551615 - dig D[k].toNat : Nat) : Int) = 18446744073709551615 - (dig D[k].toNat : Int) := by have := dig_le D[k].toNat; omega
          rw [← h3]
          exact_mod_cast h2
        have HR : Hid (18446744073709551615 < val base D.data.toList) := by
          show _ < _
          have := val_take_le base hb1 D.data.toList (k + 1)
          rw [HS.out] at this
          omega
        clear hover hov HS HX HDD hB HV0
        go_wp2_with (go_at_call 71; refine (hd _).mono ?_; rintro e w' ⟨rfl, hw'⟩; replace hw' := hw'.symm; subst hw')
        go_ret2
        exact ⟨by unfold sizeV; rw [if_pos HR.out]; rfl, Bel⟩
      · have hgt : ¬ (18446744073709551615 - d) / B < x := by
          have h2 := fun h => hov (hover.1 h)
          rw [HX.out, HDD.out, hB]
          have h3 : ((18446744073709551615 - dig D[k].toNat : Nat) : Int) = 18446744073709551615 - (dig D[k].toNat : Int) := by have := dig_le D[k].toNat; omega
          rw [← h3]
          exact_mod_cast h2
        have HV : Hid (x * B + d = (val base (D.data.toList.take (k + 1)) : Int)) := by
          show x * B + d = _
          rw [HS.out, HX.out, HDD.out, hB, Int.natCast_add, Int.natCast_mul]
        have hsum : x * B + d ≤ 18446744073709551615 := by
          rw [HV.out, HS.out]; omega
        have hm0 : 0 ≤ x * B := Int.mul_nonneg hx0 (by omega)
        have hm1 : x * B ≤ 18446744073709551615 := by omega
        clear hover hov HS HX HDD hB HV0
        go_wp2_with (go_at_call 71; refine (hd _).mono ?_; rintro e w' ⟨rfl, hw'⟩; replace hw' := hw'.symm; subst hw')
        go_round
        case rel => exact ⟨k + 1, x * B + d, by omega, by omega, by omega, rfl, by go_num, HV⟩
        case measure => simp [intOf]; omega
    · have HR : Hid (¬ 18446744073709551615 < val base D.data.toList ∧ x = (val base D.data.toList : Int)) := by
        show ¬ _ ∧ _
        have h1 := HX.out
        rw [List.take_of_length_le (by rw [← sizeL]; omega)] at h1
        exact ⟨by omega, h1⟩
      clear hB HX HV0
      go_wp2
      go_ret2
      exact ⟨by unfold sizeV; rw [if_neg HR.out.1, ← HR.out.2]; rfl, Bel⟩

theorem wrap_neg {x : Int} (h0 : 0 ≤ x) (h1 : x ≤ 9223372036854775808) : wrap64 (-wrap64 x) = -x := by unfold wrap64; omega
theorem wrap_pos {x : Int} (h0 : 0 ≤ x) (h1 : x ≤ 18446744073709551615) : wrap64 x = if x ≤ 9223372036854775807 then x else x - 18446744073709551616 := by unfold wrap64; split <;> omega

/-- What value answers. -/
def valueV : Option Int → Value
  | some v => .tuple #[.int .i64 v, .int .i64 0]
  | none => .tuple #[.int .i64 0, .int .i64 41]

set_option maxRecDepth 100000 in
set_option maxHeartbeats 2000000 in
theorem value_any (m : Bool) (base : Nat) (D : ByteArray) (n : Nat) (hD : D.size ≤ maxLen) (hbase : base = 10 ∨ base = 16) (w : World) :
    Calls Tryd.prog 59 #[numV m base D n] w fun e w' => e = .returned (valueV (valF m (val base D.data.toList))) ∧ Below w.heap.size w w' := by
  have hS := fun w => size_any m base D n hD hbase w
  obtain ⟨v, hv⟩ : ∃ v, val base D.data.toList = v := ⟨_, rfl⟩
  rw [hv] at hS ⊢
  clear hv hbase
  unfold maxLen at hD
  by_cases hbig : 18446744073709551615 < v
  · have hV : sizeV v = .tuple #[.int .u64 0, .bool false] := by unfold sizeV; rw [if_pos hbig]
    rw [hV] at hS
    have HR : Hid (valF m v = none) := by show valF m v = none; unfold valF; rw [if_pos (Or.inl hbig)]
    clear hV hbig
    go_enter Tryd.func59, Tryd.ntmps59
    go_wp2_with (first
      | (refine wpList_boxN rfl _ rfl rfl ?_; intro W1 b F1 N1; have Bel := F1.trans (Below.refl _ _) (Nat.le_refl _); clear F1)
      | (refine wpList_loadN rfl _ rfl rfl N1 ?_)
      | (go_at_call 68; refine (hS _).mono ?_; rintro e W2 ⟨rfl, hb2⟩; clear hS; replace N1 := N1.grown hb2; replace Bel := Bel.trans (hb2.mono Bel.size); clear hb2; have cM := N1.cM))
    go_ret2
    exact ⟨by rw [HR.out]; rfl, Bel⟩
  · have hV : sizeV v = .tuple #[.int .u64 (v : Int), .bool true] := by unfold sizeV; rw [if_neg hbig]
    rw [hV] at hS
    obtain ⟨x, hx⟩ : ∃ x : Int, (v : Int) = x := ⟨_, rfl⟩
    rw [hx] at hS
    have hx0 : 0 ≤ x := by omega
    have hx1 : x ≤ 18446744073709551615 := by omega
    cases m with
    | true =>
        by_cases hm : 9223372036854775808 < v
        · have HR : Hid (valF true v = none) := by show valF true v = none; unfold valF; rw [if_pos (Or.inr ⟨rfl, hm⟩)]
          have hm' : 9223372036854775808 < x := by omega
          clear hV hbig hx hm
          go_enter Tryd.func59, Tryd.ntmps59
          go_wp2_with (first
            | (refine wpList_boxN rfl _ rfl rfl ?_; intro W1 b F1 N1; have Bel := F1.trans (Below.refl _ _) (Nat.le_refl _); clear F1)
            | (refine wpList_loadN rfl _ rfl rfl N1 ?_)
            | (go_at_call 68; refine (hS _).mono ?_; rintro e W2 ⟨rfl, hb2⟩; clear hS; replace N1 := N1.grown hb2; replace Bel := Bel.trans (hb2.mono Bel.size); clear hb2; have cM := N1.cM))
          go_ret2
          exact ⟨by rw [HR.out]; rfl, Bel⟩
        · have HR : Hid (valF true v = some (-x)) := by
            show valF true v = _
            unfold valF; rw [if_neg (by omega), ← hx]; rfl
          have hm' : x ≤ 9223372036854775808 := by omega
          clear hV hbig hx hm
          go_enter Tryd.func59, Tryd.ntmps59
          go_wp2_with (first
            | (refine wpList_boxN rfl _ rfl rfl ?_; intro W1 b F1 N1; have Bel := F1.trans (Below.refl _ _) (Nat.le_refl _); clear F1)
            | (refine wpList_loadN rfl _ rfl rfl N1 ?_)
            | (go_at_call 68; refine (hS _).mono ?_; rintro e W2 ⟨rfl, hb2⟩; clear hS; replace N1 := N1.grown hb2; replace Bel := Bel.trans (hb2.mono Bel.size); clear hb2; have cM := N1.cM))
          go_ret2
          exact ⟨by rw [HR.out, ← wrap_neg hx0 hm']; rfl, Bel⟩
    | false =>
        have HR : Hid (valF false v = some (if x ≤ 9223372036854775807 then x else x - 18446744073709551616)) := by
          show valF false v = _
          unfold valF; rw [if_neg (by simp; omega), ← hx]; rfl
        clear hV hbig hx
        go_enter Tryd.func59, Tryd.ntmps59
        go_wp2_with (first
          | (refine wpList_boxN rfl _ rfl rfl ?_; intro W1 b F1 N1; have Bel := F1.trans (Below.refl _ _) (Nat.le_refl _); clear F1)
          | (refine wpList_loadN rfl _ rfl rfl N1 ?_)
          | (go_at_call 68; refine (hS _).mono ?_; rintro e W2 ⟨rfl, hb2⟩; clear hS; replace N1 := N1.grown hb2; replace Bel := Bel.trans (hb2.mono Bel.size); clear hb2; have cM := N1.cM))
        go_ret2
        exact ⟨by rw [HR.out, ← wrap_pos hx0 hx1]; rfl, Bel⟩
end Go.Proofs.YtopnbemodlcknaaDoor

/- What Of answers, and the reference's. -/
import Derived.Test.YtkjaphmcagifpaaDoorMath2
import Derived.Test.YtkjaphmcagifpaaDoorIt3
namespace Go.Proofs.YtkjaphmcagifpaaDoor
open Go.RowKit M
set_option linter.unusedSimpArgs false
set_option linter.unusedVariables false

/-- A slice's numbers, where they lie. -/
def Nums (w : World) (a : Option Addr) (zs : List Int) : Prop := ∀ j, j < zs.length → ∃ b off, a = some ⟨b, off, none⟩ ∧ w.cell? ⟨b, off + j, none⟩ = some (.int .i64 (zs.getD j 0))

theorem take_snoc (zs : List Int) (k : Nat) (h : k < zs.length) : zs.take (k + 1) = zs.take k ++ [zs.getD k 0] := by
  rw [List.take_succ_eq_append_getElem h, List.getD_eq_getElem?_getD, List.getElem?_eq_getElem h]; rfl

theorem fits_fail (zs : List Int) (k : Nat) (h : k < zs.length) (hb : ¬ (0 ≤ zs.getD k 0 ∧ zs.getD k 0 < 64)) : fitsAll zs = false := by
  cases hf : fitsAll zs with
  | false => rfl
  | true =>
    have := fitsAll_take zs (k + 1) hf
    rw [take_snoc zs k h, fitsAll_snoc] at this
    rw [decide_eq_false hb, Bool.and_false] at this
    cases this

theorem of_any (a : Option Addr) (cap : Nat) (zs : List Int) (w : World) (hN : Hid (Nums w a zs)) (hl : zs.length ≤ 1152921504606846976) :
    Calls Tryd.prog 25 #[.slice a zs.length cap] w fun e w' => e = .returned (.tuple #[.int .u64 (ofS zs : Nat), .int .i64 (ofE zs)]) ∧ w' = w := by
  go_enter Tryd.func25, Tryd.ntmps25
  go_wp2
  go_loop [4, 9] (fun v i => ∃ k : Nat, k ≤ zs.length ∧ Hid (fitsAll (zs.take k) = true) ∧ i = .int .i64 k ∧ v = .int .u64 (setOf (zs.take k) : Nat)) (fun _ i => zs.length - (intOf i).toNat)
  case atStart => exact ⟨0, by omega, rfl, rfl, rfl⟩
  case round =>
    obtain ⟨k, hk, HF, rfl, rfl⟩ := hrel
    by_cases hlt : k < zs.length
    · obtain ⟨b, off, rfl, hc⟩ := hN.out k hlt
      have HS := take_snoc zs k hlt
      have c := with_any (setOf (zs.take k)) (zs.getD k 0) w (setOf_lt _)
      rw [← setOf_snoc, ← HS] at c
      have HB : Hid (¬ (0 ≤ zs.getD k 0 ∧ zs.getD k 0 < 64) → fitsAll zs = false) := fits_fail zs k hlt
      have HT : Hid ((0 ≤ zs.getD k 0 ∧ zs.getD k 0 < 64) → fitsAll (zs.take (k + 1)) = true) := fun h => by
        rw [HS, fitsAll_snoc, HF.out]; simpa using h
      clear HS HF
      generalize zs.getD k 0 = z at *
      by_cases h0 : 0 ≤ z
      · by_cases h1 : z < 64
        · go_wp2_with (first | (go_at_call 11; refine c.mono ?_; rintro e w' ⟨rfl, rfl⟩) | go_in)
          go_round
          case rel => exact ⟨k + 1, by omega, HT.out ⟨h0, h1⟩, by go_num, rfl⟩
          case measure => simp [intOf]; omega
        · have e : Hid (fitsAll zs = false) := HB.out (by omega)
          go_wp2_with (first | (go_at_call 11; refine c.mono ?_; rintro e w' ⟨rfl, rfl⟩) | go_in)
          go_ret2
          exact ⟨by simp [ofS, ofE, e.out], rfl⟩
      · have e : Hid (fitsAll zs = false) := HB.out (by omega)
        go_wp2_with (first | (go_at_call 11; refine c.mono ?_; rintro e w' ⟨rfl, rfl⟩) | go_in)
        go_ret2
        exact ⟨by simp [ofS, ofE, e.out], rfl⟩
    · obtain rfl : k = zs.length := by omega
      have E : Hid (ofS zs = setOf zs ∧ ofE zs = 0) := by
        have := HF.out
        rw [List.take_length] at this
        exact ⟨by simp [ofS, this], by simp [ofE, this]⟩
      clear HF hN
      go_wp2
      go_ret2
      exact ⟨by rw [E.out.1, E.out.2]; rfl, rfl⟩

theorem rof_any (a : Option Addr) (cap : Nat) (zs : List Int) (w : World) (hN : Hid (Nums w a zs)) (hl : zs.length ≤ 1152921504606846976) :
    Calls Tryd.prog 26 #[.slice a zs.length cap] w fun e w' => e = .returned (.tuple #[.int .u64 (ofS zs : Nat), .int .i64 (ofE zs)]) ∧ w' = w := by
  go_enter Tryd.func26, Tryd.ntmps26
  go_wp2
  go_loop [4, 5] (fun v i => ∃ k : Nat, k ≤ zs.length ∧ Hid (fitsAll (zs.take k) = true) ∧ i = .int .i64 k ∧ v = .int .u64 (setOf (zs.take k) : Nat)) (fun _ i => zs.length - (intOf i).toNat)
  case atStart => exact ⟨0, by omega, rfl, rfl, rfl⟩
  case round =>
    obtain ⟨k, hk, HF, rfl, rfl⟩ := hrel
    by_cases hlt : k < zs.length
    · obtain ⟨b, off, rfl, hc⟩ := hN.out k hlt
      have HS := take_snoc zs k hlt
      have c := rwith_any (setOf (zs.take k)) (zs.getD k 0) w (setOf_lt _)
      rw [← setOf_snoc, ← HS] at c
      have HB : Hid (¬ (0 ≤ zs.getD k 0 ∧ zs.getD k 0 < 64) → fitsAll zs = false) := fits_fail zs k hlt
      have HT : Hid ((0 ≤ zs.getD k 0 ∧ zs.getD k 0 < 64) → fitsAll (zs.take (k + 1)) = true) := fun h => by
        rw [HS, fitsAll_snoc, HF.out]; simpa using h
      clear HS HF
      generalize zs.getD k 0 = z at *
      by_cases h0 : 0 ≤ z
      · by_cases h1 : z < 64
        · have h2 : ¬ 63 < z := by omega
          go_wp2_with (first | (go_at_call 12; refine c.mono ?_; rintro e w' ⟨rfl, rfl⟩))
          go_round
          case rel => exact ⟨k + 1, by omega, HT.out ⟨h0, h1⟩, by go_num, rfl⟩
          case measure => simp [intOf]; omega
        · have h2 : 63 < z := by omega
          have e : Hid (fitsAll zs = false) := HB.out (by omega)
          go_wp2_with (first | (go_at_call 12; refine c.mono ?_; rintro e w' ⟨rfl, rfl⟩))
          go_ret2
          exact ⟨by simp [ofS, ofE, e.out], rfl⟩
      · have e : Hid (fitsAll zs = false) := HB.out (by omega)
        go_wp2_with (first | (go_at_call 12; refine c.mono ?_; rintro e w' ⟨rfl, rfl⟩))
        go_ret2
        exact ⟨by simp [ofS, ofE, e.out], rfl⟩
    · obtain rfl : k = zs.length := by omega
      have E : Hid (ofS zs = setOf zs ∧ ofE zs = 0) := by
        have := HF.out
        rw [List.take_length] at this
        exact ⟨by simp [ofS, this], by simp [ofE, this]⟩
      clear HF hN
      go_wp2
      go_ret2
      exact ⟨by rw [E.out.1, E.out.2]; rfl, rfl⟩

theorem nums_of_own {w : World} {base : Nat} {v : Value} {l : List Nat} (h : w.ownsRow base 3 1 v l.length (ints l)) :
    ∃ a cap, v = .slice a l.length cap ∧ Hid (Nums w a (l.map fun n : Nat => (n : Int))) := by
  obtain ⟨a, cap, rfl, H⟩ := owns_view h
  refine ⟨a, cap, rfl, fun j hj => ?_⟩
  have hj' : j < l.length := by simpa using hj
  obtain ⟨g, rfl, hc⟩ := H.out j hj'
  refine ⟨g, 0, rfl, ?_⟩
  rw [Nat.zero_add, hc]
  simp [hj']
end Go.Proofs.YtkjaphmcagifpaaDoor

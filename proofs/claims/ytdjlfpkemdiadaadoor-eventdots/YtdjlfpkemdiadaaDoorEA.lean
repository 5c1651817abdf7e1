/- Small functions of event and of the reference: lists as they are taken, places, the relation of no pairs. -/
import Derived.Test.YtdjlfpkemdiadaaDoorQR
import Derived.Test.YtdjlfpkemdiadaaDoorEM
namespace Go.Proofs.YtdjlfpkemdiadaaDoor
open Go.RowKit M
set_option linter.unusedSimpArgs false
set_option linter.unusedVariables false

/-- How many events are taken. -/
def shN (n : Nat) : Nat := if n ≤ 64 then n else 0
theorem shN_le (n : Nat) : shN n ≤ 64 := by unfold shN; split <;> omega
/-- A list as it is taken. -/
def knV (a : Option Addr) (n c : Nat) : Value := if n ≤ 64 then .slice a n c else .slice none 0 0
theorem knV_form (a : Option Addr) (n c : Nat) : ∃ a' c', knV a n c = .slice a' (shN n) c' := by unfold knV shN; split <;> exact ⟨_, _, rfl⟩
set_option maxHeartbeats 400000 in
theorem known_any (a : Option Addr) (n c : Nat) (w : World) (hn : n ≤ 9223372036854775807) : Calls Tryd.prog 44 #[.slice a n c] w fun e w' => e = .returned (knV a n c) ∧ w' = w := by
  by_cases h : n ≤ 64
  · have HV : Hid (knV a n c = .slice a n c) := if_pos h
    go_enter Tryd.func44, Tryd.ntmps44
    go_wp2
    go_ret
    exact ⟨by rw [HV.out]; rfl, rfl⟩
  · have HV : Hid (knV a n c = .slice none 0 0) := if_neg h
    go_enter Tryd.func44, Tryd.ntmps44
    go_wp2
    go_ret
    exact ⟨by rw [HV.out]; rfl, rfl⟩
set_option maxHeartbeats 400000 in
theorem short_any (a : Option Addr) (n c : Nat) (w : World) (hn : n ≤ 9223372036854775807) : Calls Tryd.prog 51 #[.slice a n c] w fun e w' => e = .returned (knV a n c) ∧ w' = w := by
  by_cases h : n ≤ 64
  · have HV : Hid (knV a n c = .slice a n c) := if_pos h
    go_enter Tryd.func51, Tryd.ntmps51
    go_wp2
    go_ret
    exact ⟨by rw [HV.out]; rfl, rfl⟩
  · have HV : Hid (knV a n c = .slice none 0 0) := if_neg h
    go_enter Tryd.func51, Tryd.ntmps51
    go_wp2
    go_ret
    exact ⟨by rw [HV.out]; rfl, rfl⟩
set_option maxHeartbeats 400000 in
theorem over_any (a : Option Addr) (n c : Nat) (w : World) (hn : n ≤ 9223372036854775807) : Calls Tryd.prog 35 #[.slice a n c] w fun e w' => e = .returned (relv (shN n) void) ∧ Below w.heap.size w w' := by
  have hk := fun W => known_any a n c W hn
  obtain ⟨a', c', e⟩ := knV_form a n c
  rw [e] at hk
  clear e
  have hs := shN_le n
  generalize shN n = N at *
  go_enter Tryd.func35, Tryd.ntmps35
  go_wp2_with (first
    | (refine wpList_allocR rfl rfl ?_; intro W1 b1 F1 r1; have B1 := Fresh.trans (Below.refl _ w) (Nat.le_refl _) F1)
    | (go_at_call 44; refine (hk _).mono ?_; rintro e w' ⟨rfl, hw'⟩; replace hw' := hw'.symm; subst hw')
    | (refine wpList_buildRN rfl _ rfl rfl ?_)
    | (refine wpList_storeR rfl _ _ rfl rfl rfl r1 ?_; intro W3 U3 r3))
  refine ret_R rfl rfl rfl r3 ⟨rfl, U3.trans B1 (by rw [F1.at']; exact Nat.le_refl _)⟩
set_option maxHeartbeats 400000 in
theorem isPlace_any (x n : Int) (w : World) : Calls Tryd.prog 36 #[.int .i64 x, .int .i64 n] w fun e w' => e = .returned (.bool (decide (0 ≤ x ∧ x < n))) ∧ w' = w := by
  by_cases h1 : 0 ≤ x
  · by_cases h2 : x < n
    · go_enter Tryd.func36, Tryd.ntmps36
      go_wp2
      go_ret
      exact ⟨ret_bool (by simp [h1, h2]), rfl⟩
    · go_enter Tryd.func36, Tryd.ntmps36
      go_wp2
      go_ret
      exact ⟨ret_bool (by simp [h1, h2]), rfl⟩
  · go_enter Tryd.func36, Tryd.ntmps36
    go_wp2
    go_ret
    exact ⟨ret_bool (by rw [decide_eq_false (show ¬ 0 ≤ x by omega)]; rfl), rfl⟩
theorem place_yes (x : Int) (n : Nat) (h : 0 ≤ x ∧ x < n) (w : World) : Calls Tryd.prog 36 #[.int .i64 x, .int .i64 (n : Int)] w fun e w' => e = .returned (.bool true) ∧ w' = w := by
  have := isPlace_any x n w; rwa [decide_eq_true h] at this
theorem place_no (x : Int) (n : Nat) (h : ¬ (0 ≤ x ∧ x < n)) (w : World) : Calls Tryd.prog 36 #[.int .i64 x, .int .i64 (n : Int)] w fun e w' => e = .returned (.bool false) ∧ w' = w := by
  have := isPlace_any x n w; rwa [decide_eq_false h] at this
theorem seg_null {w : World} {cs : List Value} (h : Seg w none cs) : cs = [] := by
  cases cs with
  | nil => rfl
  | cons v cs => obtain ⟨b, o, e, _⟩ := h 0 v rfl; cases e
/-- What stands at a place of a list of numbers. -/
theorem seg_int {w : World} {a : Option Addr} {l : List Int} (h : Seg w a (l.flatMap intE)) {k : Nat} {x : Int} (hk : l[k]? = some x) : ∃ b o, a = some ⟨b, o, none⟩ ∧ b < w.heap.size ∧ w.cell? ⟨b, o + k, none⟩ = some (.int .i64 x) := h k _ (int_at hk)
end Go.Proofs.YtdjlfpkemdiadaaDoor

/- run: the digits that stand from a place on. -/
import Derived.Test.YtopnbemodlcknaaDoorD1
import Derived.Test.YtopnbemodlcknaaDoorS0
namespace Go.Proofs.YtopnbemodlcknaaDoor
open Go.RowKit M
set_option linter.unusedSimpArgs false
set_option linter.unusedVariables false

theorem drop_get (s : ByteArray) (b j : Nat) (h : b + j < s.size) : (s.data.toList.drop b)[j]? = some s[b + j] := by
  rw [List.getElem?_drop, List.getElem?_eq_getElem (by simpa using h)]; rfl

theorem run_end (s : ByteArray) (b base k : Nat) (hk : b + k ≤ s.size) (h1 : ∀ j, (h : b + j < s.size) → j < k → dig s[b + j].toNat < base)
    (h2 : ∀ h : b + k < s.size, ¬ dig s[b + k].toNat < base) : (s.extract b (b + k)).data.toList = dl base (s.data.toList.drop b) := by
  have hl := sizeL s
  rw [dl_step base (s.data.toList.drop b) k (fun j hj => ⟨s[b + j]'(by omega), drop_get s b j (by omega), by unfold isD; exact decide_eq_true (h1 j (by omega) hj)⟩) ?_ (by rw [List.length_drop]; omega)]
  · rw [exL, List.drop_take]; congr 1; omega
  · intro c hc
    by_cases h : b + k < s.size
    · rw [drop_get s b k h] at hc
      obtain rfl := Option.some.inj hc
      unfold isD; exact decide_eq_false (h2 h)
    · rw [List.getElem?_eq_none (by rw [List.length_drop]; omega)] at hc; cases hc

theorem exSz (s : ByteArray) (b k : Nat) (h : b + k ≤ s.size) : (s.extract b (b + k)).size = k := by rw [ByteArray.size_extract]; omega


set_option maxRecDepth 100000 in
set_option maxHeartbeats 1000000 in
theorem run_any (s : ByteArray) (hs : s.size ≤ maxLen) (b base : Nat) (hb : b ≤ s.size) (hbase : base = 10 ∨ base = 16) (w : World) :
    Calls Tryd.prog 67 #[.string s, .int .i64 b, .int .u64 base] w fun e w' => (∃ D : ByteArray, e = .returned (numV false base D (b + D.size)) ∧ D.data.toList = dl base (s.data.toList.drop b)) ∧ Below w.heap.size w w' := by
  unfold maxLen at hs
  have HB : Hid (base = 10 ∨ base = 16) := hbase
  clear hbase
  go_enter Tryd.func67, Tryd.ntmps67
  go_wp2
  go_loop [7] (fun t => ∃ k : Nat, b + k ≤ s.size ∧ t = .int .i64 ((b + k : Nat) : Int) ∧ Hid (∀ j, (h : b + j < s.size) → j < k → dig s[b + j].toNat < base)) (fun t => s.size - (intOf t).toNat)
  case atStart => exact ⟨0, by omega, rfl, fun j h hj => by omega⟩
  case round =>
    obtain ⟨k, hk, rfl, HK⟩ := hrel
    by_cases hlt : b + k < s.size
    · have hi : ((b + k : Nat) : Int) < s.size := by omega
      have hd := fun w => digit_any s[b + k].toNat s[b + k].toNat_lt w
      by_cases hdd : dig s[b + k].toNat < base
      · have hdi : (dig s[b + k].toNat : Int) < base := by omega
        go_wp2_with (go_at_call 71; refine (hd _).mono ?_; rintro e w' ⟨rfl, hw'⟩; replace hw' := hw'.symm; subst hw')
        go_round
        case rel => exact ⟨k + 1, by omega, by go_num, fun j h hj => if e : j = k then by subst e; exact hdd else HK.out j h (by omega)⟩
        case measure => simp [intOf]; omega
      · have hdi : ¬ (dig s[b + k].toNat : Int) < base := by omega
        have HE : Hid ((s.extract b (b + k)).data.toList = dl base (s.data.toList.drop b)) := run_end s b base k hk HK.out (fun _ => hdd)
        clear HK hdd
        go_wp2_with (go_at_call 71; refine (hd _).mono ?_; rintro e w' ⟨rfl, hw'⟩; replace hw' := hw'.symm; subst hw')
        exact bodyPost_ret (v := .agg #[.bool false, .int .u64 base, .string (s.extract b (b + k)), .int .i64 ((b : Int) + k)]) (by simp [results, Tryd.results67, go_sem]) rfl ⟨⟨s.extract b (b + k), by rw [exSz s b k hk]; unfold numV cellsN cellsNL; rw [Int.natCast_add], HE.out⟩, (Below.refl _ _).alloc (Nat.le_refl _) _⟩
    · have hi : ¬ ((b + k : Nat) : Int) < s.size := by omega
      have HE : Hid ((s.extract b (b + k)).data.toList = dl base (s.data.toList.drop b)) := run_end s b base k hk HK.out (fun h => absurd h hlt)
      clear HK
      go_wp2
      exact bodyPost_ret (v := .agg #[.bool false, .int .u64 base, .string (s.extract b (b + k)), .int .i64 ((b : Int) + k)]) (by simp [results, Tryd.results67, go_sem]) rfl ⟨⟨s.extract b (b + k), by rw [exSz s b k hk]; unfold numV cellsN cellsNL; rw [Int.natCast_add], HE.out⟩, (Below.refl _ _).alloc (Nat.le_refl _) _⟩
end Go.Proofs.YtopnbemodlcknaaDoor

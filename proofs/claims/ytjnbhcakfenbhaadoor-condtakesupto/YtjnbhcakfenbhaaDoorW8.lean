/- The reference's reader of conditions: thread. -/
import Derived.Test.YtjnbhcakfenbhaaDoorW7
namespace Go.Proofs.YtjnbhcakfenbhaaDoor
open Go.RowKit Go.Shelf M
set_option linter.unusedSimpArgs false
set_option linter.unusedVariables false

def thrI (s : ByteArray) : Int := match thrF s.data.toList with
  | some n => n
  | none => -1
theorem ret_thI {i j : Int} (h : i = j) : Ending.returned (.int .i64 i) = .returned (.int .i64 j) := by rw [h]
set_option maxRecDepth 100000 in
set_option maxHeartbeats 2000000 in
theorem rthread_any (s : ByteArray) (hs : s.size ≤ maxLen) (w : World) : Calls Tryd.prog 102 #[.string s] w fun en w' => en = .returned (.int .i64 (thrI s)) ∧ w' = w := by
  unfold maxLen at hs
  have hsz := sizeL s
  obtain ⟨R, hR⟩ : ∃ R, thrI s = R := ⟨_, rfl⟩
  rw [hR]
  have HR : Hid (R = thrI s) := hR.symm
  clear hR
  have HLong : Hid (4 < s.size → R = -1) := fun h => by rw [HR.out]; unfold thrI thrF; rw [if_pos (by rw [← hsz]; omega)]
  have HBad : Hid (digs s.data.toList 0 = none → R = -1) := (by
    intro h
    rw [HR.out]
    unfold thrI thrF
    by_cases h2 : s.data.toList.length = 0 ∨ 4 < s.data.toList.length
    · rw [if_pos h2]
    · rw [if_neg h2, h])
  have HNull : Hid (s.size = 0 → R = -1) := fun h => by rw [HR.out]; unfold thrI thrF; rw [if_pos (by rw [← hsz]; omega)]
  have HGood : Hid (∀ m : Nat, 1 ≤ s.size → s.size ≤ 4 → digs s.data.toList 0 = some m → R = m) := fun m h1 h2 h3 => by rw [HR.out]; unfold thrI thrF; rw [if_neg (by rw [← hsz]; omega), h3]
  clear HR hsz
  go_enter Tryd.func102, Tryd.ntmps102
  go_wp2_with fail
  go_loop [3, 4] (fun n i => ∃ j m : Nat, j ≤ s.size ∧ j ≤ 4 ∧ m < 10 ^ j ∧ i = .int .i64 (j : Int) ∧ n = .int .i64 (m : Int) ∧ Hid (digs s.data.toList 0 = digs (s.data.toList.drop j) m)) (fun _ i => s.size - (intOf i).toNat)
  case atStart => exact ⟨0, 0, Nat.zero_le _, by omega, by decide, rfl, rfl, rfl⟩
  case round =>
    obtain ⟨j, m, hj, hj4, hm, rfl, rfl, HD⟩ := hrel
    have hm2 : m < 10000 := Nat.lt_of_lt_of_le hm (by
      have := Nat.pow_le_pow_right (show 0 < 10 by decide) hj4
      simpa using this)
    by_cases hlt : j < s.size
    · have hi : (j : Int) < s.size := by omega
      have hd := digs_split (s.data.toList.drop j) m
      rw [drop_cons_at s j hlt] at hd
      dsimp only at hd
      have hd2 := HD.out
      rw [drop_cons_at s j hlt] at hd2
      rw [hd] at hd2
      have hb := s[j].toNat_lt
      by_cases hdg : 48 ≤ s[j].toNat ∧ s[j].toNat ≤ 57
      · rw [if_pos hdg] at hd2
        have q1 : ¬ ((s[j].toNat : Int) < 48) := by omega
        have q2 : ¬ ((57 : Int) < s[j].toNat) := by omega
        by_cases h4 : j = 4
        · have HN : Hid (R = -1) := HLong.out (by omega)
          have q3 : (3 : Int) < j := by omega
          clear hd hd2 HD HLong HBad HGood HNull h4
          go_wp2_with fail
          go_ret
          exact ⟨ret_thI HN.out.symm, rfl⟩
        · have q3 : ¬ ((3 : Int) < j) := by omega
          have HD2 : Hid (digs s.data.toList 0 = digs (s.data.toList.drop (j + 1)) (10 * m + (s[j].toNat - 48))) := hd2
          have hm3 : 10 * m + (s[j].toNat - 48) < 10 ^ (j + 1) := (by rw [Nat.pow_succ]; omega)
          have HZ : Hid ((10 : Int) * m + ((s[j].toNat : Int) - 48) = ((10 * m + (s[j].toNat - 48) : Nat) : Int)) := (by show _ = _; omega)
          clear hd hd2 HD hm
          go_wp2_with fail
          refine ⟨⟨j + 1, 10 * m + (s[j].toNat - 48), by omega, by omega, hm3, by go_num, by rw [HZ.out], HD2⟩, ?_⟩
          simp [intOf]; omega
      · rw [if_neg hdg] at hd2
        have HN : Hid (R = -1) := HBad.out hd2
        clear hd hd2 HD HLong HBad HGood HNull
        have hq : ((s[j].toNat : Int) < 48) ∨ (¬ ((s[j].toNat : Int) < 48) ∧ (57 : Int) < s[j].toNat) := by omega
        rcases hq with q1 | ⟨q1, q2⟩
        all_goals go_wp2_with fail
        all_goals go_ret
        all_goals exact ⟨ret_thI HN.out.symm, rfl⟩
    · have hje : j = s.size := by omega
      subst hje
      have hd2 := HD.out
      rw [List.drop_eq_nil_of_le (by rw [← sizeL]; exact Nat.le_refl _)] at hd2
      by_cases h0 : s.size = 0
      · have HN : Hid (R = -1) := HNull.out h0
        have q0 : ((s.size : Int) == 0) = true := by simp [h0]
        clear hd2 HD HLong HBad HGood HNull
        go_wp2_with fail
        go_ret
        exact ⟨ret_thI HN.out.symm, rfl⟩
      · have HN : Hid (R = (m : Int)) := HGood.out m (by omega) hj4 hd2
        have q0 : ((s.size : Int) == 0) = false := beq_eq_false_iff_ne.2 (by omega)
        clear hd2 HD HLong HBad HGood HNull
        go_wp2_with fail
        go_ret
        exact ⟨ret_thI HN.out.symm, rfl⟩
end Go.Proofs.YtjnbhcakfenbhaaDoor

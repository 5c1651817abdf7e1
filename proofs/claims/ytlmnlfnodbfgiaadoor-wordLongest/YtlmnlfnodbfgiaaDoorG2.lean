/- WordLongest: the law's walk. -/
import Derived.Test.YtlmnlfnodbfgiaaDoorF3
import Derived.Test.YtlmnlfnodbfgiaaDoorM3
namespace Go.Proofs.YtlmnlfnodbfgiaaDoor
open Go.RowKit M
set_option linter.unusedSimpArgs false
set_option linter.unusedVariables false

theorem nextA_cases (s : ByteArray) (at' : Int) : (∃ e : Nat, e ≠ 0 ∧ nextA s at' = (0, 0, e)) ∨ (∃ (a n : Nat) (v : Int), at' = (a : Int) ∧ a ≤ s.size ∧ nextA s at' = (v, n, 0) ∧ nextO (s.data.toList.drop a) = (v, n, 0)) := by
  unfold nextA
  by_cases hc : at' < 0 ∨ (s.size : Int) < at'
  · rw [if_pos hc]; exact Or.inl ⟨40, by omega, rfl⟩
  · rw [if_neg hc]
    cases h : nextO (s.data.toList.drop at'.toNat) with
    | mk v p =>
        obtain ⟨n, e⟩ := p
        by_cases he : e = 0
        · subst he
          exact Or.inr ⟨at'.toNat, n, v, by omega, by omega, rfl, h⟩
        · obtain ⟨rfl, rfl⟩ := next_none h he
          exact Or.inl ⟨e, he, rfl⟩

set_option maxRecDepth 100000 in
set_option maxHeartbeats 4000000 in
theorem longest_any (s : ByteArray) (hs : s.size ≤ 140737488355328) (at' : Int) (w : World) (hT : Tabs w) :
    Calls Tryd.prog 5 #[.string s, .int .i64 at'] w fun e w' => e = .returned (.bool true) ∧ Below w.heap.size w w' := by
  have hW := works_any w hT
  have hNx := fun W => next_any s (by unfold maxLen; omega) at' W
  rcases nextA_cases s at' with ⟨e, he, hne⟩ | ⟨a, n, v, rfl, ha, hne, hno⟩
  · rw [hne] at hNx
    have hNx' : ∀ W, Calls Tryd.prog 16 #[.string s, .int .i64 at'] W fun x w' => x = .returned (.tuple #[.int .i64 0, .int .i64 0, .int .i64 (e : Int)]) ∧ Below W.heap.size W w' := hNx
    have he' : ((e : Int) == 0) = false := by simp; omega
    clear hNx hne he
    go_enter Tryd.func5, Tryd.ntmps5
    go_wp2_with (first
      | (go_at_call 13; refine hW.mono ?_; rintro x w1 ⟨rfl, B⟩; clear hW)
      | (go_at_call 16; refine (hNx' _).mono ?_; rintro x w2 ⟨rfl, b2⟩; replace B := B.trans (b2.mono B.size); clear b2)
      | (go_at_call 17; refine (num_any _ _).mono ?_; rintro x w' ⟨rfl, hw'⟩; replace hw' := hw'.symm; subst hw'))
    go_ret
    exact ⟨rfl, B⟩
  · rw [hne] at hNx
    have hNx' : ∀ W, Calls Tryd.prog 16 #[.string s, .int .i64 (a : Int)] W fun x w' => x = .returned (.tuple #[.int .i64 v, .int .i64 (n : Int), .int .i64 0]) ∧ Below W.heap.size W w' := hNx
    obtain ⟨hn1, hnl, hp1, hp2⟩ := parse_at hno
    have hlen := sizeL s
    rw [List.length_drop, ← hlen] at hnl hp2
    have hP1 : ∀ W, Calls Tryd.prog 15 #[.string (s.extract a (a + n))] W fun x w' => x = .returned (.tuple #[.int .i64 v, .int .i64 0]) ∧ Below W.heap.size W w' := fun W => by
      have := parse_any (s.extract a (a + n)) (by rw [ByteArray.size_extract]; unfold maxLen; omega) W
      rw [exL, List.drop_take, show a + n - a = n by omega, hp1] at this
      exact this
    have h0 : (0 : Int) ≤ a := by omega
    have hx1 : (1 : Int) ≤ n := by omega
    have hx2 : (a : Int) ≤ s.size := by omega
    have hx3 : (n : Int) ≤ (s.size : Int) - a := by omega
    have hx4 : (a : Int) + n ≤ s.size := by omega
    clear hNx hne hno hp1 hlen
    by_cases hend : a + n = s.size
    · have hee : ((a : Int) + (n : Int) == (s.size : Int)) = true := by simp; omega
      clear hp2 hend
      go_enter Tryd.func5, Tryd.ntmps5
      go_wp2_with (first
        | (go_at_call 13; refine hW.mono ?_; rintro x w1 ⟨rfl, B⟩; clear hW)
        | (go_at_call 16; refine (hNx' _).mono ?_; rintro x w2 ⟨rfl, b2⟩; replace B := B.trans (b2.mono B.size); clear b2)
        | (go_at_call 15; refine (hP1 _).mono ?_; rintro x w3 ⟨rfl, b3⟩; replace B := B.trans (b3.mono B.size); clear b3)
        | (go_at_call 17; refine (num_any _ _).mono ?_; rintro x w' ⟨rfl, hw'⟩; replace hw' := hw'.symm; subst hw'))
      go_ret
      exact ⟨rfl, B⟩
    · have hee : ((a : Int) + (n : Int) == (s.size : Int)) = false := by simp; omega
      have hp3 := hp2 (by omega)
      obtain ⟨y, hy⟩ : ∃ y, (parseO ((s.data.toList.drop a).take (n + 1))).1 = y := ⟨_, rfl⟩
      have hP2 : ∀ W, Calls Tryd.prog 15 #[.string (s.extract a (a + n + 1))] W fun x w' => x = .returned (.tuple #[.int .i64 y, .int .i64 40]) ∧ Below W.heap.size W w' := fun W => by
        have := parse_any (s.extract a (a + n + 1)) (by rw [ByteArray.size_extract]; unfold maxLen; omega) W
        rw [exL, List.drop_take, show a + n + 1 - a = n + 1 by omega] at this
        unfold parseV at this
        rw [hy, hp3] at this
        exact this
      have hx5 : (a : Int) + n + 1 ≤ s.size := by omega
      have tP : True := trivial
      clear hp2 hp3 hy hend
      go_enter Tryd.func5, Tryd.ntmps5
      go_wp2_with (first
        | (go_at_call 13; refine hW.mono ?_; rintro x w1 ⟨rfl, B⟩; clear hW)
        | (go_at_call 16; refine (hNx' _).mono ?_; rintro x w2 ⟨rfl, b2⟩; replace B := B.trans (b2.mono B.size); clear b2)
        | (have := tP; go_at_call 15; refine (hP1 _).mono ?_; clear tP this; rintro x w3 ⟨rfl, b3⟩; replace B := B.trans (b3.mono B.size); clear b3)
        | (go_at_call 15; refine (hP2 _).mono ?_; rintro x w4 ⟨rfl, b4⟩; replace B := B.trans (b4.mono B.size); clear b4)
        | (go_at_call 17; refine (num_any _ _).mono ?_; rintro x w' ⟨rfl, hw'⟩; replace hw' := hw'.symm; subst hw'))
      go_ret
      exact ⟨rfl, B⟩
end Go.Proofs.YtlmnlfnodbfgiaaDoor

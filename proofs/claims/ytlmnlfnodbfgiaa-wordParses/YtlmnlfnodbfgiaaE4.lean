/- The reference's Parse, and the law WordParses. -/
import Derived.Test.YtlmnlfnodbfgiaaE3
namespace Go.Proofs.Ytlmnlfnodbfgiaa
open Go.RowKit M
set_option linter.unusedSimpArgs false
set_option linter.unusedVariables false

set_option maxRecDepth 100000 in
set_option maxHeartbeats 2000000 in
theorem rparse_any (s : ByteArray) (hs : s.size ≤ maxLen) (w : World) :
    Calls Try.prog 6 #[.string s] w fun e w' => e = .returned (parseV (parseO s.data.toList)) ∧ w' = w := by
  have hs' := hs
  unfold maxLen at hs'
  have hN := fun w => rnext_any s hs 0 w
  have e0 : nextA s 0 = nextO s.data.toList := by unfold nextA; rw [if_neg (by omega)]; rfl
  rw [e0] at hN
  clear e0
  have hsz := sizeL s
  have hll := lenF_le s.data.toList
  by_cases hd : digF s.data.toList = []
  · have hn0 : nextO s.data.toList = (0, 0, 40) := by unfold nextO; rw [if_pos hd]
    rw [hn0] at hN
    have hN' : ∀ w, Calls Try.prog 8 #[.string s, .int .i64 0] w fun e w' => e = .returned (.tuple #[.int .i64 0, .int .i64 0, .int .i64 40]) ∧ w' = w := hN
    have HR : Hid (parseO s.data.toList = (0, 40)) := by show parseO _ = _; unfold parseO; rw [if_pos (Or.inl hd)]
    clear hN hn0 hd hll hsz
    go_enter Try.func6, Try.ntmps6
    go_wp2_with (go_at_call 8; refine (hN' _).mono ?_; rintro e w' ⟨rfl, hw'⟩; replace hw' := hw'.symm; subst hw')
    go_ret2
    exact ⟨by rw [HR.out]; rfl, rfl⟩
  have hW := fun w => whole_any s hs hd w
  have hn0 : nextO s.data.toList = nNum (lenF s.data.toList) (numF s.data.toList) := by unfold nextO; rw [if_neg hd]
  have hp0 : parseO s.data.toList = if lenF s.data.toList ≠ s.size then (0, 40) else pNum (numF s.data.toList) := by
    unfold parseO
    by_cases h : lenF s.data.toList ≠ s.size
    · rw [if_pos h, if_pos (Or.inr (by rw [← hsz]; exact h))]
    · rw [if_neg h, if_neg (by rw [← hsz]; exact fun hh => hh.elim hd h)]
  rw [hn0] at hN
  have HP0 : Hid (parseO s.data.toList = if lenF s.data.toList ≠ s.size then (0, 40) else pNum (numF s.data.toList)) := hp0
  obtain ⟨L, hL⟩ : ∃ L, lenF s.data.toList = L := ⟨_, rfl⟩
  obtain ⟨o, ho⟩ : ∃ o, numF s.data.toList = o := ⟨_, rfl⟩
  rw [hL] at hN hW HP0 hll
  rw [ho] at hN HP0
  rw [← hsz] at hll
  clear hp0 hn0 hL ho hd hsz
  have hcmp : ((L : Int) == (s.size : Int)) = decide (L = s.size) := by
    rw [Bool.eq_iff_iff]; simp; omega
  by_cases hLs : L = s.size
  · have hc : ((L : Int) == (s.size : Int)) = true := by rw [hcmp]; exact decide_eq_true hLs
    have HR : Hid (parseO s.data.toList = pNum o) := by show parseO _ = _; rw [HP0.out, if_neg (fun h => h hLs)]
    clear hcmp hLs HP0
    cases o with
    | none =>
        have hN' : ∀ w, Calls Try.prog 8 #[.string s, .int .i64 0] w fun e w' => e = .returned (.tuple #[.int .i64 0, .int .i64 0, .int .i64 41]) ∧ w' = w := hN
        clear hN
        go_enter Try.func6, Try.ntmps6
        go_wp2_with (first
          | (go_at_call 8; refine (hN' _).mono ?_; rintro e w' ⟨rfl, hw'⟩; replace hw' := hw'.symm; subst hw')
          | (go_at_call 16; refine (hW _).mono ?_; rintro e w' ⟨rfl, hw'⟩; replace hw' := hw'.symm; subst hw'))
        go_ret2
        exact ⟨by rw [HR.out]; rfl, rfl⟩
    | some v =>
        have hN' : ∀ w, Calls Try.prog 8 #[.string s, .int .i64 0] w fun e w' => e = .returned (.tuple #[.int .i64 v, .int .i64 (L : Int), .int .i64 0]) ∧ w' = w := hN
        clear hN
        go_enter Try.func6, Try.ntmps6
        go_wp2_with (first
          | (go_at_call 8; refine (hN' _).mono ?_; rintro e w' ⟨rfl, hw'⟩; replace hw' := hw'.symm; subst hw'))
        go_ret2
        exact ⟨by rw [HR.out]; rfl, rfl⟩
  · have hc : ((L : Int) == (s.size : Int)) = false := by rw [hcmp]; exact decide_eq_false hLs
    have HR : Hid (parseO s.data.toList = (0, 40)) := by show parseO _ = _; rw [HP0.out, if_pos hLs]
    clear hcmp hLs HP0
    cases o with
    | none =>
        have hN' : ∀ w, Calls Try.prog 8 #[.string s, .int .i64 0] w fun e w' => e = .returned (.tuple #[.int .i64 0, .int .i64 0, .int .i64 41]) ∧ w' = w := hN
        clear hN
        go_enter Try.func6, Try.ntmps6
        go_wp2_with (first
          | (go_at_call 8; refine (hN' _).mono ?_; rintro e w' ⟨rfl, hw'⟩; replace hw' := hw'.symm; subst hw')
          | (go_at_call 16; refine (hW _).mono ?_; rintro e w' ⟨rfl, hw'⟩; replace hw' := hw'.symm; subst hw'))
        go_ret2
        exact ⟨by rw [HR.out]; rfl, rfl⟩
    | some v =>
        have hN' : ∀ w, Calls Try.prog 8 #[.string s, .int .i64 0] w fun e w' => e = .returned (.tuple #[.int .i64 v, .int .i64 (L : Int), .int .i64 0]) ∧ w' = w := hN
        clear hN
        go_enter Try.func6, Try.ntmps6
        go_wp2_with (first
          | (go_at_call 8; refine (hN' _).mono ?_; rintro e w' ⟨rfl, hw'⟩; replace hw' := hw'.symm; subst hw'))
        go_ret2
        exact ⟨by rw [HR.out]; rfl, rfl⟩

set_option maxRecDepth 100000 in
set_option maxHeartbeats 2000000 in
theorem parses_any (s : ByteArray) (hs : s.size ≤ maxLen) (at' : Int) (w : World) :
    Calls Try.prog 3 #[.string s, .int .i64 at'] w fun e w' => e = .returned (.bool true) ∧ Below w.heap.size w w' := by
  have h1 := fun w => parse_any s hs w
  have h2 := fun w => rparse_any s hs w
  have h3 := fun w => next_any s hs at' w
  have h4 := fun w => rnext_any s hs at' w
  obtain ⟨a, b, hp⟩ : ∃ a b : Int, parseV (parseO s.data.toList) = .tuple #[.int .i64 a, .int .i64 b] := ⟨_, _, rfl⟩
  obtain ⟨c, d, f, hn⟩ : ∃ c d f : Int, nextV (nextA s at') = .tuple #[.int .i64 c, .int .i64 d, .int .i64 f] := ⟨_, _, _, rfl⟩
  rw [hp] at h1 h2
  rw [hn] at h3 h4
  clear hp hn
  go_enter Try.func3, Try.ntmps3
  go_wp2_with (first
    | (go_at_call 5; refine (h1 _).mono ?_; rintro e w1 ⟨rfl, hb1⟩)
    | (go_at_call 6; refine (h2 _).mono ?_; rintro e w' ⟨rfl, hw'⟩; replace hw' := hw'.symm; subst hw')
    | (go_at_call 7; refine (h3 _).mono ?_; rintro e w2 ⟨rfl, hb2⟩)
    | (go_at_call 8; refine (h4 _).mono ?_; rintro e w' ⟨rfl, hw'⟩; replace hw' := hw'.symm; subst hw')
    | (go_at_call 9; refine (num_any _ _).mono ?_; rintro e w' ⟨rfl, hw'⟩; replace hw' := hw'.symm; subst hw'))
  go_ret
  exact ⟨rfl, hb1.trans (hb2.mono hb1.size)⟩
end Go.Proofs.Ytlmnlfnodbfgiaa

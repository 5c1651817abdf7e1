/- The reference's name; both Names. -/
import Derived.Test.YtopnbemodlcknaaDoorX3
namespace Go.Proofs.YtopnbemodlcknaaDoor
open Go.RowKit M
set_option linter.unusedSimpArgs false
set_option linter.unusedVariables false

set_option maxRecDepth 100000 in
set_option maxHeartbeats 4000000 in
theorem rname_any (s : ByteArray) (hs : s.size ≤ maxLen) (p : Nat) (hp : p ≤ s.size) (w : World) : Calls Tryd.prog 31 #[.string s, .int .i64 (p : Int)] w fun e w' => e = .returned (.int .i64 (nameLen (s.data.toList.drop p) : Nat)) ∧ w' = w := by
  unfold maxLen at hs
  by_cases h0 : p < s.size
  · have hi0 : (p : Int) < s.size := by omega
    have hge : ¬ (s.size ≤ p) := by omega
    have hge2 : ¬ ((s.size : Int) ≤ p) := by omega
    have hL0 := fun w => rletter_any s[p].toNat s[p].toNat_lt w
    cases a : letN s[p].toNat with
    | false =>
      have hE : Hid (nameLen (s.data.toList.drop p) = 0) := len_stop s p h0 a
      rw [a] at hL0
      clear a
      go_enter Tryd.func31, Tryd.ntmps31
      go_wp2_with (go_at_call 30; refine (hL0 _).mono ?_; rintro e w' ⟨rfl, hw'⟩; replace hw' := hw'.symm; subst hw')
      go_ret
      exact ⟨by rw [hE.out]; rfl, rfl⟩
    | true =>
      have hE : Hid (nameLen (s.data.toList.drop p) = 1 + nameRun (s.data.toList.drop (p + 1))) := len_go s p h0 a
      rw [a] at hL0
      clear a
      go_enter Tryd.func31, Tryd.ntmps31
      go_wp2_with (go_at_call 30; refine (hL0 _).mono ?_; rintro e w' ⟨rfl, hw'⟩; replace hw' := hw'.symm; subst hw')
      go_loop [5, 6, 7] (fun t _ _ => ∃ n : Nat, 1 ≤ n ∧ p + n ≤ s.size ∧ t = .int .i64 (n : Int) ∧ Hid (nameLen (s.data.toList.drop p) = n + nameRun (s.data.toList.drop (p + n)))) (fun t _ _ => s.size - (intOf t).toNat)
      case atStart => exact ⟨1, by omega, by omega, rfl, hE⟩
      case round =>
        obtain ⟨n, h1, hn, rfl, HN⟩ := hrel
        clear hL0 hE
        by_cases hlt : p + n < s.size
        · have hi : (p : Int) + n < s.size := by omega
          have hL := fun w => rletter_any s[p + n].toNat s[p + n].toNat_lt w
          have hD := fun w => rdigit_any s[p + n].toNat s[p + n].toNat_lt w
          by_cases go : (innN s[p + n].toNat || joinsB (s.data.toList.drop (p + n))) = true
          · have HG : Hid (nameLen (s.data.toList.drop p) = n + 1 + nameRun (s.data.toList.drop (p + (n + 1)))) := (by show nameLen _ = _; rw [HN.out, run_go s (p + n) hlt go, Nat.add_assoc p n 1]; omega)
            clear HN
            cases a : letN s[p + n].toNat with
            | true =>
              have x1 : ((s[p + n].toNat : Int) == 43) = false := (by have := a; simp [letN] at this; simp; omega)
              have x2 : ((s[p + n].toNat : Int) == 45) = false := (by have := a; simp [letN] at this; simp; omega)
              rw [a] at hL
              clear a go
              go_wp2_with (first
                | (go_at_call 30; refine (hL _).mono ?_; rintro e w' ⟨rfl, hw'⟩; replace hw' := hw'.symm; subst hw'))
              go_round
              case rel => exact ⟨n + 1, by omega, by omega, by go_num, HG⟩
              case measure => simp [intOf]; omega
            | false =>
              cases b : digN s[p + n].toNat with
              | true =>
                have x1 : ((s[p + n].toNat : Int) == 43) = false := (by have := b; simp [digN] at this; simp; omega)
                have x2 : ((s[p + n].toNat : Int) == 45) = false := (by have := b; simp [digN] at this; simp; omega)
                rw [a] at hL
                rw [b] at hD
                clear a b go
                go_wp2_with (first
                  | (go_at_call 30; refine (hL _).mono ?_; rintro e w' ⟨rfl, hw'⟩; replace hw' := hw'.symm; subst hw')
                  | (go_at_call 32; refine (hD _).mono ?_; rintro e w' ⟨rfl, hw'⟩; replace hw' := hw'.symm; subst hw'))
                go_round
                case rel => exact ⟨n + 1, by omega, by omega, by go_num, HG⟩
                case measure => simp [intOf]; omega
              | false =>
                have hI : innN s[p + n].toNat = decide (s[p + n].toNat = 46) := by simp [innN, a, b]
                rw [a] at hL
                rw [b] at hD
                rw [hI] at go
                clear a b hI
                by_cases hdot : s[p + n].toNat = 46
                · have x0 : ((s[p + n].toNat : Int) == 46) = true := (by simp; omega)
                  have x1 : ((s[p + n].toNat : Int) == 43) = false := (by simp; omega)
                  have x2 : ((s[p + n].toNat : Int) == 45) = false := (by simp; omega)
                  clear go hdot
                  go_wp2_with (first
                    | (go_at_call 30; refine (hL _).mono ?_; rintro e w' ⟨rfl, hw'⟩; replace hw' := hw'.symm; subst hw')
                    | (go_at_call 32; refine (hD _).mono ?_; rintro e w' ⟨rfl, hw'⟩; replace hw' := hw'.symm; subst hw'))
                  go_round
                  case rel => exact ⟨n + 1, by omega, by omega, by go_num, HG⟩
                  case measure => simp [intOf]; omega
                · have x0 : ((s[p + n].toNat : Int) == 46) = false := (by simp; omega)
                  rw [decide_eq_false hdot, Bool.false_or] at go
                  by_cases hpm : s[p + n].toNat = 43 ∨ s[p + n].toNat = 45
                  · by_cases hnx : p + n + 1 < s.size
                    · have hix : (p : Int) + n + 1 < s.size := by omega
                      have hL1 := fun w => rletter_any s[p + n + 1].toNat s[p + n + 1].toNat_lt w
                      have hD1 := fun w => rdigit_any s[p + n + 1].toNat s[p + n + 1].toNat_lt w
                      have ej : joinsB (s.data.toList.drop (p + n)) = (letN s[p + n + 1].toNat || digN s[p + n + 1].toNat) := (by rw [drop_cons s (p + n) hlt, drop_cons s (p + n + 1) hnx]; show (decide _ && _) = _; rw [decide_eq_true hpm, Bool.true_and])
                      rw [ej] at go
                      clear ej
                      have t1 : True := trivial
                      have t2 : True := trivial
                      cases c : letN s[p + n + 1].toNat with
                      | true =>
                        rw [c] at hL1
                        clear c go
                        rcases hpm with hpm | hpm
                        · have x1 : ((s[p + n].toNat : Int) == 43) = true := (by simp; omega)
                          have x2 : ((s[p + n].toNat : Int) == 45) = false := (by simp; omega)
                          clear hpm hdot
                          go_wp2_with (first
                            | (go_at_call 30; clear t1; refine (hL _).mono ?_; rintro e w' ⟨rfl, hw'⟩; replace hw' := hw'.symm; subst hw')
                            | (go_at_call 32; refine (hD _).mono ?_; rintro e w' ⟨rfl, hw'⟩; replace hw' := hw'.symm; subst hw')
                            | (go_at_call 30; refine (hL1 _).mono ?_; rintro e w' ⟨rfl, hw'⟩; replace hw' := hw'.symm; subst hw'))
                          go_round
                          case rel => exact ⟨n + 1, by omega, by omega, by go_num, HG⟩
                          case measure => simp [intOf]; omega
                        · have x1 : ((s[p + n].toNat : Int) == 43) = false := (by simp; omega)
                          have x2 : ((s[p + n].toNat : Int) == 45) = true := (by simp; omega)
                          clear hpm hdot
                          go_wp2_with (first
                            | (go_at_call 30; clear t1; refine (hL _).mono ?_; rintro e w' ⟨rfl, hw'⟩; replace hw' := hw'.symm; subst hw')
                            | (go_at_call 32; refine (hD _).mono ?_; rintro e w' ⟨rfl, hw'⟩; replace hw' := hw'.symm; subst hw')
                            | (go_at_call 30; refine (hL1 _).mono ?_; rintro e w' ⟨rfl, hw'⟩; replace hw' := hw'.symm; subst hw'))
                          go_round
                          case rel => exact ⟨n + 1, by omega, by omega, by go_num, HG⟩
                          case measure => simp [intOf]; omega
                      | false =>
                        have d : digN s[p + n + 1].toNat = true := by simpa [c] using go
                        rw [c] at hL1
                        rw [d] at hD1
                        clear c d go
                        rcases hpm with hpm | hpm
                        · have x1 : ((s[p + n].toNat : Int) == 43) = true := (by simp; omega)
                          have x2 : ((s[p + n].toNat : Int) == 45) = false := (by simp; omega)
                          clear hpm hdot
                          go_wp2_with (first
                            | (go_at_call 30; clear t1; refine (hL _).mono ?_; rintro e w' ⟨rfl, hw'⟩; replace hw' := hw'.symm; subst hw')
                            | (go_at_call 32; clear t2; refine (hD _).mono ?_; rintro e w' ⟨rfl, hw'⟩; replace hw' := hw'.symm; subst hw')
                            | (go_at_call 30; refine (hL1 _).mono ?_; rintro e w' ⟨rfl, hw'⟩; replace hw' := hw'.symm; subst hw')
                            | (go_at_call 32; refine (hD1 _).mono ?_; rintro e w' ⟨rfl, hw'⟩; replace hw' := hw'.symm; subst hw'))
                          go_round
                          case rel => exact ⟨n + 1, by omega, by omega, by go_num, HG⟩
                          case measure => simp [intOf]; omega
                        · have x1 : ((s[p + n].toNat : Int) == 43) = false := (by simp; omega)
                          have x2 : ((s[p + n].toNat : Int) == 45) = true := (by simp; omega)
                          clear hpm hdot
                          go_wp2_with (first
                            | (go_at_call 30; clear t1; refine (hL _).mono ?_; rintro e w' ⟨rfl, hw'⟩; replace hw' := hw'.symm; subst hw')
                            | (go_at_call 32; clear t2; refine (hD _).mono ?_; rintro e w' ⟨rfl, hw'⟩; replace hw' := hw'.symm; subst hw')
                            | (go_at_call 30; refine (hL1 _).mono ?_; rintro e w' ⟨rfl, hw'⟩; replace hw' := hw'.symm; subst hw')
                            | (go_at_call 32; refine (hD1 _).mono ?_; rintro e w' ⟨rfl, hw'⟩; replace hw' := hw'.symm; subst hw'))
                          go_round
                          case rel => exact ⟨n + 1, by omega, by omega, by go_num, HG⟩
                          case measure => simp [intOf]; omega
                    · have hix : ¬ (p : Int) + n + 1 < s.size := by omega
                      have ej : joinsB (s.data.toList.drop (p + n)) = false := (by rw [drop_cons s (p + n) hlt, drop_end s (p + n + 1) (by omega)]; rfl)
                      rw [ej] at go
                      cases go
                  · have x1 : ((s[p + n].toNat : Int) == 43) = false := (by simp; omega)
                    have x2 : ((s[p + n].toNat : Int) == 45) = false := (by simp; omega)
                    have ej : joinsB (s.data.toList.drop (p + n)) = false := (by rw [drop_cons s (p + n) hlt]; cases e : s.data.toList.drop (p + n + 1) with | nil => rfl | cons y r => show (decide _ && _) = _; rw [decide_eq_false hpm, Bool.false_and])
                    rw [ej] at go
                    cases go
          · have HG : Hid (nameLen (s.data.toList.drop p) = n) := (by show nameLen _ = _; rw [HN.out, run_stop s (p + n) hlt (by simpa using go)]; rfl)
            clear HN
            cases a : letN s[p + n].toNat with
            | true =>
              exact absurd (show (innN s[p + n].toNat || joinsB (s.data.toList.drop (p + n))) = true by simp [innN, a]) go
            | false =>
              cases b : digN s[p + n].toNat with
              | true =>
                exact absurd (show (innN s[p + n].toNat || joinsB (s.data.toList.drop (p + n))) = true by simp [innN, b]) go
              | false =>
                have hI : innN s[p + n].toNat = decide (s[p + n].toNat = 46) := by simp [innN, a, b]
                rw [a] at hL
                rw [b] at hD
                rw [hI] at go
                clear a b hI
                by_cases hdot : s[p + n].toNat = 46
                · exact absurd (by simp [hdot]) go
                · have x0 : ((s[p + n].toNat : Int) == 46) = false := (by simp; omega)
                  rw [decide_eq_false hdot, Bool.false_or] at go
                  by_cases hpm : s[p + n].toNat = 43 ∨ s[p + n].toNat = 45
                  · by_cases hnx : p + n + 1 < s.size
                    · have hix : (p : Int) + n + 1 < s.size := by omega
                      have hL1 := fun w => rletter_any s[p + n + 1].toNat s[p + n + 1].toNat_lt w
                      have hD1 := fun w => rdigit_any s[p + n + 1].toNat s[p + n + 1].toNat_lt w
                      have ej : joinsB (s.data.toList.drop (p + n)) = (letN s[p + n + 1].toNat || digN s[p + n + 1].toNat) := (by rw [drop_cons s (p + n) hlt, drop_cons s (p + n + 1) hnx]; show (decide _ && _) = _; rw [decide_eq_true hpm, Bool.true_and])
                      rw [ej] at go
                      clear ej
                      have t1 : True := trivial
                      have t2 : True := trivial
                      have c : letN s[p + n + 1].toNat = false := (by revert go; cases letN s[p + n + 1].toNat <;> simp)
                      have d : digN s[p + n + 1].toNat = false := (by revert go; cases digN s[p + n + 1].toNat <;> simp)
                      
                      rw [c] at hL1
                      rw [d] at hD1
                      clear c d go
                      rcases hpm with hpm | hpm
                      · have x1 : ((s[p + n].toNat : Int) == 43) = true := (by simp; omega)
                        have x2 : ((s[p + n].toNat : Int) == 45) = false := (by simp; omega)
                        clear hpm hdot
                        go_wp2_with (first
                          | (go_at_call 30; clear t1; refine (hL _).mono ?_; rintro e w' ⟨rfl, hw'⟩; replace hw' := hw'.symm; subst hw')
                          | (go_at_call 32; clear t2; refine (hD _).mono ?_; rintro e w' ⟨rfl, hw'⟩; replace hw' := hw'.symm; subst hw')
                          | (go_at_call 30; refine (hL1 _).mono ?_; rintro e w' ⟨rfl, hw'⟩; replace hw' := hw'.symm; subst hw')
                          | (go_at_call 32; refine (hD1 _).mono ?_; rintro e w' ⟨rfl, hw'⟩; replace hw' := hw'.symm; subst hw'))
                        go_ret
                        exact ⟨by rw [HG.out]; rfl, rfl⟩
                      · have x1 : ((s[p + n].toNat : Int) == 43) = false := (by simp; omega)
                        have x2 : ((s[p + n].toNat : Int) == 45) = true := (by simp; omega)
                        clear hpm hdot
                        go_wp2_with (first
                          | (go_at_call 30; clear t1; refine (hL _).mono ?_; rintro e w' ⟨rfl, hw'⟩; replace hw' := hw'.symm; subst hw')
                          | (go_at_call 32; clear t2; refine (hD _).mono ?_; rintro e w' ⟨rfl, hw'⟩; replace hw' := hw'.symm; subst hw')
                          | (go_at_call 30; refine (hL1 _).mono ?_; rintro e w' ⟨rfl, hw'⟩; replace hw' := hw'.symm; subst hw')
                          | (go_at_call 32; refine (hD1 _).mono ?_; rintro e w' ⟨rfl, hw'⟩; replace hw' := hw'.symm; subst hw'))
                        go_ret
                        exact ⟨by rw [HG.out]; rfl, rfl⟩
                    · have hix : ¬ (p : Int) + n + 1 < s.size := by omega
                      have ej : joinsB (s.data.toList.drop (p + n)) = false := (by rw [drop_cons s (p + n) hlt, drop_end s (p + n + 1) (by omega)]; rfl)
                      clear ej go
                      rcases hpm with hpm | hpm
                      · have x1 : ((s[p + n].toNat : Int) == 43) = true := (by simp; omega)
                        have x2 : ((s[p + n].toNat : Int) == 45) = false := (by simp; omega)
                        clear hpm hdot
                        go_wp2_with (first
                          | (go_at_call 30; refine (hL _).mono ?_; rintro e w' ⟨rfl, hw'⟩; replace hw' := hw'.symm; subst hw')
                          | (go_at_call 32; refine (hD _).mono ?_; rintro e w' ⟨rfl, hw'⟩; replace hw' := hw'.symm; subst hw'))
                        go_ret
                        exact ⟨by rw [HG.out]; rfl, rfl⟩
                      · have x1 : ((s[p + n].toNat : Int) == 43) = false := (by simp; omega)
                        have x2 : ((s[p + n].toNat : Int) == 45) = true := (by simp; omega)
                        clear hpm hdot
                        go_wp2_with (first
                          | (go_at_call 30; refine (hL _).mono ?_; rintro e w' ⟨rfl, hw'⟩; replace hw' := hw'.symm; subst hw')
                          | (go_at_call 32; refine (hD _).mono ?_; rintro e w' ⟨rfl, hw'⟩; replace hw' := hw'.symm; subst hw'))
                        go_ret
                        exact ⟨by rw [HG.out]; rfl, rfl⟩
                  · have x1 : ((s[p + n].toNat : Int) == 43) = false := (by simp; omega)
                    have x2 : ((s[p + n].toNat : Int) == 45) = false := (by simp; omega)
                    clear go hpm hdot
                    go_wp2_with (first
                      | (go_at_call 30; refine (hL _).mono ?_; rintro e w' ⟨rfl, hw'⟩; replace hw' := hw'.symm; subst hw')
                      | (go_at_call 32; refine (hD _).mono ?_; rintro e w' ⟨rfl, hw'⟩; replace hw' := hw'.symm; subst hw'))
                    go_ret
                    exact ⟨by rw [HG.out]; rfl, rfl⟩
        · have hi : ¬ (p : Int) + n < s.size := by omega
          have HG : Hid (nameLen (s.data.toList.drop p) = n) := (by show nameLen _ = _; rw [HN.out, drop_end s (p + n) (by omega)]; rfl)
          clear HN
          go_wp2
          go_ret
          exact ⟨by rw [HG.out]; rfl, rfl⟩
  · have hi0 : ¬ (p : Int) < s.size := by omega
    have hE : Hid (nameLen (s.data.toList.drop p) = 0) := (by show nameLen _ = _; rw [drop_end s p (by omega)]; rfl)
    go_enter Tryd.func31, Tryd.ntmps31
    go_wp2
    go_ret
    exact ⟨by rw [hE.out]; rfl, rfl⟩
end Go.Proofs.YtopnbemodlcknaaDoor

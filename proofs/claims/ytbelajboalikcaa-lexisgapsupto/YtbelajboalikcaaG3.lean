/- gap: blanks alone, with comments that are closed. -/
import Derived.Test.YtbelajboalikcaaG2
namespace Go.Proofs.Ytbelajboalikcaa.Gp
open Go.RowKit Go.Shelf Go.Proofs.Ytbelajboalikcaa M
set_option linter.unusedSimpArgs false
set_option linter.unusedVariables false

theorem gap_open {l : List UInt8} (h : opB l = true) (d : Nat) : gapF l d = gapF (l.drop 2) (d + 1) := by
  match l, h with
  | a :: b :: r, h => rw [gapF_two, if_pos (by simpa [opB] using h)]; rfl
theorem gap_close {l : List UInt8} (h : clB l = true) {d : Nat} (hd : 0 < d) : gapF l d = gapF (l.drop 2) (d - 1) := by
  match l, h with
  | a :: b :: r, h =>
    have h' : a.toNat = 42 ∧ b.toNat = 41 := by simpa [clB] using h
    rw [gapF_two, if_neg (by omega), if_pos ⟨hd, h'⟩]; rfl
theorem gap_skip {c : UInt8} {r : List UInt8} (h1 : opB (c :: r) = false) {d : Nat} (h2 : 0 < d → clB (c :: r) = false) (h3 : 0 < d ∨ blkN c.toNat = true) : gapF (c :: r) d = gapF r d := by
  match r, h1, h2 with
  | [], _, _ =>
    by_cases hd : d = 0
    · subst hd
      have : blkN c.toNat = true := by rcases h3 with h | h; omega; exact h
      simp [gapF, this]
    · simp [gapF, hd]
  | b :: r, h1, h2 =>
    have e1 : ¬ (c.toNat = 40 ∧ b.toNat = 42) := by simpa [opB] using h1
    have e2 : 0 < d → ¬ (c.toNat = 42 ∧ b.toNat = 41) := fun h => by simpa [clB] using h2 h
    rw [gapF_two, if_neg e1, if_neg (fun h => e2 h.1 h.2), if_neg]
    rintro ⟨h, h'⟩
    rcases h3 with h3 | h3
    · omega
    · rw [h3] at h'; cases h'
theorem gap_no {c : UInt8} {r : List UInt8} (h1 : opB (c :: r) = false) (h3 : blkN c.toNat = false) : gapF (c :: r) 0 = false := by
  match r, h1 with
  | [], _ => simp [gapF, h3]
  | b :: r, h1 =>
    have e1 : ¬ (c.toNat = 40 ∧ b.toNat = 42) := by simpa [opB] using h1
    rw [gapF_two, if_neg e1, if_neg (fun h => by omega), if_pos ⟨rfl, h3⟩]

set_option maxRecDepth 100000 in
set_option maxHeartbeats 4000000 in
theorem gap_any (s : ByteArray) (hs : s.size < 4611686018427387904) (w : World) :
    Calls Try.prog 26 #[.string s] w fun e w' => e = .returned (.bool (gapF s.data.toList 0)) ∧ w' = w := by
  obtain ⟨R, hR⟩ : ∃ R, gapF s.data.toList 0 = R := ⟨_, rfl⟩
  rw [hR]
  have HR : Hid (gapF s.data.toList 0 = R) := hR
  clear hR
  go_enter Try.func26, Try.ntmps26
  go_wp2
  go_loop [3, 4, 5, 17, 36, 59] (fun t u _ _ _ _ => ∃ d k : Nat, k ≤ s.size ∧ d ≤ k ∧ t = .int .i64 (d : Int) ∧ u = .int .i64 (k : Int) ∧ Hid (gapF (s.data.toList.drop k) d = R)) (fun _ t _ _ _ _ => s.size - (intOf t).toNat)
  case atStart => exact ⟨0, 0, by omega, by omega, rfl, rfl, HR⟩
  case round =>
    obtain ⟨d, k, hk, hdk, rfl, rfl, HK⟩ := hrel
    clear HR
    by_cases hlt : k < s.size
    · have hi : (k : Int) < s.size := by omega
      have ed := drop_cons s k hlt
      by_cases htw : k + 1 < s.size
      · have hi1 : (k : Int) + 1 < s.size := by omega
        have ed2 := drop_cons s (k + 1) htw
        have eo : opB (s.data.toList.drop k) = decide (s[k].toNat = 40 ∧ s[k + 1].toNat = 42) := by rw [ed, ed2]; rfl
        have ec : clB (s.data.toList.drop k) = decide (s[k].toNat = 42 ∧ s[k + 1].toNat = 41) := by rw [ed, ed2]; rfl
        by_cases o : s[k].toNat = 40 ∧ s[k + 1].toNat = 42
        · have HN : Hid (gapF (s.data.toList.drop (k + 2)) (d + 1) = R) := (by
            have e := HK.out
            rw [gap_open (by rw [eo]; exact decide_eq_true o), List.drop_drop] at e
            exact e)
          have f40 : ((s[k].toNat : Int) == 40) = true := (by simp; omega)
          have g42 : ((s[k + 1].toNat : Int) == 42) = true := (by simp; omega)
          clear HK ed ed2 eo ec o
          go_wp2
          go_round
          case rel => exact ⟨d + 1, k + 2, by omega, by omega, by go_num, by go_num, HN⟩
          case measure => simp [intOf]; omega
        · have o1 : opB (s[k] :: s.data.toList.drop (k + 1)) = false := by rw [← ed, eo]; exact decide_eq_false o
          by_cases c : 0 < d ∧ s[k].toNat = 42 ∧ s[k + 1].toNat = 41
          · have HN : Hid (gapF (s.data.toList.drop (k + 2)) (d - 1) = R) := (by
              have e := HK.out
              rw [gap_close (by rw [ec]; exact decide_eq_true c.2) c.1, List.drop_drop] at e
              exact e)
            have f40 : ((s[k].toNat : Int) == 40) = false := (by simp; omega)
            have hdp : (0 : Int) < d := by omega
            have f42 : ((s[k].toNat : Int) == 42) = true := (by simp; omega)
            have g41 : ((s[k + 1].toNat : Int) == 41) = true := (by simp; omega)
            clear HK ed ed2 eo ec o o1 c
            go_wp2
            go_round
            case rel => exact ⟨d - 1, k + 2, by omega, by omega, by rw [show ((d - 1 : Nat) : Int) = (d : Int) - 1 by omega], by go_num, HN⟩
            case measure => simp [intOf]; omega
          · have c1 : 0 < d → clB (s[k] :: s.data.toList.drop (k + 1)) = false := fun h => by rw [← ed, ec]; exact decide_eq_false (fun h' => c ⟨h, h'⟩)
            by_cases x40 : s[k].toNat = 40
            · skip
              by_cases hd : 0 < d
              · skip
                have HN : Hid (gapF (s.data.toList.drop (k + 1)) d = R) := (by have e := HK.out; rw [ed, gap_skip o1 c1 (.inl hd)] at e; exact e)
                have hdp : (0 : Int) < d := by omega
                have hd0 : ((d : Int) == 0) = false := (by simp; omega)
                have f42 : ((s[k].toNat : Int) == 42) = false := (by simp; omega)
                have f40 : ((s[k].toNat : Int) == 40) = true := (by simp; omega)
                have g42 : ((s[k + 1].toNat : Int) == 42) = false := (by simp; omega)
                clear HK ed o1 c1 ed2 eo ec o c x40
                go_wp2
                go_round
                case rel => exact ⟨d, k + 1, by omega, by omega, rfl, by go_num, HN⟩
                case measure => simp [intOf]; omega
              · skip
                have hdp : ¬ (0 : Int) < d := by omega
                have hd0 : ((d : Int) == 0) = true := (by simp; omega)
                have f40 : ((s[k].toNat : Int) == 40) = true := (by simp; omega)
                have g42 : ((s[k + 1].toNat : Int) == 42) = false := (by simp; omega)
                by_cases hb : blkN s[k].toNat = true
                · have HN : Hid (gapF (s.data.toList.drop (k + 1)) d = R) := (by have e := HK.out; rw [ed, gap_skip o1 c1 (.inr hb)] at e; exact e)
                  have hbb : s[k].toNat = 32 ∨ s[k].toNat = 9 ∨ s[k].toNat = 10 ∨ s[k].toNat = 13 := by simpa [blkN] using hb
                  clear HK ed o1 c1 hb ed2 eo ec o c x40
                  rcases hbb with h | h | h | h
                  · have b32 : ((s[k].toNat : Int) != 32) = false := (by simp; omega)
                    clear h
                    go_wp2
                    go_round
                    case rel => exact ⟨d, k + 1, by omega, by omega, rfl, by go_num, HN⟩
                    case measure => simp [intOf]; omega
                  · have b32 : ((s[k].toNat : Int) != 32) = true := (by simp; omega)
                    have b9 : ((s[k].toNat : Int) != 9) = false := (by simp; omega)
                    clear h
                    go_wp2
                    go_round
                    case rel => exact ⟨d, k + 1, by omega, by omega, rfl, by go_num, HN⟩
                    case measure => simp [intOf]; omega
                  · have b32 : ((s[k].toNat : Int) != 32) = true := (by simp; omega)
                    have b9 : ((s[k].toNat : Int) != 9) = true := (by simp; omega)
                    have b10 : ((s[k].toNat : Int) != 10) = false := (by simp; omega)
                    clear h
                    go_wp2
                    go_round
                    case rel => exact ⟨d, k + 1, by omega, by omega, rfl, by go_num, HN⟩
                    case measure => simp [intOf]; omega
                  · have b32 : ((s[k].toNat : Int) != 32) = true := (by simp; omega)
                    have b9 : ((s[k].toNat : Int) != 9) = true := (by simp; omega)
                    have b10 : ((s[k].toNat : Int) != 10) = true := (by simp; omega)
                    have b13 : ((s[k].toNat : Int) != 13) = false := (by simp; omega)
                    clear h
                    go_wp2
                    go_round
                    case rel => exact ⟨d, k + 1, by omega, by omega, rfl, by go_num, HN⟩
                    case measure => simp [intOf]; omega
                · have HN : Hid (R = false) := (by
                    show _ = _
                    obtain rfl : d = 0 := by omega
                    rw [← HK.out, ed]; exact gap_no o1 (by simpa using hb))
                  have hbb : ¬ (s[k].toNat = 32 ∨ s[k].toNat = 9 ∨ s[k].toNat = 10 ∨ s[k].toNat = 13) := by simpa [blkN] using hb
                  have b32 : ((s[k].toNat : Int) != 32) = true := (by simp; omega)
                  have b9 : ((s[k].toNat : Int) != 9) = true := (by simp; omega)
                  have b10 : ((s[k].toNat : Int) != 10) = true := (by simp; omega)
                  have b13 : ((s[k].toNat : Int) != 13) = true := (by simp; omega)
                  clear HK ed o1 c1 hb ed2 eo ec o c x40 hbb
                  go_wp2
                  go_ret
                  exact ⟨ret_bool (by rw [HN.out]), rfl⟩
            · skip
              by_cases hd : 0 < d
              · by_cases x42 : s[k].toNat = 42
                · skip
                  have HN : Hid (gapF (s.data.toList.drop (k + 1)) d = R) := (by have e := HK.out; rw [ed, gap_skip o1 c1 (.inl hd)] at e; exact e)
                  have hdp : (0 : Int) < d := by omega
                  have hd0 : ((d : Int) == 0) = false := (by simp; omega)
                  have f40 : ((s[k].toNat : Int) == 40) = false := (by simp; omega)
                  have f42 : ((s[k].toNat : Int) == 42) = true := (by simp; omega)
                  have g41 : ((s[k + 1].toNat : Int) == 41) = false := (by simp; omega)
                  clear HK ed o1 c1 ed2 eo ec o c x40 x42
                  go_wp2
                  go_round
                  case rel => exact ⟨d, k + 1, by omega, by omega, rfl, by go_num, HN⟩
                  case measure => simp [intOf]; omega
                · skip
                  have HN : Hid (gapF (s.data.toList.drop (k + 1)) d = R) := (by have e := HK.out; rw [ed, gap_skip o1 c1 (.inl hd)] at e; exact e)
                  have hdp : (0 : Int) < d := by omega
                  have hd0 : ((d : Int) == 0) = false := (by simp; omega)
                  have f40 : ((s[k].toNat : Int) == 40) = false := (by simp; omega)
                  have f42 : ((s[k].toNat : Int) == 42) = false := (by simp; omega)
                  clear HK ed o1 c1 ed2 eo ec o c x40 x42
                  go_wp2
                  go_round
                  case rel => exact ⟨d, k + 1, by omega, by omega, rfl, by go_num, HN⟩
                  case measure => simp [intOf]; omega
              · skip
                have hdp : ¬ (0 : Int) < d := by omega
                have hd0 : ((d : Int) == 0) = true := (by simp; omega)
                have f40 : ((s[k].toNat : Int) == 40) = false := (by simp; omega)
                by_cases hb : blkN s[k].toNat = true
                · have HN : Hid (gapF (s.data.toList.drop (k + 1)) d = R) := (by have e := HK.out; rw [ed, gap_skip o1 c1 (.inr hb)] at e; exact e)
                  have hbb : s[k].toNat = 32 ∨ s[k].toNat = 9 ∨ s[k].toNat = 10 ∨ s[k].toNat = 13 := by simpa [blkN] using hb
                  clear HK ed o1 c1 hb ed2 eo ec o c x40
                  rcases hbb with h | h | h | h
                  · have b32 : ((s[k].toNat : Int) != 32) = false := (by simp; omega)
                    clear h
                    go_wp2
                    go_round
                    case rel => exact ⟨d, k + 1, by omega, by omega, rfl, by go_num, HN⟩
                    case measure => simp [intOf]; omega
                  · have b32 : ((s[k].toNat : Int) != 32) = true := (by simp; omega)
                    have b9 : ((s[k].toNat : Int) != 9) = false := (by simp; omega)
                    clear h
                    go_wp2
                    go_round
                    case rel => exact ⟨d, k + 1, by omega, by omega, rfl, by go_num, HN⟩
                    case measure => simp [intOf]; omega
                  · have b32 : ((s[k].toNat : Int) != 32) = true := (by simp; omega)
                    have b9 : ((s[k].toNat : Int) != 9) = true := (by simp; omega)
                    have b10 : ((s[k].toNat : Int) != 10) = false := (by simp; omega)
                    clear h
                    go_wp2
                    go_round
                    case rel => exact ⟨d, k + 1, by omega, by omega, rfl, by go_num, HN⟩
                    case measure => simp [intOf]; omega
                  · have b32 : ((s[k].toNat : Int) != 32) = true := (by simp; omega)
                    have b9 : ((s[k].toNat : Int) != 9) = true := (by simp; omega)
                    have b10 : ((s[k].toNat : Int) != 10) = true := (by simp; omega)
                    have b13 : ((s[k].toNat : Int) != 13) = false := (by simp; omega)
                    clear h
                    go_wp2
                    go_round
                    case rel => exact ⟨d, k + 1, by omega, by omega, rfl, by go_num, HN⟩
                    case measure => simp [intOf]; omega
                · have HN : Hid (R = false) := (by
                    show _ = _
                    obtain rfl : d = 0 := by omega
                    rw [← HK.out, ed]; exact gap_no o1 (by simpa using hb))
                  have hbb : ¬ (s[k].toNat = 32 ∨ s[k].toNat = 9 ∨ s[k].toNat = 10 ∨ s[k].toNat = 13) := by simpa [blkN] using hb
                  have b32 : ((s[k].toNat : Int) != 32) = true := (by simp; omega)
                  have b9 : ((s[k].toNat : Int) != 9) = true := (by simp; omega)
                  have b10 : ((s[k].toNat : Int) != 10) = true := (by simp; omega)
                  have b13 : ((s[k].toNat : Int) != 13) = true := (by simp; omega)
                  clear HK ed o1 c1 hb ed2 eo ec o c x40 hbb
                  go_wp2
                  go_ret
                  exact ⟨ret_bool (by rw [HN.out]), rfl⟩
      · have hi1 : ¬ (k : Int) + 1 < s.size := by omega
        have hnil : s.data.toList.drop (k + 1) = [] := List.drop_eq_nil_of_le (by rw [← sizeL]; omega)
        have o1 : opB (s[k] :: s.data.toList.drop (k + 1)) = false := by rw [hnil]; rfl
        have c1 : 0 < d → clB (s[k] :: s.data.toList.drop (k + 1)) = false := fun _ => by rw [hnil]; rfl
        clear hnil
        by_cases hd : 0 < d
        · skip
          have HN : Hid (gapF (s.data.toList.drop (k + 1)) d = R) := (by have e := HK.out; rw [ed, gap_skip o1 c1 (.inl hd)] at e; exact e)
          have hdp : (0 : Int) < d := by omega
          have hd0 : ((d : Int) == 0) = false := (by simp; omega)
          clear HK ed o1 c1 htw
          go_wp2
          go_round
          case rel => exact ⟨d, k + 1, by omega, by omega, rfl, by go_num, HN⟩
          case measure => simp [intOf]; omega
        · skip
          have hdp : ¬ (0 : Int) < d := by omega
          have hd0 : ((d : Int) == 0) = true := (by simp; omega)
          by_cases hb : blkN s[k].toNat = true
          · have HN : Hid (gapF (s.data.toList.drop (k + 1)) d = R) := (by have e := HK.out; rw [ed, gap_skip o1 c1 (.inr hb)] at e; exact e)
            have hbb : s[k].toNat = 32 ∨ s[k].toNat = 9 ∨ s[k].toNat = 10 ∨ s[k].toNat = 13 := by simpa [blkN] using hb
            clear HK ed o1 c1 hb htw
            rcases hbb with h | h | h | h
            · have b32 : ((s[k].toNat : Int) != 32) = false := (by simp; omega)
              clear h
              go_wp2
              go_round
              case rel => exact ⟨d, k + 1, by omega, by omega, rfl, by go_num, HN⟩
              case measure => simp [intOf]; omega
            · have b32 : ((s[k].toNat : Int) != 32) = true := (by simp; omega)
              have b9 : ((s[k].toNat : Int) != 9) = false := (by simp; omega)
              clear h
              go_wp2
              go_round
              case rel => exact ⟨d, k + 1, by omega, by omega, rfl, by go_num, HN⟩
              case measure => simp [intOf]; omega
            · have b32 : ((s[k].toNat : Int) != 32) = true := (by simp; omega)
              have b9 : ((s[k].toNat : Int) != 9) = true := (by simp; omega)
              have b10 : ((s[k].toNat : Int) != 10) = false := (by simp; omega)
              clear h
              go_wp2
              go_round
              case rel => exact ⟨d, k + 1, by omega, by omega, rfl, by go_num, HN⟩
              case measure => simp [intOf]; omega
            · have b32 : ((s[k].toNat : Int) != 32) = true := (by simp; omega)
              have b9 : ((s[k].toNat : Int) != 9) = true := (by simp; omega)
              have b10 : ((s[k].toNat : Int) != 10) = true := (by simp; omega)
              have b13 : ((s[k].toNat : Int) != 13) = false := (by simp; omega)
              clear h
              go_wp2
              go_round
              case rel => exact ⟨d, k + 1, by omega, by omega, rfl, by go_num, HN⟩
              case measure => simp [intOf]; omega
          · have HN : Hid (R = false) := (by
              show _ = _
              obtain rfl : d = 0 := by omega
              rw [← HK.out, ed]; exact gap_no o1 (by simpa using hb))
            have hbb : ¬ (s[k].toNat = 32 ∨ s[k].toNat = 9 ∨ s[k].toNat = 10 ∨ s[k].toNat = 13) := by simpa [blkN] using hb
            have b32 : ((s[k].toNat : Int) != 32) = true := (by simp; omega)
            have b9 : ((s[k].toNat : Int) != 9) = true := (by simp; omega)
            have b10 : ((s[k].toNat : Int) != 10) = true := (by simp; omega)
            have b13 : ((s[k].toNat : Int) != 13) = true := (by simp; omega)
            clear HK ed o1 c1 hb htw hbb
            go_wp2
            go_ret
            exact ⟨ret_bool (by rw [HN.out]), rfl⟩
    · have hi : ¬ (k : Int) < s.size := by omega
      have HN : Hid (R = ((d : Int) == 0)) := (by
        show _ = _
        rw [← HK.out, List.drop_eq_nil_of_le (by rw [← sizeL]; omega), gapF, Bool.eq_iff_iff]
        simp)
      clear HK
      go_wp2
      go_ret
      exact ⟨ret_bool (by rw [HN.out]), rfl⟩
end Go.Proofs.Ytbelajboalikcaa.Gp

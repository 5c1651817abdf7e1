/- Several texts in one: LxVA, LxK2. -/
import Derived.Test.YtjnbhcakfenbhaaGreatDoorQbj
import Derived.Test.YtjnbhcakfenbhaaGreatDoorQbk
import Derived.BigQuiet
import Derived.Test.YtjnbhcakfenbhaaGreatDoorQbt
/- Several texts in one: V1, V2, V3. -/
/- The reference's has and blanks. -/
namespace Go.Proofs.YtjnbhcakfenbhaaGreatDoor.Lx
open Go.RowKit M
set_option linter.unusedSimpArgs false
set_option linter.unusedVariables false

theorem beg_take (l p : List UInt8) : begB l p = decide (l.take p.length = p) := by
  unfold begB
  rw [Bool.eq_iff_iff, List.isPrefixOf_iff_prefix, decide_eq_true_iff, List.prefix_iff_eq_take]
  constructor <;> intro h <;> exact h.symm
set_option maxRecDepth 100000 in
set_option maxHeartbeats 1000000 in
theorem rhas_any (s t : ByteArray) (hs : s.size < 4611686018427387904) (ht : t.size < 4611686018427387904) (p : Nat) (hp : p ≤ s.size) (w : World) :
    Calls Tryz.prog 117 #[.string s, .int .i64 (p : Int), .string t] w fun e w' => e = .returned (.bool (begB (s.data.toList.drop p) t.data.toList)) ∧ w' = w := by
  have hl : (s.data.toList.drop p).length = s.size - p := by rw [List.length_drop, ← sizeL]
  by_cases h : t.size ≤ s.size - p
  · have h1 : (t.size : Int) ≤ (s.size : Int) - p := by omega
    have h2 : (p : Int) ≤ (p : Int) + t.size := by omega
    have h3 : (p : Int) + t.size ≤ s.size := by omega
    have HE : Hid (((s.extract p (p + t.size)).toList == t.toList) = begB (s.data.toList.drop p) t.data.toList) := (by
      show _ = _
      rw [beg_take, Bool.eq_iff_iff, decide_eq_true_iff, beq_iff_eq, toL, toL, exL, List.drop_take, ← sizeL, Nat.add_sub_cancel_left])
    clear hl
    go_enter Tryz.func117, Tryz.ntmps117
    go_wp2
    go_ret
    exact ⟨ret_bool (by rw [← HE.out]), rfl⟩
  · have h1 : ¬ (t.size : Int) ≤ (s.size : Int) - p := by omega
    have HE : Hid (begB (s.data.toList.drop p) t.data.toList = false) := (by
      show _ = _
      rw [Bool.eq_false_iff]
      intro hb
      have := begB_len hb
      rw [hl, ← sizeL] at this
      omega)
    clear hl
    go_enter Tryz.func117, Tryz.ntmps117
    go_wp2
    go_ret
    exact ⟨ret_bool (by rw [HE.out]), rfl⟩
end Go.Proofs.YtjnbhcakfenbhaaGreatDoor.Lx
/- The reference's blanks. -/
namespace Go.Proofs.YtjnbhcakfenbhaaGreatDoor.Lx
open Go.RowKit M
set_option linter.unusedSimpArgs false
set_option linter.unusedVariables false

/-- What the reference's blanks answers: a place behind blanks, or the place of a comment that is not closed. -/
def RBlk (p : Nat) (q : Nat × Bool) (e : Ending) : Prop := (q.2 = true ∧ e = .returned (.tuple #[.int .i64 ((p + q.1 : Nat) : Int), .int .i64 (-1)])) ∨ (q.2 = false ∧ ∃ x : Int, e = .returned (.tuple #[.int .i64 x, .int .i64 ((p + q.1 : Nat) : Int)]))
theorem com_short {l : List UInt8} (h : l.length ≤ 1) (o : Nat) : comF l o = none := by
  match l, h with
  | [], _ => rfl
  | [_], _ => rfl

set_option maxRecDepth 100000 in
set_option maxHeartbeats 4000000 in
theorem rblanks_any (s : ByteArray) (hs : s.size < 2305843009213693952) (p : Nat) (hp : p ≤ s.size) (w : World) :
    Calls Tryz.prog 63 #[.string s, .int .i64 (p : Int)] w fun e w' => RBlk p (blkF (s.data.toList.drop p)) e ∧ w' = w := by
  obtain ⟨⟨r1, r2⟩, hR⟩ : ∃ R, blkF (s.data.toList.drop p) = R := ⟨_, rfl⟩
  rw [hR]
  have HR : Hid (blkF (s.data.toList.drop p) = (r1, r2)) := hR
  obtain ⟨rr, hrr⟩ : ∃ rr, p + r1 = rr := ⟨_, rfl⟩
  have HRR : Hid (p + r1 = rr) := hrr
  clear hR hrr
  go_enter Tryz.func63, Tryz.ntmps63
  go_wp2
  go_loop [1, 6, 7, 13, 38, 64, 72, 88] (fun t _ _ _ _ _ _ _ => ∃ k : Nat, k ≤ s.size ∧ t = .int .i64 (k : Int) ∧ Hid (rr = k + (blkF (s.data.toList.drop k)).1 ∧ r2 = (blkF (s.data.toList.drop k)).2)) (fun t _ _ _ _ _ _ _ => s.size - (intOf t).toNat)
  case atStart => exact ⟨p, hp, rfl, by rw [HR.out, ← HRR.out]; exact ⟨rfl, rfl⟩⟩
  case round =>
    obtain ⟨k, hk, rfl, HK⟩ := hrel
    by_cases hlt : k < s.size
    · have hi : (k : Int) < s.size := by omega
      have ed := drop_cons s k hlt
      by_cases hb : blkN s[k].toNat = true
      · have HN : Hid (rr = (k + 1) + (blkF (s.data.toList.drop (k + 1))).1 ∧ r2 = (blkF (s.data.toList.drop (k + 1))).2) := (by
          have e := HK.out
          rw [ed, blkF_blank hb] at e
          exact ⟨by rw [e.1]; simp; omega, e.2⟩)
        have hbb : s[k].toNat = 32 ∨ s[k].toNat = 9 ∨ s[k].toNat = 10 ∨ s[k].toNat = 13 := by simpa [blkN] using hb
        clear hb HK ed
        rcases hbb with h | h | h | h
        · have f32 : ((s[k].toNat : Int) == 32) = true := (by simp; omega)
          clear h
          go_wp2
          go_round
          case rel => exact ⟨k + 1, by omega, by go_num, HN⟩
          case measure => simp [intOf]; omega
        · have f32 : ((s[k].toNat : Int) == 32) = false := (by simp; omega)
          have f9 : ((s[k].toNat : Int) == 9) = true := (by simp; omega)
          clear h
          go_wp2
          go_round
          case rel => exact ⟨k + 1, by omega, by go_num, HN⟩
          case measure => simp [intOf]; omega
        · have f32 : ((s[k].toNat : Int) == 32) = false := (by simp; omega)
          have f9 : ((s[k].toNat : Int) == 9) = false := (by simp; omega)
          have f10 : ((s[k].toNat : Int) == 10) = true := (by simp; omega)
          clear h
          go_wp2
          go_round
          case rel => exact ⟨k + 1, by omega, by go_num, HN⟩
          case measure => simp [intOf]; omega
        · have f32 : ((s[k].toNat : Int) == 32) = false := (by simp; omega)
          have f9 : ((s[k].toNat : Int) == 9) = false := (by simp; omega)
          have f10 : ((s[k].toNat : Int) == 10) = false := (by simp; omega)
          have f13 : ((s[k].toNat : Int) == 13) = true := (by simp; omega)
          clear h
          go_wp2
          go_round
          case rel => exact ⟨k + 1, by omega, by go_num, HN⟩
          case measure => simp [intOf]; omega
      · have hb' : blkN s[k].toNat = false := by simpa using hb
        have hbb : ¬ (s[k].toNat = 32 ∨ s[k].toNat = 9 ∨ s[k].toNat = 10 ∨ s[k].toNat = 13) := by simpa [blkN] using hb
        have f32 : ((s[k].toNat : Int) == 32) = false := (by simp; omega)
        have f9 : ((s[k].toNat : Int) == 9) = false := (by simp; omega)
        have f10 : ((s[k].toNat : Int) == 10) = false := (by simp; omega)
        have f13 : ((s[k].toNat : Int) == 13) = false := (by simp; omega)
        clear hb
        by_cases ho : opB (s.data.toList.drop k) = true
        · have ol := op_len ho
          rw [List.length_drop, ← sizeL] at ol
          have ed2 := drop_cons s (k + 1) (by omega)
          have hop : s[k].toNat = 40 ∧ s[k + 1].toNat = 42 := (by
            have h := ho
            rw [ed, ed2] at h
            simpa [opB] using h)
          have g40 : ((s[k].toNat : Int) == 40) = true := (by simp; omega)
          have g42 : ((s[k + 1].toNat : Int) == 42) = true := (by simp; omega)
          have hi1 : (k : Int) + 1 < s.size := by omega
          have ho' := ho
          rw [ed] at ho'
          obtain ⟨R, hR⟩ : ∃ R, (comF (s.data.toList.drop (k + 2)) 1).map (· + (k + 2)) = R := ⟨_, rfl⟩
          have HC : Hid (∀ m, R = some m → k + 2 ≤ m ∧ m ≤ s.size ∧ rr = m + (blkF (s.data.toList.drop m)).1 ∧ r2 = (blkF (s.data.toList.drop m)).2) := (by
            intro m hm
            rw [← hR] at hm
            obtain ⟨q, hq, rfl⟩ := Option.map_eq_some_iff.1 hm
            have hj := comF_le _ _ (Nat.le_refl _) _ _ hq
            rw [List.length_drop, ← sizeL] at hj
            have e := HK.out
            rw [ed, blkF_com hb' ho' (by rw [List.drop_drop]; exact hq), List.drop_drop, show k + 1 + (1 + q) = q + (k + 2) by omega] at e
            exact ⟨by omega, by omega, by rw [e.1]; simp; omega, e.2⟩)
          have HD : Hid (R = none → rr = k ∧ r2 = false) := (by
            intro hm
            rw [← hR] at hm
            have hq : comF (s.data.toList.drop (k + 2)) 1 = none := by simpa using hm
            have e := HK.out
            rw [ed, blkF_open hb' ho' (by rw [List.drop_drop]; exact hq)] at e
            exact ⟨by rw [e.1]; simp, e.2⟩)
          have HR0 : Hid ((comF (s.data.toList.drop (k + 2)) 1).map (· + (k + 2)) = R) := hR
          clear hop ho ho' ed ed2 hR HK hb' hbb
          go_wp2
          go_loop [1, 7, 64, 72, 88] (fun t d _ _ _ => ∃ j m : Nat, m ≤ s.size ∧ k + 2 ≤ m ∧ j ≤ m ∧ t = .int .i64 (m : Int) ∧ d = .int .i64 (j : Int) ∧ Hid ((j = 0 ∧ R = some m) ∨ (1 ≤ j ∧ (comF (s.data.toList.drop m) j).map (· + m) = R))) (fun t d _ _ _ => s.size + 1 - (intOf t).toNat)
          case atStart => exact ⟨1, k + 2, by omega, by omega, by omega, by go_num, rfl, .inr ⟨by omega, HR0.out⟩⟩
          case round =>
            obtain ⟨j, m, hm, hkm, hjm, rfl, rfl, HJ⟩ := hrel
            clear HR0
            by_cases hj0 : j = 0
            · subst hj0
              have hRm : R = some m := (by rcases HJ.out with h | h; exact h.2; omega)
              obtain ⟨_, q2, q3, q4⟩ := HC.out m hRm
              have HN : Hid (rr = m + (blkF (s.data.toList.drop m)).1 ∧ r2 = (blkF (s.data.toList.drop m)).2) := ⟨q3, q4⟩
              clear HJ hRm q3 q4 HC HD
              go_wp2
              go_round
              case rel => exact ⟨m, by omega, rfl, HN⟩
              case measure => simp [intOf]; omega
            · have hj1 : (0 : Int) < j := by omega
              have HJ1 : Hid ((comF (s.data.toList.drop m) j).map (· + m) = R) := (by rcases HJ.out with h | h; exact absurd h.1 hj0; exact h.2)
              clear HJ
              by_cases hsh : s.size ≤ m + 1
              · have hsi : (s.size : Int) ≤ (m : Int) + 1 := by omega
                have HF := HD.out (by rw [← HJ1.out, com_short (by rw [List.length_drop, ← sizeL]; omega)]; rfl)
                have HF1 : Hid (rr = k) := HF.1
                have HF2 : Hid (r2 = false) := HF.2
                clear HF HC HD HJ1
                go_wp2
                go_ret2
                refine ⟨.inr ⟨HF2.out, (m : Int), ?_⟩, rfl⟩
                rw [HRR.out, HF1.out]
                rfl
              · have hsi : ¬ (s.size : Int) ≤ (m : Int) + 1 := by omega
                have hm1 : m < s.size := by omega
                have hm2 : m + 1 < s.size := by omega
                have hmi : (m : Int) < s.size := by omega
                have hmi2 : (m : Int) + 1 < s.size := by omega
                have em := drop_cons s m hm1
                have em2 := drop_cons s (m + 1) hm2
                have eo : opB (s.data.toList.drop m) = decide (s[m].toNat = 40 ∧ s[m + 1].toNat = 42) := by rw [em, em2]; rfl
                have ec : clB (s.data.toList.drop m) = decide (s[m].toNat = 42 ∧ s[m + 1].toNat = 41) := by rw [em, em2]; rfl
                by_cases o : s[m].toNat = 40 ∧ s[m + 1].toNat = 42
                · have HN : Hid ((comF (s.data.toList.drop (m + 2)) (j + 1)).map (· + (m + 2)) = R) := (by
                    show _ = _
                    have e := HJ1.out
                    rw [comF_open (by rw [eo]; exact decide_eq_true o), List.drop_drop, Option.map_map] at e
                    rw [← e]; congr 1; funext x; simp; omega)
                  have g1 : ((s[m].toNat : Int) == 40) = true := (by simp; omega)
                  have g2 : ((s[m + 1].toNat : Int) == 42) = true := (by simp; omega)
                  clear o eo ec em em2 HJ1 HC HD
                  go_wp2
                  go_round
                  case rel => exact ⟨j + 1, m + 2, by omega, by omega, by omega, by go_num, by go_num, .inr ⟨by omega, HN.out⟩⟩
                  case measure => simp [intOf]; omega
                · by_cases c : s[m].toNat = 42 ∧ s[m + 1].toNat = 41
                  · have g0 : ((s[m].toNat : Int) == 40) = false := (by simp; omega)
                    have g1 : ((s[m].toNat : Int) == 42) = true := (by simp; omega)
                    have g2 : ((s[m + 1].toNat : Int) == 41) = true := (by simp; omega)
                    have HN : Hid ((j - 1 = 0 ∧ R = some (m + 2)) ∨ (1 ≤ j - 1 ∧ (comF (s.data.toList.drop (m + 2)) (j - 1)).map (· + (m + 2)) = R)) := (by
                      have hcl : clB (s.data.toList.drop m) = true := by rw [ec]; exact decide_eq_true c
                      have e := HJ1.out
                      by_cases h1 : j = 1
                      · subst h1
                        rw [comF_last hcl] at e
                        refine .inl ⟨rfl, ?_⟩
                        rw [← e]; simp; omega
                      · refine .inr ⟨by omega, ?_⟩
                        rw [comF_close hcl h1, List.drop_drop, Option.map_map] at e
                        rw [← e]; congr 1; funext x; simp; omega)
                    clear o c eo ec em em2 HJ1 HC HD
                    go_wp2
                    go_round
                    case rel => exact ⟨j - 1, m + 2, by omega, by omega, by omega, by go_num, by rw [show ((j - 1 : Nat) : Int) = (j : Int) - 1 by omega], HN⟩
                    case measure => simp [intOf]; omega
                  · have HN : Hid ((comF (s.data.toList.drop (m + 1)) j).map (· + (m + 1)) = R) := (by
                      show _ = _
                      have e := HJ1.out
                      have o1 : opB (s[m] :: s.data.toList.drop (m + 1)) = false := by rw [← em, eo]; exact decide_eq_false o
                      have c1 : clB (s[m] :: s.data.toList.drop (m + 1)) = false := by rw [← em, ec]; exact decide_eq_false c
                      rw [em, comF_skip o1 c1, Option.map_map] at e
                      rw [← e]; congr 1; funext x; simp; omega)
                    clear HJ1 HC HD eo ec em em2
                    by_cases x1 : s[m].toNat = 40
                    · have g0 : ((s[m].toNat : Int) == 40) = true := (by simp; omega)
                      have g1 : ((s[m + 1].toNat : Int) == 42) = false := (by simp; omega)
                      have g2 : ((s[m].toNat : Int) == 42) = false := (by simp; omega)
                      clear o c x1
                      go_wp2
                      go_round
                      case rel => exact ⟨j, m + 1, by omega, by omega, by omega, by go_num, rfl, .inr ⟨by omega, HN.out⟩⟩
                      case measure => simp [intOf]; omega
                    · have g0 : ((s[m].toNat : Int) == 40) = false := (by simp; omega)
                      by_cases x2 : s[m].toNat = 42
                      · have g1 : ((s[m].toNat : Int) == 42) = true := (by simp; omega)
                        have g2 : ((s[m + 1].toNat : Int) == 41) = false := (by simp; omega)
                        clear o c x1 x2
                        go_wp2
                        go_round
                        case rel => exact ⟨j, m + 1, by omega, by omega, by omega, by go_num, rfl, .inr ⟨by omega, HN.out⟩⟩
                        case measure => simp [intOf]; omega
                      · have g1 : ((s[m].toNat : Int) == 42) = false := (by simp; omega)
                        clear o c x1 x2
                        go_wp2
                        go_round
                        case rel => exact ⟨j, m + 1, by omega, by omega, by omega, by go_num, rfl, .inr ⟨by omega, HN.out⟩⟩
                        case measure => simp [intOf]; omega
        · have ho' : opB (s.data.toList.drop k) = false := by simpa using ho
          have ho2 := ho'
          rw [ed] at ho2
          have HF : Hid (rr = k ∧ r2 = true) := (by
            have e := HK.out
            rw [ed, blkF_stop hb' ho2] at e
            exact ⟨by rw [e.1]; simp, e.2⟩)
          clear HK ho
          by_cases x1 : s[k].toNat = 40
          · have g0 : ((s[k].toNat : Int) == 40) = true := (by simp; omega)
            by_cases x2 : k + 1 < s.size
            · have hi1 : (k : Int) + 1 < s.size := by omega
              have hi1' : (k + 1 : Nat) < s.size := x2
              have x3 : s[k + 1].toNat ≠ 42 := (by
                intro h
                rw [ed, drop_cons s (k + 1) x2] at ho'
                simp [opB, x1, h] at ho')
              have g1 : ((s[k + 1].toNat : Int) == 42) = false := (by simp; omega)
              clear x1 x3 ho' ho2 ed hb' hbb
              go_wp2
              go_ret2
              exact ⟨.inl ⟨HF.out.2, by rw [HRR.out, HF.out.1]; rfl⟩, rfl⟩
            · have hi1 : ¬ (k : Int) + 1 < s.size := by omega
              clear x1 ho' ho2 ed hb' hbb
              go_wp2
              go_ret2
              exact ⟨.inl ⟨HF.out.2, by rw [HRR.out, HF.out.1]; rfl⟩, rfl⟩
          · have g0 : ((s[k].toNat : Int) == 40) = false := (by simp; omega)
            clear x1 ho' ho2 ed hb' hbb
            go_wp2
            go_ret2
            exact ⟨.inl ⟨HF.out.2, by rw [HRR.out, HF.out.1]; rfl⟩, rfl⟩
    · have hi : ¬ (k : Int) < s.size := by omega
      have HF : Hid (rr = k ∧ r2 = true) := (by
        have e := HK.out
        rw [drop_end s k (by omega), blkF_nil] at e
        exact ⟨by rw [e.1]; simp, e.2⟩)
      clear HK
      go_wp2
      go_ret2
      exact ⟨.inl ⟨HF.out.2, by rw [HRR.out, HF.out.1]; rfl⟩, rfl⟩
end Go.Proofs.YtjnbhcakfenbhaaGreatDoor.Lx
/- The reference's sign. -/
namespace Go.Proofs.YtjnbhcakfenbhaaGreatDoor.Lx
open Go.RowKit M
set_option linter.unusedSimpArgs false
set_option linter.unusedVariables false

theorem info111 : (Tryz.prog.info? 184).map (·.size) = some 3 := by kernel_rfl
def longL : List Value := [.string ⟨#[47, 92]⟩, .string ⟨#[92, 47]⟩, .string ⟨#[94, 45, 49]⟩]
/-- The signs of one byte. -/
def shortB : ByteArray := ⟨#[123, 125, 40, 41, 91, 93, 59, 44, 58, 124, 61, 36, 126, 38, 43, 42, 63, 92]⟩
theorem short_mem (c : Nat) : (c = 92 ∨ oneSign c = true) ↔ c ∈ [123, 125, 40, 41, 91, 93, 59, 44, 58, 124, 61, 36, 126, 38, 43, 42, 63, 92] := by
  unfold oneSign
  simp only [decide_eq_true_eq, List.mem_cons, List.not_mem_nil, or_false]
  omega
theorem short_at (c : Nat) : (∃ j, ∃ h : j < shortB.size, shortB[j].toNat = c) ↔ (c = 92 ∨ oneSign c = true) := by
  rw [short_mem]
  have e : (shortB.data.toList.map UInt8.toNat) = [123, 125, 40, 41, 91, 93, 59, 44, 58, 124, 61, 36, 126, 38, 43, 42, 63, 92] := by decide
  rw [← e, List.mem_map]
  constructor
  · rintro ⟨j, h, rfl⟩
    exact ⟨shortB[j], by rw [show shortB[j] = shortB.data[j] from rfl]; exact Array.getElem_mem_toList _, rfl⟩
  · rintro ⟨x, hx, rfl⟩
    obtain ⟨j, hj, rfl⟩ := List.mem_iff_getElem.1 hx
    exact ⟨j, by simpa using hj, rfl⟩
theorem beg_take_eq {l p : List UInt8} (h : begB l p = true) : l.take p.length = p := by
  have := beg_take l p
  rw [h] at this
  exact of_decide_eq_true this.symm
theorem beg_diff {l : List UInt8} {c d : UInt8} {p q : List UInt8} (hcd : c ≠ d) (h : begB l (c :: p) = true) : begB l (d :: q) = false := by
  cases l with
  | nil => simp [begB, List.isPrefixOf] at h
  | cons x l =>
    simp [begB, List.isPrefixOf] at h ⊢
    intro e
    exact absurd (h.1.trans e.symm) hcd

set_option maxRecDepth 100000 in
set_option maxHeartbeats 4000000 in
theorem rsign_any (s : ByteArray) (hs : s.size < 2305843009213693952) (p : Nat) (hp : p < s.size) (w : World) :
    Calls Tryz.prog 92 #[.string s, .int .i64 (p : Int)] w fun e w' => e = .returned (.string ⟨((s.data.toList.drop p).take (signLen (s.data.toList.drop p))).toArray⟩) ∧ Below w.heap.size w w' := by
  obtain ⟨R, hR⟩ : ∃ R, (s.data.toList.drop p).take (signLen (s.data.toList.drop p)) = R := ⟨_, rfl⟩
  rw [hR]
  obtain ⟨h0, e0⟩ : ∃ h0, begB (s.data.toList.drop p) [47, 92] = h0 := ⟨_, rfl⟩
  obtain ⟨h1, e1⟩ : ∃ h1, begB (s.data.toList.drop p) [92, 47] = h1 := ⟨_, rfl⟩
  obtain ⟨h2, e2⟩ : ∃ h2, begB (s.data.toList.drop p) [94, 45, 49] = h2 := ⟨_, rfl⟩
  have c0 : ∀ w, Calls Tryz.prog 117 #[.string s, .int .i64 (p : Int), .string ⟨#[47, 92]⟩] w fun e w' => e = .returned (.bool h0) ∧ w' = w := fun w => by rw [← e0]; exact rhas_any s ⟨#[47, 92]⟩ (by omega) (by decide) p (by omega) w
  have c1 : ∀ w, Calls Tryz.prog 117 #[.string s, .int .i64 (p : Int), .string ⟨#[92, 47]⟩] w fun e w' => e = .returned (.bool h1) ∧ w' = w := fun w => by rw [← e1]; exact rhas_any s ⟨#[92, 47]⟩ (by omega) (by decide) p (by omega) w
  have c2 : ∀ w, Calls Tryz.prog 117 #[.string s, .int .i64 (p : Int), .string ⟨#[94, 45, 49]⟩] w fun e w' => e = .returned (.bool h2) ∧ w' = w := fun w => by rw [← e2]; exact rhas_any s ⟨#[94, 45, 49]⟩ (by omega) (by decide) p (by omega) w
  have R0 : Hid (h0 = true → R = [47, 92]) := fun h => by
    rw [h] at e0
    rw [← hR, sign_b (beg_diff (by decide) e0) (by rw [e0]; rfl)]
    exact beg_take_eq e0
  have R1 : Hid (h1 = true → R = [92, 47]) := fun h => by
    rw [h] at e1
    rw [← hR, sign_b (beg_diff (by decide) e1) (by rw [e1]; simp)]
    exact beg_take_eq e1
  have R2 : Hid (h2 = true → R = [94, 45, 49]) := fun h => by
    rw [h] at e2
    rw [← hR, sign_a e2]
    exact beg_take_eq e2
  have ed := drop_cons s p hp
  have R3 : Hid (h0 = false → h1 = false → h2 = false → R = if s[p].toNat = 92 ∨ oneSign s[p].toNat = true then [s[p]] else []) := fun q0 q1 q2 => by
    rw [q0, ed] at e0
    rw [q1, ed] at e1
    rw [q2, ed] at e2
    rw [← hR, ed, sign_c e2 (by rw [e0, e1]; rfl)]
    split <;> simp
  clear hR e0 e1 e2 ed
  have hpi : (p : Int) < s.size := by omega
  go_enter Tryz.func92, Tryz.ntmps92
  go_wp2_with (first
    | (refine wpList_allocS rfl 184 rfl _ Tryz.zeroValue184 ?_; intro W1 b1 F1 N1; have hb1 : w.heap.size ≤ b1 := Nat.le_of_eq F1.at'.symm; have B1 := F1.trans (Below.refl _ _) (Nat.le_refl _); clear F1)
    | (refine wpList_storeS rfl 184 _ _ rfl rfl longL rfl N1 (by simp [longL]) info111 (by simp [longL, Value.oneCell']) ?_; intro W2 U2 N2x; have N2 : IsS W2 b1 184 longL := N2x; have B2 := U2.trans B1 hb1; clear U2 N1 B1 N2x; have k0 : W2.cell? ⟨b1, 0, none⟩ = some (.string ⟨#[47, 92]⟩) := N2.cell 0; have k1 : W2.cell? ⟨b1, 1, none⟩ = some (.string ⟨#[92, 47]⟩) := N2.cell 1; have k2 : W2.cell? ⟨b1, 2, none⟩ = some (.string ⟨#[94, 45, 49]⟩) := N2.cell 2))
  go_loop [6] (fun t => ∃ j : Nat, j ≤ 3 ∧ t = .int .i64 (j : Int) ∧ Hid ((0 < j → h0 = false) ∧ (1 < j → h1 = false) ∧ (2 < j → h2 = false))) (fun t => 3 - (intOf t).toNat)
  case atStart => exact ⟨0, by omega, rfl, by omega, by omega, by omega⟩
  case round =>
    obtain ⟨j, hj, rfl, HJ⟩ := hrel
    obtain rfl | rfl | rfl | rfl : j = 0 ∨ j = 1 ∨ j = 2 ∨ j = 3 := by omega
    · cases h0 with
      | true =>
        have HR : Hid (R = [47, 92]) := R0.out rfl
        clear R0 R1 R2 R3
        go_wp2_with (go_at_call 117; refine (c0 _).mono ?_; rintro e w' ⟨rfl, hw'⟩; replace hw' := hw'.symm; subst hw')
        go_ret
        exact ⟨(by rw [HR.out]; rfl), B2⟩
      | false =>
        have HN : Hid ((0 < 1 → false = false) ∧ (1 < 1 → h1 = false) ∧ (2 < 1 → h2 = false)) := ⟨fun _ => rfl, fun h => absurd h (by omega), fun h => absurd h (by omega)⟩
        clear HJ R0 R1 R2 R3
        go_wp2_with (go_at_call 117; refine (c0 _).mono ?_; rintro e w' ⟨rfl, hw'⟩; replace hw' := hw'.symm; subst hw')
        go_round
        case rel => exact ⟨1, by omega, by go_num, HN⟩
        case measure => simp [intOf]
    · cases h1 with
      | true =>
        have HR : Hid (R = [92, 47]) := R1.out rfl
        clear R0 R1 R2 R3
        go_wp2_with (go_at_call 117; refine (c1 _).mono ?_; rintro e w' ⟨rfl, hw'⟩; replace hw' := hw'.symm; subst hw')
        go_ret
        exact ⟨(by rw [HR.out]; rfl), B2⟩
      | false =>
        have HN : Hid ((0 < 2 → h0 = false) ∧ (1 < 2 → false = false) ∧ (2 < 2 → h2 = false)) := ⟨fun _ => HJ.out.1 (by omega), fun _ => rfl, fun h => absurd h (by omega)⟩
        clear HJ R0 R1 R2 R3
        go_wp2_with (go_at_call 117; refine (c1 _).mono ?_; rintro e w' ⟨rfl, hw'⟩; replace hw' := hw'.symm; subst hw')
        go_round
        case rel => exact ⟨2, by omega, by go_num, HN⟩
        case measure => simp [intOf]
    · cases h2 with
      | true =>
        have HR : Hid (R = [94, 45, 49]) := R2.out rfl
        clear R0 R1 R2 R3
        go_wp2_with (go_at_call 117; refine (c2 _).mono ?_; rintro e w' ⟨rfl, hw'⟩; replace hw' := hw'.symm; subst hw')
        go_ret
        exact ⟨(by rw [HR.out]; rfl), B2⟩
      | false =>
        have HN : Hid ((0 < 3 → h0 = false) ∧ (1 < 3 → h1 = false) ∧ (2 < 3 → false = false)) := ⟨fun _ => HJ.out.1 (by omega), fun _ => HJ.out.2.1 (by omega), fun _ => rfl⟩
        clear HJ R0 R1 R2 R3
        go_wp2_with (go_at_call 117; refine (c2 _).mono ?_; rintro e w' ⟨rfl, hw'⟩; replace hw' := hw'.symm; subst hw')
        go_round
        case rel => exact ⟨3, by omega, by go_num, HN⟩
        case measure => simp [intOf]
    · have q0 := HJ.out.1 (by omega)
      have q1 := HJ.out.2.1 (by omega)
      have q2 := HJ.out.2.2 (by omega)
      have HR : Hid (R = if s[p].toNat = 92 ∨ oneSign s[p].toNat = true then [s[p]] else []) := R3.out q0 q1 q2
      clear c0 c1 c2 R0 R1 R2 R3 k0 k1 k2
      go_wp2_with fail
      have esh : (⟨#[123, 125, 40, 41, 91, 93, 59, 44, 58, 124, 61, 36, 126, 38, 43, 42, 63, 92]⟩ : ByteArray) = shortB := rfl
      rw [esh]
      clear esh
      have hsz : shortB.size = 18 := rfl
      go_loopw [8] (fun t wr => ∃ j : Nat, j ≤ shortB.size ∧ t = .int .i64 (j : Int) ∧ Hid (Below w.heap.size w wr) ∧ Hid (∀ i, (h : i < shortB.size) → i < j → shortB[i].toNat ≠ s[p].toNat)) (fun t _ => shortB.size - (intOf t).toNat)
      case atStart => exact ⟨0, by omega, rfl, B2, fun i _ h => by omega⟩
      case round =>
        obtain ⟨j, hj, rfl, HB, HJ⟩ := hrel
        have hshi : shortB.size = 18 := rfl
        by_cases hlt : j < shortB.size
        · have hi : (j : Int) < shortB.size := by omega
          by_cases he : shortB[j].toNat = s[p].toNat
          · have hb : ((s[p].toNat : Int) == (shortB[j].toNat : Int)) = true := (by simp; omega)
            have HF : Hid (R = [shortB[j]]) := (by
              show _ = _
              rw [HR.out, if_pos ((short_at _).1 ⟨j, hlt, he⟩)]
              rw [UInt8.toNat_inj.1 he])
            clear he HR HJ
            go_wp2_with fail
            go_quiet (fail)
            go_wp2_with fail
            go_ret
            refine ⟨?_, below_drewN HB.out _⟩
            have ex : (shortB.data.toList.take (j + 1)).drop j = [shortB[j]] := by rw [List.drop_take, drop_cons shortB j hlt]; simp
            rw [HF.out, ← ex, ← exA]
            rfl
          · have hb : ((s[p].toNat : Int) == (shortB[j].toNat : Int)) = false := (by simp; omega)
            have HN : Hid (∀ i, (h : i < shortB.size) → i < j + 1 → shortB[i].toNat ≠ s[p].toNat) := fun i h hi => by
              rcases Nat.lt_or_ge i j with h' | h'
              · exact HJ.out i h h'
              · obtain rfl : i = j := by omega
                exact he
            clear he HR HJ
            go_wp2_with fail
            go_quiet (fail)
            have HB' : Hid (Below w.heap.size w (wr.drewN nq)) := below_drewN HB.out nq
            generalize wr.drewN nq = W3 at *
            go_wp2_with fail
            go_roundw
            case rel => exact ⟨j + 1, by omega, by go_num, HB', HN⟩
            case measure => simp [intOf]; omega
        · have hi : ¬ (j : Int) < shortB.size := by omega
          have HF : Hid (R = []) := (by
            show _ = _
            rw [HR.out, if_neg]
            intro h
            obtain ⟨i, hi, he⟩ := (short_at _).2 h
            exact HJ.out i hi (by omega) he)
          clear HJ HR
          go_wp2_with fail
          go_ret
          exact ⟨(by rw [HF.out]; rfl), HB.out⟩
end Go.Proofs.YtjnbhcakfenbhaaGreatDoor.Lx
/- The reference's lexer by steps. -/
namespace Go.Proofs.YtjnbhcakfenbhaaGreatDoor.Lx
open Go.RowKit M
set_option linter.unusedSimpArgs false
set_option linter.unusedVariables false

/-- A fault's cells. -/
def fL (F : Int × Int × Int) : List Value := [.int .i64 F.1, .int .i64 F.2.1, .int .i64 F.2.2]
theorem fL_one (F : Int × Int × Int) : ∀ v ∈ fL F, v.oneCell' = true := by simp [fL, Value.oneCell']
set_option maxRecDepth 100000 in
theorem ret_SS {w : World} {b t c u : Nat} {cs ds : List Value} {fn : Func} {p q : Tmp} {R : Ending → World → Prop} {a : Act} (h : fn.results = #[.cell p t, .cell q u]) (hp : a.tmps.getD p undef = .pointer (some ⟨b, 0, none⟩)) (hq : a.tmps.getD q undef = .pointer (some ⟨c, 0, none⟩))
    (hd : a.defers = []) (hc : IsS w b t cs) (he : IsS w c u ds) (d : TypeDesc) (hu : Tryz.prog.underlying t = some d) (hr : (match d with | .struct _ => true | .array _ _ => true | _ => false) = true) (hi : (Tryz.prog.info? t).map (·.size) = some cs.length)
    (d2 : TypeDesc) (hu2 : Tryz.prog.underlying u = some d2) (hr2 : (match d2 with | .struct _ => true | .array _ _ => true | _ => false) = true) (hi2 : (Tryz.prog.info? u).map (·.size) = some ds.length) (hR : R (.returned (.tuple #[.agg cs.toArray, .agg ds.toArray])) w) : bodyPost Tryz.prog fn R .ret a w := by
  have hc' : w.heap[b]? = some (.cells cs.toArray t (0, 0)) := hc
  have he' : w.heap[c]? = some (.cells ds.toArray u (0, 0)) := he
  have hp' : a.tmps[p]?.getD undef = .pointer (some ⟨b, 0, none⟩) := by simpa using hp
  have hq' : a.tmps[q]?.getD undef = .pointer (some ⟨c, 0, none⟩) := by simpa using hq
  refine ⟨hd, .tuple #[.agg cs.toArray, .agg ds.toArray], ?_, hR⟩
  simp [results, h, hp', hq', asAddr, run_loadVar_row w b t t cs.toArray (0, 0) d hc' hu (by cases d <;> simp_all) (by simpa using hi), run_loadVar_row w c u u ds.toArray (0, 0) d2 he' hu2 (by cases d2 <;> simp_all) (by simpa using hi2)]

theorem setCell_same {w : World} {b t o : Nat} {cs : List Value} {v : Value} (h : IsS w b t cs) (hv : cs[o]? = some v) : w.setCell ⟨b, o, none⟩ v = w := by
  have hb := h.lt
  have hg : w.heap[b] = .cells cs.toArray t := (by have := h; unfold IsS at this; rw [Array.getElem?_eq_getElem hb] at this; exact Option.some.inj this)
  have ho : o < cs.length := (List.getElem?_eq_some_iff.1 hv).1
  have hs : cs.toArray.setIfInBounds o v = cs.toArray := (by
    rw [List.setIfInBounds_toArray]
    congr 1
    refine List.ext_getElem? fun j => ?_
    rw [List.getElem?_set]
    split
    · rename_i e; subst e; rw [hv]
    · rfl)
  have hm : w.heap.modify b (fun | .cells c elem frozen => .cells (if (none : Option Addr).isSome then c else c.setIfInBounds o v) elem frozen | o => o) = w.heap := (by
    refine Array.ext (by simp) fun i h1 h2 => ?_
    rw [Array.getElem_modify]
    split
    · rename_i e; subst e; rw [hg]; simp [hs]
    · rfl)
  unfold World.setCell
  cases w
  simp only [World.mk.injEq, and_true, true_and]
  exact hm
theorem setCells_same {w : World} {b t : Nat} {cs : List Value} (h : IsS w b t cs) : ∀ (vs : List Value) (o : Nat), (∀ j v, vs[j]? = some v → cs[o + j]? = some v) → w.setCells b o vs = w
  | [], _, _ => rfl
  | v :: vs, o, hv => by
    rw [World.setCells, setCell_same h (o := o) (hv 0 v rfl)]
    exact setCells_same h vs (o + 1) fun j u hu => by
      have := hv (j + 1) u (by simpa using hu)
      rwa [show o + 1 + j = o + (j + 1) by omega]
/-- A store of what lies there already. -/
theorem wpG_same {ops : Array Oper} {W : World} {Q : Act → Prop} {rest : List Oper} {op : Oper} {a : Act} {b t : Nat} {cs : List Value} (hw : Region.wanted op (yielded ops a.tmps) = true) (ty : TypeId) (x y : Operand) (ho : op.op = .store ty x y) (hx : a.eval x = .pointer (some ⟨b, 0, none⟩)) (hy : a.eval y = .agg cs.toArray) (hc : IsS W b t cs)
    (hi : (Tryz.prog.info? ty).map (·.size) = some cs.length) (h1 : ∀ v ∈ cs, v.oneCell' = true)
    (h : wpG Tryz.prog ops W Q rest (a.put op.dst undef)) : wpG Tryz.prog ops W Q (op :: rest) a := by
  unfold wpG growOp
  rw [if_pos hw]
  refine ⟨undef, fun w hC => ?_, h⟩
  have hc' := hc.grown hC
  have e := setCells_same hc' cs 0 (fun j v hv => by rw [Nat.zero_add]; exact hv)
  have r := run_storeAt_mid (P := Tryz.prog) w b 0 ty cs.toArray (hc'.there 0 _ (by simp)) (by simpa using hi) (all_oneCell_toArray h1)
  rw [List.toList_toArray, e] at r
  unfold Oper.quietAt execOp
  simp only [ho, hx, hy, Sem.run_bind, r, Result.andThen_ok, Sem.run_pure]
  exact ⟨rfl, rfl⟩

set_option maxRecDepth 100000 in
set_option maxHeartbeats 4000000 in
theorem rnext_bad (s : ByteArray) (b p f : Nat) (q : Nat × Nat) (F1 F2 F3 : Int) (hF : F3 ≠ 0) (w : World) (hL : IsS w b 135 (rlexL s p (F1, F2, F3) f q)) :
    Calls Tryz.prog 41 #[.pointer (some ⟨b, 0, none⟩)] w fun en w' => (en = .returned (.tuple #[tokV noTok, .agg (fL (F1, F2, F3)).toArray]) ∧ IsS w' b 135 (rlexL s p (F1, F2, F3) f q)) ∧ Turn w w' b := by
  have hne : (F3 == 0) = false := by simpa using hF
  have hne' : (F3 != 0) = true := by simpa using hF
  have hb0 := hL.lt
  clear hF
  go_enter Tryz.func41, Tryz.ntmps41
  go_wp2_with (first
    | (refine wpList_allocS rfl 49 rfl (tokL noTok) Tryz.zeroValue49 ?_; intro W1 b2 F1 N2; have hb2 : w.heap.size ≤ b2 := Nat.le_of_eq F1.at'.symm; have K1 := hL.fresh F1; have T1 := Turn.of_below (F1.trans (Below.refl _ _) (Nat.le_refl _)) b; clear F1)
    | (refine wpList_allocS rfl 29 rfl (fL (0, 0, 0)) Tryz.zeroValue29 ?_; intro W2 b3 G1 N3; have hb3 : w.heap.size ≤ b3 := Nat.le_trans T1.size (Nat.le_of_eq G1.at'.symm); have K2 := K1.fresh G1; have M2 := N2.fresh G1; have h23 : b2 ≠ b3 := (by have := N2.lt; have := G1.at'; omega); have T2 := T1.grow (G1.trans (Below.refl _ _) (Nat.le_refl _)); clear G1 K1 N2 T1; have c4 : W2.cell? ⟨b, 4, none⟩ = some (.int .i64 F3) := K2.cell 4))
  refine grow_tail 6 (by kernel_rfl) (by kernel_rfl) ?_
  simp only [List.take_succ_cons, List.take_zero, List.drop_succ_cons, List.drop_zero]
  refine wpG_put rfl (v := .agg (tokL noTok).toArray) (fun w => by first | rfl | (go_simp; rfl) | (go_simp; done)) ?_
  refine wpG_put rfl (v := .pointer (some ⟨b, 0, none⟩)) (fun w => by first | rfl | (go_simp; done)) ?_
  refine wpG_put rfl (v := .pointer (some ⟨b, 0, none⟩)) (fun w => by first | rfl | (go_simp; done)) ?_
  simp only [Act.put, List.setIfInBounds_toArray, List.set_cons_succ, List.set_cons_zero]
  refine wpG_put rfl (v := .pointer (some ⟨b, 2, none⟩)) (fun w => by first | rfl | (go_simp; done)) ?_
  simp only [Act.put, List.setIfInBounds_toArray, List.set_cons_succ, List.set_cons_zero]
  refine wpG_loadP rfl 29 _ rfl rfl K2 3 (fL (F1, F2, F3)) rfl _ Tryz.underlying29 rfl info30 ?_
  refine wpG_same rfl 49 _ _ rfl rfl rfl M2 info38 (tok_one noTok) ?_
  simp only [Act.put, List.setIfInBounds_toArray, List.set_cons_succ, List.set_cons_zero]
  refine wpG_nil ?_
  intro W5 B5
  have K5 := K2.grown B5
  have M5 := M2.grown B5
  have P5 := N3.grown B5
  have T5 := T2.grow B5
  clear K2 M2 N3 T2 B5 c4
  go_wp2_with (first
    | (refine wpList_storeS rfl 29 _ _ rfl rfl (fL (F1, F2, F3)) rfl P5 (by simp [fL]) info30 (fL_one _) ?_; intro V9 U9 NZx; have NZ : IsS V9 b3 29 (fL (F1, F2, F3)) := NZx; have M9 := M5.upd U9 h23; have K9 := K5.upd U9 (by omega); have T9 := T5.upd hb3 U9; clear U9 P5 M5 K5 T5 NZx))
  exact ret_SS rfl rfl rfl rfl M9 NZ _ Tryz.underlying49 rfl info38 _ Tryz.underlying29 rfl info30 ⟨⟨rfl, K9⟩, T9⟩
end Go.Proofs.YtjnbhcakfenbhaaGreatDoor.Lx

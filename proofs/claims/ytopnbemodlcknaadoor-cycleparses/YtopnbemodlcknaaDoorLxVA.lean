/- Several texts in one: V1, V2, V3. -/
import Derived.Test.YtopnbemodlcknaaDoorLxX9
import Derived.Test.YtopnbemodlcknaaDoorLxX10
import Derived.BigQuiet
/- The reference's has and blanks. -/
namespace Go.Proofs.YtopnbemodlcknaaDoor.Lx
open Go.RowKit M
set_option linter.unusedSimpArgs false
set_option linter.unusedVariables false

theorem beg_take (l p : List UInt8) : begB l p = decide (l.take p.length = p) := by
  unfold begB
  rw [Bool.eq_iff_iff, List.isPrefixOf_iff_prefix, decide_eq_true_iff, List.prefix_iff_eq_take]
  constructor <;> intro h <;> exact h.symm
set_option maxRecDepth 100000 in
set_option maxHeartbeats 1000000 in
theorem rhas_any (s t : ByteArray) (hs : s.size < 4611686018427387904) (ht : t.size < 4611686018427387904) (p : Nat) (hp : p ≤ s.size) (w : World) :
    Calls Tryd.prog 45 #[.string s, .int .i64 (p : Int), .string t] w fun e w' => e = .returned (.bool (begB (s.data.toList.drop p) t.data.toList)) ∧ w' = w := by
  have hl : (s.data.toList.drop p).length = s.size - p := by rw [List.length_drop, ← sizeL]
  by_cases h : t.size ≤ s.size - p
  · have h1 : (t.size : Int) ≤ (s.size : Int) - p := by omega
    have h2 : (p : Int) ≤ (p : Int) + t.size := by omega
    have h3 : (p : Int) + t.size ≤ s.size := by omega
    have HE : Hid (((s.extract p (p + t.size)).toList == t.toList) = begB (s.data.toList.drop p) t.data.toList) := (by
      show _ = _
      rw [beg_take, Bool.eq_iff_iff, decide_eq_true_iff, beq_iff_eq, toL, toL, exL, List.drop_take, ← sizeL, Nat.add_sub_cancel_left])
    clear hl
    go_enter Tryd.func45, Tryd.ntmps45
    go_wp2
    go_ret
    exact ⟨ret_bool (by rw [← HE.out]), rfl⟩
  · have h1 : ¬ (t.size : Int) ≤ (s.size : Int) - p := by omega
    have HE : Hid (begB (s.data.toList.drop p) t.data.toList = false) := (by
      show _ = _
      rw [Bool.eq_false_iff]
      intro hb
      have := begB_len hb
      rw [hl, ← sizeL] at this
      omega)
    clear hl
    go_enter Tryd.func45, Tryd.ntmps45
    go_wp2
    go_ret
    exact ⟨ret_bool (by rw [HE.out]), rfl⟩
end Go.Proofs.YtopnbemodlcknaaDoor.Lx
/- The reference's blanks. -/
namespace Go.Proofs.YtopnbemodlcknaaDoor.Lx
open Go.RowKit M
set_option linter.unusedSimpArgs false
set_option linter.unusedVariables false

/-- What the reference's blanks answers: a place behind blanks, or the place of a comment that is not closed. -/
def RBlk (p : Nat) (q : Nat × Bool) (e : Ending) : Prop := (q.2 = true ∧ e = .returned (.tuple #[.int .i64 ((p + q.1 : Nat) : Int), .int .i64 (-1)])) ∨ (q.2 = false ∧ ∃ x : Int, e = .returned (.tuple #[.int .i64 x, .int .i64 ((p + q.1 : Nat) : Int)]))
theorem com_short {l : List UInt8} (h : l.length ≤ 1) (o : Nat) : comF l o = none := by
  match l, h with
  | [], _ => rfl
  | [_], _ => rfl

set_option maxRecDepth 100000 in
set_option maxHeartbeats 4000000 in
theorem rblanks_any (s : ByteArray) (hs : s.size < 2305843009213693952) (p : Nat) (hp : p ≤ s.size) (w : World) :
    Calls Tryd.prog 22 #[.string s, .int .i64 (p : Int)] w fun e w' => RBlk p (blkF (s.data.toList.drop p)) e ∧ w' = w := by
  obtain ⟨⟨r1, r2⟩, hR⟩ : ∃ R, blkF (s.data.toList.drop p) = R := ⟨_, rfl⟩
  rw [hR]
  have HR : Hid (blkF (s.data.toList.drop p) = (r1, r2)) := hR
  obtain ⟨rr, hrr⟩ : ∃ rr, p + r1 = rr := ⟨_, rfl⟩
  have HRR : Hid (p + r1 = rr) := hrr
  clear hR hrr
  go_enter Tryd.func22, Tryd.ntmps22
  go_wp2
  go_loop [1, 6, 7, 13, 38, 64, 72, 88] (fun t _ _ _ _ _ _ _ => ∃ k : Nat, k ≤ s.size ∧ t = .int .i64 (k : Int) ∧ Hid (rr = k + (blkF (s.data.toList.drop k)).1 ∧ r2 = (blkF (s.data.toList.drop k)).2)) (fun t _ _ _ _ _ _ _ => s.size - (intOf t).toNat)
  case atStart => exact ⟨p, hp, rfl, by rw [HR.out, ← HRR.out]; exact ⟨rfl, rfl⟩⟩
  case round =>
    obtain ⟨k, hk, rfl, HK⟩ := hrel
    by_cases hlt : k < s.size
    · have hi : (k : Int) < s.size := by omega
      have ed := drop_cons s k hlt
      by_cases hb : blkN s[k].toNat = true
      · have HN : Hid (rr = (k + 1) + (blkF (s.data.toList.drop (k + 1))).1 ∧ r2 = (blkF (s.data.toList.drop (k + 1))).2) := (by
          have e := HK.out
          rw [ed, blkF_blank hb] at e
          exact ⟨by rw [e.1]; simp; omega, e.2⟩)
        have hbb : s[k].toNat = 32 ∨ s[k].toNat = 9 ∨ s[k].toNat = 10 ∨ s[k].toNat = 13 := by simpa [blkN] using hb
        clear hb HK ed
        rcases hbb with h | h | h | h
        · have f32 : ((s[k].toNat : Int) == 32) = true := (by simp; omega)
          clear h
          go_wp2
          go_round
          case rel => exact ⟨k + 1, by omega, by go_num, HN⟩
          case measure => simp [intOf]; omega
        · have f32 : ((s[k].toNat : Int) == 32) = false := (by simp; omega)
          have f9 : ((s[k].toNat : Int) == 9) = true := (by simp; omega)
          clear h
          go_wp2
          go_round
          case rel => exact ⟨k + 1, by omega, by go_num, HN⟩
          case measure => simp [intOf]; omega
        · have f32 : ((s[k].toNat : Int) == 32) = false := (by simp; omega)
          have f9 : ((s[k].toNat : Int) == 9) = false := (by simp; omega)
          have f10 : ((s[k].toNat : Int) == 10) = true := (by simp; omega)
          clear h
          go_wp2
          go_round
          case rel => exact ⟨k + 1, by omega, by go_num, HN⟩
          case measure => simp [intOf]; omega
        · have f32 : ((s[k].toNat : Int) == 32) = false := (by simp; omega)
          have f9 : ((s[k].toNat : Int) == 9) = false := (by simp; omega)
          have f10 : ((s[k].toNat : Int) == 10) = false := (by simp; omega)
          have f13 : ((s[k].toNat : Int) == 13) = true := (by simp; omega)
          clear h
          go_wp2
          go_round
          case rel => exact ⟨k + 1, by omega, by go_num, HN⟩
          case measure => simp [intOf]; omega
      · have hb' : blkN s[k].toNat = false := by simpa using hb
        have hbb : ¬ (s[k].toNat = 32 ∨ s[k].toNat = 9 ∨ s[k].toNat = 10 ∨ s[k].toNat = 13) := by simpa [blkN] using hb
        have f32 : ((s[k].toNat : Int) == 32) = false := (by simp; omega)
        have f9 : ((s[k].toNat : Int) == 9) = false := (by simp; omega)
        have f10 : ((s[k].toNat : Int) == 10) = false := (by simp; omega)
        have f13 : ((s[k].toNat : Int) == 13) = false := (by simp; omega)
        clear hb
        by_cases ho : opB (s.data.toList.drop k) = true
        · have ol := op_len ho
          rw [List.length_drop, ← sizeL] at ol
          have ed2 := drop_cons s (k + 1) (by omega)
          have hop : s[k].toNat = 40 ∧ s[k + 1].toNat = 42 := (by
            have h := ho
            rw [ed, ed2] at h
            simpa [opB] using h)
          have g40 : ((s[k].toNat : Int) == 40) = true := (by simp; omega)
          have g42 : ((s[k + 1].toNat : Int) == 42) = true := (by simp; omega)
          have hi1 : (k : Int) + 1 < s.size := by omega
          have ho' := ho
          rw [ed] at ho'
          obtain ⟨R, hR⟩ : ∃ R, (comF (s.data.toList.drop (k + 2)) 1).map (· + (k + 2)) = R := ⟨_, rfl⟩
          have HC : Hid (∀ m, R = some m → k + 2 ≤ m ∧ m ≤ s.size ∧ rr = m + (blkF (s.data.toList.drop m)).1 ∧ r2 = (blkF (s.data.toList.drop m)).2) := (by
            intro m hm
            rw [← hR] at hm
            obtain ⟨q, hq, rfl⟩ := Option.map_eq_some_iff.1 hm
            have hj := comF_le _ _ (Nat.le_refl _) _ _ hq
            rw [List.length_drop, ← sizeL] at hj
            have e := HK.out
            rw [ed, blkF_com hb' ho' (by rw [List.drop_drop]; exact hq), List.drop_drop, show k + 1 + (1 + q) = q + (k + 2) by omega] at e
            exact ⟨by omega, by omega, by rw [e.1]; simp; omega, e.2⟩)
          have HD : Hid (R = none → rr = k ∧ r2 = false) := (by
            intro hm
            rw [← hR] at hm
            have hq : comF (s.data.toList.drop (k + 2)) 1 = none := by simpa using hm
            have e := HK.out
            rw [ed, blkF_open hb' ho' (by rw [List.drop_drop]; exact hq)] at e
            exact ⟨by rw [e.1]; simp, e.2⟩)
          have HR0 : Hid ((comF (s.data.toList.drop (k + 2)) 1).map (· + (k + 2)) = R) := hR
          clear hop ho ho' ed ed2 hR HK hb' hbb
          go_wp2
          go_loop [1, 7, 64, 72, 88] (fun t d _ _ _ => ∃ j m : Nat, m ≤ s.size ∧ k + 2 ≤ m ∧ j ≤ m ∧ t = .int .i64 (m : Int) ∧ d = .int .i64 (j : Int) ∧ Hid ((j = 0 ∧ R = some m) ∨ (1 ≤ j ∧ (comF (s.data.toList.drop m) j).map (· + m) = R))) (fun t d _ _ _ => s.size + 1 - (intOf t).toNat)
          case atStart => exact ⟨1, k + 2, by omega, by omega, by omega, by go_num, rfl, .inr ⟨by omega, HR0.out⟩⟩
          case round =>
            obtain ⟨j, m, hm, hkm, hjm, rfl, rfl, HJ⟩ := hrel
            clear HR0
            by_cases hj0 : j = 0
            · subst hj0
              have hRm : R = some m := (by rcases HJ.out with h | h; exact h.2; omega)
              obtain ⟨_, q2, q3, q4⟩ := HC.out m hRm
              have HN : Hid (rr = m + (blkF (s.data.toList.drop m)).1 ∧ r2 = (blkF (s.data.toList.drop m)).2) := ⟨q3, q4⟩
              clear HJ hRm q3 q4 HC HD
              go_wp2
              go_round
              case rel => exact ⟨m, by omega, rfl, HN⟩
              case measure => simp [intOf]; omega
            · have hj1 : (0 : Int) < j := by omega
              have HJ1 : Hid ((comF (s.data.toList.drop m) j).map (· + m) = R) := (by rcases HJ.out with h | h; exact absurd h.1 hj0; exact h.2)
              clear HJ
              by_cases hsh : s.size ≤ m + 1
              · have hsi : (s.size : Int) ≤ (m : Int) + 1 := by omega
                have HF := HD.out (by rw [← HJ1.out, com_short (by rw [List.length_drop, ← sizeL]; omega)]; rfl)
                have HF1 : Hid (rr = k) := HF.1
                have HF2 : Hid (r2 = false) := HF.2
                clear HF HC HD HJ1
                go_wp2
                go_ret2
                refine ⟨.inr ⟨HF2.out, (m : Int), ?_⟩, rfl⟩
                rw [HRR.out, HF1.out]
                rfl
              · have hsi : ¬ (s.size : Int) ≤ (m : Int) + 1 := by omega
                have hm1 : m < s.size := by omega
                have hm2 : m + 1 < s.size := by omega
                have hmi : (m : Int) < s.size := by omega
                have hmi2 : (m : Int) + 1 < s.size := by omega
                have em := drop_cons s m hm1
                have em2 := drop_cons s (m + 1) hm2
                have eo : opB (s.data.toList.drop m) = decide (s[m].toNat = 40 ∧ s[m + 1].toNat = 42) := by rw [em, em2]; rfl
                have ec : clB (s.data.toList.drop m) = decide (s[m].toNat = 42 ∧ s[m + 1].toNat = 41) := by rw [em, em2]; rfl
                by_cases o : s[m].toNat = 40 ∧ s[m + 1].toNat = 42
                · have HN : Hid ((comF (s.data.toList.drop (m + 2)) (j + 1)).map (· + (m + 2)) = R) := (by
                    show _ = _
                    have e := HJ1.out
                    rw [comF_open (by rw [eo]; exact decide_eq_true o), List.drop_drop, Option.map_map] at e
                    rw [← e]; congr 1; funext x; simp; omega)
                  have g1 : ((s[m].toNat : Int) == 40) = true := (by simp; omega)
                  have g2 : ((s[m + 1].toNat : Int) == 42) = true := (by simp; omega)
                  clear o eo ec em em2 HJ1 HC HD
                  go_wp2
                  go_round
                  case rel => exact ⟨j + 1, m + 2, by omega, by omega, by omega, by go_num, by go_num, .inr ⟨by omega, HN.out⟩⟩
                  case measure => simp [intOf]; omega
                · by_cases c : s[m].toNat = 42 ∧ s[m + 1].toNat = 41
                  · have g0 : ((s[m].toNat : Int) == 40) = false := (by simp; omega)
                    have g1 : ((s[m].toNat : Int) == 42) = true := (by simp; omega)
                    have g2 : ((s[m + 1].toNat : Int) == 41) = true := (by simp; omega)
                    have HN : Hid ((j - 1 = 0 ∧ R = some (m + 2)) ∨ (1 ≤ j - 1 ∧ (comF (s.data.toList.drop (m + 2)) (j - 1)).map (· + (m + 2)) = R)) := (by
                      have hcl : clB (s.data.toList.drop m) = true := by rw [ec]; exact decide_eq_true c
                      have e := HJ1.out
                      by_cases h1 : j = 1
                      · subst h1
                        rw [comF_last hcl] at e
                        refine .inl ⟨rfl, ?_⟩
                        rw [← e]; simp; omega
                      · refine .inr ⟨by omega, ?_⟩
                        rw [comF_close hcl h1, List.drop_drop, Option.map_map] at e
                        rw [← e]; congr 1; funext x; simp; omega)
                    clear o c eo ec em em2 HJ1 HC HD
                    go_wp2
                    go_round
                    case rel => exact ⟨j - 1, m + 2, by omega, by omega, by omega, by go_num, by rw [show ((j - 1 : Nat) : Int) = (j : Int) - 1 by omega], HN⟩
                    case measure => simp [intOf]; omega
                  · have HN : Hid ((comF (s.data.toList.drop (m + 1)) j).map (· + (m + 1)) = R) := (by
                      show _ = _
                      have e := HJ1.out
                      have o1 : opB (s[m] :: s.data.toList.drop (m + 1)) = false := by rw [← em, eo]; exact decide_eq_false o
                      have c1 : clB (s[m] :: s.data.toList.drop (m + 1)) = false := by rw [← em, ec]; exact decide_eq_false c
                      rw [em, comF_skip o1 c1, Option.map_map] at e
                      rw [← e]; congr 1; funext x; simp; omega)
                    clear HJ1 HC HD eo ec em em2
                    by_cases x1 : s[m].toNat = 40
                    · have g0 : ((s[m].toNat : Int) == 40) = true := (by simp; omega)
                      have g1 : ((s[m + 1].toNat : Int) == 42) = false := (by simp; omega)
                      have g2 : ((s[m].toNat : Int) == 42) = false := (by simp; omega)
                      clear o c x1
                      go_wp2
                      go_round
                      case rel => exact ⟨j, m + 1, by omega, by omega, by omega, by go_num, rfl, .inr ⟨by omega, HN.out⟩⟩
                      case measure => simp [intOf]; omega
                    · have g0 : ((s[m].toNat : Int) == 40) = false := (by simp; omega)
                      by_cases x2 : s[m].toNat = 42
                      · have g1 : ((s[m].toNat : Int) == 42) = true := (by simp; omega)
                        have g2 : ((s[m + 1].toNat : Int) == 41) = false := (by simp; omega)
                        clear o c x1 x2
                        go_wp2
                        go_round
                        case rel => exact ⟨j, m + 1, by omega, by omega, by omega, by go_num, rfl, .inr ⟨by omega, HN.out⟩⟩
                        case measure => simp [intOf]; omega
                      · have g1 : ((s[m].toNat : Int) == 42) = false := (by simp; omega)
                        clear o c x1 x2
                        go_wp2
                        go_round
                        case rel => exact ⟨j, m + 1, by omega, by omega, by omega, by go_num, rfl, .inr ⟨by omega, HN.out⟩⟩
                        case measure => simp [intOf]; omega
        · have ho' : opB (s.data.toList.drop k) = false := by simpa using ho
          have ho2 := ho'
          rw [ed] at ho2
          have HF : Hid (rr = k ∧ r2 = true) := (by
            have e := HK.out
            rw [ed, blkF_stop hb' ho2] at e
            exact ⟨by rw [e.1]; simp, e.2⟩)
          clear HK ho
          by_cases x1 : s[k].toNat = 40
          · have g0 : ((s[k].toNat : Int) == 40) = true := (by simp; omega)
            by_cases x2 : k + 1 < s.size
            · have hi1 : (k : Int) + 1 < s.size := by omega
              have hi1' : (k + 1 : Nat) < s.size := x2
              have x3 : s[k + 1].toNat ≠ 42 := (by
                intro h
                rw [ed, drop_cons s (k + 1) x2] at ho'
                simp [opB, x1, h] at ho')
              have g1 : ((s[k + 1].toNat : Int) == 42) = false := (by simp; omega)
              clear x1 x3 ho' ho2 ed hb' hbb
              go_wp2
              go_ret2
              exact ⟨.inl ⟨HF.out.2, by rw [HRR.out, HF.out.1]; rfl⟩, rfl⟩
            · have hi1 : ¬ (k : Int) + 1 < s.size := by omega
              clear x1 ho' ho2 ed hb' hbb
              go_wp2
              go_ret2
              exact ⟨.inl ⟨HF.out.2, by rw [HRR.out, HF.out.1]; rfl⟩, rfl⟩
          · have g0 : ((s[k].toNat : Int) == 40) = false := (by simp; omega)
            clear x1 ho' ho2 ed hb' hbb
            go_wp2
            go_ret2
            exact ⟨.inl ⟨HF.out.2, by rw [HRR.out, HF.out.1]; rfl⟩, rfl⟩
    · have hi : ¬ (k : Int) < s.size := by omega
      have HF : Hid (rr = k ∧ r2 = true) := (by
        have e := HK.out
        rw [drop_end s k (by omega), blkF_nil] at e
        exact ⟨by rw [e.1]; simp, e.2⟩)
      clear HK
      go_wp2
      go_ret2
      exact ⟨.inl ⟨HF.out.2, by rw [HRR.out, HF.out.1]; rfl⟩, rfl⟩
end Go.Proofs.YtopnbemodlcknaaDoor.Lx
/- The reference's sign. -/
namespace Go.Proofs.YtopnbemodlcknaaDoor.Lx
open Go.RowKit M
set_option linter.unusedSimpArgs false
set_option linter.unusedVariables false

theorem info111 : (Tryd.prog.info? 92).map (·.size) = some 3 := by kernel_rfl
def longL : List Value := [.string ⟨#[47, 92]⟩, .string ⟨#[92, 47]⟩, .string ⟨#[94, 45, 49]⟩]
/-- The signs of one byte. -/
def shortB : ByteArray := ⟨#[123, 125, 40, 41, 91, 93, 59, 44, 58, 124, 61, 36, 126, 38, 43, 42, 63, 92]⟩
theorem short_mem (c : Nat) : (c = 92 ∨ oneSign c = true) ↔ c ∈ [123, 125, 40, 41, 91, 93, 59, 44, 58, 124, 61, 36, 126, 38, 43, 42, 63, 92] := by
  unfold oneSign
  simp only [decide_eq_true_eq, List.mem_cons, List.not_mem_nil, or_false]
  omega
theorem short_at (c : Nat) : (∃ j, ∃ h : j < shortB.size, shortB[j].toNat = c) ↔ (c = 92 ∨ oneSign c = true) := by
  rw [short_mem]
  have e : (shortB.data.toList.map UInt8.toNat) = [123, 125, 40, 41, 91, 93, 59, 44, 58, 124, 61, 36, 126, 38, 43, 42, 63, 92] := by decide
  rw [← e, List.mem_map]
  constructor
  · rintro ⟨j, h, rfl⟩
    exact ⟨shortB[j], by rw [show shortB[j] = shortB.data[j] from rfl]; exact Array.getElem_mem_toList _, rfl⟩
  · rintro ⟨x, hx, rfl⟩
    obtain ⟨j, hj, rfl⟩ := List.mem_iff_getElem.1 hx
    exact ⟨j, by simpa using hj, rfl⟩
theorem beg_take_eq {l p : List UInt8} (h : begB l p = true) : l.take p.length = p := by
  have := beg_take l p
  rw [h] at this
  exact of_decide_eq_true this.symm
theorem beg_diff {l : List UInt8} {c d : UInt8} {p q : List UInt8} (hcd : c ≠ d) (h : begB l (c :: p) = true) : begB l (d :: q) = false := by
  cases l with
  | nil => simp [begB, List.isPrefixOf] at h
  | cons x l =>
    simp [begB, List.isPrefixOf] at h ⊢
    intro e
    exact absurd (h.1.trans e.symm) hcd

set_option maxRecDepth 100000 in
set_option maxHeartbeats 4000000 in
theorem rsign_any (s : ByteArray) (hs : s.size < 2305843009213693952) (p : Nat) (hp : p < s.size) (w : World) :
    Calls Tryd.prog 34 #[.string s, .int .i64 (p : Int)] w fun e w' => e = .returned (.string ⟨((s.data.toList.drop p).take (signLen (s.data.toList.drop p))).toArray⟩) ∧ Below w.heap.size w w' := by
  obtain ⟨R, hR⟩ : ∃ R, (s.data.toList.drop p).take (signLen (s.data.toList.drop p)) = R := ⟨_, rfl⟩
  rw [hR]
  obtain ⟨h0, e0⟩ : ∃ h0, begB (s.data.toList.drop p) [47, 92] = h0 := ⟨_, rfl⟩
  obtain ⟨h1, e1⟩ : ∃ h1, begB (s.data.toList.drop p) [92, 47] = h1 := ⟨_, rfl⟩
  obtain ⟨h2, e2⟩ : ∃ h2, begB (s.data.toList.drop p) [94, 45, 49] = h2 := ⟨_, rfl⟩
  have c0 : ∀ w, Calls Tryd.prog 45 #[.string s, .int .i64 (p : Int), .string ⟨#[47, 92]⟩] w fun e w' => e = .returned (.bool h0) ∧ w' = w := fun w => by rw [← e0]; exact rhas_any s ⟨#[47, 92]⟩ (by omega) (by decide) p (by omega) w
  have c1 : ∀ w, Calls Tryd.prog 45 #[.string s, .int .i64 (p : Int), .string ⟨#[92, 47]⟩] w fun e w' => e = .returned (.bool h1) ∧ w' = w := fun w => by rw [← e1]; exact rhas_any s ⟨#[92, 47]⟩ (by omega) (by decide) p (by omega) w
  have c2 : ∀ w, Calls Tryd.prog 45 #[.string s, .int .i64 (p : Int), .string ⟨#[94, 45, 49]⟩] w fun e w' => e = .returned (.bool h2) ∧ w' = w := fun w => by rw [← e2]; exact rhas_any s ⟨#[94, 45, 49]⟩ (by omega) (by decide) p (by omega) w
  have R0 : Hid (h0 = true → R = [47, 92]) := fun h => by
    rw [h] at e0
    rw [← hR, sign_b (beg_diff (by decide) e0) (by rw [e0]; rfl)]
    exact beg_take_eq e0
  have R1 : Hid (h1 = true → R = [92, 47]) := fun h => by
    rw [h] at e1
    rw [← hR, sign_b (beg_diff (by decide) e1) (by rw [e1]; simp)]
    exact beg_take_eq e1
  have R2 : Hid (h2 = true → R = [94, 45, 49]) := fun h => by
    rw [h] at e2
    rw [← hR, sign_a e2]
    exact beg_take_eq e2
  have ed := drop_cons s p hp
  have R3 : Hid (h0 = false → h1 = false → h2 = false → R = if s[p].toNat = 92 ∨ oneSign s[p].toNat = true then [s[p]] else []) := fun q0 q1 q2 => by
    rw [q0, ed] at e0
    rw [q1, ed] at e1
    rw [q2, ed] at e2
    rw [← hR, ed, sign_c e2 (by rw [e0, e1]; rfl)]
    split <;> simp
  clear hR e0 e1 e2 ed
  have hpi : (p : Int) < s.size := by omega
  go_enter Tryd.func34, Tryd.ntmps34
  go_wp2_with (first
    | (refine wpList_allocS rfl 92 rfl _ Tryd.zeroValue92 ?_; intro W1 b1 F1 N1; have hb1 : w.heap.size ≤ b1 := Nat.le_of_eq F1.at'.symm; have B1 := F1.trans (Below.refl _ _) (Nat.le_refl _); clear F1)
    | (refine wpList_storeS rfl 92 _ _ rfl rfl longL rfl N1 (by simp [longL]) info111 (by simp [longL, Value.oneCell']) ?_; intro W2 U2 N2x; have N2 : IsS W2 b1 92 longL := N2x; have B2 := U2.trans B1 hb1; clear U2 N1 B1 N2x; have k0 : W2.cell? ⟨b1, 0, none⟩ = some (.string ⟨#[47, 92]⟩) := N2.cell 0; have k1 : W2.cell? ⟨b1, 1, none⟩ = some (.string ⟨#[92, 47]⟩) := N2.cell 1; have k2 : W2.cell? ⟨b1, 2, none⟩ = some (.string ⟨#[94, 45, 49]⟩) := N2.cell 2))
  go_loop [6] (fun t => ∃ j : Nat, j ≤ 3 ∧ t = .int .i64 (j : Int) ∧ Hid ((0 < j → h0 = false) ∧ (1 < j → h1 = false) ∧ (2 < j → h2 = false))) (fun t => 3 - (intOf t).toNat)
  case atStart => exact ⟨0, by omega, rfl, by omega, by omega, by omega⟩
  case round =>
    obtain ⟨j, hj, rfl, HJ⟩ := hrel
    obtain rfl | rfl | rfl | rfl : j = 0 ∨ j = 1 ∨ j = 2 ∨ j = 3 := by omega
    · cases h0 with
      | true =>
        have HR : Hid (R = [47, 92]) := R0.out rfl
        clear R0 R1 R2 R3
        go_wp2_with (go_at_call 45; refine (c0 _).mono ?_; rintro e w' ⟨rfl, hw'⟩; replace hw' := hw'.symm; subst hw')
        go_ret
        exact ⟨(by rw [HR.out]; rfl), B2⟩
      | false =>
        have HN : Hid ((0 < 1 → false = false) ∧ (1 < 1 → h1 = false) ∧ (2 < 1 → h2 = false)) := ⟨fun _ => rfl, fun h => absurd h (by omega), fun h => absurd h (by omega)⟩
        clear HJ R0 R1 R2 R3
        go_wp2_with (go_at_call 45; refine (c0 _).mono ?_; rintro e w' ⟨rfl, hw'⟩; replace hw' := hw'.symm; subst hw')
        go_round
        case rel => exact ⟨1, by omega, by go_num, HN⟩
        case measure => simp [intOf]
    · cases h1 with
      | true =>
        have HR : Hid (R = [92, 47]) := R1.out rfl
        clear R0 R1 R2 R3
        go_wp2_with (go_at_call 45; refine (c1 _).mono ?_; rintro e w' ⟨rfl, hw'⟩; replace hw' := hw'.symm; subst hw')
        go_ret
        exact ⟨(by rw [HR.out]; rfl), B2⟩
      | false =>
        have HN : Hid ((0 < 2 → h0 = false) ∧ (1 < 2 → false = false) ∧ (2 < 2 → h2 = false)) := ⟨fun _ => HJ.out.1 (by omega), fun _ => rfl, fun h => absurd h (by omega)⟩
        clear HJ R0 R1 R2 R3
        go_wp2_with (go_at_call 45; refine (c1 _).mono ?_; rintro e w' ⟨rfl, hw'⟩; replace hw' := hw'.symm; subst hw')
        go_round
        case rel => exact ⟨2, by omega, by go_num, HN⟩
        case measure => simp [intOf]
    · cases h2 with
      | true =>
        have HR : Hid (R = [94, 45, 49]) := R2.out rfl
        clear R0 R1 R2 R3
        go_wp2_with (go_at_call 45; refine (c2 _).mono ?_; rintro e w' ⟨rfl, hw'⟩; replace hw' := hw'.symm; subst hw')
        go_ret
        exact ⟨(by rw [HR.out]; rfl), B2⟩
      | false =>
        have HN : Hid ((0 < 3 → h0 = false) ∧ (1 < 3 → h1 = false) ∧ (2 < 3 → false = false)) := ⟨fun _ => HJ.out.1 (by omega), fun _ => HJ.out.2.1 (by omega), fun _ => rfl⟩
        clear HJ R0 R1 R2 R3
        go_wp2_with (go_at_call 45; refine (c2 _).mono ?_; rintro e w' ⟨rfl, hw'⟩; replace hw' := hw'.symm; subst hw')
        go_round
        case rel => exact ⟨3, by omega, by go_num, HN⟩
        case measure => simp [intOf]
    · have q0 := HJ.out.1 (by omega)
      have q1 := HJ.out.2.1 (by omega)
      have q2 := HJ.out.2.2 (by omega)
      have HR : Hid (R = if s[p].toNat = 92 ∨ oneSign s[p].toNat = true then [s[p]] else []) := R3.out q0 q1 q2
      clear c0 c1 c2 R0 R1 R2 R3 k0 k1 k2
      go_wp2_with fail
      have esh : (⟨#[123, 125, 40, 41, 91, 93, 59, 44, 58, 124, 61, 36, 126, 38, 43, 42, 63, 92]⟩ : ByteArray) = shortB := rfl
      rw [esh]
      clear esh
      have hsz : shortB.size = 18 := rfl
      go_loopw [8] (fun t wr => ∃ j : Nat, j ≤ shortB.size ∧ t = .int .i64 (j : Int) ∧ Hid (Below w.heap.size w wr) ∧ Hid (∀ i, (h : i < shortB.size) → i < j → shortB[i].toNat ≠ s[p].toNat)) (fun t _ => shortB.size - (intOf t).toNat)
      case atStart => exact ⟨0, by omega, rfl, B2, fun i _ h => by omega⟩
      case round =>
        obtain ⟨j, hj, rfl, HB, HJ⟩ := hrel
        have hshi : shortB.size = 18 := rfl
        by_cases hlt : j < shortB.size
        · have hi : (j : Int) < shortB.size := by omega
          by_cases he : shortB[j].toNat = s[p].toNat
          · have hb : ((s[p].toNat : Int) == (shortB[j].toNat : Int)) = true := (by simp; omega)
            have HF : Hid (R = [shortB[j]]) := (by
              show _ = _
              rw [HR.out, if_pos ((short_at _).1 ⟨j, hlt, he⟩)]
              rw [UInt8.toNat_inj.1 he])
            clear he HR HJ
            go_wp2_with fail
            go_quiet (fail)
            go_wp2_with fail
            go_ret
            refine ⟨?_, below_drewN HB.out _⟩
            have ex : (shortB.data.toList.take (j + 1)).drop j = [shortB[j]] := by rw [List.drop_take, drop_cons shortB j hlt]; simp
            rw [HF.out, ← ex, ← exA]
            rfl
          · have hb : ((s[p].toNat : Int) == (shortB[j].toNat : Int)) = false := (by simp; omega)
            have HN : Hid (∀ i, (h : i < shortB.size) → i < j + 1 → shortB[i].toNat ≠ s[p].toNat) := fun i h hi => by
              rcases Nat.lt_or_ge i j with h' | h'
              · exact HJ.out i h h'
              · obtain rfl : i = j := by omega
                exact he
            clear he HR HJ
            go_wp2_with fail
            go_quiet (fail)
            have HB' : Hid (Below w.heap.size w (wr.drewN nq)) := below_drewN HB.out nq
            generalize wr.drewN nq = W3 at *
            go_wp2_with fail
            go_roundw
            case rel => exact ⟨j + 1, by omega, by go_num, HB', HN⟩
            case measure => simp [intOf]; omega
        · have hi : ¬ (j : Int) < shortB.size := by omega
          have HF : Hid (R = []) := (by
            show _ = _
            rw [HR.out, if_neg]
            intro h
            obtain ⟨i, hi, he⟩ := (short_at _).2 h
            exact HJ.out i hi (by omega) he)
          clear HJ HR
          go_wp2_with fail
          go_ret
          exact ⟨(by rw [HF.out]; rfl), HB.out⟩
end Go.Proofs.YtopnbemodlcknaaDoor.Lx

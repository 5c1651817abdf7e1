/- blanks. -/
import Derived.Test.YtopnbemodlcknaaDoorLxX8
namespace Go.Proofs.YtopnbemodlcknaaDoor.Lx
open Go.RowKit M
set_option linter.unusedSimpArgs false
set_option linter.unusedVariables false

/-- What blanks answers. -/
def blkV (p : Nat × Bool) : Value := .tuple #[.int .i64 (p.1 : Int), .bool p.2]

set_option maxRecDepth 100000 in
set_option maxHeartbeats 1000000 in
theorem blanks_any (s : ByteArray) (hs : s.size < 4611686018427387904) (w : World) :
    Calls Tryd.prog 35 #[.string s] w fun e w' => e = .returned (blkV (blkF s.data.toList)) ∧ w' = w := by
  obtain ⟨R, hR⟩ : ∃ R, blkF s.data.toList = R := ⟨_, rfl⟩
  rw [hR]
  obtain ⟨r1, r2⟩ := R
  have HR : Hid (blkF s.data.toList = (r1, r2)) := hR
  clear hR
  go_enter Tryd.func35, Tryd.ntmps35
  go_wp2
  go_loop [4, 5, 6] (fun n _ _ => ∃ k : Nat, k ≤ s.size ∧ n = .int .i64 (k : Int) ∧ Hid (r1 = (blkF (s.data.toList.drop k)).1 + k ∧ r2 = (blkF (s.data.toList.drop k)).2)) (fun n _ _ => s.size - (intOf n).toNat)
  case atStart => exact ⟨0, by omega, rfl, by rw [List.drop_zero, HR.out]; exact ⟨rfl, rfl⟩⟩
  case round =>
    obtain ⟨k, hk, rfl, HK⟩ := hrel
    by_cases hlt : k < s.size
    · have hi : (k : Int) < s.size := by omega
      have hi2 : (k : Int) ≤ s.size := by omega
      have hB := fun w => blank_any s[k].toNat s[k].toNat_lt w
      have ed := drop_cons s k hlt
      cases hb : blkN s[k].toNat with
      | true =>
        have HN : Hid (r1 = (blkF (s.data.toList.drop (k + 1))).1 + (k + 1) ∧ r2 = (blkF (s.data.toList.drop (k + 1))).2) := (by
          have e := HK.out
          rw [ed, blkF_blank hb] at e
          exact ⟨by rw [e.1]; simp; omega, e.2⟩)
        rw [hb] at hB
        clear hb HK ed
        go_wp2_with (go_at_call 46; refine (hB _).mono ?_; rintro e w' ⟨rfl, hw'⟩; replace hw' := hw'.symm; subst hw')
        go_round
        case rel => exact ⟨k + 1, by omega, by go_num, HN⟩
        case measure => simp [intOf]; omega
      | false =>
        rw [hb] at hB
        have p1 := fun w => pre_any (s.extract k s.size) ⟨#[40, 42]⟩ w
        rw [exD, show (ByteArray.mk #[40, 42]).data.toList = [40, 42] from rfl, ← op_beg] at p1
        cases ho : opB (s.data.toList.drop k) with
        | true =>
          have hC := fun w => comment_any (s.extract k s.size) (by rw [ByteArray.size_extract]; omega) (by rw [exD]; exact ho) w
          rw [exD, List.drop_drop] at hC
          rw [ho] at p1
          have ho' := ho
          rw [ed] at ho'
          cases hc : comF (s.data.toList.drop (k + 2)) 1 with
          | none =>
            have HF : Hid (r1 = k ∧ r2 = false) := (by
              have e := HK.out
              rw [ed, blkF_open hb ho' (by rw [List.drop_drop]; exact hc)] at e
              exact ⟨by rw [e.1]; simp, e.2⟩)
            rw [hc] at hC
            have hC' : ∀ w, Calls Tryd.prog 48 #[.string (s.extract k s.size)] w fun e w' => e = .returned (.tuple #[.int .i64 0, .bool false]) ∧ w' = w := hC
            clear hC hc ho' ho HK ed hb
            go_wp2_with (first
              | (go_at_call 46; refine (hB _).mono ?_; rintro e w' ⟨rfl, hw'⟩; replace hw' := hw'.symm; subst hw')
              | (go_at_call 47; refine (p1 _).mono ?_; rintro e w' ⟨rfl, hw'⟩; replace hw' := hw'.symm; subst hw')
              | (go_at_call 48; refine (hC' _).mono ?_; rintro e w' ⟨rfl, hw'⟩; replace hw' := hw'.symm; subst hw'))
            go_ret2
            exact ⟨by rw [HF.out.1, HF.out.2]; rfl, rfl⟩
          | some j =>
            have hj := comF_le _ _ (Nat.le_refl _) _ _ hc
            rw [List.length_drop, ← sizeL] at hj
            have HN : Hid (r1 = (blkF (s.data.toList.drop (k + (j + 2)))).1 + (k + (j + 2)) ∧ r2 = (blkF (s.data.toList.drop (k + (j + 2)))).2) := (by
              have e := HK.out
              rw [ed, blkF_com hb ho' (by rw [List.drop_drop]; exact hc), List.drop_drop, show k + 1 + (1 + j) = k + (j + 2) by omega] at e
              exact ⟨by rw [e.1]; simp; omega, e.2⟩)
            rw [hc] at hC
            have hC' : ∀ w, Calls Tryd.prog 48 #[.string (s.extract k s.size)] w fun e w' => e = .returned (.tuple #[.int .i64 ((j + 2 : Nat) : Int), .bool true]) ∧ w' = w := hC
            have ol := op_len ho
            rw [List.length_drop, ← sizeL] at ol
            clear hC hc ho' ho HK ed hb
            go_wp2_with (first
              | (go_at_call 46; refine (hB _).mono ?_; rintro e w' ⟨rfl, hw'⟩; replace hw' := hw'.symm; subst hw')
              | (go_at_call 47; refine (p1 _).mono ?_; rintro e w' ⟨rfl, hw'⟩; replace hw' := hw'.symm; subst hw')
              | (go_at_call 48; refine (hC' _).mono ?_; rintro e w' ⟨rfl, hw'⟩; replace hw' := hw'.symm; subst hw'))
            go_round
            case rel => exact ⟨k + (j + 2), by omega, by go_num, HN⟩
            case measure => simp [intOf]; omega
        | false =>
          have ho' := ho
          rw [ed] at ho'
          have HF : Hid (r1 = k ∧ r2 = true) := (by
            have e := HK.out
            rw [ed, blkF_stop hb ho'] at e
            exact ⟨by rw [e.1]; simp, e.2⟩)
          rw [ho] at p1
          clear ho' ho HK ed hb
          go_wp2_with (first
            | (go_at_call 46; refine (hB _).mono ?_; rintro e w' ⟨rfl, hw'⟩; replace hw' := hw'.symm; subst hw')
            | (go_at_call 47; refine (p1 _).mono ?_; rintro e w' ⟨rfl, hw'⟩; replace hw' := hw'.symm; subst hw'))
          go_ret2
          exact ⟨by rw [HF.out.1, HF.out.2]; rfl, rfl⟩
    · have hi : ¬ (k : Int) < s.size := by omega
      have HF : Hid (r1 = k ∧ r2 = true) := (by
        have e := HK.out
        rw [drop_end s k (by omega), blkF_nil] at e
        exact ⟨by rw [e.1]; simp, e.2⟩)
      clear HK
      go_wp2
      go_ret2
      exact ⟨by rw [HF.out.1, HF.out.2]; rfl, rfl⟩
end Go.Proofs.YtopnbemodlcknaaDoor.Lx

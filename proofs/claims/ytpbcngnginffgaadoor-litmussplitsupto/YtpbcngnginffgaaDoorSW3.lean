/- The reference's first, empty, Split. -/
import Derived.Test.YtpbcngnginffgaaDoorSW2
namespace Go.Proofs.YtpbcngnginffgaaDoor
open Go.RowKit Go.Shelf M
set_option linter.unusedSimpArgs false
set_option linter.unusedVariables false

theorem get_toNat (s : ByteArray) (k : Nat) (h : k < s.size) : s.data.toList[k]? = some s[k] := by
  rw [List.getElem?_eq_getElem (by simpa using h)]; rfl
theorem byte_eq (c : UInt8) (n : Nat) (hn : n < 256) : ((c.toNat : Int) == (n : Int)) = (c == UInt8.ofNat n) := by
  rw [Bool.eq_iff_iff]
  simp only [beq_iff_eq]
  constructor
  · intro h
    apply UInt8.toNat_inj.1
    rw [UInt8.toNat_ofNat_of_lt' (by simpa using hn)]
    omega
  · intro h
    rw [h, UInt8.toNat_ofNat_of_lt' (by simpa using hn)]
theorem opens_form (s : ByteArray) (k : Nat) (h : k + 3 < s.size) : opensB (s.data.toList.drop k) = (((s.extract k (k + 3)).toList == [88, 56, 54]) && (((s[k + 3].toNat : Int) == 32) || ((s[k + 3].toNat : Int) == 9))) := by
  have h32 := byte_eq s[k + 3] 32 (by decide)
  have h9 := byte_eq s[k + 3] 9 (by decide)
  rw [show ((32 : Nat) : Int) = 32 from rfl] at h32
  rw [show ((9 : Nat) : Int) = 9 from rfl] at h9
  rw [h32, h9, toL, exL, List.drop_take, show k + 3 - k = 3 by omega]
  unfold opensB
  have e : (s.data.toList.drop k).take 4 = (s.data.toList.drop k).take 3 ++ [s[k + 3]] := by
    rw [List.take_succ_eq_append_getElem (by rw [List.length_drop, ← sizeL]; omega), List.getElem_drop]; rfl
  rw [e]
  have hl : ((s.data.toList.drop k).take 3).length = 3 := by rw [List.length_take, List.length_drop, ← sizeL]; omega
  generalize (s.data.toList.drop k).take 3 = m at hl ⊢
  generalize s[k + 3] = c
  rcases m with _ | ⟨a, _ | ⟨b, _ | ⟨d, _ | ⟨x, r⟩⟩⟩⟩ <;> simp at hl
  show ((a == 88 && (b == 56 && (d == 54 && (c == 32 && true)))) || (a == 88 && (b == 56 && (d == 54 && (c == 9 && true))))) = ((a == 88 && (b == 56 && (d == 54 && true))) && (c == 32 || c == 9))
  generalize (a == 88) = x1
  generalize (b == 56) = x2
  generalize (d == 54) = x3
  generalize (c == 32) = x4
  generalize (c == 9) = x5
  revert x1 x2 x3 x4 x5
  decide
set_option maxRecDepth 100000 in
set_option maxHeartbeats 4000000 in
theorem first_any (s : ByteArray) (hs : s.size ≤ 1048576) (w : World) : Calls Tryd.prog 9 #[.string s] w fun e w' => e = .returned (.bool (opensB s.data.toList)) ∧ w' = w := by
  by_cases h4 : 4 ≤ s.size
  · have h4' : (4 : Int) ≤ s.size := by omega
    have h3' : (3 : Int) ≤ s.size := by omega
    have h3 : (3 : Int) < s.size := by omega
    have HO : Hid (opensB s.data.toList = (((s.extract 0 3).toList == [88, 56, 54]) && (((s[3].toNat : Int) == 32) || ((s[3].toNat : Int) == 9)))) := (by
      have := opens_form s 0 (by omega)
      show _ = _
      simpa using this)
    generalize opensB s.data.toList = q at HO ⊢
    go_enter Tryd.func9, Tryd.ntmps9
    go_wp2_with fail
    all_goals go_ret
    all_goals refine ⟨ret_bool ?_, rfl⟩
    all_goals rw [HO.out]
    all_goals simp_all
  · have h4' : ¬ ((4 : Int) ≤ s.size) := by omega
    go_enter Tryd.func9, Tryd.ntmps9
    go_wp2_with fail
    go_ret
    refine ⟨ret_bool ?_, rfl⟩
    cases h : opensB s.data.toList with
    | false => rfl
    | true => have := (opens_pos h).1; rw [← sizeL] at this; omega
theorem blank_snoc (s : ByteArray) (k : Nat) (h : k < s.size) : blankB (s.data.toList.take (k + 1)) = (blankB (s.data.toList.take k) && blkC s[k]) := by
  rw [List.take_succ_eq_append_getElem (by simpa using h)]
  unfold blankB
  rw [List.all_append]
  simp only [List.all_cons, List.all_nil, Bool.and_true]
  rfl
theorem blk_form (c : UInt8) : blkC c = !(((c.toNat : Int) != 32) && ((c.toNat : Int) != 9) && ((c.toNat : Int) != 10) && ((c.toNat : Int) != 13)) := by
  have h1 := byte_eq c 32 (by decide)
  have h2 := byte_eq c 9 (by decide)
  have h3 := byte_eq c 10 (by decide)
  have h4 := byte_eq c 13 (by decide)
  simp only [bne]
  rw [show ((32 : Nat) : Int) = 32 from rfl] at h1
  rw [show ((9 : Nat) : Int) = 9 from rfl] at h2
  rw [show ((10 : Nat) : Int) = 10 from rfl] at h3
  rw [show ((13 : Nat) : Int) = 13 from rfl] at h4
  rw [h1, h2, h3, h4]
  unfold blkC
  show (c == 32 || c == 9 || c == 10 || c == 13) = !(!(c == 32) && !(c == 9) && !(c == 10) && !(c == 13))
  cases (c == 32) <;> cases (c == 9) <;> cases (c == 10) <;> cases (c == 13) <;> rfl
theorem blank_at (s : ByteArray) (k : Nat) (h : k < s.size) (hb : blkC s[k] = false) : blankB s.data.toList = false := by
  cases hq : blankB s.data.toList with
  | false => rfl
  | true =>
    unfold blankB at hq
    rw [List.all_eq_true] at hq
    have := hq s[k] (List.mem_of_getElem? (get_toNat s k h))
    rw [hb] at this
    cases this
set_option maxRecDepth 100000 in
set_option maxHeartbeats 4000000 in
theorem empty_any (s : ByteArray) (hs : s.size ≤ 1048576) (w : World) : Calls Tryd.prog 10 #[.string s] w fun e w' => e = .returned (.bool (blankB s.data.toList)) ∧ w' = w := by
  go_enter Tryd.func10, Tryd.ntmps10
  go_wp2_with fail
  go_loop [3] (fun i => ∃ k : Nat, k ≤ s.size ∧ i = .int .i64 (k : Int) ∧ Hid (blankB (s.data.toList.take k) = true)) (fun i => s.size - (intOf i).toNat)
  case atStart => exact ⟨0, Nat.zero_le _, rfl, rfl⟩
  case round =>
    obtain ⟨k, hk, rfl, HK⟩ := hrel
    by_cases hlt : k < s.size
    · have hi : (k : Int) < s.size := by omega
      cases hb : blkC s[k] with
      | false =>
        have HB : Hid (blankB s.data.toList = false) := blank_at s k hlt hb
        rw [blk_form] at hb
        simp only [Bool.not_eq_false', Bool.and_eq_true] at hb
        obtain ⟨⟨⟨h1, h2⟩, h3⟩, h4⟩ := hb
        clear HK
        go_wp2_with fail
        all_goals go_ret
        all_goals exact ⟨ret_bool (by rw [HB.out]), rfl⟩
      | true =>
        have HB : Hid (blankB (s.data.toList.take (k + 1)) = true) := (by show _ = _; rw [blank_snoc s k hlt, hb, HK.out]; rfl)
        rw [blk_form] at hb
        simp only [Bool.not_eq_true', Bool.and_eq_false_iff] at hb
        clear HK
        rcases hb with ((h1 | h1) | h1) | h1
        all_goals go_wp2_with fail
        all_goals first | (exfalso; simp_all; done) | skip
        all_goals go_round
        all_goals first | (case rel => exact ⟨k + 1, by omega, by go_num, HB⟩) | skip
        all_goals (simp [intOf]; omega)
    · have hi : ¬ ((k : Int) < s.size) := by omega
      have HB : Hid (blankB s.data.toList = true) := (by
        have := HK.out
        rw [List.take_of_length_le (by rw [← sizeL]; omega)] at this
        exact this)
      clear HK
      go_wp2_with fail
      go_ret
      exact ⟨ret_bool (by rw [HB.out]), rfl⟩
end Go.Proofs.YtpbcngnginffgaaDoor

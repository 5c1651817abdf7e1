/- The reference's Split. -/
import Derived.Test.YtpbcngnginffgaaDoorSW3
namespace Go.Proofs.YtpbcngnginffgaaDoor
open Go.RowKit Go.Shelf M
set_option linter.unusedSimpArgs false
set_option linter.unusedVariables false

/-- The reference's word for a head, test by test. -/
def HdT (s : ByteArray) (k : Nat) (h : k + 3 < s.size) : Prop :=
  ((s.extract k (k + 3)).toList == [88, 56, 54]) = true ∧ (((s[k + 3].toNat : Int) == 32) = true ∨ (((s[k + 3].toNat : Int) == 32) = false ∧ ((s[k + 3].toNat : Int) == 9) = true)) ∧ (((k : Int) == 0) = true ∨ (((k : Int) == 0) = false ∧ (1 : Int) ≤ k ∧ ((s[k - 1].toNat : Int) == 10) = true))
def HdF (s : ByteArray) (k : Nat) (h : k + 3 < s.size) : Prop :=
  ((s.extract k (k + 3)).toList == [88, 56, 54]) = false ∨ (((s.extract k (k + 3)).toList == [88, 56, 54]) = true ∧ ((s[k + 3].toNat : Int) == 32) = false ∧ ((s[k + 3].toNat : Int) == 9) = false) ∨
  (((s.extract k (k + 3)).toList == [88, 56, 54]) = true ∧ (((s[k + 3].toNat : Int) == 32) = true ∨ (((s[k + 3].toNat : Int) == 32) = false ∧ ((s[k + 3].toNat : Int) == 9) = true)) ∧ ((k : Int) == 0) = false ∧ (1 : Int) ≤ k ∧ ((s[k - 1].toNat : Int) == 10) = false)
theorem head_form (s : ByteArray) (k : Nat) (h : k + 3 < s.size) : headB s.data.toList k = ((((s.extract k (k + 3)).toList == [88, 56, 54]) && (((s[k + 3].toNat : Int) == 32) || ((s[k + 3].toNat : Int) == 9))) && (((k : Int) == 0) || ((s[k - 1].toNat : Int) == 10))) := by
  unfold headB
  rw [opens_form s k h, get_toNat s (k - 1) (by omega)]
  have h10 := byte_eq s[k - 1] 10 (by decide)
  rw [show ((10 : Nat) : Int) = 10 from rfl] at h10
  rw [h10]
  congr 1
  have : (k == 0) = ((k : Int) == 0) := by rw [Bool.eq_iff_iff]; simp
  rw [this]
  rfl
theorem hd_true {s : ByteArray} {k : Nat} {h : k + 3 < s.size} (hh : headB s.data.toList k = true) : HdT s k h := by
  rw [head_form s k h] at hh
  unfold HdT
  simp only [Bool.and_eq_true, Bool.or_eq_true] at hh
  obtain ⟨⟨h1, h2⟩, h3⟩ := hh
  refine ⟨h1, ?_, ?_⟩
  · cases hc : ((s[k + 3].toNat : Int) == 32) with
    | true => exact .inl rfl
    | false => rw [hc] at h2; exact .inr ⟨rfl, h2.resolve_left (by simp)⟩
  · cases hc : ((k : Int) == 0) with
    | true => exact .inl rfl
    | false =>
      rw [hc] at h3
      refine .inr ⟨rfl, ?_, h3.resolve_left (by simp)⟩
      simp at hc; omega
theorem hd_false {s : ByteArray} {k : Nat} {h : k + 3 < s.size} (hh : headB s.data.toList k = false) : HdF s k h := by
  rw [head_form s k h] at hh
  unfold HdF
  cases h1 : ((s.extract k (k + 3)).toList == [88, 56, 54]) with
  | false => exact .inl rfl
  | true =>
    cases h2 : ((s[k + 3].toNat : Int) == 32) <;> cases h3 : ((s[k + 3].toNat : Int) == 9) <;> cases h4 : ((k : Int) == 0) <;> cases h5 : ((s[k - 1].toNat : Int) == 10)
    all_goals rw [h1, h2, h3, h4, h5] at hh
    all_goals first | (exfalso; revert hh; decide) | skip
    all_goals first | exact .inr (.inl ⟨rfl, rfl, rfl⟩) | exact .inr (.inr ⟨rfl, .inl rfl, rfl, by simp at h4; omega, rfl⟩) | exact .inr (.inr ⟨rfl, .inr ⟨rfl, rfl⟩, rfl, by simp at h4; omega, rfl⟩)
theorem opens_long {s : ByteArray} {k : Nat} (h : ¬ k + 3 < s.size) : headB s.data.toList k = false := by
  cases hh : headB s.data.toList k with
  | false => rfl
  | true => have := head_lt hh; rw [← sizeL] at this; omega

set_option maxRecDepth 100000 in
set_option maxHeartbeats 8000000 in
theorem rsplit_any (s : ByteArray) (hs : s.size ≤ 1048576) (w : World) : Calls Tryd.prog 5 #[.string s] w fun e w' => ∃ v, e = .returned v ∧ SP w w' s v (splitF s.data.toList).length (splitF s.data.toList) := by
  go_enter Tryd.func5, Tryd.ntmps5
  go_wp2_with fail
  go_loopw [3, 4, 5] (fun v f i wr => ∃ (k f0 n : Nat) (o : List (Nat × Nat)), k ≤ s.size + 1 ∧ f0 ≤ k ∧ n ≤ k ∧ i = .int .i64 (k : Int) ∧ f = .int .i64 (f0 : Int) ∧ Hid (if k ≤ s.size then cuts s.data.toList k = (o, f0) else o = splitF s.data.toList) ∧ SP w wr s v n o) (fun _ _ i _ => s.size + 1 - (intOf i).toNat)
  case atStart => exact ⟨0, 0, 0, [], Nat.zero_le _, Nat.le_refl _, Nat.le_refl _, rfl, rfl, (by show ite _ _ _; rw [if_pos (Nat.zero_le _)]; rfl), World.ownsRow_nil _ _ _ _, Below.refl _ _, rfl⟩
  case round =>
    obtain ⟨k, f0, n, o, hk, hf, hnk, rfl, rfl, HC, P⟩ := hrel
    obtain ⟨a0, c0, rfl⟩ := own_form P.own
    have hfi : (f0 : Int) ≤ k := by omega
    by_cases hle : k ≤ s.size
    · have hi : (k : Int) ≤ s.size := by omega
      have HC' : cuts s.data.toList k = (o, f0) := (by have := HC.out; rw [if_pos hle] at this; exact this)
      clear HC
      have hat := cuts_at s.data.toList k
      rw [HC'] at hat
      have hrt := ref_test hat
      have cF := fun w => first_any s hs w
      have cE := fun w => empty_any (s.extract f0 k) (by rw [ByteArray.size_extract]; omega) w
      rw [exS] at cE
      have h03 : (0 : Int) ≤ (k : Int) + 3 := by omega
      -- what is pushed, in the reference's own tests
      have hpush : (blankB (sliceL s.data.toList f0 k) = true ∧ (¬ ((f0 : Int) < k) ∨ ((f0 : Int) < k ∧ f0 = 0 ∧ opensB s.data.toList = false))) ∨ (blankB (sliceL s.data.toList f0 k) = false ∧ (f0 : Int) < k ∧ ((0 : Int) < f0 ∨ (f0 = 0 ∧ opensB s.data.toList = true) ∨ (f0 = 0 ∧ opensB s.data.toList = false))) := by
        dsimp only at hrt
        cases hb : blankB (sliceL s.data.toList f0 k) with
        | true =>
          rw [hb] at hrt
          refine .inl ⟨rfl, ?_⟩
          by_cases hlt : f0 < k
          · refine .inr ⟨by omega, ?_⟩
            simp [hlt] at hrt
            exact ⟨hrt.1, hrt.2⟩
          · exact .inl (by omega)
        | false =>
          rw [hb] at hrt
          simp at hrt
          refine .inr ⟨rfl, by omega, ?_⟩
          rcases Nat.eq_zero_or_pos f0 with h0 | h0
          · cases ho : opensB s.data.toList with
            | true => exact .inr (.inl ⟨h0, rfl⟩)
            | false => exact .inr (.inr ⟨h0, rfl⟩)
          · exact .inl (by omega)
      have hl := sizeL s
      clear hrt hat
      have HN : ∀ b, blankB (sliceL s.data.toList f0 k) = b → (headB s.data.toList k = true ∨ k = s.size) → Hid (if k + 1 ≤ s.size then cuts s.data.toList (k + 1) = (if b then o else o ++ [(f0, k)], k) else (if b then o else o ++ [(f0, k)]) = splitF s.data.toList) := by
        intro b hb hh
        show ite _ _ _
        rcases hh with hh | hh
        · have := head_lt hh
          rw [← sizeL] at this
          rw [if_pos (by omega), cuts_head hh, HC']
          unfold stepS
          rw [hb]
        · rw [if_neg (by omega)]
          unfold splitF stepS
          rw [← hl, ← hh, HC', hb]
      cases hh : headB s.data.toList k with
      | false =>
        by_cases hlt : k < s.size
        · have hli : (k : Int) < s.size := by omega
          have HC2 : Hid (if k + 1 ≤ s.size then cuts s.data.toList (k + 1) = (o, f0) else o = splitF s.data.toList) := (by show ite _ _ _; rw [if_pos (by omega), cuts_none hh, HC'])
          clear HN HC' hpush hl cE cF
          by_cases h4 : k + 3 < s.size
          · have h4' : (k : Int) + 4 ≤ s.size := by omega
            have h3' : (k : Int) + 3 ≤ s.size := by omega
            have h3 : (k : Int) + 3 < s.size := by omega
            have hd := hd_false (h := h4) hh
            clear hh
            rcases hd with h1 | ⟨h1, h2, h5⟩ | ⟨h1, (h2 | ⟨h2, h5⟩), h6, h7, h8⟩
            all_goals go_wp2_with fail
            all_goals go_roundw
            all_goals first | (case rel => exact ⟨k + 1, f0, n, o, by omega, by omega, by omega, by go_num, rfl, HC2, P⟩) | skip
            all_goals (simp [intOf]; omega)
          · have h4' : ¬ ((k : Int) + 4 ≤ s.size) := by omega
            clear hh
            go_wp2_with fail
            go_roundw
            case rel => exact ⟨k + 1, f0, n, o, by omega, by omega, by omega, by go_num, rfl, HC2, P⟩
            case measure => simp [intOf]; omega
        · have hke : k = s.size := by omega
          have h4' : ¬ ((k : Int) + 4 ≤ s.size) := by omega
          have hli : ¬ ((k : Int) < s.size) := by omega
          have hln : ¬ (k < s.size) := by omega
          have HN2 : ∀ b, blankB (sliceL s.data.toList f0 k) = b → Hid (if k + 1 ≤ s.size then cuts s.data.toList (k + 1) = (if b then o else o ++ [(f0, k)], k) else (if b then o else o ++ [(f0, k)]) = splitF s.data.toList) := fun b hb => HN b hb (.inr hke)
          clear HN HC' hl hh hke
          rcases hpush with ⟨hb, (g1 | ⟨g1, g0, g2⟩)⟩ | ⟨hb, g1, (g2 | ⟨g0, g2⟩ | ⟨g0, g2⟩)⟩
          · have HC2 := HN2 _ hb
            clear hb HN2 cE cF
            go_wp2_with fail
            go_roundw
            case rel => exact ⟨k + 1, k, n, o, by omega, by omega, by omega, by go_num, rfl, HC2, P⟩
            case measure => simp [intOf]; omega
          · have HC2 := HN2 _ hb
            rw [hb] at cE
            rw [g2] at cF
            subst g0
            have g00 : ¬ ((0 : Int) < 0) := by omega
            clear hb HN2 g2
            go_wp2_with (first
              | (go_at_call 9; refine (cF _).mono ?_; rintro e w' ⟨rfl, hw'⟩; replace hw' := hw'.symm; subst hw'; clear cF)
              | (go_at_call 10; refine (cE _).mono ?_; rintro e w' ⟨rfl, hw'⟩; replace hw' := hw'.symm; subst hw'; clear cE))
            go_roundw
            case rel => exact ⟨k + 1, k, n, o, by omega, by omega, by omega, by go_num, rfl, HC2, P⟩
            case measure => simp [intOf]; omega
          · have HC2 := HN2 _ hb
            clear hb HN2 cE cF
            go_wp2_with (first
              | (refine wpList_buildT rfl _ rfl (s.extract f0 k) rfl ?_; intro W2 b2 F2 N2; have P2 := P.fresh F2; clear F2)
              | (refine wpList_appT rfl _ _ rfl w.heap.size _ n (pcs s o) rfl P2.own b2 1 (s.extract f0 k) rfl N2 (by omega) P2.B.size ?_; intro v3 W3 O3 g3; have P3 := P2.app g3 O3; obtain ⟨a3, c3, rfl⟩ := own_form O3; clear O3 g3 P2))
            go_roundw
            case rel => exact ⟨k + 1, k, n + 1, o ++ [(f0, k)], by omega, by omega, by omega, by go_num, rfl, HC2, P3⟩
            case measure => simp [intOf]; omega
          · have HC2 := HN2 _ hb
            rw [g2] at cF
            subst g0
            have g00 : ¬ ((0 : Int) < 0) := by omega
            clear hb HN2 g2 cE
            go_wp2_with (first
              | (go_at_call 9; refine (cF _).mono ?_; rintro e w' ⟨rfl, hw'⟩; replace hw' := hw'.symm; subst hw'; clear cF)
              | (refine wpList_buildT rfl _ rfl (s.extract 0 k) rfl ?_; intro W2 b2 F2 N2; have P2 := P.fresh F2; clear F2)
              | (refine wpList_appT rfl _ _ rfl w.heap.size _ n (pcs s o) rfl P2.own b2 1 (s.extract 0 k) rfl N2 (by omega) P2.B.size ?_; intro v3 W3 O3 g3; have P3 := P2.app g3 O3; obtain ⟨a3, c3, rfl⟩ := own_form O3; clear O3 g3 P2))
            go_roundw
            case rel => exact ⟨k + 1, k, n + 1, o ++ [(0, k)], by omega, by omega, by omega, by go_num, rfl, HC2, P3⟩
            case measure => simp [intOf]; omega
          · have HC2 := HN2 _ hb
            rw [hb] at cE
            rw [g2] at cF
            subst g0
            have g00 : ¬ ((0 : Int) < 0) := by omega
            clear hb HN2 g2
            go_wp2_with (first
              | (go_at_call 9; refine (cF _).mono ?_; rintro e w' ⟨rfl, hw'⟩; replace hw' := hw'.symm; subst hw'; clear cF)
              | (go_at_call 10; refine (cE _).mono ?_; rintro e w' ⟨rfl, hw'⟩; replace hw' := hw'.symm; subst hw'; clear cE)
              | (refine wpList_buildT rfl _ rfl (s.extract 0 k) rfl ?_; intro W2 b2 F2 N2; have P2 := P.fresh F2; clear F2)
              | (refine wpList_appT rfl _ _ rfl w.heap.size _ n (pcs s o) rfl P2.own b2 1 (s.extract 0 k) rfl N2 (by omega) P2.B.size ?_; intro v3 W3 O3 g3; have P3 := P2.app g3 O3; obtain ⟨a3, c3, rfl⟩ := own_form O3; clear O3 g3 P2))
            go_roundw
            case rel => exact ⟨k + 1, k, n + 1, o ++ [(0, k)], by omega, by omega, by omega, by go_num, rfl, HC2, P3⟩
            case measure => simp [intOf]; omega
      | true =>
        have HN2 : ∀ b, blankB (sliceL s.data.toList f0 k) = b → Hid (if k + 1 ≤ s.size then cuts s.data.toList (k + 1) = (if b then o else o ++ [(f0, k)], k) else (if b then o else o ++ [(f0, k)]) = splitF s.data.toList) := fun b hb => HN b hb (.inl hh)
        have h4 : k + 3 < s.size := (by have := head_lt hh; rw [← sizeL] at this; omega)
        have h4' : (k : Int) + 4 ≤ s.size := by omega
        have h3' : (k : Int) + 3 ≤ s.size := by omega
        have h3 : (k : Int) + 3 < s.size := by omega
        obtain ⟨h1, hd2, hd3⟩ := hd_true (h := h4) hh
        clear HN HC' hl hh
        rcases hpush with ⟨hb, (g1 | ⟨g1, g0, g2⟩)⟩ | ⟨hb, g1, (g2 | ⟨g0, g2⟩ | ⟨g0, g2⟩)⟩
        · have HC2 := HN2 _ hb
          clear hb HN2 cE cF
          rcases hd2 with h2 | ⟨h2, h5⟩ <;> rcases hd3 with h6 | ⟨h6, h7, h8⟩
          all_goals
            go_wp2_with fail
            go_roundw
            case rel => exact ⟨k + 1, k, n, o, by omega, by omega, by omega, by go_num, rfl, HC2, P⟩
            case measure => simp [intOf]; omega
        · have HC2 := HN2 _ hb
          rw [hb] at cE
          rw [g2] at cF
          subst g0
          have g00 : ¬ ((0 : Int) < 0) := by omega
          clear hb HN2 g2
          rcases hd2 with h2 | ⟨h2, h5⟩ <;> rcases hd3 with h6 | ⟨h6, h7, h8⟩
          all_goals first | (exfalso; simp at h6; omega) | skip
          all_goals
            go_wp2_with (first
              | (go_at_call 9; refine (cF _).mono ?_; rintro e w' ⟨rfl, hw'⟩; replace hw' := hw'.symm; subst hw'; clear cF)
              | (go_at_call 10; refine (cE _).mono ?_; rintro e w' ⟨rfl, hw'⟩; replace hw' := hw'.symm; subst hw'; clear cE))
            go_roundw
            case rel => exact ⟨k + 1, k, n, o, by omega, by omega, by omega, by go_num, rfl, HC2, P⟩
            case measure => simp [intOf]; omega
        · have HC2 := HN2 _ hb
          clear hb HN2 cE cF
          rcases hd2 with h2 | ⟨h2, h5⟩ <;> rcases hd3 with h6 | ⟨h6, h7, h8⟩
          all_goals first | (exfalso; simp at h6; omega) | skip
          all_goals
            go_wp2_with (first
              | (refine wpList_buildT rfl _ rfl (s.extract f0 k) rfl ?_; intro W2 b2 F2 N2; have P2 := P.fresh F2; clear F2)
              | (refine wpList_appT rfl _ _ rfl w.heap.size _ n (pcs s o) rfl P2.own b2 1 (s.extract f0 k) rfl N2 (by omega) P2.B.size ?_; intro v3 W3 O3 g3; have P3 := P2.app g3 O3; obtain ⟨a3, c3, rfl⟩ := own_form O3; clear O3 g3 P2))
            go_roundw
            case rel => exact ⟨k + 1, k, n + 1, o ++ [(f0, k)], by omega, by omega, by omega, by go_num, rfl, HC2, P3⟩
            case measure => simp [intOf]; omega
        · have HC2 := HN2 _ hb
          rw [g2] at cF
          subst g0
          have g00 : ¬ ((0 : Int) < 0) := by omega
          clear hb HN2 g2 cE
          rcases hd2 with h2 | ⟨h2, h5⟩ <;> rcases hd3 with h6 | ⟨h6, h7, h8⟩
          all_goals first | (exfalso; simp at h6; omega) | skip
          all_goals
            go_wp2_with (first
              | (go_at_call 9; refine (cF _).mono ?_; rintro e w' ⟨rfl, hw'⟩; replace hw' := hw'.symm; subst hw'; clear cF)
              | (refine wpList_buildT rfl _ rfl (s.extract 0 k) rfl ?_; intro W2 b2 F2 N2; have P2 := P.fresh F2; clear F2)
              | (refine wpList_appT rfl _ _ rfl w.heap.size _ n (pcs s o) rfl P2.own b2 1 (s.extract 0 k) rfl N2 (by omega) P2.B.size ?_; intro v3 W3 O3 g3; have P3 := P2.app g3 O3; obtain ⟨a3, c3, rfl⟩ := own_form O3; clear O3 g3 P2))
            go_roundw
            case rel => exact ⟨k + 1, k, n + 1, o ++ [(0, k)], by omega, by omega, by omega, by go_num, rfl, HC2, P3⟩
            case measure => simp [intOf]; omega
        · have HC2 := HN2 _ hb
          rw [hb] at cE
          rw [g2] at cF
          subst g0
          have g00 : ¬ ((0 : Int) < 0) := by omega
          clear hb HN2 g2
          rcases hd2 with h2 | ⟨h2, h5⟩ <;> rcases hd3 with h6 | ⟨h6, h7, h8⟩
          all_goals first | (exfalso; simp at h6; omega) | skip
          all_goals
            go_wp2_with (first
              | (go_at_call 9; refine (cF _).mono ?_; rintro e w' ⟨rfl, hw'⟩; replace hw' := hw'.symm; subst hw'; clear cF)
              | (go_at_call 10; refine (cE _).mono ?_; rintro e w' ⟨rfl, hw'⟩; replace hw' := hw'.symm; subst hw'; clear cE)
              | (refine wpList_buildT rfl _ rfl (s.extract 0 k) rfl ?_; intro W2 b2 F2 N2; have P2 := P.fresh F2; clear F2)
              | (refine wpList_appT rfl _ _ rfl w.heap.size _ n (pcs s o) rfl P2.own b2 1 (s.extract 0 k) rfl N2 (by omega) P2.B.size ?_; intro v3 W3 O3 g3; have P3 := P2.app g3 O3; obtain ⟨a3, c3, rfl⟩ := own_form O3; clear O3 g3 P2))
            go_roundw
            case rel => exact ⟨k + 1, k, n + 1, o ++ [(0, k)], by omega, by omega, by omega, by go_num, rfl, HC2, P3⟩
            case measure => simp [intOf]; omega
    · have hi : ¬ ((k : Int) ≤ s.size) := by omega
      have HC' : o = splitF s.data.toList := (by have := HC.out; rw [if_neg hle] at this; exact this)
      have HC2 : Hid (o = splitF s.data.toList) := HC'
      clear HC HC'
      go_wp2_with fail
      go_ret
      refine ⟨_, rfl, ?_⟩
      have := P.len
      rw [← HC2.out, this]
      exact P
end Go.Proofs.YtpbcngnginffgaaDoor

/- The reference's whole and Parse; the law WordParses. -/
import Derived.Test.YtlmnlfnodbfgiaaE2
namespace Go.Proofs.Ytlmnlfnodbfgiaa
open Go.RowKit M
set_option linter.unusedSimpArgs false
set_option linter.unusedVariables false

set_option maxRecDepth 100000 in
set_option maxHeartbeats 8000000 in
/-- whole, of a text that begins with a number. -/
theorem whole_any (s : ByteArray) (hs : s.size ≤ maxLen) (hd : digF s.data.toList ≠ []) (w : World) :
    Calls Try.prog 16 #[.string s] w fun e w' => e = .returned (.int .i64 (lenF s.data.toList : Int)) ∧ w' = w := by
  have hs' := hs
  unfold maxLen at hs'
  have hmz : minusB s.data.toList = true ∨ minusB s.data.toList = false := by cases minusB s.data.toList <;> simp
  rcases hmz with hm | hm
  · have hsg : sgn s.data.toList = 1 := by unfold sgn; rw [hm]; rfl
    have hlF := lenF_le s.data.toList
    rw [← sizeL] at hlF
    have h10 : (dl 10 (s.data.toList.drop 1)).length ≠ 0 := fun h => by
      by_cases hp : markB (s.data.toList.drop 1) = true
      · exact dl10_mark hp h
      · have hF := digF_plain (l := s.data.toList) (fun hh => hp (by rw [hsg] at hh; exact hh.1))
        rw [hsg] at hF
        exact hd (hF.1.trans (List.eq_nil_of_length_eq_zero h))
    have hbl : 1 < s.size := by
      have hl := sizeL s
      refine Nat.lt_of_not_le fun h2 => h10 ?_
      rw [List.drop_eq_nil_of_le (by omega)]; rfl
    have h0 : 0 < s.size := by omega
    have h45 : ((s[0].toNat : Int) == 45) = true := by
      have := minusB_at h0
      rw [List.drop_zero, hm] at this
      simp at this ⊢; omega
    have hi0 : (0 : Int) < s.size := by omega
    have hib : (1 : Int) < s.size := by omega
    have hd10 := dgK s hs 1 10 1 10 rfl rfl (by omega) (Or.inl rfl)
    have t10 : True := trivial
    have HT : Hid (¬ (markB (s.data.toList.drop 1) = true ∧ (dl 16 (s.data.toList.drop 3)).length ≠ 0) → lenF s.data.toList = 1 + (dl 10 (s.data.toList.drop 1)).length) := fun h => by
      have hF := digF_plain (l := s.data.toList) (fun hh => h (by rw [hsg, List.drop_drop] at hh; exact ⟨hh.1, fun e => hh.2 (List.eq_nil_of_length_eq_zero e)⟩))
      rw [hsg] at hF; exact hF.2.2
    have HH : Hid (markB (s.data.toList.drop 1) = true → (dl 16 (s.data.toList.drop 3)).length ≠ 0 → lenF s.data.toList = 3 + (dl 16 (s.data.toList.drop 3)).length) := fun h h2 => by
      have hF := digF_mark (l := s.data.toList) (by rw [hsg]; exact h) (by rw [hsg, List.drop_drop]; exact fun e => h2 (by rw [e]; rfl))
      rw [hsg, List.drop_drop] at hF; exact hF.2.2
    obtain ⟨N, hN⟩ : ∃ N, lenF s.data.toList = N := ⟨_, rfl⟩
    rw [hN] at HT HH hlF ⊢
    clear hN hsg hm hd h10
    have hcs : (markB (s.data.toList.drop 1) = false ∧ (((s[1].toNat : Int) == 48) = false ∨ (((s[1].toNat : Int) == 48) = true ∧ ¬ (2 : Int) < (s.size : Int)) ∨ (((s[1].toNat : Int) == 48) = true ∧ ∃ h : 2 < s.size, ((s[2].toNat : Int) == 120) = false ∧ ((s[2].toNat : Int) == 88) = false)))
        ∨ (markB (s.data.toList.drop 1) = true ∧ ((s[1].toNat : Int) == 48) = true ∧ ∃ h : 2 < s.size, (((s[2].toNat : Int) == 120) = true ∨ (((s[2].toNat : Int) == 120) = false ∧ ((s[2].toNat : Int) == 88) = true))) := by
      by_cases hl : 2 < s.size
      · have hmk := markB_at (s := s) (b := 1) (by omega)
        by_cases e48 : s[1].toNat = 48
        · by_cases ex : s[2].toNat = 120
          · right; refine ⟨by rw [hmk]; simp [e48, ex], by simp [e48], hl, Or.inl (by simp [ex])⟩
          · by_cases eX : s[2].toNat = 88
            · right; refine ⟨by rw [hmk]; simp [e48, eX], by simp [e48], hl, Or.inr ⟨by simp; omega, by simp [eX]⟩⟩
            · left; refine ⟨by rw [hmk]; simp [ex, eX], Or.inr (Or.inr ⟨by simp [e48], hl, by simp; omega, by simp; omega⟩)⟩
        · left; refine ⟨by rw [hmk]; simp [e48], Or.inl (by simp; omega)⟩
      · left; refine ⟨markB_end (by omega), ?_⟩
        by_cases e48 : s[1].toNat = 48
        · right; left; exact ⟨by simp [e48], by omega⟩
        · left; simp; omega
    rcases hcs with ⟨hmk, hcs⟩ | ⟨hmk, h48, hl, hcs⟩
    · have HR : Hid (N = 1 + (dl 10 (s.data.toList.drop 1)).length) := HT.out (fun h => by rw [hmk] at h; cases h.1)
      clear HT HH hmk
      obtain ⟨K, hK⟩ : ∃ K, (dl 10 (s.data.toList.drop 1)).length = K := ⟨_, rfl⟩
      obtain ⟨v, hv⟩ : ∃ v, val 10 (dl 10 (s.data.toList.drop 1)) = v := ⟨_, rfl⟩
      rw [hK, hv] at hd10
      rw [hK] at HR
      have hKs : 1 + K ≤ s.size := by rw [← HR.out]; exact hlF
      clear hK hv hlF
      rcases hcs with h48 | ⟨h48, hl⟩ | ⟨h48, hl, hx, hX⟩
      all_goals
        go_enter Try.func16, Try.ntmps16
        go_wp2_with (first
          | (have := t10; go_at_call 17; refine (hd10 _).mono ?_; clear t10 this; rintro e w' ⟨⟨x, rfl, hx0, hx1, HX⟩, hw'⟩; replace hw' := hw'.symm; subst hw'))
        go_ret
        exact ⟨ret_int (by have := HR.out; omega), rfl⟩
    · have hd16 := dgK s hs 3 16 3 16 rfl rfl (by omega) (Or.inr rfl)
      have t16 : True := trivial
      have HR1 : Hid ((dl 16 (s.data.toList.drop 3)).length = 0 → N = 1 + (dl 10 (s.data.toList.drop 1)).length) := fun h => HT.out (fun h2 => h2.2 h)
      have HR2 : Hid ((dl 16 (s.data.toList.drop 3)).length ≠ 0 → N = 3 + (dl 16 (s.data.toList.drop 3)).length) := fun h => HH.out hmk h
      have hdl := dl_len 10 (s.data.toList.drop 1)
      have hdl2 := dl_len 16 (s.data.toList.drop 3)
      rw [List.length_drop, ← sizeL] at hdl hdl2
      clear HT HH hmk
      obtain ⟨K, hK⟩ : ∃ K, (dl 10 (s.data.toList.drop 1)).length = K := ⟨_, rfl⟩
      obtain ⟨v, hv⟩ : ∃ v, val 10 (dl 10 (s.data.toList.drop 1)) = v := ⟨_, rfl⟩
      obtain ⟨K2, hK2⟩ : ∃ K, (dl 16 (s.data.toList.drop 3)).length = K := ⟨_, rfl⟩
      obtain ⟨v2, hv2⟩ : ∃ v, val 16 (dl 16 (s.data.toList.drop 3)) = v := ⟨_, rfl⟩
      rw [hK, hv] at hd10
      rw [hK2, hv2] at hd16
      rw [hK, hK2] at HR1
      rw [hK2] at HR2 hdl2
      rw [hK] at hdl
      clear hK hv hK2 hv2 hlF
      by_cases hk2 : K2 = 0
      · have hk2i : ¬ (0 : Int) < K2 := by omega
        have HR : Hid (N = 1 + K) := HR1.out hk2
        clear hk2 HR1 HR2
        rcases hcs with hx | ⟨hx, hX⟩
        all_goals
          go_enter Try.func16, Try.ntmps16
          go_wp2_with (first
            | (have := t10; go_at_call 17; refine (hd10 _).mono ?_; clear t10 this; rintro e w' ⟨⟨x, rfl, hx0, hx1, HX⟩, hw'⟩; replace hw' := hw'.symm; subst hw')
            | (have := t16; go_at_call 17; refine (hd16 _).mono ?_; clear t16 this; rintro e w' ⟨⟨y, rfl, hy0, hy1, HY⟩, hw'⟩; replace hw' := hw'.symm; subst hw'))
          go_ret
          exact ⟨ret_int (by have := HR.out; omega), rfl⟩
      · have hk2i : (0 : Int) < K2 := by omega
        have HR : Hid (N = 3 + K2) := HR2.out hk2
        clear hk2 HR1 HR2
        rcases hcs with hx | ⟨hx, hX⟩
        all_goals
          go_enter Try.func16, Try.ntmps16
          go_wp2_with (first
            | (have := t10; go_at_call 17; refine (hd10 _).mono ?_; clear t10 this; rintro e w' ⟨⟨x, rfl, hx0, hx1, HX⟩, hw'⟩; replace hw' := hw'.symm; subst hw')
            | (have := t16; go_at_call 17; refine (hd16 _).mono ?_; clear t16 this; rintro e w' ⟨⟨y, rfl, hy0, hy1, HY⟩, hw'⟩; replace hw' := hw'.symm; subst hw'))
          go_ret
          exact ⟨ret_int (by have := HR.out; omega), rfl⟩
  · have hsg : sgn s.data.toList = 0 := by unfold sgn; rw [hm]; rfl
    have hlF := lenF_le s.data.toList
    rw [← sizeL] at hlF
    have h10 : (dl 10 (s.data.toList.drop 0)).length ≠ 0 := fun h => by
      by_cases hp : markB (s.data.toList.drop 0) = true
      · exact dl10_mark hp h
      · have hF := digF_plain (l := s.data.toList) (fun hh => hp (by rw [hsg] at hh; exact hh.1))
        rw [hsg] at hF
        exact hd (hF.1.trans (List.eq_nil_of_length_eq_zero h))
    have hbl : 0 < s.size := by
      have hl := sizeL s
      refine Nat.lt_of_not_le fun h2 => h10 ?_
      rw [List.drop_eq_nil_of_le (by omega)]; rfl
    have h0 : 0 < s.size := by omega
    have h45 : ((s[0].toNat : Int) == 45) = false := by
      have := minusB_at h0
      rw [List.drop_zero, hm] at this
      simp at this ⊢; omega
    have hi0 : (0 : Int) < s.size := by omega
    have hib : (0 : Int) < s.size := by omega
    have hd10 := dgK s hs 0 10 0 10 rfl rfl (by omega) (Or.inl rfl)
    have t10 : True := trivial
    have HT : Hid (¬ (markB (s.data.toList.drop 0) = true ∧ (dl 16 (s.data.toList.drop 2)).length ≠ 0) → lenF s.data.toList = 0 + (dl 10 (s.data.toList.drop 0)).length) := fun h => by
      have hF := digF_plain (l := s.data.toList) (fun hh => h (by rw [hsg, List.drop_drop] at hh; exact ⟨hh.1, fun e => hh.2 (List.eq_nil_of_length_eq_zero e)⟩))
      rw [hsg] at hF; exact hF.2.2
    have HH : Hid (markB (s.data.toList.drop 0) = true → (dl 16 (s.data.toList.drop 2)).length ≠ 0 → lenF s.data.toList = 2 + (dl 16 (s.data.toList.drop 2)).length) := fun h h2 => by
      have hF := digF_mark (l := s.data.toList) (by rw [hsg]; exact h) (by rw [hsg, List.drop_drop]; exact fun e => h2 (by rw [e]; rfl))
      rw [hsg, List.drop_drop] at hF; exact hF.2.2
    obtain ⟨N, hN⟩ : ∃ N, lenF s.data.toList = N := ⟨_, rfl⟩
    rw [hN] at HT HH hlF ⊢
    clear hN hsg hm hd h10
    have hcs : (markB (s.data.toList.drop 0) = false ∧ (((s[0].toNat : Int) == 48) = false ∨ (((s[0].toNat : Int) == 48) = true ∧ ¬ (1 : Int) < (s.size : Int)) ∨ (((s[0].toNat : Int) == 48) = true ∧ ∃ h : 1 < s.size, ((s[1].toNat : Int) == 120) = false ∧ ((s[1].toNat : Int) == 88) = false)))
        ∨ (markB (s.data.toList.drop 0) = true ∧ ((s[0].toNat : Int) == 48) = true ∧ ∃ h : 1 < s.size, (((s[1].toNat : Int) == 120) = true ∨ (((s[1].toNat : Int) == 120) = false ∧ ((s[1].toNat : Int) == 88) = true))) := by
      by_cases hl : 1 < s.size
      · have hmk := markB_at (s := s) (b := 0) (by omega)
        by_cases e48 : s[0].toNat = 48
        · by_cases ex : s[1].toNat = 120
          · right; refine ⟨by rw [hmk]; simp [e48, ex], by simp [e48], hl, Or.inl (by simp [ex])⟩
          · by_cases eX : s[1].toNat = 88
            · right; refine ⟨by rw [hmk]; simp [e48, eX], by simp [e48], hl, Or.inr ⟨by simp; omega, by simp [eX]⟩⟩
            · left; refine ⟨by rw [hmk]; simp [ex, eX], Or.inr (Or.inr ⟨by simp [e48], hl, by simp; omega, by simp; omega⟩)⟩
        · left; refine ⟨by rw [hmk]; simp [e48], Or.inl (by simp; omega)⟩
      · left; refine ⟨markB_end (by omega), ?_⟩
        by_cases e48 : s[0].toNat = 48
        · right; left; exact ⟨by simp [e48], by omega⟩
        · left; simp; omega
    rcases hcs with ⟨hmk, hcs⟩ | ⟨hmk, h48, hl, hcs⟩
    · have HR : Hid (N = 0 + (dl 10 (s.data.toList.drop 0)).length) := HT.out (fun h => by rw [hmk] at h; cases h.1)
      clear HT HH hmk
      obtain ⟨K, hK⟩ : ∃ K, (dl 10 (s.data.toList.drop 0)).length = K := ⟨_, rfl⟩
      obtain ⟨v, hv⟩ : ∃ v, val 10 (dl 10 (s.data.toList.drop 0)) = v := ⟨_, rfl⟩
      rw [hK, hv] at hd10
      rw [hK] at HR
      have hKs : 0 + K ≤ s.size := by rw [← HR.out]; exact hlF
      clear hK hv hlF
      rcases hcs with h48 | ⟨h48, hl⟩ | ⟨h48, hl, hx, hX⟩
      all_goals
        go_enter Try.func16, Try.ntmps16
        go_wp2_with (first
          | (have := t10; go_at_call 17; refine (hd10 _).mono ?_; clear t10 this; rintro e w' ⟨⟨x, rfl, hx0, hx1, HX⟩, hw'⟩; replace hw' := hw'.symm; subst hw'))
        go_ret
        exact ⟨ret_int (by have := HR.out; omega), rfl⟩
    · have hd16 := dgK s hs 2 16 2 16 rfl rfl (by omega) (Or.inr rfl)
      have t16 : True := trivial
      have HR1 : Hid ((dl 16 (s.data.toList.drop 2)).length = 0 → N = 0 + (dl 10 (s.data.toList.drop 0)).length) := fun h => HT.out (fun h2 => h2.2 h)
      have HR2 : Hid ((dl 16 (s.data.toList.drop 2)).length ≠ 0 → N = 2 + (dl 16 (s.data.toList.drop 2)).length) := fun h => HH.out hmk h
      have hdl := dl_len 10 (s.data.toList.drop 0)
      have hdl2 := dl_len 16 (s.data.toList.drop 2)
      rw [List.length_drop, ← sizeL] at hdl hdl2
      clear HT HH hmk
      obtain ⟨K, hK⟩ : ∃ K, (dl 10 (s.data.toList.drop 0)).length = K := ⟨_, rfl⟩
      obtain ⟨v, hv⟩ : ∃ v, val 10 (dl 10 (s.data.toList.drop 0)) = v := ⟨_, rfl⟩
      obtain ⟨K2, hK2⟩ : ∃ K, (dl 16 (s.data.toList.drop 2)).length = K := ⟨_, rfl⟩
      obtain ⟨v2, hv2⟩ : ∃ v, val 16 (dl 16 (s.data.toList.drop 2)) = v := ⟨_, rfl⟩
      rw [hK, hv] at hd10
      rw [hK2, hv2] at hd16
      rw [hK, hK2] at HR1
      rw [hK2] at HR2 hdl2
      rw [hK] at hdl
      clear hK hv hK2 hv2 hlF
      by_cases hk2 : K2 = 0
      · have hk2i : ¬ (0 : Int) < K2 := by omega
        have HR : Hid (N = 0 + K) := HR1.out hk2
        clear hk2 HR1 HR2
        rcases hcs with hx | ⟨hx, hX⟩
        all_goals
          go_enter Try.func16, Try.ntmps16
          go_wp2_with (first
            | (have := t10; go_at_call 17; refine (hd10 _).mono ?_; clear t10 this; rintro e w' ⟨⟨x, rfl, hx0, hx1, HX⟩, hw'⟩; replace hw' := hw'.symm; subst hw')
            | (have := t16; go_at_call 17; refine (hd16 _).mono ?_; clear t16 this; rintro e w' ⟨⟨y, rfl, hy0, hy1, HY⟩, hw'⟩; replace hw' := hw'.symm; subst hw'))
          go_ret
          exact ⟨ret_int (by have := HR.out; omega), rfl⟩
      · have hk2i : (0 : Int) < K2 := by omega
        have HR : Hid (N = 2 + K2) := HR2.out hk2
        clear hk2 HR1 HR2
        rcases hcs with hx | ⟨hx, hX⟩
        all_goals
          go_enter Try.func16, Try.ntmps16
          go_wp2_with (first
            | (have := t10; go_at_call 17; refine (hd10 _).mono ?_; clear t10 this; rintro e w' ⟨⟨x, rfl, hx0, hx1, HX⟩, hw'⟩; replace hw' := hw'.symm; subst hw')
            | (have := t16; go_at_call 17; refine (hd16 _).mono ?_; clear t16 this; rintro e w' ⟨⟨y, rfl, hy0, hy1, HY⟩, hw'⟩; replace hw' := hw'.symm; subst hw'))
          go_ret
          exact ⟨ret_int (by have := HR.out; omega), rfl⟩
end Go.Proofs.Ytlmnlfnodbfgiaa

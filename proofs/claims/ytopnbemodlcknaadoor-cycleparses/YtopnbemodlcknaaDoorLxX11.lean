/- name, number, quoted, cut. -/
import Derived.Test.YtopnbemodlcknaaDoorLxX10
namespace Go.Proofs.YtopnbemodlcknaaDoor.Lx
open Go.RowKit M
set_option linter.unusedSimpArgs false
set_option linter.unusedVariables false

/-- How far bytes of a kind go. -/
def twl (p : UInt8 → Bool) (l : List UInt8) : Nat := (l.takeWhile p).length
theorem twl_go (p : UInt8 → Bool) (s : ByteArray) (n : Nat) (h : n < s.size) (hp : p s[n] = true) : twl p (s.data.toList.drop n) = 1 + twl p (s.data.toList.drop (n + 1)) := by
  rw [drop_cons s n h, twl, List.takeWhile_cons_of_pos hp, List.length_cons]; unfold twl; omega
theorem twl_stop (p : UInt8 → Bool) (s : ByteArray) (n : Nat) (h : n < s.size) (hp : p s[n] = false) : twl p (s.data.toList.drop n) = 0 := by
  rw [drop_cons s n h, twl, List.takeWhile_cons_of_neg (by rw [hp]; decide)]; rfl

set_option maxRecDepth 100000 in
set_option maxHeartbeats 1000000 in
theorem pname_any (s : ByteArray) (hs : s.size < 4611686018427387904) (h0 : 0 < s.size) (w : World) : Calls Tryd.prog 37 #[.string s] w fun e w' => e = .returned (pieceV (namePiece s.data.toList)) ∧ Below w.heap.size w w' := by
  have c1 := fun w => nameLength_any s (by unfold maxLen; omega) h0 w
  have hl := nameLen_le s.data.toList
  rw [← sizeL] at hl
  by_cases hz : 64 < nameLen s.data.toList
  · have HE : Hid (namePiece s.data.toList = ⟨0, [], 0, 0, 1⟩) := if_pos hz
    generalize nameLen s.data.toList = n at *
    have hz' : (64 : Int) < n := by omega
    go_enter Tryd.func37, Tryd.ntmps37
    go_wp2_with (first
      | (refine wpList_allocS rfl 81 rfl _ Tryd.zeroValue81 ?_; intro W1 b1 F1 N1; have hb1 : w.heap.size ≤ b1 := Nat.le_of_eq F1.at'.symm; have B1 := F1.trans (Below.refl _ _) (Nat.le_refl _); clear F1)
      | (go_at_call 49; refine (c1 _).mono ?_; rintro e w' ⟨rfl, hw'⟩; replace hw' := hw'.symm; subst hw')
      | (refine wpList_storeS rfl 81 _ _ rfl rfl _ rfl N1 (by simp) info75 (by simp [Value.oneCell']) ?_; intro W2 U2 N2; have B2 := U2.trans B1 hb1; clear U2 N1 B1))
    refine ret_S rfl rfl rfl N2 _ Tryd.underlying81 rfl info75 ⟨?_, B2⟩
    rw [HE.out]; rfl
  · have HE : Hid (namePiece s.data.toList = ⟨1, s.data.toList.take (nameLen s.data.toList), 0, nameLen s.data.toList, 0⟩) := if_neg hz
    obtain ⟨n, hn⟩ : ∃ n, nameLen s.data.toList = n := ⟨_, rfl⟩
    rw [hn] at c1 HE hl hz
    clear hn
    have hi : (n : Int) ≤ s.size := by omega
    have hz' : ¬ (64 : Int) < n := by omega
    go_enter Tryd.func37, Tryd.ntmps37
    go_wp2_with (first
      | (refine wpList_allocS rfl 81 rfl _ Tryd.zeroValue81 ?_; intro W1 b1 F1 N1; have hb1 : w.heap.size ≤ b1 := Nat.le_of_eq F1.at'.symm; have B1 := F1.trans (Below.refl _ _) (Nat.le_refl _); clear F1)
      | (go_at_call 49; refine (c1 _).mono ?_; rintro e w' ⟨rfl, hw'⟩; replace hw' := hw'.symm; subst hw')
      | (refine wpList_storeS rfl 81 _ _ rfl rfl _ rfl N1 (by simp) info75 (by simp [Value.oneCell']) ?_; intro W2 U2 N2; have B2 := U2.trans B1 hb1; clear U2 N1 B1))
    refine ret_S rfl rfl rfl N2 _ Tryd.underlying81 rfl info75 ⟨?_, B2⟩
    rw [HE.out, pieceV, pieceL, exA]; rfl

set_option maxRecDepth 100000 in
set_option maxHeartbeats 1000000 in
theorem number_any (s : ByteArray) (hs : s.size < 4611686018427387904) (h0 : 0 < s.size) (w : World) : Calls Tryd.prog 39 #[.string s] w fun e w' => e = .returned (pieceV (numPiece s.data.toList)) ∧ Below w.heap.size w w' := by
  have HE0 : Hid (numLen s.data.toList = 1 + twl (fun c => innN c.toNat) (s.data.toList.drop 1)) := rfl
  go_enter Tryd.func39, Tryd.ntmps39
  go_wp2_with (first
    | (refine wpList_allocS rfl 81 rfl _ Tryd.zeroValue81 ?_; intro W1 b1 F1 N1; have hb1 : w.heap.size ≤ b1 := Nat.le_of_eq F1.at'.symm; have B1 := F1.trans (Below.refl _ _) (Nat.le_refl _); clear F1))
  go_loop [3] (fun t => ∃ n : Nat, 1 ≤ n ∧ n ≤ s.size ∧ t = .int .i64 (n : Int) ∧ Hid (numLen s.data.toList = n + twl (fun c => innN c.toNat) (s.data.toList.drop n))) (fun t => s.size - (intOf t).toNat)
  case atStart => exact ⟨1, by omega, by omega, rfl, HE0⟩
  case round =>
    obtain ⟨n, h1, hn, rfl, HN⟩ := hrel
    clear HE0
    have over : ∀ (he : numLen s.data.toList = n), (∀ w, Calls Tryd.prog 51 #[.string (s.extract 0 n)] w fun e w' => e = .returned (parseV (parseO (s.data.toList.take n))) ∧ Below w.heap.size w w') ∧ (numPiece s.data.toList = if (parseO (s.data.toList.take n)).2 = 0 then ⟨2, s.data.toList.take n, (parseO (s.data.toList.take n)).1, n, 0⟩ else ⟨0, [], 0, 0, (parseO (s.data.toList.take n)).2⟩) := fun he => by
      refine ⟨fun w => ?_, by unfold numPiece; rw [he]⟩
      have := parse_any (s.extract 0 n) (by rw [ByteArray.size_extract]; unfold maxLen; omega) w
      rwa [exL, List.drop_zero] at this
    have hI : (n : Int) ≤ s.size := by omega
    by_cases hlt : n < s.size ∧ innN s.data.toList[n]!.toNat = true
    · obtain ⟨hlt, hin0⟩ := hlt
      have hin : innN s[n].toNat = true := (by
        have : s.data.toList[n]! = s[n] := (by rw [getElem!_pos s.data.toList n (by simpa using hlt)]; rfl)
        rwa [this] at hin0)
      have hi : (n : Int) < s.size := by omega
      have c1 := fun w => inner_any s[n].toNat s[n].toNat_lt w
      have HG : Hid (numLen s.data.toList = n + 1 + twl (fun c => innN c.toNat) (s.data.toList.drop (n + 1))) := (by show numLen _ = _; rw [HN.out, twl_go _ s n hlt hin]; omega)
      rw [hin] at c1
      clear hin hin0 HN over
      go_wp2_with (go_at_call 50; refine (c1 _).mono ?_; rintro e w' ⟨rfl, hw'⟩; replace hw' := hw'.symm; subst hw')
      go_round
      case rel => exact ⟨n + 1, by omega, by omega, by go_num, HG⟩
      case measure => simp [intOf]; omega
    · have he : numLen s.data.toList = n := (by
        rw [HN.out]
        by_cases h : n < s.size
        · rw [twl_stop _ s n h (by
            have : s.data.toList[n]! = s[n] := (by rw [getElem!_pos s.data.toList n (by simpa using h)]; rfl)
            rw [this] at hlt
            cases hh : innN s[n].toNat
            · rfl
            · exact absurd ⟨h, hh⟩ hlt)]; rfl
        · rw [drop_end s n (by omega)]; rfl)
      obtain ⟨c2, hp⟩ := over he
      have HP : Hid (numPiece s.data.toList = if (parseO (s.data.toList.take n)).2 = 0 then ⟨2, s.data.toList.take n, (parseO (s.data.toList.take n)).1, n, 0⟩ else ⟨0, [], 0, 0, (parseO (s.data.toList.take n)).2⟩) := hp
      clear over HN he hp
      have hEx : Hid (s.extract 0 n = ⟨(s.data.toList.take n).toArray⟩) := (by show _ = _; rw [exA]; rfl)
      generalize s.data.toList.take n = T at *
      obtain ⟨⟨v, er⟩, hpo⟩ : ∃ q, parseO T = q := ⟨_, rfl⟩
      rw [hpo] at c2 HP
      have c2' : ∀ w, Calls Tryd.prog 51 #[.string (s.extract 0 n)] w fun e w' => e = .returned (.tuple #[.int .i64 v, .int .i64 (er : Int)]) ∧ Below w.heap.size w w' := c2
      clear c2 hpo
      dsimp only at HP
      have cI : ∀ h : n < s.size, ∀ w, Calls Tryd.prog 50 #[.int .u8 (s[n].toNat : Int)] w fun e w' => e = .returned (.bool false) ∧ w' = w := fun h w => (by
        have := inner_any s[n].toNat s[n].toNat_lt w
        have hh : innN s[n].toNat = false := (by
          have e : s.data.toList[n]! = s[n] := (by rw [getElem!_pos s.data.toList n (by simpa using h)]; rfl)
          rw [e] at hlt
          cases hh : innN s[n].toNat
          · rfl
          · exact absurd ⟨h, hh⟩ hlt)
        rwa [hh] at this)
      clear hlt
      by_cases hez : er = 0
      · subst hez
        have HF : Hid (numPiece s.data.toList = ⟨2, T, v, n, 0⟩) := (by show numPiece _ = _; rw [HP.out]; rfl)
        clear HP
        by_cases hlt : n < s.size
        · have hi : (n : Int) < s.size := by omega
          have cI' := cI hlt
          clear cI
          go_wp2_with (first
            | (go_at_call 50; refine (cI' _).mono ?_; rintro e w' ⟨rfl, hw'⟩; replace hw' := hw'.symm; subst hw')
            | (go_at_call 51; refine (c2' _).mono ?_; rintro e W3 ⟨rfl, hB3⟩; have N3 := N1.grown hB3; have B3 := B1.trans (hB3.mono B1.size); clear hB3 N1 B1)
            | (refine wpList_storeS rfl 81 _ _ rfl rfl _ rfl N3 (by simp) info75 (by simp [Value.oneCell']) ?_; intro W2 U2 N2; have B2 := U2.trans B3 hb1; clear U2 N3 B3))
          refine ret_S rfl rfl rfl N2 _ Tryd.underlying81 rfl info75 ⟨?_, B2⟩
          rw [HF.out, pieceV, pieceL, hEx.out]; rfl
        · have hi : ¬ (n : Int) < s.size := by omega
          clear cI
          go_wp2_with (first
            | (go_at_call 51; refine (c2' _).mono ?_; rintro e W3 ⟨rfl, hB3⟩; have N3 := N1.grown hB3; have B3 := B1.trans (hB3.mono B1.size); clear hB3 N1 B1)
            | (refine wpList_storeS rfl 81 _ _ rfl rfl _ rfl N3 (by simp) info75 (by simp [Value.oneCell']) ?_; intro W2 U2 N2; have B2 := U2.trans B3 hb1; clear U2 N3 B3))
          refine ret_S rfl rfl rfl N2 _ Tryd.underlying81 rfl info75 ⟨?_, B2⟩
          rw [HF.out, pieceV, pieceL, hEx.out]; rfl
      · have HF : Hid (numPiece s.data.toList = ⟨0, [], 0, 0, er⟩) := (by show numPiece _ = _; rw [HP.out, if_neg hez])
        have hez' : ((er : Int) == 0) = false := by simp; omega
        clear HP hez
        by_cases hlt : n < s.size
        · have hi : (n : Int) < s.size := by omega
          have cI' := cI hlt
          clear cI
          go_wp2_with (first
            | (go_at_call 50; refine (cI' _).mono ?_; rintro e w' ⟨rfl, hw'⟩; replace hw' := hw'.symm; subst hw')
            | (go_at_call 51; refine (c2' _).mono ?_; rintro e W3 ⟨rfl, hB3⟩; have N3 := N1.grown hB3; have B3 := B1.trans (hB3.mono B1.size); clear hB3 N1 B1)
            | (refine wpList_storeS rfl 81 _ _ rfl rfl _ rfl N3 (by simp) info75 (by simp [Value.oneCell']) ?_; intro W2 U2 N2; have B2 := U2.trans B3 hb1; clear U2 N3 B3))
          refine ret_S rfl rfl rfl N2 _ Tryd.underlying81 rfl info75 ⟨?_, B2⟩
          rw [HF.out]; rfl
        · have hi : ¬ (n : Int) < s.size := by omega
          clear cI
          go_wp2_with (first
            | (go_at_call 51; refine (c2' _).mono ?_; rintro e W3 ⟨rfl, hB3⟩; have N3 := N1.grown hB3; have B3 := B1.trans (hB3.mono B1.size); clear hB3 N1 B1)
            | (refine wpList_storeS rfl 81 _ _ rfl rfl _ rfl N3 (by simp) info75 (by simp [Value.oneCell']) ?_; intro W2 U2 N2; have B2 := U2.trans B3 hb1; clear U2 N3 B3))
          refine ret_S rfl rfl rfl N2 _ Tryd.underlying81 rfl info75 ⟨?_, B2⟩
          rw [HF.out]; rfl
end Go.Proofs.YtopnbemodlcknaaDoor.Lx

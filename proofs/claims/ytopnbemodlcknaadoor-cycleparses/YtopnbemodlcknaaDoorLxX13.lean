/- cut. -/
import Derived.Test.YtopnbemodlcknaaDoorLxX12
namespace Go.Proofs.YtopnbemodlcknaaDoor.Lx
open Go.RowKit M
set_option linter.unusedSimpArgs false
set_option linter.unusedVariables false

theorem piece_one (p : Piece) : ∀ v ∈ pieceL p, v.oneCell' = true := by simp [pieceL, Value.oneCell']
theorem piece_len (p : Piece) : (pieceL p).length = 5 := rfl
set_option maxRecDepth 100000 in
set_option maxHeartbeats 2000000 in
theorem cut_any5 (s : ByteArray) (hs : s.size < 4611686018427387904) (h0 : 0 < s.size) (w : World) : Calls Tryd.prog 28 #[.string s] w fun e w' => e = .returned (pieceV (cutF s.data.toList)) ∧ Below w.heap.size w w' := by
  have e0 := drop_cons s 0 h0
  rw [List.drop_zero] at e0
  have hi0 : (0 : Int) < s.size := by omega
  have cN := fun w => pname_any s hs h0 w
  have cD := fun w => number_any s hs h0 w
  have cQ := fun w => quoted_any s hs h0 w
  have cS := fun w => sign_any s hs h0 w
  have d0 := fun w => digit5_any s[0].toNat s[0].toNat_lt w
  have l0 := fun w => letter_any s[0].toNat s[0].toNat_lt w
  have hF : cutF s.data.toList = if letN s[0].toNat then namePiece s.data.toList else if numB s.data.toList then numPiece s.data.toList else if s[0].toNat = 34 then quotPiece s.data.toList else signPiece s.data.toList := by
    conv => lhs; rw [e0]
    rw [cutF, ← e0]
  have t1 : True := trivial
  cases a : letN s[0].toNat with
  | true =>
    rw [a, if_pos rfl] at hF
    have HF : Hid (cutF s.data.toList = namePiece s.data.toList) := hF
    rw [a] at l0
    clear a e0 hF cD cQ cS d0
    generalize namePiece s.data.toList = R at *
    go_enter Tryd.func28, Tryd.ntmps28
    go_wp2_with (first
      | (refine wpList_allocS rfl 81 rfl _ Tryd.zeroValue81 ?_; intro W1 b1 F1 N1; have hb1 : w.heap.size ≤ b1 := Nat.le_of_eq F1.at'.symm; have B1 := F1.trans (Below.refl _ _) (Nat.le_refl _); clear F1)
      | (go_at_call 36; refine (l0 _).mono ?_; rintro e w' ⟨rfl, hw'⟩; replace hw' := hw'.symm; subst hw')
      | (go_at_call 37; refine (cN _).mono ?_; rintro e W3 ⟨rfl, hB3⟩; have N3 := N1.grown hB3; have B3 := B1.trans (hB3.mono B1.size); clear hB3 N1 B1)
      | (refine wpList_storeS rfl 81 _ _ rfl rfl (pieceL R) rfl N3 (by simp [piece_len]) info75 (piece_one R) ?_; intro W2 U2 N2; have B2 := U2.trans B3 hb1; clear U2 N3 B3))
    refine ret_S rfl rfl rfl N2 _ Tryd.underlying81 rfl info75 ⟨?_, B2⟩
    rw [HF.out]; rfl
  | false =>
    rw [a, if_neg (by decide)] at hF
    rw [a] at l0
    clear a
    cases b : numB s.data.toList with
    | true =>
      rw [b, if_pos rfl] at hF
      have HF : Hid (cutF s.data.toList = numPiece s.data.toList) := hF
      clear hF cN cQ cS
      generalize numPiece s.data.toList = R at *
      cases c : digN s[0].toNat with
      | true =>
        rw [c] at d0
        clear b c e0
        go_enter Tryd.func28, Tryd.ntmps28
        go_wp2_with (first
          | (refine wpList_allocS rfl 81 rfl _ Tryd.zeroValue81 ?_; intro W1 b1 F1 N1; have hb1 : w.heap.size ≤ b1 := Nat.le_of_eq F1.at'.symm; have B1 := F1.trans (Below.refl _ _) (Nat.le_refl _); clear F1)
          | (go_at_call 36; refine (l0 _).mono ?_; rintro e w' ⟨rfl, hw'⟩; replace hw' := hw'.symm; subst hw')
          | (go_at_call 38; refine (d0 _).mono ?_; rintro e w' ⟨rfl, hw'⟩; replace hw' := hw'.symm; subst hw')
          | (go_at_call 39; refine (cD _).mono ?_; rintro e W3 ⟨rfl, hB3⟩; have N3 := N1.grown hB3; have B3 := B1.trans (hB3.mono B1.size); clear hB3 N1 B1)
          | (refine wpList_storeS rfl 81 _ _ rfl rfl (pieceL R) rfl N3 (by simp [piece_len]) info75 (piece_one R) ?_; intro W2 U2 N2; have B2 := U2.trans B3 hb1; clear U2 N3 B3))
        refine ret_S rfl rfl rfl N2 _ Tryd.underlying81 rfl info75 ⟨?_, B2⟩
        rw [HF.out]; rfl
      | false =>
        have hsz : 1 < s.size := (by
          by_cases h : 1 < s.size
          · exact h
          · rw [e0, drop_end s 1 (by omega)] at b
            simp [numB, c] at b)
        have e1 := drop_cons s 1 hsz
        rw [e0, e1] at b
        have hb : s[0].toNat = 45 ∧ digN s[1].toNat = true := by simpa [numB, c] using b
        have x : ((s[0].toNat : Int) == 45) = true := by simp; omega
        have hi1 : (1 : Int) < s.size := by omega
        have d1 := fun w => digit5_any s[1].toNat s[1].toNat_lt w
        rw [hb.2] at d1
        rw [c] at d0
        clear b c e0 e1 hb
        go_enter Tryd.func28, Tryd.ntmps28
        go_wp2_with (first
          | (refine wpList_allocS rfl 81 rfl _ Tryd.zeroValue81 ?_; intro W1 b1 F1 N1; have hb1 : w.heap.size ≤ b1 := Nat.le_of_eq F1.at'.symm; have B1 := F1.trans (Below.refl _ _) (Nat.le_refl _); clear F1)
          | (go_at_call 36; refine (l0 _).mono ?_; rintro e w' ⟨rfl, hw'⟩; replace hw' := hw'.symm; subst hw')
          | (go_at_call 38; clear t1; refine (d0 _).mono ?_; rintro e w' ⟨rfl, hw'⟩; replace hw' := hw'.symm; subst hw')
          | (go_at_call 38; refine (d1 _).mono ?_; rintro e w' ⟨rfl, hw'⟩; replace hw' := hw'.symm; subst hw')
          | (go_at_call 39; refine (cD _).mono ?_; rintro e W3 ⟨rfl, hB3⟩; have N3 := N1.grown hB3; have B3 := B1.trans (hB3.mono B1.size); clear hB3 N1 B1)
          | (refine wpList_storeS rfl 81 _ _ rfl rfl (pieceL R) rfl N3 (by simp [piece_len]) info75 (piece_one R) ?_; intro W2 U2 N2; have B2 := U2.trans B3 hb1; clear U2 N3 B3))
        refine ret_S rfl rfl rfl N2 _ Tryd.underlying81 rfl info75 ⟨?_, B2⟩
        rw [HF.out]; rfl
    | false =>
      rw [b, if_neg (by decide)] at hF
      have c : digN s[0].toNat = false := (by
        cases c : digN s[0].toNat
        · rfl
        · rw [e0] at b; simp [numB, c] at b)
      rw [c] at d0
      have HM : Hid (s[0].toNat = 45 → ∀ h : 1 < s.size, digN s[1].toNat = false) := (by
        intro h45 h1
        rw [e0, drop_cons s 1 h1] at b
        have b' : (digN s[0].toNat || (decide (s[0].toNat = 45) && digN s[1].toNat)) = false := b
        rw [c, decide_eq_true h45] at b'
        simpa using b')
      clear b c e0 cN cD
      by_cases q : s[0].toNat = 34
      · rw [if_pos q] at hF
        have HF : Hid (cutF s.data.toList = quotPiece s.data.toList) := hF
        have x : ((s[0].toNat : Int) == 45) = false := by simp; omega
        have y : ((s[0].toNat : Int) == 34) = true := by simp; omega
        clear hF q cS HM
        generalize quotPiece s.data.toList = R at *
        go_enter Tryd.func28, Tryd.ntmps28
        go_wp2_with (first
          | (refine wpList_allocS rfl 81 rfl _ Tryd.zeroValue81 ?_; intro W1 b1 F1 N1; have hb1 : w.heap.size ≤ b1 := Nat.le_of_eq F1.at'.symm; have B1 := F1.trans (Below.refl _ _) (Nat.le_refl _); clear F1)
          | (go_at_call 36; refine (l0 _).mono ?_; rintro e w' ⟨rfl, hw'⟩; replace hw' := hw'.symm; subst hw')
          | (go_at_call 38; refine (d0 _).mono ?_; rintro e w' ⟨rfl, hw'⟩; replace hw' := hw'.symm; subst hw')
          | (go_at_call 40; refine (cQ _).mono ?_; rintro e W3 ⟨rfl, hB3⟩; have N3 := N1.grown hB3; have B3 := B1.trans (hB3.mono B1.size); clear hB3 N1 B1)
          | (refine wpList_storeS rfl 81 _ _ rfl rfl (pieceL R) rfl N3 (by simp [piece_len]) info75 (piece_one R) ?_; intro W2 U2 N2; have B2 := U2.trans B3 hb1; clear U2 N3 B3))
        refine ret_S rfl rfl rfl N2 _ Tryd.underlying81 rfl info75 ⟨?_, B2⟩
        rw [HF.out]; rfl
      · rw [if_neg q] at hF
        have HF : Hid (cutF s.data.toList = signPiece s.data.toList) := hF
        have y : ((s[0].toNat : Int) == 34) = false := by simp; omega
        clear hF q cQ
        generalize signPiece s.data.toList = R at *
        by_cases m : s[0].toNat = 45
        · have x : ((s[0].toNat : Int) == 45) = true := by simp; omega
          by_cases hsz : 1 < s.size
          · have hi1 : (1 : Int) < s.size := by omega
            have d1 := fun w => digit5_any s[1].toNat s[1].toNat_lt w
            rw [HM.out m hsz] at d1
            clear m HM
            go_enter Tryd.func28, Tryd.ntmps28
            go_wp2_with (first
              | (refine wpList_allocS rfl 81 rfl _ Tryd.zeroValue81 ?_; intro W1 b1 F1 N1; have hb1 : w.heap.size ≤ b1 := Nat.le_of_eq F1.at'.symm; have B1 := F1.trans (Below.refl _ _) (Nat.le_refl _); clear F1)
              | (go_at_call 36; refine (l0 _).mono ?_; rintro e w' ⟨rfl, hw'⟩; replace hw' := hw'.symm; subst hw')
              | (go_at_call 38; clear t1; refine (d0 _).mono ?_; rintro e w' ⟨rfl, hw'⟩; replace hw' := hw'.symm; subst hw')
              | (go_at_call 38; refine (d1 _).mono ?_; rintro e w' ⟨rfl, hw'⟩; replace hw' := hw'.symm; subst hw')
              | (go_at_call 41; refine (cS _).mono ?_; rintro e W3 ⟨rfl, hB3⟩; have N3 := N1.grown hB3; have B3 := B1.trans (hB3.mono B1.size); clear hB3 N1 B1)
              | (refine wpList_storeS rfl 81 _ _ rfl rfl (pieceL R) rfl N3 (by simp [piece_len]) info75 (piece_one R) ?_; intro W2 U2 N2; have B2 := U2.trans B3 hb1; clear U2 N3 B3))
            refine ret_S rfl rfl rfl N2 _ Tryd.underlying81 rfl info75 ⟨?_, B2⟩
            rw [HF.out]; rfl
          · have hi1 : ¬ (1 : Int) < s.size := by omega
            clear m HM
            go_enter Tryd.func28, Tryd.ntmps28
            go_wp2_with (first
              | (refine wpList_allocS rfl 81 rfl _ Tryd.zeroValue81 ?_; intro W1 b1 F1 N1; have hb1 : w.heap.size ≤ b1 := Nat.le_of_eq F1.at'.symm; have B1 := F1.trans (Below.refl _ _) (Nat.le_refl _); clear F1)
              | (go_at_call 36; refine (l0 _).mono ?_; rintro e w' ⟨rfl, hw'⟩; replace hw' := hw'.symm; subst hw')
              | (go_at_call 38; refine (d0 _).mono ?_; rintro e w' ⟨rfl, hw'⟩; replace hw' := hw'.symm; subst hw')
              | (go_at_call 41; refine (cS _).mono ?_; rintro e W3 ⟨rfl, hB3⟩; have N3 := N1.grown hB3; have B3 := B1.trans (hB3.mono B1.size); clear hB3 N1 B1)
              | (refine wpList_storeS rfl 81 _ _ rfl rfl (pieceL R) rfl N3 (by simp [piece_len]) info75 (piece_one R) ?_; intro W2 U2 N2; have B2 := U2.trans B3 hb1; clear U2 N3 B3))
            refine ret_S rfl rfl rfl N2 _ Tryd.underlying81 rfl info75 ⟨?_, B2⟩
            rw [HF.out]; rfl
        · have x : ((s[0].toNat : Int) == 45) = false := by simp; omega
          clear m HM
          go_enter Tryd.func28, Tryd.ntmps28
          go_wp2_with (first
            | (refine wpList_allocS rfl 81 rfl _ Tryd.zeroValue81 ?_; intro W1 b1 F1 N1; have hb1 : w.heap.size ≤ b1 := Nat.le_of_eq F1.at'.symm; have B1 := F1.trans (Below.refl _ _) (Nat.le_refl _); clear F1)
            | (go_at_call 36; refine (l0 _).mono ?_; rintro e w' ⟨rfl, hw'⟩; replace hw' := hw'.symm; subst hw')
            | (go_at_call 38; refine (d0 _).mono ?_; rintro e w' ⟨rfl, hw'⟩; replace hw' := hw'.symm; subst hw')
            | (go_at_call 41; refine (cS _).mono ?_; rintro e W3 ⟨rfl, hB3⟩; have N3 := N1.grown hB3; have B3 := B1.trans (hB3.mono B1.size); clear hB3 N1 B1)
            | (refine wpList_storeS rfl 81 _ _ rfl rfl (pieceL R) rfl N3 (by simp [piece_len]) info75 (piece_one R) ?_; intro W2 U2 N2; have B2 := U2.trans B3 hb1; clear U2 N3 B3))
          refine ret_S rfl rfl rfl N2 _ Tryd.underlying81 rfl info75 ⟨?_, B2⟩
          rw [HF.out]; rfl
end Go.Proofs.YtopnbemodlcknaaDoor.Lx

/- The program's reader: location, operands, store, move, locked, instruction. -/
import Derived.Test.YtpbcngnginffgaaIA
namespace Go.Proofs.Ytpbcngnginffgaa
open Go.RowKit Go.Shelf M
set_option linter.unusedSimpArgs false
set_option linter.unusedVariables false

/-- An instruction's cells. -/
def inL (x : In) : List Value := [.int .i64 (x.op : Int), .string ⟨x.reg.toArray⟩, .string ⟨x.src.toArray⟩, .string ⟨x.loc.toArray⟩, .int .i64 x.imm]
theorem in_one (x : In) : ∀ v ∈ inL x, v.oneCell' = true := by simp [inL, Value.oneCell']
theorem infoI : (Try.prog.info? 23).map (·.size) = some 5 := by kernel_rfl
section
variable {D : TT} {s : ByteArray} {br bl : Nat}
set_option maxRecDepth 100000 in
set_option maxHeartbeats 2000000 in
theorem location_any (hsz : s.size < 4611686018427387904) (σ : RS) (g : Goes D σ) (w : World) (hP : PR D s w br bl σ.k) :
    Calls Try.prog 39 #[.pointer (some ⟨br, 0, none⟩)] w fun en w' => OutP D s w br bl (placeR D σ) (.string ⟨(placeT D σ).toArray⟩) en w' := by
  have hb1 := hP.tok.lt
  have hb2 := hP.ltl
  have c1 := fun W (hP : PR D s W br bl (RS.k σ)) => word_any hsz σ g ⟨#[91]⟩ W hP
  rcases goes_or D (mustR D σ [91]) with g1 | ⟨f, u1⟩
  · skip
    have c2 := fun W (hP : PR D s W br bl (RS.k (mustR D σ [91]))) => rdName_any hsz (mustR D σ [91]) g1 W hP
    rcases goes_or D (nameR D (mustR D σ [91])) with g2 | ⟨f, u2⟩
    · skip
      have c3 := fun W (hP : PR D s W br bl (RS.k (nameR D (mustR D σ [91])))) => word_any hsz (nameR D (mustR D σ [91])) g2 ⟨#[93]⟩ W hP
      rcases goes_or D (mustR D (nameR D (mustR D σ [91])) [93]) with g3 | ⟨f, u3⟩
      · skip
        go_enter Try.func39, Try.ntmps39
        go_wp2_with (first
          | (go_at_call 37; refine (c1 _ hP).mono ?_; rintro en W1 O1; obtain ⟨rfl, P1⟩ := O1.goes g1; have V1 := O1.tw; clear O1 c1)
          | (go_at_call 36; refine (c2 _ P1).mono ?_; rintro en W2 O2; obtain ⟨rfl, P2⟩ := O2.goes g2; have V2 := V1.trans O2.tw; clear O2 c2)
          | (go_at_call 37; refine (c3 _ P2).mono ?_; rintro en W3 O3; obtain ⟨rfl, P3⟩ := O3.goes g3; have V3 := V2.trans O3.tw; clear O3 c3))
        go_ret
        exact OutP.ret g3 P3 V3
      · skip
        go_enter Try.func39, Try.ntmps39
        go_wp2_with (first
          | (go_at_call 37; refine (c1 _ hP).mono ?_; rintro en W1 O1; obtain ⟨rfl, P1⟩ := O1.goes g1; have V1 := O1.tw; clear O1 c1)
          | (go_at_call 36; refine (c2 _ P1).mono ?_; rintro en W2 O2; obtain ⟨rfl, P2⟩ := O2.goes g2; have V2 := V1.trans O2.tw; clear O2 c2)
          | (go_at_call 37; refine (c3 _ P2).mono ?_; rintro en W3 O3; have T3 := O3.tw; obtain ⟨bp, rfl, hb, hI⟩ := O3.ups f u3; clear O3 c3))
        exact ⟨rfl, OutP.thrown (u3) ⟨bp, rfl, Nat.le_trans V2.size hb, hI⟩ (V2.trans T3)⟩
    · skip
      go_enter Try.func39, Try.ntmps39
      go_wp2_with (first
        | (go_at_call 37; refine (c1 _ hP).mono ?_; rintro en W1 O1; obtain ⟨rfl, P1⟩ := O1.goes g1; have V1 := O1.tw; clear O1 c1)
        | (go_at_call 36; refine (c2 _ P1).mono ?_; rintro en W2 O2; have T2 := O2.tw; obtain ⟨bp, rfl, hb, hI⟩ := O2.ups f u2; clear O2 c2))
      exact ⟨rfl, OutP.thrown (ups_must u2) ⟨bp, rfl, Nat.le_trans V1.size hb, hI⟩ (V1.trans T2)⟩
  · skip
    go_enter Try.func39, Try.ntmps39
    go_wp2_with (first
      | (go_at_call 37; refine (c1 _ hP).mono ?_; rintro en W1 O1; have T1 := O1.tw; obtain ⟨bp, rfl, hb, hI⟩ := O1.ups f u1; clear O1 c1))
    exact ⟨rfl, OutP.thrown (ups_must (ups_name u1)) ⟨bp, rfl, hb, hI⟩ T1⟩
set_option maxRecDepth 100000 in
set_option maxHeartbeats 2000000 in
theorem operands_any (hsz : s.size < 4611686018427387904) (σ : RS) (g : Goes D σ) (w : World) (hP : PR D s w br bl σ.k) :
    Calls Try.prog 22 #[.pointer (some ⟨br, 0, none⟩)] w fun en w' => OutP D s w br bl (opdR D σ) (.tuple #[.string ⟨(opdL D σ).toArray⟩, .string ⟨(opdN D σ).toArray⟩]) en w' := by
  have hb1 := hP.tok.lt
  have hb2 := hP.ltl
  have c1 := fun W (hP : PR D s W br bl (RS.k σ)) => location_any hsz σ g W hP
  rcases goes_or D (placeR D σ) with g1 | ⟨f, u1⟩
  · skip
    have c2 := fun W (hP : PR D s W br bl (RS.k (placeR D σ))) => word_any hsz (placeR D σ) g1 ⟨#[44]⟩ W hP
    rcases goes_or D (mustR D (placeR D σ) [44]) with g2 | ⟨f, u2⟩
    · skip
      have c3 := fun W (hP : PR D s W br bl (RS.k (mustR D (placeR D σ) [44]))) => rdName_any hsz (mustR D (placeR D σ) [44]) g2 W hP
      rcases goes_or D (nameR D (mustR D (placeR D σ) [44])) with g3 | ⟨f, u3⟩
      · skip
        go_enter Try.func22, Try.ntmps22
        go_wp2_with (first
          | (go_at_call 39; refine (c1 _ hP).mono ?_; rintro en W1 O1; obtain ⟨rfl, P1⟩ := O1.goes g1; have V1 := O1.tw; clear O1 c1)
          | (go_at_call 37; refine (c2 _ P1).mono ?_; rintro en W2 O2; obtain ⟨rfl, P2⟩ := O2.goes g2; have V2 := V1.trans O2.tw; clear O2 c2)
          | (go_at_call 36; refine (c3 _ P2).mono ?_; rintro en W3 O3; obtain ⟨rfl, P3⟩ := O3.goes g3; have V3 := V2.trans O3.tw; clear O3 c3))
        go_ret2
        exact OutP.ret g3 P3 V3
      · skip
        go_enter Try.func22, Try.ntmps22
        go_wp2_with (first
          | (go_at_call 39; refine (c1 _ hP).mono ?_; rintro en W1 O1; obtain ⟨rfl, P1⟩ := O1.goes g1; have V1 := O1.tw; clear O1 c1)
          | (go_at_call 37; refine (c2 _ P1).mono ?_; rintro en W2 O2; obtain ⟨rfl, P2⟩ := O2.goes g2; have V2 := V1.trans O2.tw; clear O2 c2)
          | (go_at_call 36; refine (c3 _ P2).mono ?_; rintro en W3 O3; have T3 := O3.tw; obtain ⟨bp, rfl, hb, hI⟩ := O3.ups f u3; clear O3 c3))
        exact ⟨rfl, OutP.thrown (u3) ⟨bp, rfl, Nat.le_trans V2.size hb, hI⟩ (V2.trans T3)⟩
    · skip
      go_enter Try.func22, Try.ntmps22
      go_wp2_with (first
        | (go_at_call 39; refine (c1 _ hP).mono ?_; rintro en W1 O1; obtain ⟨rfl, P1⟩ := O1.goes g1; have V1 := O1.tw; clear O1 c1)
        | (go_at_call 37; refine (c2 _ P1).mono ?_; rintro en W2 O2; have T2 := O2.tw; obtain ⟨bp, rfl, hb, hI⟩ := O2.ups f u2; clear O2 c2))
      exact ⟨rfl, OutP.thrown (ups_name u2) ⟨bp, rfl, Nat.le_trans V1.size hb, hI⟩ (V1.trans T2)⟩
  · skip
    go_enter Try.func22, Try.ntmps22
    go_wp2_with (first
      | (go_at_call 39; refine (c1 _ hP).mono ?_; rintro en W1 O1; have T1 := O1.tw; obtain ⟨bp, rfl, hb, hI⟩ := O1.ups f u1; clear O1 c1))
    exact ⟨rfl, OutP.thrown (ups_name (ups_must u1)) ⟨bp, rfl, hb, hI⟩ T1⟩
set_option maxRecDepth 100000 in
set_option maxHeartbeats 2000000 in
theorem store_any (hsz : s.size < 4611686018427387904) (σ : RS) (g : Goes D σ) (w : World) (hP : PR D s w br bl σ.k) :
    Calls Try.prog 35 #[.pointer (some ⟨br, 0, none⟩)] w fun en w' => OutP D s w br bl (storeR D σ) (.agg (inL (storeT D σ)).toArray) en w' := by
  have hb1 := hP.tok.lt
  have hb2 := hP.ltl
  have c1 := fun W (hP : PR D s W br bl (RS.k σ)) => location_any hsz σ g W hP
  rcases goes_or D (placeR D σ) with g1 | ⟨f, u1⟩
  · skip
    have c2 := fun W (hP : PR D s W br bl (RS.k (placeR D σ))) => word_any hsz (placeR D σ) g1 ⟨#[44]⟩ W hP
    rcases goes_or D (mustR D (placeR D σ) [44]) with g2 | ⟨f, u2⟩
    · skip
      cases hB1 : isB D (mustR D (placeR D σ) [44]) [36] with
      | true =>
        have e1 : storeR D σ = nbrR D (isR D (mustR D (placeR D σ) [44]) [36]) := by unfold storeR; dsimp only; rw [hB1]; rfl
        have e2 : storeT D σ = ⟨4, [], [], placeT D σ, nbrV D (isR D (mustR D (placeR D σ) [44]) [36])⟩ := by unfold storeT; dsimp only; rw [hB1]; rfl
        rw [e1, e2]; clear e1 e2
        have c3 := fun W (hP : PR D s W br bl (RS.k (mustR D (placeR D σ) [44]))) => takes_yes hsz (mustR D (placeR D σ) [44]) g2 ⟨#[36]⟩ hB1 W hP
        rcases goes_or D (isR D (mustR D (placeR D σ) [44]) [36]) with g3 | ⟨f, u3⟩
        · skip
          have c4 := fun W (hP : PR D s W br bl (RS.k (isR D (mustR D (placeR D σ) [44]) [36]))) => rdNbr_any hsz (isR D (mustR D (placeR D σ) [44]) [36]) g3 W hP
          rcases goes_or D (nbrR D (isR D (mustR D (placeR D σ) [44]) [36])) with g4 | ⟨f, u4⟩
          · skip
            go_enter Try.func35, Try.ntmps35
            go_wp2_with (first
              | (refine wpList_allocS rfl 23 rfl (inL noIn) Try.zeroValue23 ?_; intro W0 b0 F0 N0; have P0 := hP.fresh F0; have V0 : Tw w W0 br bl := Tw.of_below (F0.trans (Below.refl _ w) (Nat.le_refl _)) br bl; have h0 : w.heap.size ≤ b0 := Nat.le_of_eq F0.at'.symm; clear F0 hP)
              | (go_at_call 39; refine (c1 _ P0).mono ?_; rintro en W1 O1; obtain ⟨rfl, P1⟩ := O1.goes g1; have V1 := V0.trans O1.tw; have N1 := N0.tw O1.tw (by omega) (by omega); clear O1 c1)
              | (go_at_call 37; refine (c2 _ P1).mono ?_; rintro en W2 O2; obtain ⟨rfl, P2⟩ := O2.goes g2; have V2 := V1.trans O2.tw; have N2 := N1.tw O2.tw (by omega) (by omega); clear O2 c2)
              | (go_at_call 20; refine (c3 _ P2).mono ?_; rintro en W3 O3; obtain ⟨rfl, P3⟩ := O3.goes g3; have V3 := V2.trans O3.tw; have N3 := N2.tw O3.tw (by omega) (by omega); clear O3 c3)
              | (go_at_call 38; refine (c4 _ P3).mono ?_; rintro en W4 O4; obtain ⟨rfl, P4⟩ := O4.goes g4; have V4 := V3.trans O4.tw; have N4 := N3.tw O4.tw (by omega) (by omega); clear O4 c4)
              | (refine wpList_storeS rfl 23 _ _ rfl rfl (inL ⟨4, [], [], placeT D σ, nbrV D (isR D (mustR D (placeR D σ) [44]) [36])⟩) rfl N4 (by simp [inL, noIn]) infoI (in_one _) ?_; intro W99 U99 N99x; have N99 : IsS W99 b0 23 (inL ⟨4, [], [], placeT D σ, nbrV D (isR D (mustR D (placeR D σ) [44]) [36])⟩) := N99x; have P99 := P4.upd U99 (by omega) (by omega); have V99 := V4.upd h0 U99))
            exact ret_S (cs := inL ⟨4, [], [], placeT D σ, nbrV D (isR D (mustR D (placeR D σ) [44]) [36])⟩) rfl rfl rfl N99 _ Try.underlying23 rfl infoI (OutP.ret g4 P99 V99)
          · skip
            go_enter Try.func35, Try.ntmps35
            go_wp2_with (first
              | (refine wpList_allocS rfl 23 rfl (inL noIn) Try.zeroValue23 ?_; intro W0 b0 F0 N0; have P0 := hP.fresh F0; have V0 : Tw w W0 br bl := Tw.of_below (F0.trans (Below.refl _ w) (Nat.le_refl _)) br bl; have h0 : w.heap.size ≤ b0 := Nat.le_of_eq F0.at'.symm; clear F0 hP)
              | (go_at_call 39; refine (c1 _ P0).mono ?_; rintro en W1 O1; obtain ⟨rfl, P1⟩ := O1.goes g1; have V1 := V0.trans O1.tw; have N1 := N0.tw O1.tw (by omega) (by omega); clear O1 c1)
              | (go_at_call 37; refine (c2 _ P1).mono ?_; rintro en W2 O2; obtain ⟨rfl, P2⟩ := O2.goes g2; have V2 := V1.trans O2.tw; have N2 := N1.tw O2.tw (by omega) (by omega); clear O2 c2)
              | (go_at_call 20; refine (c3 _ P2).mono ?_; rintro en W3 O3; obtain ⟨rfl, P3⟩ := O3.goes g3; have V3 := V2.trans O3.tw; have N3 := N2.tw O3.tw (by omega) (by omega); clear O3 c3)
              | (go_at_call 38; refine (c4 _ P3).mono ?_; rintro en W4 O4; have T4 := O4.tw; obtain ⟨bp, rfl, hb, hI⟩ := O4.ups f u4; clear O4 c4))
            exact ⟨rfl, OutP.thrown (u4) ⟨bp, rfl, Nat.le_trans V3.size hb, hI⟩ (V3.trans T4)⟩
        · skip
          go_enter Try.func35, Try.ntmps35
          go_wp2_with (first
            | (refine wpList_allocS rfl 23 rfl (inL noIn) Try.zeroValue23 ?_; intro W0 b0 F0 N0; have P0 := hP.fresh F0; have V0 : Tw w W0 br bl := Tw.of_below (F0.trans (Below.refl _ w) (Nat.le_refl _)) br bl; have h0 : w.heap.size ≤ b0 := Nat.le_of_eq F0.at'.symm; clear F0 hP)
            | (go_at_call 39; refine (c1 _ P0).mono ?_; rintro en W1 O1; obtain ⟨rfl, P1⟩ := O1.goes g1; have V1 := V0.trans O1.tw; have N1 := N0.tw O1.tw (by omega) (by omega); clear O1 c1)
            | (go_at_call 37; refine (c2 _ P1).mono ?_; rintro en W2 O2; obtain ⟨rfl, P2⟩ := O2.goes g2; have V2 := V1.trans O2.tw; have N2 := N1.tw O2.tw (by omega) (by omega); clear O2 c2)
            | (go_at_call 20; refine (c3 _ P2).mono ?_; rintro en W3 O3; have T3 := O3.tw; obtain ⟨bp, rfl, hb, hI⟩ := O3.ups f u3; clear O3 c3))
          exact ⟨rfl, OutP.thrown (ups_nbr u3) ⟨bp, rfl, Nat.le_trans V2.size hb, hI⟩ (V2.trans T3)⟩
      | false =>
        have e1 : storeR D σ = nameR D (mustR D (placeR D σ) [44]) := by unfold storeR; dsimp only; rw [hB1]; rfl
        have e2 : storeT D σ = ⟨5, [], nameT D (mustR D (placeR D σ) [44]), placeT D σ, 0⟩ := by unfold storeT; dsimp only; rw [hB1]; rfl
        rw [e1, e2]; clear e1 e2
        have c3 := fun W (hP : PR D s W br bl (RS.k (mustR D (placeR D σ) [44]))) => takes_no (mustR D (placeR D σ) [44]) g2 ⟨#[36]⟩ hB1 W hP
        have c4 := fun W (hP : PR D s W br bl (RS.k (mustR D (placeR D σ) [44]))) => rdName_any hsz (mustR D (placeR D σ) [44]) g2 W hP
        rcases goes_or D (nameR D (mustR D (placeR D σ) [44])) with g4 | ⟨f, u4⟩
        · skip
          go_enter Try.func35, Try.ntmps35
          go_wp2_with (first
            | (refine wpList_allocS rfl 23 rfl (inL noIn) Try.zeroValue23 ?_; intro W0 b0 F0 N0; have P0 := hP.fresh F0; have V0 : Tw w W0 br bl := Tw.of_below (F0.trans (Below.refl _ w) (Nat.le_refl _)) br bl; have h0 : w.heap.size ≤ b0 := Nat.le_of_eq F0.at'.symm; clear F0 hP)
            | (go_at_call 39; refine (c1 _ P0).mono ?_; rintro en W1 O1; obtain ⟨rfl, P1⟩ := O1.goes g1; have V1 := V0.trans O1.tw; have N1 := N0.tw O1.tw (by omega) (by omega); clear O1 c1)
            | (go_at_call 37; refine (c2 _ P1).mono ?_; rintro en W2 O2; obtain ⟨rfl, P2⟩ := O2.goes g2; have V2 := V1.trans O2.tw; have N2 := N1.tw O2.tw (by omega) (by omega); clear O2 c2)
            | (go_at_call 20; refine (c3 _ P2).mono ?_; rintro e w' ⟨rfl, hw'⟩; replace hw' := hw'.symm; subst hw'; clear c3)
            | (go_at_call 36; refine (c4 _ P2).mono ?_; rintro en W4 O4; obtain ⟨rfl, P4⟩ := O4.goes g4; have V4 := V2.trans O4.tw; have N4 := N2.tw O4.tw (by omega) (by omega); clear O4 c4)
            | (refine wpList_storeS rfl 23 _ _ rfl rfl (inL ⟨5, [], nameT D (mustR D (placeR D σ) [44]), placeT D σ, 0⟩) rfl N4 (by simp [inL, noIn]) infoI (in_one _) ?_; intro W99 U99 N99x; have N99 : IsS W99 b0 23 (inL ⟨5, [], nameT D (mustR D (placeR D σ) [44]), placeT D σ, 0⟩) := N99x; have P99 := P4.upd U99 (by omega) (by omega); have V99 := V4.upd h0 U99))
          exact ret_S (cs := inL ⟨5, [], nameT D (mustR D (placeR D σ) [44]), placeT D σ, 0⟩) rfl rfl rfl N99 _ Try.underlying23 rfl infoI (OutP.ret g4 P99 V99)
        · skip
          go_enter Try.func35, Try.ntmps35
          go_wp2_with (first
            | (refine wpList_allocS rfl 23 rfl (inL noIn) Try.zeroValue23 ?_; intro W0 b0 F0 N0; have P0 := hP.fresh F0; have V0 : Tw w W0 br bl := Tw.of_below (F0.trans (Below.refl _ w) (Nat.le_refl _)) br bl; have h0 : w.heap.size ≤ b0 := Nat.le_of_eq F0.at'.symm; clear F0 hP)
            | (go_at_call 39; refine (c1 _ P0).mono ?_; rintro en W1 O1; obtain ⟨rfl, P1⟩ := O1.goes g1; have V1 := V0.trans O1.tw; have N1 := N0.tw O1.tw (by omega) (by omega); clear O1 c1)
            | (go_at_call 37; refine (c2 _ P1).mono ?_; rintro en W2 O2; obtain ⟨rfl, P2⟩ := O2.goes g2; have V2 := V1.trans O2.tw; have N2 := N1.tw O2.tw (by omega) (by omega); clear O2 c2)
            | (go_at_call 20; refine (c3 _ P2).mono ?_; rintro e w' ⟨rfl, hw'⟩; replace hw' := hw'.symm; subst hw'; clear c3)
            | (go_at_call 36; refine (c4 _ P2).mono ?_; rintro en W4 O4; have T4 := O4.tw; obtain ⟨bp, rfl, hb, hI⟩ := O4.ups f u4; clear O4 c4))
          exact ⟨rfl, OutP.thrown (u4) ⟨bp, rfl, Nat.le_trans V2.size hb, hI⟩ (V2.trans T4)⟩
    · skip
      go_enter Try.func35, Try.ntmps35
      go_wp2_with (first
        | (refine wpList_allocS rfl 23 rfl (inL noIn) Try.zeroValue23 ?_; intro W0 b0 F0 N0; have P0 := hP.fresh F0; have V0 : Tw w W0 br bl := Tw.of_below (F0.trans (Below.refl _ w) (Nat.le_refl _)) br bl; have h0 : w.heap.size ≤ b0 := Nat.le_of_eq F0.at'.symm; clear F0 hP)
        | (go_at_call 39; refine (c1 _ P0).mono ?_; rintro en W1 O1; obtain ⟨rfl, P1⟩ := O1.goes g1; have V1 := V0.trans O1.tw; have N1 := N0.tw O1.tw (by omega) (by omega); clear O1 c1)
        | (go_at_call 37; refine (c2 _ P1).mono ?_; rintro en W2 O2; have T2 := O2.tw; obtain ⟨bp, rfl, hb, hI⟩ := O2.ups f u2; clear O2 c2))
      exact ⟨rfl, OutP.thrown (ups_store2 u2) ⟨bp, rfl, Nat.le_trans V1.size hb, hI⟩ (V1.trans T2)⟩
  · skip
    go_enter Try.func35, Try.ntmps35
    go_wp2_with (first
      | (refine wpList_allocS rfl 23 rfl (inL noIn) Try.zeroValue23 ?_; intro W0 b0 F0 N0; have P0 := hP.fresh F0; have V0 : Tw w W0 br bl := Tw.of_below (F0.trans (Below.refl _ w) (Nat.le_refl _)) br bl; have h0 : w.heap.size ≤ b0 := Nat.le_of_eq F0.at'.symm; clear F0 hP)
      | (go_at_call 39; refine (c1 _ P0).mono ?_; rintro en W1 O1; have T1 := O1.tw; obtain ⟨bp, rfl, hb, hI⟩ := O1.ups f u1; clear O1 c1))
    exact ⟨rfl, OutP.thrown (ups_store u1) ⟨bp, rfl, Nat.le_trans V0.size hb, hI⟩ (V0.trans T1)⟩
set_option maxRecDepth 100000 in
set_option maxHeartbeats 2000000 in
theorem move1_any (hsz : s.size < 4611686018427387904) (σ : RS) (g : Goes D σ) (w : World) (hP : PR D s w br bl σ.k) :
    Calls Try.prog 21 #[.pointer (some ⟨br, 0, none⟩)] w fun en w' => OutP D s w br bl (moveR D σ) (.agg (inL (moveT D σ)).toArray) en w' := by
  have hb1 := hP.tok.lt
  have hb2 := hP.ltl
  cases hB1 : seesR D (RS.k σ) [91] with
  | true =>
    have e1 : moveR D σ = storeR D σ := by unfold moveR; rw [hB1]; rfl
    have e2 : moveT D σ = storeT D σ := by unfold moveT; rw [hB1]; rfl
    rw [e1, e2]; clear e1 e2
    have c1 := fun W (hP : PR D s W br bl (RS.k σ)) => psees_any σ g ⟨#[91]⟩ W hP
    rw [show seesR D (RS.k σ) (ByteArray.data ⟨#[91]⟩).toList = true from hB1] at c1
    have c2 := fun W (hP : PR D s W br bl (RS.k σ)) => store_any hsz σ g W hP
    rcases goes_or D (storeR D σ) with g2 | ⟨f, u2⟩
    · skip
      go_enter Try.func21, Try.ntmps21
      go_wp2_with (first
        | (refine wpList_allocS rfl 23 rfl (inL noIn) Try.zeroValue23 ?_; intro W0 b0 F0 N0; have P0 := hP.fresh F0; have V0 : Tw w W0 br bl := Tw.of_below (F0.trans (Below.refl _ w) (Nat.le_refl _)) br bl; have h0 : w.heap.size ≤ b0 := Nat.le_of_eq F0.at'.symm; clear F0 hP)
        | (go_at_call 34; refine (c1 _ P0).mono ?_; rintro e w' ⟨rfl, hw'⟩; replace hw' := hw'.symm; subst hw'; clear c1)
        | (go_at_call 35; refine (c2 _ P0).mono ?_; rintro en W2 O2; obtain ⟨rfl, P2⟩ := O2.goes g2; have V2 := V0.trans O2.tw; have N2 := N0.tw O2.tw (by omega) (by omega); clear O2 c2)
        | (refine wpList_storeS rfl 23 _ _ rfl rfl (inL (storeT D σ)) rfl N2 (by simp [inL, noIn]) infoI (in_one _) ?_; intro W99 U99 N99x; have N99 : IsS W99 b0 23 (inL (storeT D σ)) := N99x; have P99 := P2.upd U99 (by omega) (by omega); have V99 := V2.upd h0 U99))
      exact ret_S (cs := inL (storeT D σ)) rfl rfl rfl N99 _ Try.underlying23 rfl infoI (OutP.ret g2 P99 V99)
    · skip
      go_enter Try.func21, Try.ntmps21
      go_wp2_with (first
        | (refine wpList_allocS rfl 23 rfl (inL noIn) Try.zeroValue23 ?_; intro W0 b0 F0 N0; have P0 := hP.fresh F0; have V0 : Tw w W0 br bl := Tw.of_below (F0.trans (Below.refl _ w) (Nat.le_refl _)) br bl; have h0 : w.heap.size ≤ b0 := Nat.le_of_eq F0.at'.symm; clear F0 hP)
        | (go_at_call 34; refine (c1 _ P0).mono ?_; rintro e w' ⟨rfl, hw'⟩; replace hw' := hw'.symm; subst hw'; clear c1)
        | (go_at_call 35; refine (c2 _ P0).mono ?_; rintro en W2 O2; have T2 := O2.tw; obtain ⟨bp, rfl, hb, hI⟩ := O2.ups f u2; clear O2 c2))
      exact ⟨rfl, OutP.thrown (u2) ⟨bp, rfl, Nat.le_trans V0.size hb, hI⟩ (V0.trans T2)⟩
  | false =>
    have c1 := fun W (hP : PR D s W br bl (RS.k σ)) => psees_any σ g ⟨#[91]⟩ W hP
    rw [show seesR D (RS.k σ) (ByteArray.data ⟨#[91]⟩).toList = false from hB1] at c1
    have c2 := fun W (hP : PR D s W br bl (RS.k σ)) => rdName_any hsz σ g W hP
    rcases goes_or D (nameR D σ) with g2 | ⟨f, u2⟩
    · skip
      have c3 := fun W (hP : PR D s W br bl (RS.k (nameR D σ))) => word_any hsz (nameR D σ) g2 ⟨#[44]⟩ W hP
      rcases goes_or D (mustR D (nameR D σ) [44]) with g3 | ⟨f, u3⟩
      · skip
        cases hB2 : isB D (mustR D (nameR D σ) [44]) [36] with
        | true =>
          have e1 : moveR D σ = nbrR D (isR D (mustR D (nameR D σ) [44]) [36]) := by unfold moveR; dsimp only; rw [hB1, hB2]; rfl
          have e2 : moveT D σ = ⟨1, nameT D σ, [], [], nbrV D (isR D (mustR D (nameR D σ) [44]) [36])⟩ := by unfold moveT; dsimp only; rw [hB1, hB2]; rfl
          rw [e1, e2]; clear e1 e2
          have c4 := fun W (hP : PR D s W br bl (RS.k (mustR D (nameR D σ) [44]))) => takes_yes hsz (mustR D (nameR D σ) [44]) g3 ⟨#[36]⟩ hB2 W hP
          rcases goes_or D (isR D (mustR D (nameR D σ) [44]) [36]) with g4 | ⟨f, u4⟩
          · skip
            have c5 := fun W (hP : PR D s W br bl (RS.k (isR D (mustR D (nameR D σ) [44]) [36]))) => rdNbr_any hsz (isR D (mustR D (nameR D σ) [44]) [36]) g4 W hP
            rcases goes_or D (nbrR D (isR D (mustR D (nameR D σ) [44]) [36])) with g5 | ⟨f, u5⟩
            · skip
              go_enter Try.func21, Try.ntmps21
              go_wp2_with (first
                | (refine wpList_allocS rfl 23 rfl (inL noIn) Try.zeroValue23 ?_; intro W0 b0 F0 N0; have P0 := hP.fresh F0; have V0 : Tw w W0 br bl := Tw.of_below (F0.trans (Below.refl _ w) (Nat.le_refl _)) br bl; have h0 : w.heap.size ≤ b0 := Nat.le_of_eq F0.at'.symm; clear F0 hP)
                | (go_at_call 34; refine (c1 _ P0).mono ?_; rintro e w' ⟨rfl, hw'⟩; replace hw' := hw'.symm; subst hw'; clear c1)
                | (go_at_call 36; refine (c2 _ P0).mono ?_; rintro en W2 O2; obtain ⟨rfl, P2⟩ := O2.goes g2; have V2 := V0.trans O2.tw; have N2 := N0.tw O2.tw (by omega) (by omega); clear O2 c2)
                | (go_at_call 37; refine (c3 _ P2).mono ?_; rintro en W3 O3; obtain ⟨rfl, P3⟩ := O3.goes g3; have V3 := V2.trans O3.tw; have N3 := N2.tw O3.tw (by omega) (by omega); clear O3 c3)
                | (go_at_call 20; refine (c4 _ P3).mono ?_; rintro en W4 O4; obtain ⟨rfl, P4⟩ := O4.goes g4; have V4 := V3.trans O4.tw; have N4 := N3.tw O4.tw (by omega) (by omega); clear O4 c4)
                | (go_at_call 38; refine (c5 _ P4).mono ?_; rintro en W5 O5; obtain ⟨rfl, P5⟩ := O5.goes g5; have V5 := V4.trans O5.tw; have N5 := N4.tw O5.tw (by omega) (by omega); clear O5 c5)
                | (refine wpList_storeS rfl 23 _ _ rfl rfl (inL ⟨1, nameT D σ, [], [], nbrV D (isR D (mustR D (nameR D σ) [44]) [36])⟩) rfl N5 (by simp [inL, noIn]) infoI (in_one _) ?_; intro W99 U99 N99x; have N99 : IsS W99 b0 23 (inL ⟨1, nameT D σ, [], [], nbrV D (isR D (mustR D (nameR D σ) [44]) [36])⟩) := N99x; have P99 := P5.upd U99 (by omega) (by omega); have V99 := V5.upd h0 U99))
              exact ret_S (cs := inL ⟨1, nameT D σ, [], [], nbrV D (isR D (mustR D (nameR D σ) [44]) [36])⟩) rfl rfl rfl N99 _ Try.underlying23 rfl infoI (OutP.ret g5 P99 V99)
            · skip
              go_enter Try.func21, Try.ntmps21
              go_wp2_with (first
                | (refine wpList_allocS rfl 23 rfl (inL noIn) Try.zeroValue23 ?_; intro W0 b0 F0 N0; have P0 := hP.fresh F0; have V0 : Tw w W0 br bl := Tw.of_below (F0.trans (Below.refl _ w) (Nat.le_refl _)) br bl; have h0 : w.heap.size ≤ b0 := Nat.le_of_eq F0.at'.symm; clear F0 hP)
                | (go_at_call 34; refine (c1 _ P0).mono ?_; rintro e w' ⟨rfl, hw'⟩; replace hw' := hw'.symm; subst hw'; clear c1)
                | (go_at_call 36; refine (c2 _ P0).mono ?_; rintro en W2 O2; obtain ⟨rfl, P2⟩ := O2.goes g2; have V2 := V0.trans O2.tw; have N2 := N0.tw O2.tw (by omega) (by omega); clear O2 c2)
                | (go_at_call 37; refine (c3 _ P2).mono ?_; rintro en W3 O3; obtain ⟨rfl, P3⟩ := O3.goes g3; have V3 := V2.trans O3.tw; have N3 := N2.tw O3.tw (by omega) (by omega); clear O3 c3)
                | (go_at_call 20; refine (c4 _ P3).mono ?_; rintro en W4 O4; obtain ⟨rfl, P4⟩ := O4.goes g4; have V4 := V3.trans O4.tw; have N4 := N3.tw O4.tw (by omega) (by omega); clear O4 c4)
                | (go_at_call 38; refine (c5 _ P4).mono ?_; rintro en W5 O5; have T5 := O5.tw; obtain ⟨bp, rfl, hb, hI⟩ := O5.ups f u5; clear O5 c5))
              exact ⟨rfl, OutP.thrown (u5) ⟨bp, rfl, Nat.le_trans V4.size hb, hI⟩ (V4.trans T5)⟩
          · skip
            go_enter Try.func21, Try.ntmps21
            go_wp2_with (first
              | (refine wpList_allocS rfl 23 rfl (inL noIn) Try.zeroValue23 ?_; intro W0 b0 F0 N0; have P0 := hP.fresh F0; have V0 : Tw w W0 br bl := Tw.of_below (F0.trans (Below.refl _ w) (Nat.le_refl _)) br bl; have h0 : w.heap.size ≤ b0 := Nat.le_of_eq F0.at'.symm; clear F0 hP)
              | (go_at_call 34; refine (c1 _ P0).mono ?_; rintro e w' ⟨rfl, hw'⟩; replace hw' := hw'.symm; subst hw'; clear c1)
              | (go_at_call 36; refine (c2 _ P0).mono ?_; rintro en W2 O2; obtain ⟨rfl, P2⟩ := O2.goes g2; have V2 := V0.trans O2.tw; have N2 := N0.tw O2.tw (by omega) (by omega); clear O2 c2)
              | (go_at_call 37; refine (c3 _ P2).mono ?_; rintro en W3 O3; obtain ⟨rfl, P3⟩ := O3.goes g3; have V3 := V2.trans O3.tw; have N3 := N2.tw O3.tw (by omega) (by omega); clear O3 c3)
              | (go_at_call 20; refine (c4 _ P3).mono ?_; rintro en W4 O4; have T4 := O4.tw; obtain ⟨bp, rfl, hb, hI⟩ := O4.ups f u4; clear O4 c4))
            exact ⟨rfl, OutP.thrown (ups_nbr u4) ⟨bp, rfl, Nat.le_trans V3.size hb, hI⟩ (V3.trans T4)⟩
        | false =>
          have c4 := fun W (hP : PR D s W br bl (RS.k (mustR D (nameR D σ) [44]))) => takes_no (mustR D (nameR D σ) [44]) g3 ⟨#[36]⟩ hB2 W hP
          cases hB3 : seesR D (RS.k (mustR D (nameR D σ) [44])) [91] with
          | true =>
            have hB23 : (Option.isNone (RS.F (mustR D (nameR D σ) [44])) && seesR D (RS.k (mustR D (nameR D σ) [44])) [91]) = true := by rw [hB3, g3.1]; rfl
            have e1 : moveR D σ = placeR D (mustR D (nameR D σ) [44]) := by unfold moveR; dsimp only; rw [hB1, hB2, hB23]; rfl
            have e2 : moveT D σ = ⟨3, nameT D σ, [], placeT D (mustR D (nameR D σ) [44]), 0⟩ := by unfold moveT; dsimp only; rw [hB1, hB2, hB23]; rfl
            rw [e1, e2]; clear e1 e2
            have c5 := fun W (hP : PR D s W br bl (RS.k (mustR D (nameR D σ) [44]))) => psees_any (mustR D (nameR D σ) [44]) g3 ⟨#[91]⟩ W hP
            rw [show seesR D (RS.k (mustR D (nameR D σ) [44])) (ByteArray.data ⟨#[91]⟩).toList = true from hB3] at c5
            have c6 := fun W (hP : PR D s W br bl (RS.k (mustR D (nameR D σ) [44]))) => location_any hsz (mustR D (nameR D σ) [44]) g3 W hP
            rcases goes_or D (placeR D (mustR D (nameR D σ) [44])) with g6 | ⟨f, u6⟩
            · skip
              go_enter Try.func21, Try.ntmps21
              go_wp2_with (first
                | (refine wpList_allocS rfl 23 rfl (inL noIn) Try.zeroValue23 ?_; intro W0 b0 F0 N0; have P0 := hP.fresh F0; have V0 : Tw w W0 br bl := Tw.of_below (F0.trans (Below.refl _ w) (Nat.le_refl _)) br bl; have h0 : w.heap.size ≤ b0 := Nat.le_of_eq F0.at'.symm; clear F0 hP)
                | (go_at_call 34; refine (c1 _ P0).mono ?_; rintro e w' ⟨rfl, hw'⟩; replace hw' := hw'.symm; subst hw'; clear c1)
                | (go_at_call 36; refine (c2 _ P0).mono ?_; rintro en W2 O2; obtain ⟨rfl, P2⟩ := O2.goes g2; have V2 := V0.trans O2.tw; have N2 := N0.tw O2.tw (by omega) (by omega); clear O2 c2)
                | (go_at_call 37; refine (c3 _ P2).mono ?_; rintro en W3 O3; obtain ⟨rfl, P3⟩ := O3.goes g3; have V3 := V2.trans O3.tw; have N3 := N2.tw O3.tw (by omega) (by omega); clear O3 c3)
                | (go_at_call 20; refine (c4 _ P3).mono ?_; rintro e w' ⟨rfl, hw'⟩; replace hw' := hw'.symm; subst hw'; clear c4)
                | (go_at_call 34; refine (c5 _ P3).mono ?_; rintro e w' ⟨rfl, hw'⟩; replace hw' := hw'.symm; subst hw'; clear c5)
                | (go_at_call 39; refine (c6 _ P3).mono ?_; rintro en W6 O6; obtain ⟨rfl, P6⟩ := O6.goes g6; have V6 := V3.trans O6.tw; have N6 := N3.tw O6.tw (by omega) (by omega); clear O6 c6)
                | (refine wpList_storeS rfl 23 _ _ rfl rfl (inL ⟨3, nameT D σ, [], placeT D (mustR D (nameR D σ) [44]), 0⟩) rfl N6 (by simp [inL, noIn]) infoI (in_one _) ?_; intro W99 U99 N99x; have N99 : IsS W99 b0 23 (inL ⟨3, nameT D σ, [], placeT D (mustR D (nameR D σ) [44]), 0⟩) := N99x; have P99 := P6.upd U99 (by omega) (by omega); have V99 := V6.upd h0 U99))
              exact ret_S (cs := inL ⟨3, nameT D σ, [], placeT D (mustR D (nameR D σ) [44]), 0⟩) rfl rfl rfl N99 _ Try.underlying23 rfl infoI (OutP.ret g6 P99 V99)
            · skip
              go_enter Try.func21, Try.ntmps21
              go_wp2_with (first
                | (refine wpList_allocS rfl 23 rfl (inL noIn) Try.zeroValue23 ?_; intro W0 b0 F0 N0; have P0 := hP.fresh F0; have V0 : Tw w W0 br bl := Tw.of_below (F0.trans (Below.refl _ w) (Nat.le_refl _)) br bl; have h0 : w.heap.size ≤ b0 := Nat.le_of_eq F0.at'.symm; clear F0 hP)
                | (go_at_call 34; refine (c1 _ P0).mono ?_; rintro e w' ⟨rfl, hw'⟩; replace hw' := hw'.symm; subst hw'; clear c1)
                | (go_at_call 36; refine (c2 _ P0).mono ?_; rintro en W2 O2; obtain ⟨rfl, P2⟩ := O2.goes g2; have V2 := V0.trans O2.tw; have N2 := N0.tw O2.tw (by omega) (by omega); clear O2 c2)
                | (go_at_call 37; refine (c3 _ P2).mono ?_; rintro en W3 O3; obtain ⟨rfl, P3⟩ := O3.goes g3; have V3 := V2.trans O3.tw; have N3 := N2.tw O3.tw (by omega) (by omega); clear O3 c3)
                | (go_at_call 20; refine (c4 _ P3).mono ?_; rintro e w' ⟨rfl, hw'⟩; replace hw' := hw'.symm; subst hw'; clear c4)
                | (go_at_call 34; refine (c5 _ P3).mono ?_; rintro e w' ⟨rfl, hw'⟩; replace hw' := hw'.symm; subst hw'; clear c5)
                | (go_at_call 39; refine (c6 _ P3).mono ?_; rintro en W6 O6; have T6 := O6.tw; obtain ⟨bp, rfl, hb, hI⟩ := O6.ups f u6; clear O6 c6))
              exact ⟨rfl, OutP.thrown (u6) ⟨bp, rfl, Nat.le_trans V3.size hb, hI⟩ (V3.trans T6)⟩
          | false =>
            have hB23 : (Option.isNone (RS.F (mustR D (nameR D σ) [44])) && seesR D (RS.k (mustR D (nameR D σ) [44])) [91]) = false := by rw [hB3, g3.1]; rfl
            have e1 : moveR D σ = nameR D (mustR D (nameR D σ) [44]) := by unfold moveR; dsimp only; rw [hB1, hB2, hB23]; rfl
            have e2 : moveT D σ = ⟨2, nameT D σ, nameT D (mustR D (nameR D σ) [44]), [], 0⟩ := by unfold moveT; dsimp only; rw [hB1, hB2, hB23]; rfl
            rw [e1, e2]; clear e1 e2
            have c5 := fun W (hP : PR D s W br bl (RS.k (mustR D (nameR D σ) [44]))) => psees_any (mustR D (nameR D σ) [44]) g3 ⟨#[91]⟩ W hP
            rw [show seesR D (RS.k (mustR D (nameR D σ) [44])) (ByteArray.data ⟨#[91]⟩).toList = false from hB3] at c5
            have c6 := fun W (hP : PR D s W br bl (RS.k (mustR D (nameR D σ) [44]))) => rdName_any hsz (mustR D (nameR D σ) [44]) g3 W hP
            rcases goes_or D (nameR D (mustR D (nameR D σ) [44])) with g6 | ⟨f, u6⟩
            · skip
              go_enter Try.func21, Try.ntmps21
              go_wp2_with (first
                | (refine wpList_allocS rfl 23 rfl (inL noIn) Try.zeroValue23 ?_; intro W0 b0 F0 N0; have P0 := hP.fresh F0; have V0 : Tw w W0 br bl := Tw.of_below (F0.trans (Below.refl _ w) (Nat.le_refl _)) br bl; have h0 : w.heap.size ≤ b0 := Nat.le_of_eq F0.at'.symm; clear F0 hP)
                | (go_at_call 34; refine (c1 _ P0).mono ?_; rintro e w' ⟨rfl, hw'⟩; replace hw' := hw'.symm; subst hw'; clear c1)
                | (go_at_call 36; refine (c2 _ P0).mono ?_; rintro en W2 O2; obtain ⟨rfl, P2⟩ := O2.goes g2; have V2 := V0.trans O2.tw; have N2 := N0.tw O2.tw (by omega) (by omega); clear O2 c2)
                | (go_at_call 37; refine (c3 _ P2).mono ?_; rintro en W3 O3; obtain ⟨rfl, P3⟩ := O3.goes g3; have V3 := V2.trans O3.tw; have N3 := N2.tw O3.tw (by omega) (by omega); clear O3 c3)
                | (go_at_call 20; refine (c4 _ P3).mono ?_; rintro e w' ⟨rfl, hw'⟩; replace hw' := hw'.symm; subst hw'; clear c4)
                | (go_at_call 34; refine (c5 _ P3).mono ?_; rintro e w' ⟨rfl, hw'⟩; replace hw' := hw'.symm; subst hw'; clear c5)
                | (go_at_call 36; refine (c6 _ P3).mono ?_; rintro en W6 O6; obtain ⟨rfl, P6⟩ := O6.goes g6; have V6 := V3.trans O6.tw; have N6 := N3.tw O6.tw (by omega) (by omega); clear O6 c6)
                | (refine wpList_storeS rfl 23 _ _ rfl rfl (inL ⟨2, nameT D σ, nameT D (mustR D (nameR D σ) [44]), [], 0⟩) rfl N6 (by simp [inL, noIn]) infoI (in_one _) ?_; intro W99 U99 N99x; have N99 : IsS W99 b0 23 (inL ⟨2, nameT D σ, nameT D (mustR D (nameR D σ) [44]), [], 0⟩) := N99x; have P99 := P6.upd U99 (by omega) (by omega); have V99 := V6.upd h0 U99))
              exact ret_S (cs := inL ⟨2, nameT D σ, nameT D (mustR D (nameR D σ) [44]), [], 0⟩) rfl rfl rfl N99 _ Try.underlying23 rfl infoI (OutP.ret g6 P99 V99)
            · skip
              go_enter Try.func21, Try.ntmps21
              go_wp2_with (first
                | (refine wpList_allocS rfl 23 rfl (inL noIn) Try.zeroValue23 ?_; intro W0 b0 F0 N0; have P0 := hP.fresh F0; have V0 : Tw w W0 br bl := Tw.of_below (F0.trans (Below.refl _ w) (Nat.le_refl _)) br bl; have h0 : w.heap.size ≤ b0 := Nat.le_of_eq F0.at'.symm; clear F0 hP)
                | (go_at_call 34; refine (c1 _ P0).mono ?_; rintro e w' ⟨rfl, hw'⟩; replace hw' := hw'.symm; subst hw'; clear c1)
                | (go_at_call 36; refine (c2 _ P0).mono ?_; rintro en W2 O2; obtain ⟨rfl, P2⟩ := O2.goes g2; have V2 := V0.trans O2.tw; have N2 := N0.tw O2.tw (by omega) (by omega); clear O2 c2)
                | (go_at_call 37; refine (c3 _ P2).mono ?_; rintro en W3 O3; obtain ⟨rfl, P3⟩ := O3.goes g3; have V3 := V2.trans O3.tw; have N3 := N2.tw O3.tw (by omega) (by omega); clear O3 c3)
                | (go_at_call 20; refine (c4 _ P3).mono ?_; rintro e w' ⟨rfl, hw'⟩; replace hw' := hw'.symm; subst hw'; clear c4)
                | (go_at_call 34; refine (c5 _ P3).mono ?_; rintro e w' ⟨rfl, hw'⟩; replace hw' := hw'.symm; subst hw'; clear c5)
                | (go_at_call 36; refine (c6 _ P3).mono ?_; rintro en W6 O6; have T6 := O6.tw; obtain ⟨bp, rfl, hb, hI⟩ := O6.ups f u6; clear O6 c6))
              exact ⟨rfl, OutP.thrown (u6) ⟨bp, rfl, Nat.le_trans V3.size hb, hI⟩ (V3.trans T6)⟩
      · skip
        go_enter Try.func21, Try.ntmps21
        go_wp2_with (first
          | (refine wpList_allocS rfl 23 rfl (inL noIn) Try.zeroValue23 ?_; intro W0 b0 F0 N0; have P0 := hP.fresh F0; have V0 : Tw w W0 br bl := Tw.of_below (F0.trans (Below.refl _ w) (Nat.le_refl _)) br bl; have h0 : w.heap.size ≤ b0 := Nat.le_of_eq F0.at'.symm; clear F0 hP)
          | (go_at_call 34; refine (c1 _ P0).mono ?_; rintro e w' ⟨rfl, hw'⟩; replace hw' := hw'.symm; subst hw'; clear c1)
          | (go_at_call 36; refine (c2 _ P0).mono ?_; rintro en W2 O2; obtain ⟨rfl, P2⟩ := O2.goes g2; have V2 := V0.trans O2.tw; have N2 := N0.tw O2.tw (by omega) (by omega); clear O2 c2)
          | (go_at_call 37; refine (c3 _ P2).mono ?_; rintro en W3 O3; have T3 := O3.tw; obtain ⟨bp, rfl, hb, hI⟩ := O3.ups f u3; clear O3 c3))
        exact ⟨rfl, OutP.thrown (ups_move2 hB1 u3) ⟨bp, rfl, Nat.le_trans V2.size hb, hI⟩ (V2.trans T3)⟩
    · skip
      go_enter Try.func21, Try.ntmps21
      go_wp2_with (first
        | (refine wpList_allocS rfl 23 rfl (inL noIn) Try.zeroValue23 ?_; intro W0 b0 F0 N0; have P0 := hP.fresh F0; have V0 : Tw w W0 br bl := Tw.of_below (F0.trans (Below.refl _ w) (Nat.le_refl _)) br bl; have h0 : w.heap.size ≤ b0 := Nat.le_of_eq F0.at'.symm; clear F0 hP)
        | (go_at_call 34; refine (c1 _ P0).mono ?_; rintro e w' ⟨rfl, hw'⟩; replace hw' := hw'.symm; subst hw'; clear c1)
        | (go_at_call 36; refine (c2 _ P0).mono ?_; rintro en W2 O2; have T2 := O2.tw; obtain ⟨bp, rfl, hb, hI⟩ := O2.ups f u2; clear O2 c2))
      exact ⟨rfl, OutP.thrown (ups_move1 hB1 u2) ⟨bp, rfl, Nat.le_trans V0.size hb, hI⟩ (V0.trans T2)⟩
set_option maxRecDepth 100000 in
set_option maxHeartbeats 2000000 in
theorem locked_any (hsz : s.size < 4611686018427387904) (σ : RS) (g : Goes D σ) (w : World) (hP : PR D s w br bl σ.k) :
    Calls Try.prog 23 #[.pointer (some ⟨br, 0, none⟩)] w fun en w' => OutP D s w br bl (lockR D σ) (.agg (inL (lockT D σ)).toArray) en w' := by
  have hb1 := hP.tok.lt
  have hb2 := hP.ltl
  cases hB1 : isB D σ [67, 77, 80, 88, 67, 72, 71] with
  | true =>
    have e1 : lockR D σ = opdR D (isR D σ wCMPXCHG) := by unfold lockR; rw [show isB D σ wCMPXCHG = true from hB1]; rfl
    have e2 : lockT D σ = ⟨8, [], opdN D (isR D σ wCMPXCHG), opdL D (isR D σ wCMPXCHG), 0⟩ := by unfold lockT; rw [show isB D σ wCMPXCHG = true from hB1]; rfl
    rw [e1, e2]; clear e1 e2
    have c1 := fun W (hP : PR D s W br bl (RS.k σ)) => takes_yes hsz σ g ⟨#[67, 77, 80, 88, 67, 72, 71]⟩ hB1 W hP
    rcases goes_or D (isR D σ [67, 77, 80, 88, 67, 72, 71]) with g1 | ⟨f, u1⟩
    · skip
      have c2 := fun W (hP : PR D s W br bl (RS.k (isR D σ [67, 77, 80, 88, 67, 72, 71]))) => operands_any hsz (isR D σ [67, 77, 80, 88, 67, 72, 71]) g1 W hP
      rcases goes_or D (opdR D (isR D σ [67, 77, 80, 88, 67, 72, 71])) with g2 | ⟨f, u2⟩
      · skip
        go_enter Try.func23, Try.ntmps23
        go_wp2_with (first
          | (refine wpList_allocS rfl 23 rfl (inL noIn) Try.zeroValue23 ?_; intro W0 b0 F0 N0; have P0 := hP.fresh F0; have V0 : Tw w W0 br bl := Tw.of_below (F0.trans (Below.refl _ w) (Nat.le_refl _)) br bl; have h0 : w.heap.size ≤ b0 := Nat.le_of_eq F0.at'.symm; clear F0 hP)
          | (go_at_call 20; refine (c1 _ P0).mono ?_; rintro en W1 O1; obtain ⟨rfl, P1⟩ := O1.goes g1; have V1 := V0.trans O1.tw; have N1 := N0.tw O1.tw (by omega) (by omega); clear O1 c1)
          | (go_at_call 22; refine (c2 _ P1).mono ?_; rintro en W2 O2; obtain ⟨rfl, P2⟩ := O2.goes g2; have V2 := V1.trans O2.tw; have N2 := N1.tw O2.tw (by omega) (by omega); clear O2 c2)
          | (refine wpList_storeS rfl 23 _ _ rfl rfl (inL ⟨8, [], opdN D (isR D σ wCMPXCHG), opdL D (isR D σ wCMPXCHG), 0⟩) rfl N2 (by simp [inL, noIn]) infoI (in_one _) ?_; intro W99 U99 N99x; have N99 : IsS W99 b0 23 (inL ⟨8, [], opdN D (isR D σ wCMPXCHG), opdL D (isR D σ wCMPXCHG), 0⟩) := N99x; have P99 := P2.upd U99 (by omega) (by omega); have V99 := V2.upd h0 U99))
        exact ret_S (cs := inL ⟨8, [], opdN D (isR D σ wCMPXCHG), opdL D (isR D σ wCMPXCHG), 0⟩) rfl rfl rfl N99 _ Try.underlying23 rfl infoI (OutP.ret g2 P99 V99)
      · skip
        go_enter Try.func23, Try.ntmps23
        go_wp2_with (first
          | (refine wpList_allocS rfl 23 rfl (inL noIn) Try.zeroValue23 ?_; intro W0 b0 F0 N0; have P0 := hP.fresh F0; have V0 : Tw w W0 br bl := Tw.of_below (F0.trans (Below.refl _ w) (Nat.le_refl _)) br bl; have h0 : w.heap.size ≤ b0 := Nat.le_of_eq F0.at'.symm; clear F0 hP)
          | (go_at_call 20; refine (c1 _ P0).mono ?_; rintro en W1 O1; obtain ⟨rfl, P1⟩ := O1.goes g1; have V1 := V0.trans O1.tw; have N1 := N0.tw O1.tw (by omega) (by omega); clear O1 c1)
          | (go_at_call 22; refine (c2 _ P1).mono ?_; rintro en W2 O2; have T2 := O2.tw; obtain ⟨bp, rfl, hb, hI⟩ := O2.ups f u2; clear O2 c2))
        exact ⟨rfl, OutP.thrown (u2) ⟨bp, rfl, Nat.le_trans V1.size hb, hI⟩ (V1.trans T2)⟩
    · skip
      go_enter Try.func23, Try.ntmps23
      go_wp2_with (first
        | (refine wpList_allocS rfl 23 rfl (inL noIn) Try.zeroValue23 ?_; intro W0 b0 F0 N0; have P0 := hP.fresh F0; have V0 : Tw w W0 br bl := Tw.of_below (F0.trans (Below.refl _ w) (Nat.le_refl _)) br bl; have h0 : w.heap.size ≤ b0 := Nat.le_of_eq F0.at'.symm; clear F0 hP)
        | (go_at_call 20; refine (c1 _ P0).mono ?_; rintro en W1 O1; have T1 := O1.tw; obtain ⟨bp, rfl, hb, hI⟩ := O1.ups f u1; clear O1 c1))
      exact ⟨rfl, OutP.thrown (ups_opd u1) ⟨bp, rfl, Nat.le_trans V0.size hb, hI⟩ (V0.trans T1)⟩
  | false =>
    have e1 : lockR D σ = opdR D (mustR D σ wXADD) := by unfold lockR; rw [show isB D σ wCMPXCHG = false from hB1]; rfl
    have e2 : lockT D σ = ⟨9, opdN D (mustR D σ wXADD), [], opdL D (mustR D σ wXADD), 0⟩ := by unfold lockT; rw [show isB D σ wCMPXCHG = false from hB1]; rfl
    rw [e1, e2]; clear e1 e2
    have c1 := fun W (hP : PR D s W br bl (RS.k σ)) => takes_no σ g ⟨#[67, 77, 80, 88, 67, 72, 71]⟩ hB1 W hP
    have c2 := fun W (hP : PR D s W br bl (RS.k σ)) => word_any hsz σ g ⟨#[88, 65, 68, 68]⟩ W hP
    rcases goes_or D (mustR D σ [88, 65, 68, 68]) with g2 | ⟨f, u2⟩
    · skip
      have c3 := fun W (hP : PR D s W br bl (RS.k (mustR D σ [88, 65, 68, 68]))) => operands_any hsz (mustR D σ [88, 65, 68, 68]) g2 W hP
      rcases goes_or D (opdR D (mustR D σ [88, 65, 68, 68])) with g3 | ⟨f, u3⟩
      · skip
        go_enter Try.func23, Try.ntmps23
        go_wp2_with (first
          | (refine wpList_allocS rfl 23 rfl (inL noIn) Try.zeroValue23 ?_; intro W0 b0 F0 N0; have P0 := hP.fresh F0; have V0 : Tw w W0 br bl := Tw.of_below (F0.trans (Below.refl _ w) (Nat.le_refl _)) br bl; have h0 : w.heap.size ≤ b0 := Nat.le_of_eq F0.at'.symm; clear F0 hP)
          | (go_at_call 20; refine (c1 _ P0).mono ?_; rintro e w' ⟨rfl, hw'⟩; replace hw' := hw'.symm; subst hw'; clear c1)
          | (go_at_call 37; refine (c2 _ P0).mono ?_; rintro en W2 O2; obtain ⟨rfl, P2⟩ := O2.goes g2; have V2 := V0.trans O2.tw; have N2 := N0.tw O2.tw (by omega) (by omega); clear O2 c2)
          | (go_at_call 22; refine (c3 _ P2).mono ?_; rintro en W3 O3; obtain ⟨rfl, P3⟩ := O3.goes g3; have V3 := V2.trans O3.tw; have N3 := N2.tw O3.tw (by omega) (by omega); clear O3 c3)
          | (refine wpList_storeS rfl 23 _ _ rfl rfl (inL ⟨9, opdN D (mustR D σ wXADD), [], opdL D (mustR D σ wXADD), 0⟩) rfl N3 (by simp [inL, noIn]) infoI (in_one _) ?_; intro W99 U99 N99x; have N99 : IsS W99 b0 23 (inL ⟨9, opdN D (mustR D σ wXADD), [], opdL D (mustR D σ wXADD), 0⟩) := N99x; have P99 := P3.upd U99 (by omega) (by omega); have V99 := V3.upd h0 U99))
        exact ret_S (cs := inL ⟨9, opdN D (mustR D σ wXADD), [], opdL D (mustR D σ wXADD), 0⟩) rfl rfl rfl N99 _ Try.underlying23 rfl infoI (OutP.ret g3 P99 V99)
      · skip
        go_enter Try.func23, Try.ntmps23
        go_wp2_with (first
          | (refine wpList_allocS rfl 23 rfl (inL noIn) Try.zeroValue23 ?_; intro W0 b0 F0 N0; have P0 := hP.fresh F0; have V0 : Tw w W0 br bl := Tw.of_below (F0.trans (Below.refl _ w) (Nat.le_refl _)) br bl; have h0 : w.heap.size ≤ b0 := Nat.le_of_eq F0.at'.symm; clear F0 hP)
          | (go_at_call 20; refine (c1 _ P0).mono ?_; rintro e w' ⟨rfl, hw'⟩; replace hw' := hw'.symm; subst hw'; clear c1)
          | (go_at_call 37; refine (c2 _ P0).mono ?_; rintro en W2 O2; obtain ⟨rfl, P2⟩ := O2.goes g2; have V2 := V0.trans O2.tw; have N2 := N0.tw O2.tw (by omega) (by omega); clear O2 c2)
          | (go_at_call 22; refine (c3 _ P2).mono ?_; rintro en W3 O3; have T3 := O3.tw; obtain ⟨bp, rfl, hb, hI⟩ := O3.ups f u3; clear O3 c3))
        exact ⟨rfl, OutP.thrown (u3) ⟨bp, rfl, Nat.le_trans V2.size hb, hI⟩ (V2.trans T3)⟩
    · skip
      go_enter Try.func23, Try.ntmps23
      go_wp2_with (first
        | (refine wpList_allocS rfl 23 rfl (inL noIn) Try.zeroValue23 ?_; intro W0 b0 F0 N0; have P0 := hP.fresh F0; have V0 : Tw w W0 br bl := Tw.of_below (F0.trans (Below.refl _ w) (Nat.le_refl _)) br bl; have h0 : w.heap.size ≤ b0 := Nat.le_of_eq F0.at'.symm; clear F0 hP)
        | (go_at_call 20; refine (c1 _ P0).mono ?_; rintro e w' ⟨rfl, hw'⟩; replace hw' := hw'.symm; subst hw'; clear c1)
        | (go_at_call 37; refine (c2 _ P0).mono ?_; rintro en W2 O2; have T2 := O2.tw; obtain ⟨bp, rfl, hb, hI⟩ := O2.ups f u2; clear O2 c2))
      exact ⟨rfl, OutP.thrown (ups_opd u2) ⟨bp, rfl, Nat.le_trans V0.size hb, hI⟩ (V0.trans T2)⟩
set_option maxRecDepth 100000 in
set_option maxHeartbeats 2000000 in
theorem instr_any (hsz : s.size < 4611686018427387904) (σ : RS) (g : Goes D σ) (w : World) (hP : PR D s w br bl σ.k) :
    Calls Try.prog 9 #[.pointer (some ⟨br, 0, none⟩)] w fun en w' => OutP D s w br bl (instrR D σ) (.agg (inL (instrT D σ)).toArray) en w' := by
  have hb1 := hP.tok.lt
  have hb2 := hP.ltl
  cases hB1 : isB D σ [77, 79, 86] with
  | true =>
    have e1 : instrR D σ = moveR D (isR D σ wMOV) := by unfold instrR; rw [show isB D σ wMOV = true from hB1]; rfl
    have e2 : instrT D σ = moveT D (isR D σ wMOV) := by unfold instrT; rw [show isB D σ wMOV = true from hB1]; rfl
    rw [e1, e2]; clear e1 e2
    have c1 := fun W (hP : PR D s W br bl (RS.k σ)) => takes_yes hsz σ g ⟨#[77, 79, 86]⟩ hB1 W hP
    rcases goes_or D (isR D σ [77, 79, 86]) with g1 | ⟨f, u1⟩
    · skip
      have c2 := fun W (hP : PR D s W br bl (RS.k (isR D σ [77, 79, 86]))) => move1_any hsz (isR D σ [77, 79, 86]) g1 W hP
      rcases goes_or D (moveR D (isR D σ [77, 79, 86])) with g2 | ⟨f, u2⟩
      · skip
        go_enter Try.func9, Try.ntmps9
        go_wp2_with (first
          | (refine wpList_allocS rfl 23 rfl (inL noIn) Try.zeroValue23 ?_; intro W0 b0 F0 N0; have P0 := hP.fresh F0; have V0 : Tw w W0 br bl := Tw.of_below (F0.trans (Below.refl _ w) (Nat.le_refl _)) br bl; have h0 : w.heap.size ≤ b0 := Nat.le_of_eq F0.at'.symm; clear F0 hP)
          | (go_at_call 20; refine (c1 _ P0).mono ?_; rintro en W1 O1; obtain ⟨rfl, P1⟩ := O1.goes g1; have V1 := V0.trans O1.tw; have N1 := N0.tw O1.tw (by omega) (by omega); clear O1 c1)
          | (go_at_call 21; refine (c2 _ P1).mono ?_; rintro en W2 O2; obtain ⟨rfl, P2⟩ := O2.goes g2; have V2 := V1.trans O2.tw; have N2 := N1.tw O2.tw (by omega) (by omega); clear O2 c2)
          | (refine wpList_storeS rfl 23 _ _ rfl rfl (inL (moveT D (isR D σ wMOV))) rfl N2 (by simp [inL, noIn]) infoI (in_one _) ?_; intro W99 U99 N99x; have N99 : IsS W99 b0 23 (inL (moveT D (isR D σ wMOV))) := N99x; have P99 := P2.upd U99 (by omega) (by omega); have V99 := V2.upd h0 U99))
        exact ret_S (cs := inL (moveT D (isR D σ wMOV))) rfl rfl rfl N99 _ Try.underlying23 rfl infoI (OutP.ret g2 P99 V99)
      · skip
        go_enter Try.func9, Try.ntmps9
        go_wp2_with (first
          | (refine wpList_allocS rfl 23 rfl (inL noIn) Try.zeroValue23 ?_; intro W0 b0 F0 N0; have P0 := hP.fresh F0; have V0 : Tw w W0 br bl := Tw.of_below (F0.trans (Below.refl _ w) (Nat.le_refl _)) br bl; have h0 : w.heap.size ≤ b0 := Nat.le_of_eq F0.at'.symm; clear F0 hP)
          | (go_at_call 20; refine (c1 _ P0).mono ?_; rintro en W1 O1; obtain ⟨rfl, P1⟩ := O1.goes g1; have V1 := V0.trans O1.tw; have N1 := N0.tw O1.tw (by omega) (by omega); clear O1 c1)
          | (go_at_call 21; refine (c2 _ P1).mono ?_; rintro en W2 O2; have T2 := O2.tw; obtain ⟨bp, rfl, hb, hI⟩ := O2.ups f u2; clear O2 c2))
        exact ⟨rfl, OutP.thrown (u2) ⟨bp, rfl, Nat.le_trans V1.size hb, hI⟩ (V1.trans T2)⟩
    · skip
      go_enter Try.func9, Try.ntmps9
      go_wp2_with (first
        | (refine wpList_allocS rfl 23 rfl (inL noIn) Try.zeroValue23 ?_; intro W0 b0 F0 N0; have P0 := hP.fresh F0; have V0 : Tw w W0 br bl := Tw.of_below (F0.trans (Below.refl _ w) (Nat.le_refl _)) br bl; have h0 : w.heap.size ≤ b0 := Nat.le_of_eq F0.at'.symm; clear F0 hP)
        | (go_at_call 20; refine (c1 _ P0).mono ?_; rintro en W1 O1; have T1 := O1.tw; obtain ⟨bp, rfl, hb, hI⟩ := O1.ups f u1; clear O1 c1))
      exact ⟨rfl, OutP.thrown (ups_move u1) ⟨bp, rfl, Nat.le_trans V0.size hb, hI⟩ (V0.trans T1)⟩
  | false =>
    have c1 := fun W (hP : PR D s W br bl (RS.k σ)) => takes_no σ g ⟨#[77, 79, 86]⟩ hB1 W hP
    cases hB2 : isB D σ [77, 70, 69, 78, 67, 69] with
    | true =>
      have e1 : instrR D σ = isR D σ wMFENCE := by unfold instrR; rw [show isB D σ wMOV = false from hB1, show isB D σ wMFENCE = true from hB2]; rfl
      have e2 : instrT D σ = ⟨6, [], [], [], 0⟩ := by unfold instrT; rw [show isB D σ wMOV = false from hB1, show isB D σ wMFENCE = true from hB2]; rfl
      rw [e1, e2]; clear e1 e2
      have c2 := fun W (hP : PR D s W br bl (RS.k σ)) => takes_yes hsz σ g ⟨#[77, 70, 69, 78, 67, 69]⟩ hB2 W hP
      rcases goes_or D (isR D σ [77, 70, 69, 78, 67, 69]) with g2 | ⟨f, u2⟩
      · skip
        go_enter Try.func9, Try.ntmps9
        go_wp2_with (first
          | (refine wpList_allocS rfl 23 rfl (inL noIn) Try.zeroValue23 ?_; intro W0 b0 F0 N0; have P0 := hP.fresh F0; have V0 : Tw w W0 br bl := Tw.of_below (F0.trans (Below.refl _ w) (Nat.le_refl _)) br bl; have h0 : w.heap.size ≤ b0 := Nat.le_of_eq F0.at'.symm; clear F0 hP)
          | (go_at_call 20; refine (c1 _ P0).mono ?_; rintro e w' ⟨rfl, hw'⟩; replace hw' := hw'.symm; subst hw'; clear c1)
          | (go_at_call 20; refine (c2 _ P0).mono ?_; rintro en W2 O2; obtain ⟨rfl, P2⟩ := O2.goes g2; have V2 := V0.trans O2.tw; have N2 := N0.tw O2.tw (by omega) (by omega); clear O2 c2)
          | (refine wpList_storeS rfl 23 _ _ rfl rfl (inL ⟨6, [], [], [], 0⟩) rfl N2 (by simp [inL, noIn]) infoI (in_one _) ?_; intro W99 U99 N99x; have N99 : IsS W99 b0 23 (inL ⟨6, [], [], [], 0⟩) := N99x; have P99 := P2.upd U99 (by omega) (by omega); have V99 := V2.upd h0 U99))
        exact ret_S (cs := inL ⟨6, [], [], [], 0⟩) rfl rfl rfl N99 _ Try.underlying23 rfl infoI (OutP.ret g2 P99 V99)
      · skip
        go_enter Try.func9, Try.ntmps9
        go_wp2_with (first
          | (refine wpList_allocS rfl 23 rfl (inL noIn) Try.zeroValue23 ?_; intro W0 b0 F0 N0; have P0 := hP.fresh F0; have V0 : Tw w W0 br bl := Tw.of_below (F0.trans (Below.refl _ w) (Nat.le_refl _)) br bl; have h0 : w.heap.size ≤ b0 := Nat.le_of_eq F0.at'.symm; clear F0 hP)
          | (go_at_call 20; refine (c1 _ P0).mono ?_; rintro e w' ⟨rfl, hw'⟩; replace hw' := hw'.symm; subst hw'; clear c1)
          | (go_at_call 20; refine (c2 _ P0).mono ?_; rintro en W2 O2; have T2 := O2.tw; obtain ⟨bp, rfl, hb, hI⟩ := O2.ups f u2; clear O2 c2))
        exact ⟨rfl, OutP.thrown (u2) ⟨bp, rfl, Nat.le_trans V0.size hb, hI⟩ (V0.trans T2)⟩
    | false =>
      have c2 := fun W (hP : PR D s W br bl (RS.k σ)) => takes_no σ g ⟨#[77, 70, 69, 78, 67, 69]⟩ hB2 W hP
      cases hB3 : isB D σ [88, 67, 72, 71] with
      | true =>
        have e1 : instrR D σ = opdR D (isR D σ wXCHG) := by unfold instrR; rw [show isB D σ wMOV = false from hB1, show isB D σ wMFENCE = false from hB2, show isB D σ wXCHG = true from hB3]; rfl
        have e2 : instrT D σ = ⟨7, opdN D (isR D σ wXCHG), [], opdL D (isR D σ wXCHG), 0⟩ := by unfold instrT; rw [show isB D σ wMOV = false from hB1, show isB D σ wMFENCE = false from hB2, show isB D σ wXCHG = true from hB3]; rfl
        rw [e1, e2]; clear e1 e2
        have c3 := fun W (hP : PR D s W br bl (RS.k σ)) => takes_yes hsz σ g ⟨#[88, 67, 72, 71]⟩ hB3 W hP
        rcases goes_or D (isR D σ [88, 67, 72, 71]) with g3 | ⟨f, u3⟩
        · skip
          have c4 := fun W (hP : PR D s W br bl (RS.k (isR D σ [88, 67, 72, 71]))) => operands_any hsz (isR D σ [88, 67, 72, 71]) g3 W hP
          rcases goes_or D (opdR D (isR D σ [88, 67, 72, 71])) with g4 | ⟨f, u4⟩
          · skip
            go_enter Try.func9, Try.ntmps9
            go_wp2_with (first
              | (refine wpList_allocS rfl 23 rfl (inL noIn) Try.zeroValue23 ?_; intro W0 b0 F0 N0; have P0 := hP.fresh F0; have V0 : Tw w W0 br bl := Tw.of_below (F0.trans (Below.refl _ w) (Nat.le_refl _)) br bl; have h0 : w.heap.size ≤ b0 := Nat.le_of_eq F0.at'.symm; clear F0 hP)
              | (go_at_call 20; refine (c1 _ P0).mono ?_; rintro e w' ⟨rfl, hw'⟩; replace hw' := hw'.symm; subst hw'; clear c1)
              | (go_at_call 20; refine (c2 _ P0).mono ?_; rintro e w' ⟨rfl, hw'⟩; replace hw' := hw'.symm; subst hw'; clear c2)
              | (go_at_call 20; refine (c3 _ P0).mono ?_; rintro en W3 O3; obtain ⟨rfl, P3⟩ := O3.goes g3; have V3 := V0.trans O3.tw; have N3 := N0.tw O3.tw (by omega) (by omega); clear O3 c3)
              | (go_at_call 22; refine (c4 _ P3).mono ?_; rintro en W4 O4; obtain ⟨rfl, P4⟩ := O4.goes g4; have V4 := V3.trans O4.tw; have N4 := N3.tw O4.tw (by omega) (by omega); clear O4 c4)
              | (refine wpList_storeS rfl 23 _ _ rfl rfl (inL ⟨7, opdN D (isR D σ wXCHG), [], opdL D (isR D σ wXCHG), 0⟩) rfl N4 (by simp [inL, noIn]) infoI (in_one _) ?_; intro W99 U99 N99x; have N99 : IsS W99 b0 23 (inL ⟨7, opdN D (isR D σ wXCHG), [], opdL D (isR D σ wXCHG), 0⟩) := N99x; have P99 := P4.upd U99 (by omega) (by omega); have V99 := V4.upd h0 U99))
            exact ret_S (cs := inL ⟨7, opdN D (isR D σ wXCHG), [], opdL D (isR D σ wXCHG), 0⟩) rfl rfl rfl N99 _ Try.underlying23 rfl infoI (OutP.ret g4 P99 V99)
          · skip
            go_enter Try.func9, Try.ntmps9
            go_wp2_with (first
              | (refine wpList_allocS rfl 23 rfl (inL noIn) Try.zeroValue23 ?_; intro W0 b0 F0 N0; have P0 := hP.fresh F0; have V0 : Tw w W0 br bl := Tw.of_below (F0.trans (Below.refl _ w) (Nat.le_refl _)) br bl; have h0 : w.heap.size ≤ b0 := Nat.le_of_eq F0.at'.symm; clear F0 hP)
              | (go_at_call 20; refine (c1 _ P0).mono ?_; rintro e w' ⟨rfl, hw'⟩; replace hw' := hw'.symm; subst hw'; clear c1)
              | (go_at_call 20; refine (c2 _ P0).mono ?_; rintro e w' ⟨rfl, hw'⟩; replace hw' := hw'.symm; subst hw'; clear c2)
              | (go_at_call 20; refine (c3 _ P0).mono ?_; rintro en W3 O3; obtain ⟨rfl, P3⟩ := O3.goes g3; have V3 := V0.trans O3.tw; have N3 := N0.tw O3.tw (by omega) (by omega); clear O3 c3)
              | (go_at_call 22; refine (c4 _ P3).mono ?_; rintro en W4 O4; have T4 := O4.tw; obtain ⟨bp, rfl, hb, hI⟩ := O4.ups f u4; clear O4 c4))
            exact ⟨rfl, OutP.thrown (u4) ⟨bp, rfl, Nat.le_trans V3.size hb, hI⟩ (V3.trans T4)⟩
        · skip
          go_enter Try.func9, Try.ntmps9
          go_wp2_with (first
            | (refine wpList_allocS rfl 23 rfl (inL noIn) Try.zeroValue23 ?_; intro W0 b0 F0 N0; have P0 := hP.fresh F0; have V0 : Tw w W0 br bl := Tw.of_below (F0.trans (Below.refl _ w) (Nat.le_refl _)) br bl; have h0 : w.heap.size ≤ b0 := Nat.le_of_eq F0.at'.symm; clear F0 hP)
            | (go_at_call 20; refine (c1 _ P0).mono ?_; rintro e w' ⟨rfl, hw'⟩; replace hw' := hw'.symm; subst hw'; clear c1)
            | (go_at_call 20; refine (c2 _ P0).mono ?_; rintro e w' ⟨rfl, hw'⟩; replace hw' := hw'.symm; subst hw'; clear c2)
            | (go_at_call 20; refine (c3 _ P0).mono ?_; rintro en W3 O3; have T3 := O3.tw; obtain ⟨bp, rfl, hb, hI⟩ := O3.ups f u3; clear O3 c3))
          exact ⟨rfl, OutP.thrown (ups_opd u3) ⟨bp, rfl, Nat.le_trans V0.size hb, hI⟩ (V0.trans T3)⟩
      | false =>
        have c3 := fun W (hP : PR D s W br bl (RS.k σ)) => takes_no σ g ⟨#[88, 67, 72, 71]⟩ hB3 W hP
        cases hB4 : isB D σ [76, 79, 67, 75] with
        | true =>
          have e1 : instrR D σ = lockR D (isR D σ wLOCK) := by unfold instrR; rw [show isB D σ wMOV = false from hB1, show isB D σ wMFENCE = false from hB2, show isB D σ wXCHG = false from hB3, show isB D σ wLOCK = true from hB4]; rfl
          have e2 : instrT D σ = lockT D (isR D σ wLOCK) := by unfold instrT; rw [show isB D σ wMOV = false from hB1, show isB D σ wMFENCE = false from hB2, show isB D σ wXCHG = false from hB3, show isB D σ wLOCK = true from hB4]; rfl
          rw [e1, e2]; clear e1 e2
          have c4 := fun W (hP : PR D s W br bl (RS.k σ)) => takes_yes hsz σ g ⟨#[76, 79, 67, 75]⟩ hB4 W hP
          rcases goes_or D (isR D σ [76, 79, 67, 75]) with g4 | ⟨f, u4⟩
          · skip
            have c5 := fun W (hP : PR D s W br bl (RS.k (isR D σ [76, 79, 67, 75]))) => locked_any hsz (isR D σ [76, 79, 67, 75]) g4 W hP
            rcases goes_or D (lockR D (isR D σ [76, 79, 67, 75])) with g5 | ⟨f, u5⟩
            · skip
              go_enter Try.func9, Try.ntmps9
              go_wp2_with (first
                | (refine wpList_allocS rfl 23 rfl (inL noIn) Try.zeroValue23 ?_; intro W0 b0 F0 N0; have P0 := hP.fresh F0; have V0 : Tw w W0 br bl := Tw.of_below (F0.trans (Below.refl _ w) (Nat.le_refl _)) br bl; have h0 : w.heap.size ≤ b0 := Nat.le_of_eq F0.at'.symm; clear F0 hP)
                | (go_at_call 20; refine (c1 _ P0).mono ?_; rintro e w' ⟨rfl, hw'⟩; replace hw' := hw'.symm; subst hw'; clear c1)
                | (go_at_call 20; refine (c2 _ P0).mono ?_; rintro e w' ⟨rfl, hw'⟩; replace hw' := hw'.symm; subst hw'; clear c2)
                | (go_at_call 20; refine (c3 _ P0).mono ?_; rintro e w' ⟨rfl, hw'⟩; replace hw' := hw'.symm; subst hw'; clear c3)
                | (go_at_call 20; refine (c4 _ P0).mono ?_; rintro en W4 O4; obtain ⟨rfl, P4⟩ := O4.goes g4; have V4 := V0.trans O4.tw; have N4 := N0.tw O4.tw (by omega) (by omega); clear O4 c4)
                | (go_at_call 23; refine (c5 _ P4).mono ?_; rintro en W5 O5; obtain ⟨rfl, P5⟩ := O5.goes g5; have V5 := V4.trans O5.tw; have N5 := N4.tw O5.tw (by omega) (by omega); clear O5 c5)
                | (refine wpList_storeS rfl 23 _ _ rfl rfl (inL (lockT D (isR D σ wLOCK))) rfl N5 (by simp [inL, noIn]) infoI (in_one _) ?_; intro W99 U99 N99x; have N99 : IsS W99 b0 23 (inL (lockT D (isR D σ wLOCK))) := N99x; have P99 := P5.upd U99 (by omega) (by omega); have V99 := V5.upd h0 U99))
              exact ret_S (cs := inL (lockT D (isR D σ wLOCK))) rfl rfl rfl N99 _ Try.underlying23 rfl infoI (OutP.ret g5 P99 V99)
            · skip
              go_enter Try.func9, Try.ntmps9
              go_wp2_with (first
                | (refine wpList_allocS rfl 23 rfl (inL noIn) Try.zeroValue23 ?_; intro W0 b0 F0 N0; have P0 := hP.fresh F0; have V0 : Tw w W0 br bl := Tw.of_below (F0.trans (Below.refl _ w) (Nat.le_refl _)) br bl; have h0 : w.heap.size ≤ b0 := Nat.le_of_eq F0.at'.symm; clear F0 hP)
                | (go_at_call 20; refine (c1 _ P0).mono ?_; rintro e w' ⟨rfl, hw'⟩; replace hw' := hw'.symm; subst hw'; clear c1)
                | (go_at_call 20; refine (c2 _ P0).mono ?_; rintro e w' ⟨rfl, hw'⟩; replace hw' := hw'.symm; subst hw'; clear c2)
                | (go_at_call 20; refine (c3 _ P0).mono ?_; rintro e w' ⟨rfl, hw'⟩; replace hw' := hw'.symm; subst hw'; clear c3)
                | (go_at_call 20; refine (c4 _ P0).mono ?_; rintro en W4 O4; obtain ⟨rfl, P4⟩ := O4.goes g4; have V4 := V0.trans O4.tw; have N4 := N0.tw O4.tw (by omega) (by omega); clear O4 c4)
                | (go_at_call 23; refine (c5 _ P4).mono ?_; rintro en W5 O5; have T5 := O5.tw; obtain ⟨bp, rfl, hb, hI⟩ := O5.ups f u5; clear O5 c5))
              exact ⟨rfl, OutP.thrown (u5) ⟨bp, rfl, Nat.le_trans V4.size hb, hI⟩ (V4.trans T5)⟩
          · skip
            go_enter Try.func9, Try.ntmps9
            go_wp2_with (first
              | (refine wpList_allocS rfl 23 rfl (inL noIn) Try.zeroValue23 ?_; intro W0 b0 F0 N0; have P0 := hP.fresh F0; have V0 : Tw w W0 br bl := Tw.of_below (F0.trans (Below.refl _ w) (Nat.le_refl _)) br bl; have h0 : w.heap.size ≤ b0 := Nat.le_of_eq F0.at'.symm; clear F0 hP)
              | (go_at_call 20; refine (c1 _ P0).mono ?_; rintro e w' ⟨rfl, hw'⟩; replace hw' := hw'.symm; subst hw'; clear c1)
              | (go_at_call 20; refine (c2 _ P0).mono ?_; rintro e w' ⟨rfl, hw'⟩; replace hw' := hw'.symm; subst hw'; clear c2)
              | (go_at_call 20; refine (c3 _ P0).mono ?_; rintro e w' ⟨rfl, hw'⟩; replace hw' := hw'.symm; subst hw'; clear c3)
              | (go_at_call 20; refine (c4 _ P0).mono ?_; rintro en W4 O4; have T4 := O4.tw; obtain ⟨bp, rfl, hb, hI⟩ := O4.ups f u4; clear O4 c4))
            exact ⟨rfl, OutP.thrown (ups_lock u4) ⟨bp, rfl, Nat.le_trans V0.size hb, hI⟩ (V0.trans T4)⟩
        | false =>
          have e1 : instrR D σ = ⟨σ.k, some (D.wr σ.k)⟩ := by unfold instrR; rw [show isB D σ wMOV = false from hB1, show isB D σ wMFENCE = false from hB2, show isB D σ wXCHG = false from hB3, show isB D σ wLOCK = false from hB4, wrongR_none g.1]; rfl
          rw [e1]; clear e1
          have c4 := fun W (hP : PR D s W br bl (RS.k σ)) => takes_no σ g ⟨#[76, 79, 67, 75]⟩ hB4 W hP
          have cM := fun W => misplaced_any (D.cur (RS.k σ)) W
          have hwr := wr_ok g.2
          go_enter Try.func9, Try.ntmps9
          go_wp2_with (first
            | (refine wpList_allocS rfl 23 rfl (inL noIn) Try.zeroValue23 ?_; intro W0 b0 F0 N0; have P0 := hP.fresh F0; have V0 : Tw w W0 br bl := Tw.of_below (F0.trans (Below.refl _ w) (Nat.le_refl _)) br bl; have h0 : w.heap.size ≤ b0 := Nat.le_of_eq F0.at'.symm; clear F0 hP)
            | (go_at_call 20; refine (c1 _ P0).mono ?_; rintro e w' ⟨rfl, hw'⟩; replace hw' := hw'.symm; subst hw'; clear c1)
            | (go_at_call 20; refine (c2 _ P0).mono ?_; rintro e w' ⟨rfl, hw'⟩; replace hw' := hw'.symm; subst hw'; clear c2)
            | (go_at_call 20; refine (c3 _ P0).mono ?_; rintro e w' ⟨rfl, hw'⟩; replace hw' := hw'.symm; subst hw'; clear c3)
            | (go_at_call 20; refine (c4 _ P0).mono ?_; rintro e w' ⟨rfl, hw'⟩; replace hw' := hw'.symm; subst hw'; clear c4)
            | (refine wpList_loadP rfl 39 _ rfl rfl P0.tok 7 (tokL (D.cur (RS.k σ))) rfl _ Try.underlying39 rfl info38 ?_)
            | (go_at_call 24; refine (cM _).mono ?_; rintro en W5 ⟨bp, rfl, hb, hI, B5⟩; clear cM))
          refine ⟨rfl, OutP.thrown (f := D.wr (RS.k σ)) (ups_F rfl) ⟨bp, rfl, Nat.le_trans V0.size hb, ?_⟩ (V0.grow B5)⟩
          rw [hwr]; exact hI
end
end Go.Proofs.Ytpbcngnginffgaa

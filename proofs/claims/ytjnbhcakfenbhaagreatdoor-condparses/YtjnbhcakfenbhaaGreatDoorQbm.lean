/- Several texts in one: LxX13, LxX14. -/
import Derived.Test.YtjnbhcakfenbhaaGreatDoorQbl
/- cut. -/
namespace Go.Proofs.YtjnbhcakfenbhaaGreatDoor.Lx
open Go.RowKit M
set_option linter.unusedSimpArgs false
set_option linter.unusedVariables false

theorem piece_one (p : Piece) : ∀ v ∈ pieceL p, v.oneCell' = true := by simp [pieceL, Value.oneCell']
theorem piece_len (p : Piece) : (pieceL p).length = 5 := rfl
set_option maxRecDepth 100000 in
set_option maxHeartbeats 2000000 in
theorem cut_any5 (s : ByteArray) (hs : s.size < 4611686018427387904) (h0 : 0 < s.size) (w : World) : Calls Tryz.prog 79 #[.string s] w fun e w' => e = .returned (pieceV (cutF s.data.toList)) ∧ Below w.heap.size w w' := by
  have e0 := drop_cons s 0 h0
  rw [List.drop_zero] at e0
  have hi0 : (0 : Int) < s.size := by omega
  have cN := fun w => pname_any s hs h0 w
  have cD := fun w => number_any s hs h0 w
  have cQ := fun w => quoted_any s hs h0 w
  have cS := fun w => sign_any s hs h0 w
  have d0 := fun w => digit5_any s[0].toNat s[0].toNat_lt w
  have l0 := fun w => letter_any s[0].toNat s[0].toNat_lt w
  have hF : cutF s.data.toList = if letN s[0].toNat then namePiece s.data.toList else if numB s.data.toList then numPiece s.data.toList else if s[0].toNat = 34 then quotPiece s.data.toList else signPiece s.data.toList := by
    conv => lhs; rw [e0]
    rw [cutF, ← e0]
  have t1 : True := trivial
  cases a : letN s[0].toNat with
  | true =>
    rw [a, if_pos rfl] at hF
    have HF : Hid (cutF s.data.toList = namePiece s.data.toList) := hF
    rw [a] at l0
    clear a e0 hF cD cQ cS d0
    generalize namePiece s.data.toList = R at *
    go_enter Tryz.func79, Tryz.ntmps79
    go_wp2_with (first
      | (refine wpList_allocS rfl 162 rfl _ Tryz.zeroValue162 ?_; intro W1 b1 F1 N1; have hb1 : w.heap.size ≤ b1 := Nat.le_of_eq F1.at'.symm; have B1 := F1.trans (Below.refl _ _) (Nat.le_refl _); clear F1)
      | (go_at_call 101; refine (l0 _).mono ?_; rintro e w' ⟨rfl, hw'⟩; replace hw' := hw'.symm; subst hw')
      | (go_at_call 102; refine (cN _).mono ?_; rintro e W3 ⟨rfl, hB3⟩; have N3 := N1.grown hB3; have B3 := B1.trans (hB3.mono B1.size); clear hB3 N1 B1)
      | (refine wpList_storeS rfl 162 _ _ rfl rfl (pieceL R) rfl N3 (by simp [piece_len]) info75 (piece_one R) ?_; intro W2 U2 N2; have B2 := U2.trans B3 hb1; clear U2 N3 B3))
    refine ret_S rfl rfl rfl N2 _ Tryz.underlying162 rfl info75 ⟨?_, B2⟩
    rw [HF.out]; rfl
  | false =>
    rw [a, if_neg (by decide)] at hF
    rw [a] at l0
    clear a
    cases b : numB s.data.toList with
    | true =>
      rw [b, if_pos rfl] at hF
      have HF : Hid (cutF s.data.toList = numPiece s.data.toList) := hF
      clear hF cN cQ cS
      generalize numPiece s.data.toList = R at *
      cases c : digN s[0].toNat with
      | true =>
        rw [c] at d0
        clear b c e0
        go_enter Tryz.func79, Tryz.ntmps79
        go_wp2_with (first
          | (refine wpList_allocS rfl 162 rfl _ Tryz.zeroValue162 ?_; intro W1 b1 F1 N1; have hb1 : w.heap.size ≤ b1 := Nat.le_of_eq F1.at'.symm; have B1 := F1.trans (Below.refl _ _) (Nat.le_refl _); clear F1)
          | (go_at_call 101; refine (l0 _).mono ?_; rintro e w' ⟨rfl, hw'⟩; replace hw' := hw'.symm; subst hw')
          | (go_at_call 103; refine (d0 _).mono ?_; rintro e w' ⟨rfl, hw'⟩; replace hw' := hw'.symm; subst hw')
          | (go_at_call 104; refine (cD _).mono ?_; rintro e W3 ⟨rfl, hB3⟩; have N3 := N1.grown hB3; have B3 := B1.trans (hB3.mono B1.size); clear hB3 N1 B1)
          | (refine wpList_storeS rfl 162 _ _ rfl rfl (pieceL R) rfl N3 (by simp [piece_len]) info75 (piece_one R) ?_; intro W2 U2 N2; have B2 := U2.trans B3 hb1; clear U2 N3 B3))
        refine ret_S rfl rfl rfl N2 _ Tryz.underlying162 rfl info75 ⟨?_, B2⟩
        rw [HF.out]; rfl
      | false =>
        have hsz : 1 < s.size := (by
          by_cases h : 1 < s.size
          · exact h
          · rw [e0, drop_end s 1 (by omega)] at b
            simp [numB, c] at b)
        have e1 := drop_cons s 1 hsz
        rw [e0, e1] at b
        have hb : s[0].toNat = 45 ∧ digN s[1].toNat = true := by simpa [numB, c] using b
        have x : ((s[0].toNat : Int) == 45) = true := by simp; omega
        have hi1 : (1 : Int) < s.size := by omega
        have d1 := fun w => digit5_any s[1].toNat s[1].toNat_lt w
        rw [hb.2] at d1
        rw [c] at d0
        clear b c e0 e1 hb
        go_enter Tryz.func79, Tryz.ntmps79
        go_wp2_with (first
          | (refine wpList_allocS rfl 162 rfl _ Tryz.zeroValue162 ?_; intro W1 b1 F1 N1; have hb1 : w.heap.size ≤ b1 := Nat.le_of_eq F1.at'.symm; have B1 := F1.trans (Below.refl _ _) (Nat.le_refl _); clear F1)
          | (go_at_call 101; refine (l0 _).mono ?_; rintro e w' ⟨rfl, hw'⟩; replace hw' := hw'.symm; subst hw')
          | (go_at_call 103; clear t1; refine (d0 _).mono ?_; rintro e w' ⟨rfl, hw'⟩; replace hw' := hw'.symm; subst hw')
          | (go_at_call 103; refine (d1 _).mono ?_; rintro e w' ⟨rfl, hw'⟩; replace hw' := hw'.symm; subst hw')
          | (go_at_call 104; refine (cD _).mono ?_; rintro e W3 ⟨rfl, hB3⟩; have N3 := N1.grown hB3; have B3 := B1.trans (hB3.mono B1.size); clear hB3 N1 B1)
          | (refine wpList_storeS rfl 162 _ _ rfl rfl (pieceL R) rfl N3 (by simp [piece_len]) info75 (piece_one R) ?_; intro W2 U2 N2; have B2 := U2.trans B3 hb1; clear U2 N3 B3))
        refine ret_S rfl rfl rfl N2 _ Tryz.underlying162 rfl info75 ⟨?_, B2⟩
        rw [HF.out]; rfl
    | false =>
      rw [b, if_neg (by decide)] at hF
      have c : digN s[0].toNat = false := (by
        cases c : digN s[0].toNat
        · rfl
        · rw [e0] at b; simp [numB, c] at b)
      rw [c] at d0
      have HM : Hid (s[0].toNat = 45 → ∀ h : 1 < s.size, digN s[1].toNat = false) := (by
        intro h45 h1
        rw [e0, drop_cons s 1 h1] at b
        have b' : (digN s[0].toNat || (decide (s[0].toNat = 45) && digN s[1].toNat)) = false := b
        rw [c, decide_eq_true h45] at b'
        simpa using b')
      clear b c e0 cN cD
      by_cases q : s[0].toNat = 34
      · rw [if_pos q] at hF
        have HF : Hid (cutF s.data.toList = quotPiece s.data.toList) := hF
        have x : ((s[0].toNat : Int) == 45) = false := by simp; omega
        have y : ((s[0].toNat : Int) == 34) = true := by simp; omega
        clear hF q cS HM
        generalize quotPiece s.data.toList = R at *
        go_enter Tryz.func79, Tryz.ntmps79
        go_wp2_with (first
          | (refine wpList_allocS rfl 162 rfl _ Tryz.zeroValue162 ?_; intro W1 b1 F1 N1; have hb1 : w.heap.size ≤ b1 := Nat.le_of_eq F1.at'.symm; have B1 := F1.trans (Below.refl _ _) (Nat.le_refl _); clear F1)
          | (go_at_call 101; refine (l0 _).mono ?_; rintro e w' ⟨rfl, hw'⟩; replace hw' := hw'.symm; subst hw')
          | (go_at_call 103; refine (d0 _).mono ?_; rintro e w' ⟨rfl, hw'⟩; replace hw' := hw'.symm; subst hw')
          | (go_at_call 105; refine (cQ _).mono ?_; rintro e W3 ⟨rfl, hB3⟩; have N3 := N1.grown hB3; have B3 := B1.trans (hB3.mono B1.size); clear hB3 N1 B1)
          | (refine wpList_storeS rfl 162 _ _ rfl rfl (pieceL R) rfl N3 (by simp [piece_len]) info75 (piece_one R) ?_; intro W2 U2 N2; have B2 := U2.trans B3 hb1; clear U2 N3 B3))
        refine ret_S rfl rfl rfl N2 _ Tryz.underlying162 rfl info75 ⟨?_, B2⟩
        rw [HF.out]; rfl
      · rw [if_neg q] at hF
        have HF : Hid (cutF s.data.toList = signPiece s.data.toList) := hF
        have y : ((s[0].toNat : Int) == 34) = false := by simp; omega
        clear hF q cQ
        generalize signPiece s.data.toList = R at *
        by_cases m : s[0].toNat = 45
        · have x : ((s[0].toNat : Int) == 45) = true := by simp; omega
          by_cases hsz : 1 < s.size
          · have hi1 : (1 : Int) < s.size := by omega
            have d1 := fun w => digit5_any s[1].toNat s[1].toNat_lt w
            rw [HM.out m hsz] at d1
            clear m HM
            go_enter Tryz.func79, Tryz.ntmps79
            go_wp2_with (first
              | (refine wpList_allocS rfl 162 rfl _ Tryz.zeroValue162 ?_; intro W1 b1 F1 N1; have hb1 : w.heap.size ≤ b1 := Nat.le_of_eq F1.at'.symm; have B1 := F1.trans (Below.refl _ _) (Nat.le_refl _); clear F1)
              | (go_at_call 101; refine (l0 _).mono ?_; rintro e w' ⟨rfl, hw'⟩; replace hw' := hw'.symm; subst hw')
              | (go_at_call 103; clear t1; refine (d0 _).mono ?_; rintro e w' ⟨rfl, hw'⟩; replace hw' := hw'.symm; subst hw')
              | (go_at_call 103; refine (d1 _).mono ?_; rintro e w' ⟨rfl, hw'⟩; replace hw' := hw'.symm; subst hw')
              | (go_at_call 106; refine (cS _).mono ?_; rintro e W3 ⟨rfl, hB3⟩; have N3 := N1.grown hB3; have B3 := B1.trans (hB3.mono B1.size); clear hB3 N1 B1)
              | (refine wpList_storeS rfl 162 _ _ rfl rfl (pieceL R) rfl N3 (by simp [piece_len]) info75 (piece_one R) ?_; intro W2 U2 N2; have B2 := U2.trans B3 hb1; clear U2 N3 B3))
            refine ret_S rfl rfl rfl N2 _ Tryz.underlying162 rfl info75 ⟨?_, B2⟩
            rw [HF.out]; rfl
          · have hi1 : ¬ (1 : Int) < s.size := by omega
            clear m HM
            go_enter Tryz.func79, Tryz.ntmps79
            go_wp2_with (first
              | (refine wpList_allocS rfl 162 rfl _ Tryz.zeroValue162 ?_; intro W1 b1 F1 N1; have hb1 : w.heap.size ≤ b1 := Nat.le_of_eq F1.at'.symm; have B1 := F1.trans (Below.refl _ _) (Nat.le_refl _); clear F1)
              | (go_at_call 101; refine (l0 _).mono ?_; rintro e w' ⟨rfl, hw'⟩; replace hw' := hw'.symm; subst hw')
              | (go_at_call 103; refine (d0 _).mono ?_; rintro e w' ⟨rfl, hw'⟩; replace hw' := hw'.symm; subst hw')
              | (go_at_call 106; refine (cS _).mono ?_; rintro e W3 ⟨rfl, hB3⟩; have N3 := N1.grown hB3; have B3 := B1.trans (hB3.mono B1.size); clear hB3 N1 B1)
              | (refine wpList_storeS rfl 162 _ _ rfl rfl (pieceL R) rfl N3 (by simp [piece_len]) info75 (piece_one R) ?_; intro W2 U2 N2; have B2 := U2.trans B3 hb1; clear U2 N3 B3))
            refine ret_S rfl rfl rfl N2 _ Tryz.underlying162 rfl info75 ⟨?_, B2⟩
            rw [HF.out]; rfl
        · have x : ((s[0].toNat : Int) == 45) = false := by simp; omega
          clear m HM
          go_enter Tryz.func79, Tryz.ntmps79
          go_wp2_with (first
            | (refine wpList_allocS rfl 162 rfl _ Tryz.zeroValue162 ?_; intro W1 b1 F1 N1; have hb1 : w.heap.size ≤ b1 := Nat.le_of_eq F1.at'.symm; have B1 := F1.trans (Below.refl _ _) (Nat.le_refl _); clear F1)
            | (go_at_call 101; refine (l0 _).mono ?_; rintro e w' ⟨rfl, hw'⟩; replace hw' := hw'.symm; subst hw')
            | (go_at_call 103; refine (d0 _).mono ?_; rintro e w' ⟨rfl, hw'⟩; replace hw' := hw'.symm; subst hw')
            | (go_at_call 106; refine (cS _).mono ?_; rintro e W3 ⟨rfl, hB3⟩; have N3 := N1.grown hB3; have B3 := B1.trans (hB3.mono B1.size); clear hB3 N1 B1)
            | (refine wpList_storeS rfl 162 _ _ rfl rfl (pieceL R) rfl N3 (by simp [piece_len]) info75 (piece_one R) ?_; intro W2 U2 N2; have B2 := U2.trans B3 hb1; clear U2 N3 B3))
          refine ret_S rfl rfl rfl N2 _ Tryz.underlying162 rfl info75 ⟨?_, B2⟩
          rw [HF.out]; rfl
end Go.Proofs.YtjnbhcakfenbhaaGreatDoor.Lx
/- The lexer in memory: New, move, fault. -/
namespace Go.Proofs.YtjnbhcakfenbhaaGreatDoor.Lx
open Go.RowKit M
set_option linter.unusedSimpArgs false
set_option linter.unusedVariables false

/-- One block is turned, all others stand; memory may grow. -/
structure Turn (w W : World) (b : Nat) : Prop where
  os : W.os = w.os
  tape : W.tape = w.tape
  output : W.output = w.output
  size : w.heap.size ≤ W.heap.size
  block : ∀ k, k < w.heap.size → k ≠ b → W.heap[k]? = w.heap[k]?
theorem Turn.of_below {w W : World} (h : Below w.heap.size w W) (b : Nat) : Turn w W b := ⟨h.os, h.tape, h.output, h.size, fun k hk _ => h.block k hk⟩
theorem Turn.of_upd {w W : World} {b : Nat} (h : Upd w W b) : Turn w W b := ⟨h.os, h.tape, h.output, by rw [h.size]; exact Nat.le_refl _, fun k _ hk => h.block k hk⟩
theorem Turn.trans {w W W' : World} {b : Nat} (h : Turn w W b) (h' : Turn W W' b) : Turn w W' b :=
  ⟨h'.os.trans h.os, h'.tape.trans h.tape, h'.output.trans h.output, Nat.le_trans h.size h'.size, fun k hk hb => (h'.block k (Nat.lt_of_lt_of_le hk h.size) hb).trans (h.block k hk hb)⟩
theorem Turn.grow {w W W' : World} {b : Nat} (h : Turn w W b) (h' : Below W.heap.size W W') : Turn w W' b := h.trans (Turn.of_below h' b)
theorem Turn.upd {w W W' : World} {b b' : Nat} (h : Turn w W b) (hb : w.heap.size ≤ b') (h' : Upd W W' b') : Turn w W' b :=
  ⟨h'.os.trans h.os, h'.tape.trans h.tape, h'.output.trans h.output, by rw [h'.size]; exact h.size, fun k hk hne => (h'.block k (by omega)).trans (h.block k hk hne)⟩
theorem Turn.below {w0 w W : World} {B b : Nat} (h : Below B w0 w) (hB : B ≤ b) (hs : B ≤ w.heap.size) (T : Turn w W b) : Below B w0 W :=
  ⟨T.os.trans h.os, T.tape.trans h.tape, T.output.trans h.output, Nat.le_trans h.size T.size, fun k hk => (T.block k (by omega) (by omega)).trans (h.block k hk)⟩
theorem _root_.Go.Proofs.YtjnbhcakfenbhaaGreatDoor.IsS.turnL {w W : World} {b b' t : Nat} {cs : List Value} (h : IsS w b t cs) (T : Turn w W b') (hb : b ≠ b') : IsS W b t cs := (T.block b h.lt hb).trans h
theorem Turn.drewN {w W : World} {b : Nat} (h : Turn w W b) (n : Nat) : Turn w (W.drewN n) b := ⟨h.os, h.tape, h.output, h.size, h.block⟩

/-- A lexer's cells. -/
def lexL (s : ByteArray) (p : Nat) (q : Nat × Nat) (e : Nat) : List Value := [.string s, .int .i64 (p : Int), .int .i64 (q.1 : Int), .int .i64 (q.2 : Int), .int .i64 (e : Int)]
theorem info66 : (Tryz.prog.info? 160).map (·.size) = some 5 := by kernel_rfl
theorem wpG_loadP {ops : Array Oper} {W : World} {Q : Act → Prop} {rest : List Oper} {op : Oper} {a : Act} {b t o : Nat} {cs : List Value} (hw : Region.wanted op (yielded ops a.tmps) = true) (ty : TypeId) (x : Operand) (ho : op.op = .load ty x) (hx : a.eval x = .pointer (some ⟨b, o, none⟩)) (hc : IsS W b t cs) (k : Nat) (sub : List Value) (hsub : (cs.drop o).take k = sub) (d : TypeDesc)
    (hu : Tryz.prog.underlying ty = some d) (hd : d.isRow = true) (hi : (Tryz.prog.info? ty).map (·.size) = some sub.length)
    (h : wpG Tryz.prog ops W Q rest (a.put op.dst (.agg sub.toArray))) : wpG Tryz.prog ops W Q (op :: rest) a := by
  subst hsub
  exact wpG_loadS hw ty x ho hx hc k d hu hd hi h

set_option maxRecDepth 100000 in
set_option maxHeartbeats 1000000 in
theorem new_any (s : ByteArray) (w : World) : Calls Tryz.prog 57 #[.string s] w fun e w' => (∃ b, e = .returned (.pointer (some ⟨b, 0, none⟩)) ∧ w.heap.size ≤ b ∧ IsS w' b 160 (lexL s 0 (1, 1) 0)) ∧ Below w.heap.size w w' := by
  have hF : ∀ w, Calls Tryz.prog 35 #[] w fun e w' => e = .returned (.agg #[.int .i64 1, .int .i64 1]) ∧ Below w.heap.size w w' := fun w => front_any w
  go_enter Tryz.func57, Tryz.ntmps57
  go_wp2_with (first
    | (go_at_call 35; refine (hF _).mono ?_; rintro e W1 ⟨rfl, B1⟩)
    | (refine wpList_boxS rfl 160 _ rfl (lexL s 0 (1, 1) 0) rfl ?_; intro W2 b2 F2 N2; have hb2 : w.heap.size ≤ b2 := Nat.le_trans B1.size (Nat.le_of_eq F2.at'.symm); have B2 := F2.trans B1 B1.size; clear F2 B1))
  go_ret
  exact ⟨⟨b2, rfl, hb2, N2⟩, B2⟩

set_option maxRecDepth 100000 in
set_option maxHeartbeats 1000000 in
theorem move_any (s : ByteArray) (hs : s.size < 2305843009213693952) (b p r x y e : Nat) (hpr : p ≤ r) (hr : r ≤ s.size) (hx : x < 2305843009213693952) (hy : y < 2305843009213693952) (w : World) (hL : IsS w b 160 (lexL s p (x, y) e)) :
    Calls Tryz.prog 80 #[.pointer (some ⟨b, 0, none⟩), .int .i64 (r : Int)] w fun en w' => en = .returned (.tuple #[]) ∧ IsS w' b 160 (lexL s r (spotF (x, y) ((s.data.toList.take r).drop p)) e) ∧ Turn w w' b := by
  have cB : ∀ w, Calls Tryz.prog 36 #[.agg #[.int .i64 (x : Int), .int .i64 (y : Int)], .string (s.extract p r)] w fun e w' => e = .returned (spotV (spotF (x, y) ((s.data.toList.take r).drop p))) ∧ Below w.heap.size w w' := fun w => by
    have := behind_any x y (s.extract p r) (by rw [ByteArray.size_extract]; omega) hx hy w
    rwa [exL] at this
  generalize spotF (x, y) ((s.data.toList.take r).drop p) = Z at *
  obtain ⟨z1, z2⟩ := Z
  have h1 : (p : Int) ≤ r := by omega
  have h2 : (r : Int) ≤ s.size := by omega
  go_enter Tryz.func80, Tryz.ntmps80
  go_wp2_with fail
  refine grow_tail 18 (by kernel_rfl) (by kernel_rfl) ?_
  simp only [List.take_succ_cons, List.take_zero, List.drop_succ_cons, List.drop_zero]
  refine wpG_put rfl (v := .pointer (some ⟨b, 0, none⟩)) (fun w => by first | rfl | (go_simp; done)) ?_
  refine wpG_put rfl (v := .pointer (some ⟨b, 0, none⟩)) (fun w => by first | rfl | (go_simp; done)) ?_
  refine wpG_put rfl (v := .pointer (some ⟨b, 0, none⟩)) (fun w => by first | rfl | (go_simp; done)) ?_
  simp only [Act.put, List.setIfInBounds_toArray, List.set_cons_succ, List.set_cons_zero]
  refine wpG_put rfl (v := .pointer (some ⟨b, 2, none⟩)) (fun w => by first | rfl | (go_simp; done)) ?_
  refine wpG_loadP rfl 89 _ rfl rfl hL 2 [.int .i64 (x : Int), .int .i64 (y : Int)] rfl _ Tryz.underlying89 rfl info63 ?_
  simp only [Act.put, List.setIfInBounds_toArray, List.set_cons_succ, List.set_cons_zero]
  refine wpG_put rfl (v := .pointer (some ⟨b, 0, none⟩)) (fun w => by first | rfl | (go_simp; done)) ?_
  refine wpG_put rfl (v := .pointer (some ⟨b, 0, none⟩)) (fun w => by first | rfl | (go_simp; done)) ?_
  refine wpG_put rfl (v := .pointer (some ⟨b, 0, none⟩)) (fun w => by first | rfl | (go_simp; done)) ?_
  simp only [Act.put, List.setIfInBounds_toArray, List.set_cons_succ, List.set_cons_zero]
  refine wpG_load1 rfl 9 _ rfl rfl hL (v := .string s) rfl ld9 ?_
  refine wpG_put rfl (v := .pointer (some ⟨b, 0, none⟩)) (fun w => by first | rfl | (go_simp; done)) ?_
  refine wpG_put rfl (v := .pointer (some ⟨b, 0, none⟩)) (fun w => by first | rfl | (go_simp; done)) ?_
  simp only [Act.put, List.setIfInBounds_toArray, List.set_cons_succ, List.set_cons_zero]
  refine wpG_put rfl (v := .pointer (some ⟨b, 1, none⟩)) (fun w => by first | rfl | (go_simp; done)) ?_
  refine wpG_load1 rfl 3 _ rfl rfl hL (v := .int .i64 (p : Int)) rfl ld3 ?_
  simp only [Act.put, List.setIfInBounds_toArray, List.set_cons_succ, List.set_cons_zero]
  refine wpG_put rfl (v := .int .i64 (r : Int)) (fun w => by first | rfl | (go_simp; done)) ?_
  refine wpG_put rfl (v := .string (s.extract p r)) (fun w => by first | rfl | (go_simp; done)) ?_
  simp only [Act.put, List.setIfInBounds_toArray, List.set_cons_succ, List.set_cons_zero]
  refine wpG_call rfl (fun w _ => cB w) (fun w => by first | rfl | (go_simp; done)) ?_
  simp only [Act.put, List.setIfInBounds_toArray, List.set_cons_succ, List.set_cons_zero]
  refine wpG_put rfl (v := .pointer (some ⟨b, 0, none⟩)) (fun w => by first | rfl | (go_simp; done)) ?_
  refine wpG_put rfl (v := .pointer (some ⟨b, 2, none⟩)) (fun w => by first | rfl | (go_simp; done)) ?_
  simp only [Act.put, List.setIfInBounds_toArray, List.set_cons_succ, List.set_cons_zero]
  refine wpG_nil ?_
  intro W1 B1
  have N1 := hL.grown B1
  have T1 := Turn.of_below B1 b
  refine wpList_storeS rfl 89 _ _ rfl rfl [.int .i64 (z1 : Int), .int .i64 (z2 : Int)] rfl N1 (by simp [lexL]) info63 (by simp [Value.oneCell']) ?_
  intro W2 U2 N2
  have T2 := T1.trans (Turn.of_upd U2)
  clear T1 U2 N1 B1 hL cB
  go_wp2_with (first
    | (refine wpList_store1 rfl 3 _ _ rfl rfl (.int .i64 (r : Int)) rfl N2 (by simp [putL, lexL]) info3 rfl ?_; intro W3 U3 N3; have T3 := T2.trans (Turn.of_upd U3); clear T2 U3 N2))
  exact ⟨rfl, .tuple #[], (by simp [results, Tryz.results80, go_sem]), rfl, N3, T3⟩
end Go.Proofs.YtjnbhcakfenbhaaGreatDoor.Lx

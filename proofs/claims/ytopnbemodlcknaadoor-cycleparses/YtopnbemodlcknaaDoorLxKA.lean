/- Several texts in one: K4, K5, K3, K6. -/
import Derived.Test.YtopnbemodlcknaaDoorLxK2
import Derived.Test.YtopnbemodlcknaaDoorLxVB
/- The reference's Next, by its outcomes. -/
namespace Go.Proofs.YtopnbemodlcknaaDoor.Lx
open Go.RowKit M
set_option linter.unusedSimpArgs false
set_option linter.unusedVariables false

/-- What stands while Next goes on: the lexer, the two results, all else as it was. -/
structure NX (w W : World) (b b2 b3 : Nat) (L : List Value) : Prop where
  K : IsS W b 68 L
  M : IsS W b2 44 (tokL noTok)
  N : IsS W b3 32 (fL (0, 0, 0))
  T : Turn w W b
  hb : b < w.heap.size
  h2 : w.heap.size ≤ b2
  h3 : w.heap.size ≤ b3
  h23 : b2 ≠ b3
section
variable {w W W' : World} {b b2 b3 b7 : Nat} {L L' : List Value}
theorem NX.fresh (h : NX w W b b2 b3 L) (F : Fresh W W' b7) : NX w W' b b2 b3 L ∧ w.heap.size ≤ b7 ∧ b7 ≠ b2 ∧ b7 ≠ b3 := by
  have e := F.at'
  refine ⟨⟨h.K.fresh F, h.M.fresh F, h.N.fresh F, h.T.grow (F.trans (Below.refl _ _) (Nat.le_refl _)), h.hb, h.h2, h.h3, h.h23⟩, ?_, ?_, ?_⟩
  · have := h.T.size; omega
  · have := h.M.lt; omega
  · have := h.N.lt; omega
theorem NX.own (h : NX w W b b2 b3 L) (U : Upd W W' b7) (h7 : w.heap.size ≤ b7) (h72 : b7 ≠ b2) (h73 : b7 ≠ b3) : NX w W' b b2 b3 L :=
  ⟨h.K.upd U (by have := h.hb; omega), h.M.upd U (Ne.symm h72), h.N.upd U (Ne.symm h73), h.T.upd h7 U, h.hb, h.h2, h.h3, h.h23⟩
theorem NX.lex (h : NX w W b b2 b3 L) (T : Turn W W' b) (K : IsS W' b 68 L') : NX w W' b b2 b3 L' :=
  ⟨K, h.M.turnL T (by have := h.hb; have := h.h2; omega), h.N.turnL T (by have := h.hb; have := h.h3; omega), h.T.trans T, h.hb, h.h2, h.h3, h.h23⟩
theorem NX.grow (h : NX w W b b2 b3 L) (B : Below W.heap.size W W') : NX w W' b b2 b3 L :=
  ⟨h.K.grown B, h.M.grown B, h.N.grown B, h.T.grow B, h.hb, h.h2, h.h3, h.h23⟩
theorem NX.drew (h : NX w W b b2 b3 L) : NX w W.drew b b2 b3 L := ⟨h.K, h.M, h.N, ⟨h.T.os, h.T.tape, h.T.output, h.T.size, h.T.block⟩, h.hb, h.h2, h.h3, h.h23⟩
theorem NX.drewN (h : NX w W b b2 b3 L) (n : Nat) : NX w (W.drewN n) b b2 b3 L := ⟨h.K, h.M, h.N, ⟨h.T.os, h.T.tape, h.T.output, h.T.size, h.T.block⟩, h.hb, h.h2, h.h3, h.h23⟩
end
theorem rplace2 (s : ByteArray) (hs : s.size ≤ 1048576) (b p f m z1 z2 : Nat) (F : Int × Int × Int) (hf : f ≤ m) (hm : m ≤ s.size) (hz : spotF (1, 1) (s.data.toList.take m) = (z1, z2)) (w : World) (hL : IsS w b 68 (rlexL s p F f (spotF (1, 1) (s.data.toList.take f)))) :
    Calls Tryd.prog 24 #[.pointer (some ⟨b, 0, none⟩), .int .i64 (m : Int)] w fun en w' => (en = .returned (.tuple #[.int .i64 (z1 : Int), .int .i64 (z2 : Int)]) ∧ IsS w' b 68 (rlexL s p F m (z1, z2))) ∧ Turn w w' b := by
  obtain ⟨⟨x, y⟩, hq⟩ : ∃ q, spotF (1, 1) (s.data.toList.take f) = q := ⟨_, rfl⟩
  have hb := spot_small _ f (by rw [← sizeL]; exact hs) hq
  rw [hq] at hL
  have := rplace_any s hs b p f m x y F hf hm hb.1 hb.2 w hL
  have e : spotF (x, y) ((s.data.toList.take m).drop f) = (z1, z2) := (by
    rw [← hq, ← hz, ← spot_app]
    congr 1
    rw [show s.data.toList.take f = (s.data.toList.take m).take f from by rw [List.take_take, Nat.min_eq_left hf]]
    exact List.take_append_drop f _)
  rw [e] at this
  exact this
theorem rlex_F (s : ByteArray) (p f : Nat) (q : Nat × Nat) (F : Int × Int × Int) : putL (rlexL s p (0, 0, 0) f q) 2 (fL F) = rlexL s p F f q := rfl
theorem rlex_At (s : ByteArray) (p k f : Nat) (q : Nat × Nat) (F : Int × Int × Int) : (rlexL s p F f q).set 1 (.int .i64 (k : Int)) = rlexL s k F f q := rfl

set_option maxRecDepth 100000 in
set_option maxHeartbeats 4000000 in
theorem rnext_com (s : ByteArray) (hs : s.size ≤ 1048576) (b p f : Nat) (hfp : f ≤ p) (n m : Nat) (hp : p ≤ s.size) (hn : (blkF (s.data.toList.drop p)).1 = n) (hcl : (blkF (s.data.toList.drop p)).2 = false) (hm : p + n = m) (z1 z2 : Nat) (hz : spotF (1, 1) (s.data.toList.take m) = (z1, z2)) (w : World) (hL : IsS w b 68 (rlexL s p (0, 0, 0) f (spotF (1, 1) (s.data.toList.take f)))) :
    Calls Tryd.prog 17 #[.pointer (some ⟨b, 0, none⟩)] w fun en w' => (en = .returned (.tuple #[tokV noTok, .agg (fL ((z1 : Int), (z2 : Int), 51)).toArray]) ∧ (∃ p' f' q', IsS w' b 68 (rlexL s p' ((z1 : Int), (z2 : Int), 51) f' q'))) ∧ Turn w w' b := by
  have hms : m ≤ s.size := (by have := blk_le s.data.toList p (by rw [← sizeL]; exact hp); rw [hn, ← sizeL] at this; omega)
  have hfm : f ≤ m := by omega
  have cB : ∀ w, Calls Tryd.prog 22 #[.string s, .int .i64 (p : Int)] w fun e w' => (∃ x : Int, e = .returned (.tuple #[.int .i64 x, .int .i64 (m : Int)])) ∧ w' = w := fun w => by
    refine (rblanks_any s (by omega) p hp w).mono ?_
    rintro e w' ⟨h, rfl⟩
    unfold RBlk at h
    rw [hn, hcl, hm] at h
    rcases h with ⟨h, _⟩ | ⟨_, x, rfl⟩
    · cases h
    · exact ⟨⟨x, rfl⟩, rfl⟩
  have HP := fun w => rplace2 s hs b p f m z1 z2 (0, 0, 0) hfm hms hz w
  have HZ : Hid (spotF (1, 1) (s.data.toList.take m) = (z1, z2)) := hz
  clear hn hcl hm hz
  have hb0 := hL.lt
  obtain ⟨q, hq⟩ : ∃ q, spotF (1, 1) (s.data.toList.take f) = q := ⟨_, rfl⟩
  rw [hq] at hL
  rw [hq] at HP
  have HPL : Hid (∀ w, _) := HP
  clear HP hq
  go_enter Tryd.func17, Tryd.ntmps17
  go_wp2_with (first
    | (refine wpList_allocS rfl 44 rfl (tokL noTok) Tryd.zeroValue44 ?_; intro W1 b2 F1 N2; have hb2 : w.heap.size ≤ b2 := Nat.le_of_eq F1.at'.symm; have K1 := hL.fresh F1; have T1 := Turn.of_below (F1.trans (Below.refl _ _) (Nat.le_refl _)) b; clear F1)
    | (refine wpList_allocS rfl 32 rfl (fL (0, 0, 0)) Tryd.zeroValue32 ?_; intro W2 b3 G1 N3; have NX2 : NX w W2 b b2 b3 (rlexL s p (0, 0, 0) f q) := ⟨K1.fresh G1, N2.fresh G1, N3, T1.grow (G1.trans (Below.refl _ _) (Nat.le_refl _)), hb0, hb2, Nat.le_trans T1.size (Nat.le_of_eq G1.at'.symm), (by have := N2.lt; have := G1.at'; omega)⟩; clear G1 K1 N2 N3 T1; have c4 : W2.cell? ⟨b, 4, none⟩ = some (.int .i64 0) := NX2.K.cell 4))
  have d0 : W2.cell? ⟨b, 0, none⟩ = some (.string s) := NX2.K.cell 0
  have d1 : W2.cell? ⟨b, 1, none⟩ = some (.int .i64 (p : Int)) := NX2.K.cell 1
  go_region_with (go_at_call 22; refine (cB _).mono ?_; rintro e w' ⟨⟨x, rfl⟩, hw'⟩; replace hw' := hw'.symm; subst hw')
  all_goals
    have NX3 := NX2.drew
    clear NX2 c4 d0 d1 cB hL
    generalize W2.drew = W3 at *
    have hm0 : ¬ (m : Int) < 0 := by omega
    have hm1 : (0 : Int) ≤ m := by omega
    go_wp2_with (first
      | (refine wpList_allocS rfl 44 rfl (tokL noTok) Tryd.zeroValue44 ?_; intro W4 b7 F4 P7; obtain ⟨NX4, h7, h72, h73⟩ := NX3.fresh F4; clear F4 NX3)
      | (refine wpList_storeS rfl 44 _ _ rfl rfl [.int .i64 0, .string ⟨#[]⟩, .int .i64 0, .int .i64 0, .int .i64 0, .int .i64 x, .int .i64 x] rfl P7 (by simp [tokL, noTok]) info38 (by simp [tokL, Value.oneCell']) ?_; intro W5 U5 Q7; have NX5 := NX4.own U5 h7 h72 h73; have c0 : W5.cell? ⟨b, 0, none⟩ = some (.string s) := NX5.K.cell 0; clear U5 P7 NX4)
      | (go_at_call 24; refine (HPL.out _ NX5.K).mono ?_; rintro en W6 ⟨⟨rfl, KP⟩, TP⟩; have NX6 := NX5.lex TP KP; clear TP KP NX5)
      | (refine wpList_storeS rfl 32 _ _ rfl rfl (fL ((z1 : Int), (z2 : Int), 51)) rfl NX6.K (by simp [rlexL, fL]) info30 (fL_one _) ?_; intro W7 U7 K7; rw [rlex_F] at K7; have NX7 := NX6.lex (Turn.of_upd U7) K7; clear U7 K7 NX6))
    refine grow_tail 6 (by kernel_rfl) (by kernel_rfl) ?_
    simp only [List.take_succ_cons, List.take_zero, List.drop_succ_cons, List.drop_zero]
    refine wpG_put rfl (v := .agg (tokL noTok).toArray) (fun w => by first | rfl | (go_simp; rfl) | (go_simp; done)) ?_
    refine wpG_put rfl (v := .pointer (some ⟨b, 0, none⟩)) (fun w => by first | rfl | (go_simp; done)) ?_
    refine wpG_put rfl (v := .pointer (some ⟨b, 0, none⟩)) (fun w => by first | rfl | (go_simp; done)) ?_
    simp only [Act.put, List.setIfInBounds_toArray, List.set_cons_succ, List.set_cons_zero]
    refine wpG_put rfl (v := .pointer (some ⟨b, 2, none⟩)) (fun w => by first | rfl | (go_simp; done)) ?_
    simp only [Act.put, List.setIfInBounds_toArray, List.set_cons_succ, List.set_cons_zero]
    refine wpG_loadP rfl 32 _ rfl rfl NX7.K 3 (fL ((z1 : Int), (z2 : Int), 51)) rfl _ Tryd.underlying32 rfl info30 ?_
    refine wpG_same rfl 44 _ _ rfl rfl rfl NX7.M info38 (tok_one noTok) ?_
    simp only [Act.put, List.setIfInBounds_toArray, List.set_cons_succ, List.set_cons_zero]
    refine wpG_nil ?_
    intro W8 B8
    have NX8 := NX7.grow B8
    clear B8 NX7
    go_wp2_with (first
      | (refine wpList_storeS rfl 32 _ _ rfl rfl (fL ((z1 : Int), (z2 : Int), 51)) rfl NX8.N (by simp [fL]) info30 (fL_one _) ?_; intro V9 U9 NZx; have NZ : IsS V9 b3 32 (fL ((z1 : Int), (z2 : Int), 51)) := NZx; have M9 := NX8.M.upd U9 NX8.h23; have K9 := NX8.K.upd U9 (by have := NX8.hb; have := NX8.h3; omega); have T9 := NX8.T.upd NX8.h3 U9; clear U9 NX8 NZx))
    exact ret_SS rfl rfl rfl rfl M9 NZ _ Tryd.underlying44 rfl info38 _ Tryd.underlying32 rfl info30 ⟨⟨rfl, _, _, _, K9⟩, T9⟩

set_option maxRecDepth 100000 in
set_option maxHeartbeats 4000000 in
theorem rnext_end (s : ByteArray) (hs : s.size ≤ 1048576) (b p f : Nat) (hfp : f ≤ p) (n m : Nat) (hp : p ≤ s.size) (hn : (blkF (s.data.toList.drop p)).1 = n) (hcl : (blkF (s.data.toList.drop p)).2 = true) (hm : p + n = m) (z1 z2 : Nat) (hz : spotF (1, 1) (s.data.toList.take m) = (z1, z2)) (hend : m = s.size) (w : World) (hL : IsS w b 68 (rlexL s p (0, 0, 0) f (spotF (1, 1) (s.data.toList.take f)))) :
    Calls Tryd.prog 17 #[.pointer (some ⟨b, 0, none⟩)] w fun en w' => (en = .returned (.tuple #[tokV ⟨0, [], 0, z1, z2, m, m⟩, .agg (fL (0, 0, 0)).toArray]) ∧ (∃ f', f' ≤ m ∧ IsS w' b 68 (rlexL s m (0, 0, 0) f' (spotF (1, 1) (s.data.toList.take f'))))) ∧ Turn w w' b := by
  have hms : m ≤ s.size := (by have := blk_le s.data.toList p (by rw [← sizeL]; exact hp); rw [hn, ← sizeL] at this; omega)
  have hfm : f ≤ m := by omega
  have cB : ∀ w, Calls Tryd.prog 22 #[.string s, .int .i64 (p : Int)] w fun e w' => e = .returned (.tuple #[.int .i64 (m : Int), .int .i64 (-1)]) ∧ w' = w := fun w => by
    refine (rblanks_any s (by omega) p hp w).mono ?_
    rintro e w' ⟨h, rfl⟩
    unfold RBlk at h
    rw [hn, hcl, hm] at h
    rcases h with ⟨_, rfl⟩ | ⟨h, _⟩
    · exact ⟨rfl, rfl⟩
    · cases h
  have HP := fun w => rplace2 s hs b p f m z1 z2 (0, 0, 0) hfm hms hz w
  have HZ : Hid (spotF (1, 1) (s.data.toList.take m) = (z1, z2)) := hz
  have hmi : ¬ (m : Int) < s.size := by omega
  clear hend
  clear hn hcl hm hz
  have hb0 := hL.lt
  obtain ⟨q, hq⟩ : ∃ q, spotF (1, 1) (s.data.toList.take f) = q := ⟨_, rfl⟩
  rw [hq] at hL
  rw [hq] at HP
  have HPL : Hid (∀ w, _) := HP
  clear HP hq
  go_enter Tryd.func17, Tryd.ntmps17
  go_wp2_with (first
    | (refine wpList_allocS rfl 44 rfl (tokL noTok) Tryd.zeroValue44 ?_; intro W1 b2 F1 N2; have hb2 : w.heap.size ≤ b2 := Nat.le_of_eq F1.at'.symm; have K1 := hL.fresh F1; have T1 := Turn.of_below (F1.trans (Below.refl _ _) (Nat.le_refl _)) b; clear F1)
    | (refine wpList_allocS rfl 32 rfl (fL (0, 0, 0)) Tryd.zeroValue32 ?_; intro W2 b3 G1 N3; have NX2 : NX w W2 b b2 b3 (rlexL s p (0, 0, 0) f q) := ⟨K1.fresh G1, N2.fresh G1, N3, T1.grow (G1.trans (Below.refl _ _) (Nat.le_refl _)), hb0, hb2, Nat.le_trans T1.size (Nat.le_of_eq G1.at'.symm), (by have := N2.lt; have := G1.at'; omega)⟩; clear G1 K1 N2 N3 T1; have c4 : W2.cell? ⟨b, 4, none⟩ = some (.int .i64 0) := NX2.K.cell 4))
  have d0 : W2.cell? ⟨b, 0, none⟩ = some (.string s) := NX2.K.cell 0
  have d1 : W2.cell? ⟨b, 1, none⟩ = some (.int .i64 (p : Int)) := NX2.K.cell 1
  go_quiet ((go_at_call 22; exact Calls.quiet_of_same (cB _)))
  have NX3 := NX2.drewN nq
  clear NX2 c4 d0 d1 cB hL
  generalize W2.drewN nq = W3 at *
  go_wp2_with (first
    | (refine wpList_allocS rfl 44 rfl (tokL noTok) Tryd.zeroValue44 ?_; intro W4 b7 F4 P7; obtain ⟨NX4, h7, h72, h73⟩ := NX3.fresh F4; clear F4 NX3)
    | (refine wpList_storeS rfl 44 _ _ rfl rfl (tokL ⟨0, [], 0, 0, 0, m, m⟩) rfl P7 (by simp [tokL, noTok]) info38 (by simp [tokL, Value.oneCell']) ?_; intro W5 U5 Q7; have NX5 := NX4.own U5 h7 h72 h73; have c0 : W5.cell? ⟨b, 0, none⟩ = some (.string s) := NX5.K.cell 0; clear U5 P7 NX4)
    | (go_at_call 24; refine (HPL.out _ NX5.K).mono ?_; rintro en WP ⟨⟨rfl, KP⟩, TP⟩; have NXP := NX5.lex TP KP; have QP := (show IsS _ b7 44 (tokL ⟨0, [], 0, 0, 0, m, m⟩) from Q7).turnL TP (by have := NX5.hb; omega); clear TP KP NX5 Q7)
    | (refine wpList_store1 rfl 3 _ _ rfl rfl (.int .i64 (z1 : Int)) rfl QP (by simp [tokL, putL]) info3 rfl ?_; intro X1 U1 P1x; have P1 : IsS X1 b7 44 (tokL ⟨0, [], 0, z1, 0, m, m⟩) := P1x; have NY1 := NXP.own U1 h7 h72 h73; clear U1 P1x QP NXP)
    | (refine wpList_store1 rfl 3 _ _ rfl rfl (.int .i64 (z2 : Int)) rfl P1 (by simp [tokL]) info3 rfl ?_; intro X2 U2 P2x; have P2 : IsS X2 b7 44 (tokL ⟨0, [], 0, z1, z2, m, m⟩) := P2x; have NY2 := NY1.own U2 h7 h72 h73; clear U2 P2x P1 NY1; have e6 : X2.cell? ⟨b7, 6, none⟩ = some (.int .i64 ((m : Nat) : Int)) := P2.cell 6)
    | (refine wpList_store1 rfl 3 _ _ rfl rfl (.int .i64 ((m : Nat) : Int)) rfl NY2.K (by simp [rlexL]) info3 rfl ?_; intro X3 U3 K3x; rw [rlex_At] at K3x; have NY3 := NY2.lex (Turn.of_upd U3) K3x; have P3 := P2.upd U3 (by have := NY2.hb; omega); clear U3 K3x P2 NY2 e6)
    | (refine wpList_loadP rfl 44 _ rfl rfl P3 7 (tokL ⟨0, [], 0, z1, z2, m, m⟩) rfl _ Tryd.underlying44 rfl info38 ?_)
    | (refine wpList_storeS rfl 44 _ _ rfl rfl (tokL ⟨0, [], 0, z1, z2, m, m⟩) rfl NY3.M (by simp [tokL, noTok]) info38 (tok_one _) ?_; intro X4 U4 M4x; have M4 : IsS X4 b2 44 (tokL ⟨0, [], 0, z1, z2, m, m⟩) := M4x; have K4 := NY3.K.upd U4 (by have := NY3.hb; have := NY3.h2; omega); have N4 := NY3.N.upd U4 (Ne.symm NY3.h23); have T4 := NY3.T.upd NY3.h2 U4; have g23 := NY3.h23; have g3 := NY3.h3; clear U4 M4x NY3 P3)
    | (refine wpList_storeS rfl 32 _ _ rfl rfl (fL (0, 0, 0)) rfl N4 (by simp [fL]) info30 (fL_one _) ?_; intro V9 U9 NZx; have NZ : IsS V9 b3 32 (fL (0, 0, 0)) := NZx; have M9 := M4.upd U9 g23; have K9 := K4.upd U9 (by omega); have T9 := T4.upd g3 U9; clear U9 N4 M4 K4 T4 NZx))
  exact ret_SS rfl rfl rfl rfl M9 NZ _ Tryd.underlying44 rfl info38 _ Tryd.underlying32 rfl info30 ⟨⟨rfl, m, Nat.le_refl _, by rw [HZ.out]; exact K9⟩, T9⟩
end Go.Proofs.YtopnbemodlcknaaDoor.Lx
/- The reference's Next, by its outcomes. -/
namespace Go.Proofs.YtopnbemodlcknaaDoor.Lx
open Go.RowKit M
set_option linter.unusedSimpArgs false
set_option linter.unusedVariables false

set_option maxRecDepth 100000 in
set_option maxHeartbeats 4000000 in
theorem rnext_tok (s : ByteArray) (hs : s.size ≤ 1048576) (b p f : Nat) (hfp : f ≤ p) (n m : Nat) (hp : p ≤ s.size) (hn : (blkF (s.data.toList.drop p)).1 = n) (hcl : (blkF (s.data.toList.drop p)).2 = true) (hm : p + n = m) (z1 z2 : Nat) (hz : spotF (1, 1) (s.data.toList.take m) = (z1, z2)) (hlt : m < s.size) (kd : Nat) (tx : List UInt8) (vl : Int) (ln k : Nat) (hC : cutF (s.data.toList.drop m) = ⟨kd, tx, vl, ln, 0⟩) (hk : m + ln = k) (w : World) (hL : IsS w b 68 (rlexL s p (0, 0, 0) f (spotF (1, 1) (s.data.toList.take f)))) :
    Calls Tryd.prog 17 #[.pointer (some ⟨b, 0, none⟩)] w fun en w' => (en = .returned (.tuple #[tokV ⟨kd, tx, vl, z1, z2, m, k⟩, .agg (fL (0, 0, 0)).toArray]) ∧ (∃ f', f' ≤ k ∧ IsS w' b 68 (rlexL s k (0, 0, 0) f' (spotF (1, 1) (s.data.toList.take f'))))) ∧ Turn w w' b := by
  have hms : m ≤ s.size := (by have := blk_le s.data.toList p (by rw [← sizeL]; exact hp); rw [hn, ← sizeL] at this; omega)
  have hfm : f ≤ m := by omega
  have cB : ∀ w, Calls Tryd.prog 22 #[.string s, .int .i64 (p : Int)] w fun e w' => e = .returned (.tuple #[.int .i64 (m : Int), .int .i64 (-1)]) ∧ w' = w := fun w => by
    refine (rblanks_any s (by omega) p hp w).mono ?_
    rintro e w' ⟨h, rfl⟩
    unfold RBlk at h
    rw [hn, hcl, hm] at h
    rcases h with ⟨_, rfl⟩ | ⟨h, _⟩
    · exact ⟨rfl, rfl⟩
    · cases h
  have HP := fun w => rplace2 s hs b p f m z1 z2 (0, 0, 0) hfm hms hz w
  have HZ : Hid (spotF (1, 1) (s.data.toList.take m) = (z1, z2)) := hz
  have cT : ∀ w, Calls Tryd.prog 23 #[.string s, .int .i64 (m : Int)] w fun e w' => e = .returned (.tuple #[.agg (tokL ⟨kd, tx, vl, 0, 0, m, k⟩).toArray, .int .i64 0, .int .i64 0]) ∧ Below w.heap.size w w' := fun w => by
    have := rtoken_any s (by omega) m hlt w
    rw [hC, rtok_ok m kd tx vl ln, hk] at this
    exact this
  have hmi : (m : Int) < s.size := by omega
  have hmk : m ≤ k := by omega
  clear hC hk
  clear hn hcl hm hz
  have hb0 := hL.lt
  obtain ⟨q, hq⟩ : ∃ q, spotF (1, 1) (s.data.toList.take f) = q := ⟨_, rfl⟩
  rw [hq] at hL
  rw [hq] at HP
  have HPL : Hid (∀ w, _) := HP
  clear HP hq
  go_enter Tryd.func17, Tryd.ntmps17
  go_wp2_with (first
    | (refine wpList_allocS rfl 44 rfl (tokL noTok) Tryd.zeroValue44 ?_; intro W1 b2 F1 N2; have hb2 : w.heap.size ≤ b2 := Nat.le_of_eq F1.at'.symm; have K1 := hL.fresh F1; have T1 := Turn.of_below (F1.trans (Below.refl _ _) (Nat.le_refl _)) b; clear F1)
    | (refine wpList_allocS rfl 32 rfl (fL (0, 0, 0)) Tryd.zeroValue32 ?_; intro W2 b3 G1 N3; have NX2 : NX w W2 b b2 b3 (rlexL s p (0, 0, 0) f q) := ⟨K1.fresh G1, N2.fresh G1, N3, T1.grow (G1.trans (Below.refl _ _) (Nat.le_refl _)), hb0, hb2, Nat.le_trans T1.size (Nat.le_of_eq G1.at'.symm), (by have := N2.lt; have := G1.at'; omega)⟩; clear G1 K1 N2 N3 T1; have c4 : W2.cell? ⟨b, 4, none⟩ = some (.int .i64 0) := NX2.K.cell 4))
  have d0 : W2.cell? ⟨b, 0, none⟩ = some (.string s) := NX2.K.cell 0
  have d1 : W2.cell? ⟨b, 1, none⟩ = some (.int .i64 (p : Int)) := NX2.K.cell 1
  go_quiet ((go_at_call 22; exact Calls.quiet_of_same (cB _)))
  have NX3 := NX2.drewN nq
  clear NX2 c4 d0 d1 cB hL
  generalize W2.drewN nq = W3 at *
  go_wp2_with (first
    | (refine wpList_allocS rfl 44 rfl (tokL noTok) Tryd.zeroValue44 ?_; intro W4 b7 F4 P7; obtain ⟨NX4, h7, h72, h73⟩ := NX3.fresh F4; clear F4 NX3)
    | (refine wpList_storeS rfl 44 _ _ rfl rfl (tokL ⟨0, [], 0, 0, 0, m, m⟩) rfl P7 (by simp [tokL, noTok]) info38 (by simp [tokL, Value.oneCell']) ?_; intro W5 U5 Q7; have NX5 := NX4.own U5 h7 h72 h73; have c0 : W5.cell? ⟨b, 0, none⟩ = some (.string s) := NX5.K.cell 0; clear U5 P7 NX4)
    | (go_at_call 23; refine (cT _).mono ?_; rintro en W6 ⟨rfl, B6⟩; have NX6 := NX5.grow B6; have R7 := Q7.grown B6; clear B6 NX5 Q7 c0)
    | (refine wpList_storeS rfl 44 _ _ rfl rfl (tokL ⟨kd, tx, vl, 0, 0, m, k⟩) rfl R7 (by simp [tokL, noTok, putL]) info38 (tok_one _) ?_; intro W7 U7 S7x; have S7 : IsS W7 b7 44 (tokL ⟨kd, tx, vl, 0, 0, m, k⟩) := S7x; have NX7 := NX6.own U7 h7 h72 h73; clear U7 S7x NX6 R7)
    | (go_at_call 24; refine (HPL.out _ NX7.K).mono ?_; rintro en WP ⟨⟨rfl, KP⟩, TP⟩; have NXP := NX7.lex TP KP; have QP := S7.turnL TP (by have := NX7.hb; omega); clear TP KP NX7 S7)
    | (refine wpList_store1 rfl 3 _ _ rfl rfl (.int .i64 (z1 : Int)) rfl QP (by simp [tokL, putL]) info3 rfl ?_; intro X1 U1 P1x; have P1 : IsS X1 b7 44 (tokL ⟨kd, tx, vl, z1, 0, m, k⟩) := P1x; have NY1 := NXP.own U1 h7 h72 h73; clear U1 P1x QP NXP)
    | (refine wpList_store1 rfl 3 _ _ rfl rfl (.int .i64 (z2 : Int)) rfl P1 (by simp [tokL]) info3 rfl ?_; intro X2 U2 P2x; have P2 : IsS X2 b7 44 (tokL ⟨kd, tx, vl, z1, z2, m, k⟩) := P2x; have NY2 := NY1.own U2 h7 h72 h73; clear U2 P2x P1 NY1; have e6 : X2.cell? ⟨b7, 6, none⟩ = some (.int .i64 ((k : Nat) : Int)) := P2.cell 6)
    | (refine wpList_store1 rfl 3 _ _ rfl rfl (.int .i64 ((k : Nat) : Int)) rfl NY2.K (by simp [rlexL]) info3 rfl ?_; intro X3 U3 K3x; rw [rlex_At] at K3x; have NY3 := NY2.lex (Turn.of_upd U3) K3x; have P3 := P2.upd U3 (by have := NY2.hb; omega); clear U3 K3x P2 NY2 e6)
    | (refine wpList_loadP rfl 44 _ rfl rfl P3 7 (tokL ⟨kd, tx, vl, z1, z2, m, k⟩) rfl _ Tryd.underlying44 rfl info38 ?_)
    | (refine wpList_storeS rfl 44 _ _ rfl rfl (tokL ⟨kd, tx, vl, z1, z2, m, k⟩) rfl NY3.M (by simp [tokL, noTok]) info38 (tok_one _) ?_; intro X4 U4 M4x; have M4 : IsS X4 b2 44 (tokL ⟨kd, tx, vl, z1, z2, m, k⟩) := M4x; have K4 := NY3.K.upd U4 (by have := NY3.hb; have := NY3.h2; omega); have N4 := NY3.N.upd U4 (Ne.symm NY3.h23); have T4 := NY3.T.upd NY3.h2 U4; have g23 := NY3.h23; have g3 := NY3.h3; clear U4 M4x NY3 P3)
    | (refine wpList_storeS rfl 32 _ _ rfl rfl (fL (0, 0, 0)) rfl N4 (by simp [fL]) info30 (fL_one _) ?_; intro V9 U9 NZx; have NZ : IsS V9 b3 32 (fL (0, 0, 0)) := NZx; have M9 := M4.upd U9 g23; have K9 := K4.upd U9 (by omega); have T9 := T4.upd g3 U9; clear U9 N4 M4 K4 T4 NZx))
  exact ret_SS rfl rfl rfl rfl M9 NZ _ Tryd.underlying44 rfl info38 _ Tryd.underlying32 rfl info30 ⟨⟨rfl, m, hmk, by rw [HZ.out]; exact K9⟩, T9⟩

set_option maxRecDepth 100000 in
set_option maxHeartbeats 4000000 in
theorem rnext_wrong (s : ByteArray) (hs : s.size ≤ 1048576) (b p f : Nat) (hfp : f ≤ p) (n m : Nat) (hp : p ≤ s.size) (hn : (blkF (s.data.toList.drop p)).1 = n) (hcl : (blkF (s.data.toList.drop p)).2 = true) (hm : p + n = m) (z1 z2 : Nat) (hz : spotF (1, 1) (s.data.toList.take m) = (z1, z2)) (hlt : m < s.size) (kd : Nat) (tx : List UInt8) (vl : Int) (ln wr k u1 u2 : Nat) (hC : cutF (s.data.toList.drop m) = ⟨kd, tx, vl, ln, wr⟩) (hw : wr ≠ 0) (hk : m + ln = k) (hu : spotF (1, 1) (s.data.toList.take k) = (u1, u2)) (w : World) (hL : IsS w b 68 (rlexL s p (0, 0, 0) f (spotF (1, 1) (s.data.toList.take f)))) :
    Calls Tryd.prog 17 #[.pointer (some ⟨b, 0, none⟩)] w fun en w' => (en = .returned (.tuple #[tokV noTok, .agg (fL ((u1 : Int), (u2 : Int), (wr : Int))).toArray]) ∧ (∃ p' f' q', IsS w' b 68 (rlexL s p' ((u1 : Int), (u2 : Int), (wr : Int)) f' q'))) ∧ Turn w w' b := by
  have hms : m ≤ s.size := (by have := blk_le s.data.toList p (by rw [← sizeL]; exact hp); rw [hn, ← sizeL] at this; omega)
  have hfm : f ≤ m := by omega
  have cB : ∀ w, Calls Tryd.prog 22 #[.string s, .int .i64 (p : Int)] w fun e w' => e = .returned (.tuple #[.int .i64 (m : Int), .int .i64 (-1)]) ∧ w' = w := fun w => by
    refine (rblanks_any s (by omega) p hp w).mono ?_
    rintro e w' ⟨h, rfl⟩
    unfold RBlk at h
    rw [hn, hcl, hm] at h
    rcases h with ⟨_, rfl⟩ | ⟨h, _⟩
    · exact ⟨rfl, rfl⟩
    · cases h
  have hks : k ≤ s.size := (by have := cut_le s.data.toList m (by rw [← sizeL]; omega); rw [hC, ← sizeL] at this; dsimp only at this; omega)
  have HP := fun w => rplace2 s hs b p f k u1 u2 (0, 0, 0) (by omega) hks hu w
  have cT : ∀ w, Calls Tryd.prog 23 #[.string s, .int .i64 (m : Int)] w fun e w' => e = .returned (.tuple #[.agg (tokL noTok).toArray, .int .i64 (wr : Int), .int .i64 (k : Int)]) ∧ Below w.heap.size w w' := fun w => by
    have := rtoken_any s (by omega) m hlt w
    rw [hC, rtok_bad m kd tx vl ln wr hw, hk] at this
    exact this
  have HZ : Hid (spotF (1, 1) (s.data.toList.take k) = (u1, u2)) := hu
  have hw1 : ((wr : Int) == 0) = false := (by simp; omega)
  have hmi : (m : Int) < s.size := by omega
  have hk1 : (0 : Int) ≤ k := by omega
  have hfk : f ≤ k := by omega
  clear hC hw hk hu
  clear hn hcl hm hz
  have hb0 := hL.lt
  obtain ⟨q, hq⟩ : ∃ q, spotF (1, 1) (s.data.toList.take f) = q := ⟨_, rfl⟩
  rw [hq] at hL
  rw [hq] at HP
  have HPL : Hid (∀ w, _) := HP
  clear HP hq
  go_enter Tryd.func17, Tryd.ntmps17
  go_wp2_with (first
    | (refine wpList_allocS rfl 44 rfl (tokL noTok) Tryd.zeroValue44 ?_; intro W1 b2 F1 N2; have hb2 : w.heap.size ≤ b2 := Nat.le_of_eq F1.at'.symm; have K1 := hL.fresh F1; have T1 := Turn.of_below (F1.trans (Below.refl _ _) (Nat.le_refl _)) b; clear F1)
    | (refine wpList_allocS rfl 32 rfl (fL (0, 0, 0)) Tryd.zeroValue32 ?_; intro W2 b3 G1 N3; have NX2 : NX w W2 b b2 b3 (rlexL s p (0, 0, 0) f q) := ⟨K1.fresh G1, N2.fresh G1, N3, T1.grow (G1.trans (Below.refl _ _) (Nat.le_refl _)), hb0, hb2, Nat.le_trans T1.size (Nat.le_of_eq G1.at'.symm), (by have := N2.lt; have := G1.at'; omega)⟩; clear G1 K1 N2 N3 T1; have c4 : W2.cell? ⟨b, 4, none⟩ = some (.int .i64 0) := NX2.K.cell 4))
  have d0 : W2.cell? ⟨b, 0, none⟩ = some (.string s) := NX2.K.cell 0
  have d1 : W2.cell? ⟨b, 1, none⟩ = some (.int .i64 (p : Int)) := NX2.K.cell 1
  go_quiet ((go_at_call 22; exact Calls.quiet_of_same (cB _)))
  have NX3 := NX2.drewN nq
  clear NX2 c4 d0 d1 cB hL
  generalize W2.drewN nq = W3 at *
  go_wp2_with (first
    | (refine wpList_allocS rfl 44 rfl (tokL noTok) Tryd.zeroValue44 ?_; intro W4 b7 F4 P7; obtain ⟨NX4, h7, h72, h73⟩ := NX3.fresh F4; clear F4 NX3)
    | (refine wpList_storeS rfl 44 _ _ rfl rfl (tokL ⟨0, [], 0, 0, 0, m, m⟩) rfl P7 (by simp [tokL, noTok]) info38 (by simp [tokL, Value.oneCell']) ?_; intro W5 U5 Q7; have NX5 := NX4.own U5 h7 h72 h73; have c0 : W5.cell? ⟨b, 0, none⟩ = some (.string s) := NX5.K.cell 0; clear U5 P7 NX4)
    | (go_at_call 23; refine (cT _).mono ?_; rintro en W6 ⟨rfl, B6⟩; have NX6 := NX5.grow B6; have R7 := Q7.grown B6; clear B6 NX5 Q7 c0)
    | (refine wpList_storeS rfl 44 _ _ rfl rfl (tokL noTok) rfl R7 (by simp [tokL, noTok, putL]) info38 (tok_one _) ?_; intro W7 U7 S7x; have S7 : IsS W7 b7 44 (tokL noTok) := S7x; have NX7 := NX6.own U7 h7 h72 h73; clear U7 S7x NX6 R7)
    | (go_at_call 24; refine (HPL.out _ NX7.K).mono ?_; rintro en W8 ⟨⟨rfl, KP⟩, TP⟩; have NX8 := NX7.lex TP KP; clear TP KP NX7)
    | (refine wpList_storeS rfl 32 _ _ rfl rfl (fL ((u1 : Int), (u2 : Int), (wr : Int))) rfl NX8.K (by simp [rlexL, fL]) info30 (fL_one _) ?_; intro W9 U9 K9; rw [rlex_F] at K9; have NX9 := NX8.lex (Turn.of_upd U9) K9; clear U9 K9 NX8))
  refine grow_tail 6 (by kernel_rfl) (by kernel_rfl) ?_
  simp only [List.take_succ_cons, List.take_zero, List.drop_succ_cons, List.drop_zero]
  refine wpG_put rfl (v := .agg (tokL noTok).toArray) (fun w => by first | rfl | (go_simp; rfl) | (go_simp; done)) ?_
  refine wpG_put rfl (v := .pointer (some ⟨b, 0, none⟩)) (fun w => by first | rfl | (go_simp; done)) ?_
  refine wpG_put rfl (v := .pointer (some ⟨b, 0, none⟩)) (fun w => by first | rfl | (go_simp; done)) ?_
  simp only [Act.put, List.setIfInBounds_toArray, List.set_cons_succ, List.set_cons_zero]
  refine wpG_put rfl (v := .pointer (some ⟨b, 2, none⟩)) (fun w => by first | rfl | (go_simp; done)) ?_
  simp only [Act.put, List.setIfInBounds_toArray, List.set_cons_succ, List.set_cons_zero]
  refine wpG_loadP rfl 32 _ rfl rfl NX9.K 3 (fL ((u1 : Int), (u2 : Int), (wr : Int))) rfl _ Tryd.underlying32 rfl info30 ?_
  refine wpG_same rfl 44 _ _ rfl rfl rfl NX9.M info38 (tok_one noTok) ?_
  simp only [Act.put, List.setIfInBounds_toArray, List.set_cons_succ, List.set_cons_zero]
  refine wpG_nil ?_
  intro WA BA
  have NXA := NX9.grow BA
  clear BA NX9
  go_wp2_with (first
    | (refine wpList_storeS rfl 32 _ _ rfl rfl (fL ((u1 : Int), (u2 : Int), (wr : Int))) rfl NXA.N (by simp [fL]) info30 (fL_one _) ?_; intro V9 U9 NZx; have NZ : IsS V9 b3 32 (fL ((u1 : Int), (u2 : Int), (wr : Int))) := NZx; have M9 := NXA.M.upd U9 NXA.h23; have K9 := NXA.K.upd U9 (by have := NXA.hb; have := NXA.h3; omega); have T9 := NXA.T.upd NXA.h3 U9; clear U9 NXA NZx))
  exact ret_SS rfl rfl rfl rfl M9 NZ _ Tryd.underlying44 rfl info38 _ Tryd.underlying32 rfl info30 ⟨⟨rfl, _, _, _, K9⟩, T9⟩
end Go.Proofs.YtopnbemodlcknaaDoor.Lx
/- Seen: an error in plain numbers. -/
namespace Go.Proofs.YtopnbemodlcknaaDoor.Lx
open Go.RowKit M
set_option linter.unusedSimpArgs false
set_option linter.unusedVariables false

theorem assert52_yes (w : World) (v : Value) : (Instr.typeAssert (.iface 48 v) 28 48 true).run Tryd.prog w = .ok (.tuple #[v, .bool true]) w := by kernel_rfl
theorem assert52_no (w : World) (v : Value) : (Instr.typeAssert (.iface 47 v) 28 48 true).run Tryd.prog w = .ok (.tuple #[.int .i64 0, .bool false]) w := by kernel_rfl
theorem assert67_yes (w : World) (v : Value) : (Instr.typeAssert (.iface 47 v) 28 47 true).run Tryd.prog w = .ok (.tuple #[v, .bool true]) w := by kernel_rfl
set_option maxRecDepth 100000 in
theorem number_errno (e : Int) (w : World) : Calls Tryd.prog 18 #[.iface 48 (.int .i64 e)] w fun en w' => en = .returned (.int .i64 e) ∧ w' = w := by
  have ta := assert52_yes
  go_enter Tryd.func18, Tryd.ntmps18
  go_wp2
  go_ret
  exact ⟨rfl, rfl⟩
set_option maxRecDepth 100000 in
set_option maxHeartbeats 1000000 in
theorem seen_none (w : World) : Calls Tryd.prog 14 #[.nilIface] w fun en w' => en = .returned (.agg (fL (0, 0, 0)).toArray) ∧ Below w.heap.size w w' := by
  go_enter Tryd.func14, Tryd.ntmps14
  go_wp2_with (first
    | (refine wpList_allocS rfl 32 rfl (fL (0, 0, 0)) Tryd.zeroValue32 ?_; intro W1 b2 F1 N2; have hb2 : w.heap.size ≤ b2 := Nat.le_of_eq F1.at'.symm; have B1 := F1.trans (Below.refl _ w) (Nat.le_refl _); clear F1)
    | (refine wpList_storeS rfl 32 _ _ rfl rfl (fL (0, 0, 0)) rfl N2 (by simp [fL]) info30 (fL_one _) ?_; intro V9 U9 NZx; have NZ : IsS V9 b2 32 (fL (0, 0, 0)) := NZx; have BZ := U9.trans B1 hb2; clear U9 N2 B1 NZx))
  exact ret_S rfl rfl rfl NZ _ Tryd.underlying32 rfl info30 ⟨rfl, BZ⟩
set_option maxRecDepth 100000 in
set_option maxHeartbeats 1000000 in
theorem seen_errno (e : Int) (w : World) : Calls Tryd.prog 14 #[.iface 48 (.int .i64 e)] w fun en w' => en = .returned (.agg (fL (-1, 0, e)).toArray) ∧ Below w.heap.size w w' := by
  have ta := assert52_yes
  go_enter Tryd.func14, Tryd.ntmps14
  go_wp2_with (first
    | (refine wpList_allocS rfl 32 rfl (fL (0, 0, 0)) Tryd.zeroValue32 ?_; intro W1 b2 F1 N2; have hb2 : w.heap.size ≤ b2 := Nat.le_of_eq F1.at'.symm; have B1 := F1.trans (Below.refl _ w) (Nat.le_refl _); clear F1)
    | (refine wpList_storeS rfl 32 _ _ rfl rfl (fL (-1, 0, e)) rfl N2 (by simp [fL]) info30 (fL_one _) ?_; intro V9 U9 NZx; have NZ : IsS V9 b2 32 (fL (-1, 0, e)) := NZx; have BZ := U9.trans B1 hb2; clear U9 N2 B1 NZx))
  exact ret_S rfl rfl rfl NZ _ Tryd.underlying32 rfl info30 ⟨rfl, BZ⟩
theorem ld26 {b o : Nat} {v : Value} (w : World) (h : w.cell? ⟨b, o, none⟩ = some v) : (Instr.loadAt 28 (.pointer (some ⟨b, o, none⟩))).run Tryd.prog w = .ok v w := by simp [go_sem, h]
set_option maxRecDepth 100000 in
set_option maxHeartbeats 1000000 in
theorem seen_pos (g x y e : Nat) (w : World) (hG : IsS w g 50 (faultL x y e)) : Calls Tryd.prog 14 #[.iface 47 (.pointer (some ⟨g, 0, none⟩))] w fun en w' => en = .returned (.agg (fL ((x : Int), (y : Int), (e : Int))).toArray) ∧ Below w.heap.size w w' := by
  have ta := assert52_no
  have tb := assert67_yes
  go_enter Tryd.func14, Tryd.ntmps14
  go_wp2_with (first
    | (refine wpList_allocS rfl 32 rfl (fL (0, 0, 0)) Tryd.zeroValue32 ?_; intro W1 b2 F1 N2; have hb2 : w.heap.size ≤ b2 := Nat.le_of_eq F1.at'.symm; have B1 := F1.trans (Below.refl _ w) (Nat.le_refl _); have G1 := hG.fresh F1; clear F1 hG))
  refine grow_tail 14 (by kernel_rfl) (by kernel_rfl) ?_
  simp only [List.take_succ_cons, List.take_zero, List.drop_succ_cons, List.drop_zero]
  refine wpG_put rfl (v := .pointer (some ⟨g, 0, none⟩)) (fun w => by first | rfl | (go_simp; done)) ?_
  refine wpG_put rfl (v := .pointer (some ⟨g, 0, none⟩)) (fun w => by first | rfl | (go_simp; done)) ?_
  refine wpG_put rfl (v := .pointer (some ⟨g, 0, none⟩)) (fun w => by first | rfl | (go_simp; done)) ?_
  simp only [Act.put, List.setIfInBounds_toArray, List.set_cons_succ, List.set_cons_zero]
  refine wpG_load1 rfl 3 _ rfl rfl G1 (v := .int .i64 (x : Int)) rfl ld3 ?_
  simp only [Act.put, List.setIfInBounds_toArray, List.set_cons_succ, List.set_cons_zero]
  refine wpG_put rfl (v := .pointer (some ⟨g, 0, none⟩)) (fun w => by first | rfl | (go_simp; done)) ?_
  refine wpG_put rfl (v := .pointer (some ⟨g, 0, none⟩)) (fun w => by first | rfl | (go_simp; done)) ?_
  refine wpG_put rfl (v := .pointer (some ⟨g, 1, none⟩)) (fun w => by first | rfl | (go_simp; done)) ?_
  simp only [Act.put, List.setIfInBounds_toArray, List.set_cons_succ, List.set_cons_zero]
  refine wpG_load1 rfl 3 _ rfl rfl G1 (v := .int .i64 (y : Int)) rfl ld3 ?_
  simp only [Act.put, List.setIfInBounds_toArray, List.set_cons_succ, List.set_cons_zero]
  refine wpG_put rfl (v := .pointer (some ⟨g, 0, none⟩)) (fun w => by first | rfl | (go_simp; done)) ?_
  refine wpG_put rfl (v := .pointer (some ⟨g, 0, none⟩)) (fun w => by first | rfl | (go_simp; done)) ?_
  refine wpG_put rfl (v := .pointer (some ⟨g, 2, none⟩)) (fun w => by first | rfl | (go_simp; done)) ?_
  simp only [Act.put, List.setIfInBounds_toArray, List.set_cons_succ, List.set_cons_zero]
  refine wpG_load1 rfl 28 _ rfl rfl G1 (v := .iface 48 (.int .i64 (e : Int))) rfl ld26 ?_
  simp only [Act.put, List.setIfInBounds_toArray, List.set_cons_succ, List.set_cons_zero]
  refine wpG_call rfl (f := 18) (args := #[.iface 48 (.int .i64 (e : Int))]) (v := .int .i64 (e : Int)) (fun w _ => (number_errno (e : Int) w).mono fun _ _ ⟨h1, h2⟩ => ⟨h1, by rw [h2]; exact Below.refl _ _⟩) (fun w => by first | rfl | (go_simp; done)) ?_
  simp only [Act.put, List.setIfInBounds_toArray, List.set_cons_succ, List.set_cons_zero]
  refine wpG_put rfl (v := .agg #[.int .i64 (x : Int), .int .i64 (y : Int), .int .i64 (e : Int)]) (fun w => by first | rfl | (go_simp; done)) ?_
  simp only [Act.put, List.setIfInBounds_toArray, List.set_cons_succ, List.set_cons_zero]
  refine wpG_nil ?_
  intro W5 B5
  have N5 := N2.grown B5
  have B6 := Below.then B1 B5
  clear N2 B5 B1 G1
  go_wp2_with (first
    | (refine wpList_storeS rfl 32 _ _ rfl rfl (fL ((x : Int), (y : Int), (e : Int))) rfl N5 (by simp [fL]) info30 (fL_one _) ?_; intro V9 U9 NZx; have NZ : IsS V9 b2 32 (fL ((x : Int), (y : Int), (e : Int))) := NZx; have BZ := U9.trans B6 hb2; clear U9 N5 B6 NZx))
  exact ret_S rfl rfl rfl NZ _ Tryd.underlying32 rfl info30 ⟨rfl, BZ⟩
theorem seen_any (st : LS) (ev : Value) (w : World) (h : ErrI st.rd ev w) : Calls Tryd.prog 14 #[ev] w fun en w' => en = .returned (.agg (fL st.F).toArray) ∧ Below w.heap.size w w' := by
  cases st with
  | ok p => have h' : ev = .nilIface := h; subst h'; exact seen_none w
  | bad x y e => obtain ⟨g, rfl, hg⟩ := (show ErrV (.pos x y e) ev w from h); exact seen_pos g x y e w hg
  | long => have h' : ev = .iface 48 (.int .i64 1) := h; subst h'; exact seen_errno 1 w
end Go.Proofs.YtopnbemodlcknaaDoor.Lx
/- The reference's Next by steps; New. -/
namespace Go.Proofs.YtopnbemodlcknaaDoor.Lx
open Go.RowKit M
set_option linter.unusedSimpArgs false
set_option linter.unusedVariables false

/-- The reference's lexer of a text, at a state. -/
def RLex (w : World) (b : Nat) (s : ByteArray) : LS → Prop
  | .ok p => ∃ f, f ≤ p ∧ IsS w b 68 (rlexL s p (0, 0, 0) f (spotF (1, 1) (s.data.toList.take f)))
  | .bad x y e => ∃ p f q, IsS w b 68 (rlexL s p ((x : Int), (y : Int), (e : Int)) f q)
  | .long => ∃ p f q, IsS w b 68 (rlexL s p (-1, 0, 1) f q)
theorem RLex.lt {w : World} {b : Nat} {s : ByteArray} {st : LS} (h : RLex w b s st) : b < w.heap.size := by
  cases st with
  | ok p => obtain ⟨_, _, h⟩ := h; exact h.lt
  | bad x y e => obtain ⟨_, _, _, h⟩ := h; exact h.lt
  | long => obtain ⟨_, _, _, h⟩ := h; exact h.lt
theorem RLex.move {w W : World} {b : Nat} {s : ByteArray} {st : LS} (h : RLex w b s st) (hk : ∀ o, w.heap[b]? = some o → W.heap[b]? = some o) : RLex W b s st := by
  cases st with
  | ok p => obtain ⟨f, hf, h⟩ := h; exact ⟨f, hf, hk _ h⟩
  | bad x y e => obtain ⟨p, f, q, h⟩ := h; exact ⟨p, f, q, hk _ h⟩
  | long => obtain ⟨p, q, e, h⟩ := h; exact ⟨p, q, e, hk _ h⟩
theorem RLex.turnL {w W : World} {b b' : Nat} {s : ByteArray} {st : LS} (h : RLex w b s st) (T : Turn w W b') (hb : b ≠ b') : RLex W b s st := h.move fun o ho => (T.block b h.lt hb).trans ho
theorem RLex.grown {w W : World} {b : Nat} {s : ByteArray} {st : LS} (h : RLex w b s st) (B : Below w.heap.size w W) : RLex W b s st := h.move fun o ho => (B.block b h.lt).trans ho
theorem RLex.upd {w W : World} {b b' : Nat} {s : ByteArray} {st : LS} (h : RLex w b s st) (U : Upd w W b') (hb : b ≠ b') : RLex W b s st := h.move fun o ho => (U.block b hb).trans ho
theorem rnewS_any (s : ByteArray) (hs : s.size < 4611686018427387904) (w : World) : Calls Tryd.prog 16 #[.string s] w fun e w' => (∃ b, e = .returned (.pointer (some ⟨b, 0, none⟩)) ∧ w.heap.size ≤ b ∧ RLex w' b s (LS.start s.data.toList)) ∧ Below w.heap.size w w' := by
  refine (rnew_any s hs w).mono ?_
  rintro e w' ⟨⟨b, rfl, hb, h⟩, B⟩
  refine ⟨⟨b, rfl, hb, ?_⟩, B⟩
  unfold LS.start
  rw [sizeL] at h
  split
  · rename_i hl
    rw [if_pos hl] at h
    exact ⟨_, _, _, h⟩
  · rename_i hl
    rw [if_neg hl] at h
    exact ⟨0, Nat.le_refl _, h⟩
theorem rnextS_any (s : ByteArray) (b : Nat) (st st' : LS) (t : Tok) (hg : st.good s.data.toList) (hst : Step s.data.toList st st' t) (w : World) (hL : RLex w b s st) :
    Calls Tryd.prog 17 #[.pointer (some ⟨b, 0, none⟩)] w fun en w' => en = .returned (.tuple #[tokV t, .agg (fL st'.F).toArray]) ∧ RLex w' b s st' ∧ Turn w w' b := by
  cases hst with
  | long =>
    obtain ⟨p, f, q, h⟩ := hL
    refine (rnext_bad s b p f q (-1) 0 1 (by decide) w h).mono ?_
    rintro en w' ⟨⟨rfl, K⟩, T⟩
    exact ⟨rfl, ⟨p, f, q, K⟩, T⟩
  | bad x y e =>
    obtain ⟨p, f, q, h⟩ := hL
    refine (rnext_bad s b p f q x y e (by have := hg.1; omega) w h).mono ?_
    rintro en w' ⟨⟨rfl, K⟩, T⟩
    exact ⟨rfl, ⟨p, f, q, K⟩, T⟩
  | com p n m z1 z2 hn hc hm hz =>
    obtain ⟨f, hf, h⟩ := hL
    have h2 : s.size ≤ 1048576 := (by have := hg.2; rw [← sizeL] at this; exact this)
    have h1 : p ≤ s.size := (by have := hg.1; rw [← sizeL] at this; exact this)
    refine (rnext_com s h2 b p f hf n m h1 hn hc hm z1 z2 hz w h).mono ?_
    rintro en w' ⟨⟨rfl, K⟩, T⟩
    exact ⟨rfl, K, T⟩
  | fin p n m z1 z2 hn hc hm hz he =>
    obtain ⟨f, hf, h⟩ := hL
    have h2 : s.size ≤ 1048576 := (by have := hg.2; rw [← sizeL] at this; exact this)
    have h1 : p ≤ s.size := (by have := hg.1; rw [← sizeL] at this; exact this)
    refine (rnext_end s h2 b p f hf n m h1 hn hc hm z1 z2 hz (by rw [he, ← sizeL]) w h).mono ?_
    rintro en w' ⟨⟨rfl, K⟩, T⟩
    exact ⟨rfl, K, T⟩
  | tok p n m z1 z2 kd tx vl ln k hn hc hm hz he hC hk =>
    obtain ⟨f, hf, h⟩ := hL
    have h2 : s.size ≤ 1048576 := (by have := hg.2; rw [← sizeL] at this; exact this)
    have h1 : p ≤ s.size := (by have := hg.1; rw [← sizeL] at this; exact this)
    refine (rnext_tok s h2 b p f hf n m h1 hn hc hm z1 z2 hz (by rw [← sizeL] at he; exact he) kd tx vl ln k hC hk w h).mono ?_
    rintro en w' ⟨⟨rfl, K⟩, T⟩
    exact ⟨rfl, K, T⟩
  | wrong p n m z1 z2 kd tx vl ln wr k u1 u2 hn hc hm hz he hC hw hk hu =>
    obtain ⟨f, hf, h⟩ := hL
    have h2 : s.size ≤ 1048576 := (by have := hg.2; rw [← sizeL] at this; exact this)
    have h1 : p ≤ s.size := (by have := hg.1; rw [← sizeL] at this; exact this)
    refine (rnext_wrong s h2 b p f hf n m h1 hn hc hm z1 z2 hz (by rw [← sizeL] at he; exact he) kd tx vl ln wr k u1 u2 hC hw hk hu w h).mono ?_
    rintro en w' ⟨⟨rfl, K⟩, T⟩
    exact ⟨rfl, K, T⟩
end Go.Proofs.YtopnbemodlcknaaDoor.Lx

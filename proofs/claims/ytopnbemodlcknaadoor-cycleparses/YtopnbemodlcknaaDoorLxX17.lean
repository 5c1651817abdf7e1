/- Next, where a piece is cut. -/
import Derived.Test.YtopnbemodlcknaaDoorLxX16
namespace Go.Proofs.YtopnbemodlcknaaDoor.Lx
open Go.RowKit M
set_option linter.unusedSimpArgs false
set_option linter.unusedVariables false

set_option maxRecDepth 100000 in
set_option maxHeartbeats 2000000 in
theorem next_wrong (s : ByteArray) (hs : s.size ≤ 1048576) (b p x y : Nat) (n z1 z2 : Nat) (hp : p ≤ s.size) (hx : x < 2305843009213693952) (hy : y < 2305843009213693952) (hn : (blkF (s.data.toList.drop p)).1 = n) (hcl : (blkF (s.data.toList.drop p)).2 = true) (hq : spotF (x, y) ((s.data.toList.drop p).take n) = (z1, z2)) (m : Nat) (hm : p + n = m) (hlt : m < s.size) (kd : Nat) (tx : List UInt8) (vl : Int) (ln wr u1 u2 k : Nat) (hC : cutF (s.data.toList.drop m) = ⟨kd, tx, vl, ln, wr⟩) (hu : spotF (z1, z2) ((s.data.toList.drop m).take ln) = (u1, u2)) (hk : m + ln = k) (hz1 : z1 < 2305843009213693952) (hz2 : z2 < 2305843009213693952) (hwr : wr ≠ 0) (w : World) (hL : IsS w b 78 (lexL s p (x, y) 0)) :
    Calls Tryd.prog 21 #[.pointer (some ⟨b, 0, none⟩)] w fun en w' => ((∃ g, en = .returned (.tuple #[tokV noTok, .iface 47 (.pointer (some ⟨g, 0, none⟩))]) ∧ w.heap.size ≤ g ∧ IsS w' g 50 (faultL u1 u2 wr)) ∧ IsS w' b 78 (lexL s k (u1, u2) wr)) ∧ Turn w w' b := by
  have cS : ∀ w, IsS w b 78 (lexL s p (x, y) 0) → Calls Tryd.prog 26 #[.pointer (some ⟨b, 0, none⟩)] w fun en w' => en = .returned (.tuple #[]) ∧ IsS w' b 78 (lexL s m (z1, z2) 0) ∧ Turn w w' b := fun w h => by
    have := skip_any s (by omega) b p x y hp hx hy w h
    rw [hcl, hn, hq, hm] at this
    exact this
  have hi : ¬ (1048576 : Int) < s.size := by omega
  clear hn hcl hq hm
  have hen : ((m : Int) == s.size) = false := by simp; omega
  have hme : (m : Int) ≤ s.size := by omega
  have cC : ∀ w, Calls Tryd.prog 28 #[.string (s.extract m s.size)] w fun e w' => e = .returned (.agg (pieceL ⟨kd, tx, vl, ln, wr⟩).toArray) ∧ Below w.heap.size w w' := fun w => by
    have := cut_any5 (s.extract m s.size) (by rw [ByteArray.size_extract]; omega) (by rw [ByteArray.size_extract]; omega) w
    rw [exD, hC] at this
    exact this
  have hln : ln ≤ s.size - m := (by have := cutF_le (s.data.toList.drop m); rw [hC, List.length_drop, ← sizeL] at this; exact this)
  have HM : Hid (∀ w, IsS w b 78 (lexL s m (z1, z2) 0) → Calls Tryd.prog 29 #[.pointer (some ⟨b, 0, none⟩), .int .i64 ((m : Int) + ln)] w fun en w' => en = .returned (.tuple #[]) ∧ IsS w' b 78 (lexL s k (u1, u2) 0) ∧ Turn w w' b) := fun w h => by
    have := move_any s (by omega) b m (m + ln) z1 z2 0 (by omega) (by omega) hz1 hz2 w h
    rw [take_drop_add, hu, Int.natCast_add, hk] at this
    exact this
  have hw64 : IntKind.i64.wrap ((m : Int) + ln) = (m : Int) + ln := by rw [IntKind.wrap_i64]; omega
  clear hC hu hk
  have hwz : ((wr : Int) == 0) = false := by simp; omega
  go_enter Tryd.func21, Tryd.ntmps21
  go_wp2_with (first
    | (refine wpList_allocS rfl 44 rfl (tokL noTok) Tryd.zeroValue44 ?_; intro W1 b2 F1 N1; have hb2 : w.heap.size ≤ b2 := Nat.le_of_eq F1.at'.symm; have hne : b2 ≠ b := (by have := hL.lt; omega); have K1 := hL.fresh F1; have T1 := Turn.of_below (F1.trans (Below.refl _ _) (Nat.le_refl _)) b; clear F1; have c0 : W1.cell? ⟨b, 0, none⟩ = some (.string s) := K1.cell 0; have c4 : W1.cell? ⟨b, 4, none⟩ = some (.int .i64 (0 : Int)) := K1.cell 4)
    | (go_at_call 26; refine (cS _ K1).mono ?_; rintro en W2 ⟨rfl, K2, T2⟩; have N2 := N1.turnL T2 hne; have T3 := T1.trans T2; clear T1 T2 N1 K1 c0 c4; have d4 : W2.cell? ⟨b, 4, none⟩ = some (.int .i64 (0 : Int)) := K2.cell 4))
  refine grow_make 19 _ (MadeS 44 (tokL noTok) W2) (by kernel_rfl) (by kernel_rfl) rfl rfl (madeS_grown _ _ W2) (madeS_make _ _ Tryd.zeroValue44 rfl W2) ?_
  simp only [List.take_succ_cons, List.take_zero, List.drop_succ_cons, List.drop_zero]
  refine wpG_put rfl (v := .pointer (some ⟨b, 0, none⟩)) (fun w => by first | rfl | (go_simp; done)) ?_
  refine wpG_put rfl (v := .pointer (some ⟨b, 0, none⟩)) (fun w => by first | rfl | (go_simp; done)) ?_
  refine wpG_put rfl (v := .pointer (some ⟨b, 2, none⟩)) (fun w => by first | rfl | (go_simp; done)) ?_
  simp only [Act.put, List.setIfInBounds_toArray, List.set_cons_succ, List.set_cons_zero]
  refine wpG_put rfl (v := .pointer (some ⟨b, 2, none⟩)) (fun w => by first | rfl | (go_simp; done)) ?_
  refine wpG_load1 rfl 3 _ rfl rfl K2 (v := .int .i64 (z1 : Int)) rfl ld3 ?_
  simp only [Act.put, List.setIfInBounds_toArray, List.set_cons_succ, List.set_cons_zero]
  refine wpG_put rfl (v := .pointer (some ⟨b, 0, none⟩)) (fun w => by first | rfl | (go_simp; done)) ?_
  refine wpG_put rfl (v := .pointer (some ⟨b, 0, none⟩)) (fun w => by first | rfl | (go_simp; done)) ?_
  refine wpG_put rfl (v := .pointer (some ⟨b, 2, none⟩)) (fun w => by first | rfl | (go_simp; done)) ?_
  simp only [Act.put, List.setIfInBounds_toArray, List.set_cons_succ, List.set_cons_zero]
  refine wpG_put rfl (v := .pointer (some ⟨b, 3, none⟩)) (fun w => by first | rfl | (go_simp; done)) ?_
  refine wpG_load1 rfl 3 _ rfl rfl K2 (v := .int .i64 (z2 : Int)) rfl ld3 ?_
  simp only [Act.put, List.setIfInBounds_toArray, List.set_cons_succ, List.set_cons_zero]
  refine wpG_put rfl (v := .pointer (some ⟨b, 0, none⟩)) (fun w => by first | rfl | (go_simp; done)) ?_
  refine wpG_put rfl (v := .pointer (some ⟨b, 0, none⟩)) (fun w => by first | rfl | (go_simp; done)) ?_
  refine wpG_put rfl (v := .pointer (some ⟨b, 1, none⟩)) (fun w => by first | rfl | (go_simp; done)) ?_
  simp only [Act.put, List.setIfInBounds_toArray, List.set_cons_succ, List.set_cons_zero]
  refine wpG_load1 rfl 3 _ rfl rfl K2 (v := .int .i64 (m : Int)) rfl ld3 ?_
  simp only [Act.put, List.setIfInBounds_toArray, List.set_cons_succ, List.set_cons_zero]
  refine wpG_put rfl (v := .pointer (some ⟨b, 0, none⟩)) (fun w => by first | rfl | (go_simp; done)) ?_
  refine wpG_put rfl (v := .pointer (some ⟨b, 0, none⟩)) (fun w => by first | rfl | (go_simp; done)) ?_
  refine wpG_put rfl (v := .pointer (some ⟨b, 1, none⟩)) (fun w => by first | rfl | (go_simp; done)) ?_
  simp only [Act.put, List.setIfInBounds_toArray, List.set_cons_succ, List.set_cons_zero]
  refine wpG_load1 rfl 3 _ rfl rfl K2 (v := .int .i64 (m : Int)) rfl ld3 ?_
  simp only [Act.put, List.setIfInBounds_toArray, List.set_cons_succ, List.set_cons_zero]
  refine wpG_put rfl (v := .agg #[.int .i64 0, .string ⟨#[]⟩, .int .i64 0, .int .i64 (z1 : Int), .int .i64 (z2 : Int), .int .i64 (m : Int), .int .i64 (m : Int)]) (fun w => by first | rfl | (go_simp; done)) ?_
  simp only [Act.put, List.setIfInBounds_toArray, List.set_cons_succ, List.set_cons_zero]
  refine wpG_nil ?_
  rintro v W3 ⟨B3, b4, rfl, hb4, M3⟩
  simp only [Act.put, List.setIfInBounds_toArray, List.set_cons_succ, List.set_cons_zero]
  have hb4w : w.heap.size ≤ b4 := Nat.le_trans T3.size hb4
  have h42 : b2 ≠ b4 := (by have := N2.lt; omega)
  have h4b : b ≠ b4 := (by have := K2.lt; omega)
  have N3 := N2.grown B3
  have K3 := K2.grown B3
  have T4 := T3.grow B3
  clear N2 K2 T3 d4 B3
  refine wpList_storeS rfl 44 _ _ rfl rfl (tokL ⟨0, [], 0, z1, z2, m, m⟩) rfl M3 (by simp [tokL, noTok]) info38 (tok_one _) ?_
  intro W4 U4 M4x
  have M4 : IsS W4 b4 44 (tokL ⟨0, [], 0, z1, z2, m, m⟩) := M4x
  clear M4x
  have N4 := N3.upd U4 h42
  have K4 := K3.upd U4 h4b
  have T5 := T4.upd hb4w U4
  clear U4 N3 K3 T4 M3
  have f0 : W4.cell? ⟨b, 0, none⟩ = some (.string s) := K4.cell 0
  have f1 : W4.cell? ⟨b, 1, none⟩ = some (.int .i64 (m : Int)) := K4.cell 1
  go_wp2_with fail
  go_quiet (fail)
  have N5 : IsS (W4.drewN nq) b2 44 (tokL noTok) := N4
  have K5 : IsS (W4.drewN nq) b 78 (lexL s m (z1, z2) 0) := K4
  have M5 : IsS (W4.drewN nq) b4 44 (tokL ⟨0, [], 0, z1, z2, m, m⟩) := M4
  have T6 : Turn w (W4.drewN nq) b := T5.drewN nq
  clear N4 K4 M4 T5 f0 f1
  obtain ⟨W5, hW5⟩ : ∃ W, W4.drewN nq = W := ⟨_, rfl⟩
  rw [hW5] at N5 K5 M5 T6 ⊢
  clear hW5
  go_wp2_with fail
  refine grow_make 10 _ (MadeS 81 [.int .i64 0, .string ⟨#[]⟩, .int .i64 0, .int .i64 0, .int .i64 0] W5) (by kernel_rfl) (by kernel_rfl) rfl rfl (madeS_grown _ _ W5) (madeS_make _ _ Tryd.zeroValue81 rfl W5) ?_
  simp only [List.take_succ_cons, List.take_zero, List.drop_succ_cons, List.drop_zero]
  refine wpG_put rfl (v := .pointer (some ⟨b, 0, none⟩)) (fun w => by first | rfl | (go_simp; done)) ?_
  refine wpG_put rfl (v := .pointer (some ⟨b, 0, none⟩)) (fun w => by first | rfl | (go_simp; done)) ?_
  refine wpG_put rfl (v := .pointer (some ⟨b, 0, none⟩)) (fun w => by first | rfl | (go_simp; done)) ?_
  simp only [Act.put, List.setIfInBounds_toArray, List.set_cons_succ, List.set_cons_zero]
  refine wpG_load1 rfl 9 _ rfl rfl K5 (v := .string s) rfl ld9 ?_
  refine wpG_put rfl (v := .pointer (some ⟨b, 0, none⟩)) (fun w => by first | rfl | (go_simp; done)) ?_
  refine wpG_put rfl (v := .pointer (some ⟨b, 0, none⟩)) (fun w => by first | rfl | (go_simp; done)) ?_
  simp only [Act.put, List.setIfInBounds_toArray, List.set_cons_succ, List.set_cons_zero]
  refine wpG_put rfl (v := .pointer (some ⟨b, 1, none⟩)) (fun w => by first | rfl | (go_simp; done)) ?_
  refine wpG_load1 rfl 3 _ rfl rfl K5 (v := .int .i64 (m : Int)) rfl ld3 ?_
  simp only [Act.put, List.setIfInBounds_toArray, List.set_cons_succ, List.set_cons_zero]
  refine wpG_put rfl (v := .string (s.extract m s.size)) (fun w => by first | rfl | (go_simp; done)) ?_
  refine wpG_call rfl (fun w _ => cC w) (fun w => by first | rfl | (go_simp; done)) ?_
  simp only [Act.put, List.setIfInBounds_toArray, List.set_cons_succ, List.set_cons_zero]
  refine wpG_nil ?_
  rintro v W6 ⟨B6, b5, rfl, hb5, Q6⟩
  simp only [Act.put, List.setIfInBounds_toArray, List.set_cons_succ, List.set_cons_zero]
  have hb5w : w.heap.size ≤ b5 := Nat.le_trans T6.size hb5
  have h52 : b2 ≠ b5 := (by have := N5.lt; omega)
  have h5b : b ≠ b5 := (by have := K5.lt; omega)
  have h54 : b4 ≠ b5 := (by have := M5.lt; omega)
  have N6 := N5.grown B6
  have K6 := K5.grown B6
  have M6 := M5.grown B6
  have T7 := T6.grow B6
  clear N5 K5 M5 T6 B6 cC hb5
  refine wpList_storeS rfl 81 _ _ rfl rfl (pieceL ⟨kd, tx, vl, ln, wr⟩) rfl Q6 (by simp [pieceL]) info75 (piece_one _) ?_
  intro W7 U7 Q7x
  have Q7 : IsS W7 b5 81 (pieceL ⟨kd, tx, vl, ln, wr⟩) := Q7x
  have N7 := N6.upd U7 h52
  have K7 := K6.upd U7 h5b
  have M7 := M6.upd U7 h54
  have T8 := T7.upd hb5w U7
  clear U7 N6 K6 M6 T7 Q6 Q7x
  go_wp2_with fail
  refine grow_tail 8 (by kernel_rfl) (by kernel_rfl) ?_
  simp only [List.take_succ_cons, List.take_zero, List.drop_succ_cons, List.drop_zero]
  refine wpG_put rfl (v := .pointer (some ⟨b, 0, none⟩)) (fun w => by first | rfl | (go_simp; done)) ?_
  refine wpG_put rfl (v := .pointer (some ⟨b, 0, none⟩)) (fun w => by first | rfl | (go_simp; done)) ?_
  refine wpG_put rfl (v := .pointer (some ⟨b, 0, none⟩)) (fun w => by first | rfl | (go_simp; done)) ?_
  simp only [Act.put, List.setIfInBounds_toArray, List.set_cons_succ, List.set_cons_zero]
  refine wpG_put rfl (v := .pointer (some ⟨b, 1, none⟩)) (fun w => by first | rfl | (go_simp; done)) ?_
  refine wpG_load1 rfl 3 _ rfl rfl K7 (v := .int .i64 (m : Int)) rfl ld3 ?_
  simp only [Act.put, List.setIfInBounds_toArray, List.set_cons_succ, List.set_cons_zero]
  refine wpG_put rfl (v := .pointer (some ⟨b5, 3, none⟩)) (fun w => by first | rfl | (go_simp; done)) ?_
  refine wpG_load1 rfl 3 _ rfl rfl Q7 (v := .int .i64 (ln : Int)) rfl ld3 ?_
  simp only [Act.put, List.setIfInBounds_toArray, List.set_cons_succ, List.set_cons_zero]
  refine wpG_put rfl (v := .int .i64 ((m : Int) + ln)) (fun w => by first | rfl | (go_simp; done) | (go_simp; simp [hw64]; done) | (simp [go_sem, hw64]; done)) ?_
  simp only [Act.put, List.setIfInBounds_toArray, List.set_cons_succ, List.set_cons_zero]
  refine wpG_nil ?_
  intro W8 B8
  have N8 := N7.grown B8
  have K8 := K7.grown B8
  have M8 := M7.grown B8
  have Q8 := Q7.grown B8
  have T9 := T8.grow B8
  clear N7 K7 M7 Q7 T8 B8
  go_wp2_with (first
    | (go_at_call 29; refine (HM.out _ K8).mono ?_; rintro en WA ⟨rfl, KA, TA⟩; have NA := N8.turnL TA hne; have MA := M8.turnL TA (Ne.symm h4b); have QA := Q8.turnL TA (Ne.symm h5b); have TB := T9.trans TA; clear TA N8 M8 Q8 T9 K8; have e4 : WA.cell? ⟨b5, 4, none⟩ = some (.int .i64 (wr : Int)) := QA.cell 4)
    | (refine wpList_store1 rfl 48 _ _ rfl rfl (.int .i64 (wr : Int)) rfl KA (by simp [lexL]) infoE rfl ?_; intro WC UC KCx; have KC : IsS WC b 78 (lexL s k (u1, u2) wr) := KCx; have NC := NA.upd UC hne; have TC := TB.trans (Turn.of_upd UC); clear UC KCx NA TB KA MA QA e4)
    | (go_at_call 27; refine (fault_any s b _ _ _ _ _ KC).mono ?_; rintro en WF ⟨⟨g, rfl, hg, NG⟩, BF⟩; have NF := NC.grown BF; have KF := KC.grown BF; have TF := TC.grow BF; have hgw : w.heap.size ≤ g := Nat.le_trans TC.size hg; have hgb : g ≠ b2 := (by have := NC.lt; omega); clear BF hg NC KC TC)
    | (refine wpList_storeS rfl 44 _ _ rfl rfl (tokL noTok) rfl NF (by simp [tokL]) info38 (tok_one noTok) ?_; intro W9 U9 NZ; have TZ := TF.upd hb2 U9; have KZ := KF.upd U9 (Ne.symm hne); have GZ := NG.upd U9 hgb; clear U9 NF KF TF NG))
  exact ret_ST rfl rfl rfl NZ _ Tryd.underlying44 rfl info38 _ rfl ⟨⟨⟨g, rfl, hgw, GZ⟩, KZ⟩, TZ⟩

set_option maxRecDepth 100000 in
set_option maxHeartbeats 2000000 in
theorem next_tok (s : ByteArray) (hs : s.size ≤ 1048576) (b p x y : Nat) (n z1 z2 : Nat) (hp : p ≤ s.size) (hx : x < 2305843009213693952) (hy : y < 2305843009213693952) (hn : (blkF (s.data.toList.drop p)).1 = n) (hcl : (blkF (s.data.toList.drop p)).2 = true) (hq : spotF (x, y) ((s.data.toList.drop p).take n) = (z1, z2)) (m : Nat) (hm : p + n = m) (hlt : m < s.size) (kd : Nat) (tx : List UInt8) (vl : Int) (ln wr u1 u2 k : Nat) (hC : cutF (s.data.toList.drop m) = ⟨kd, tx, vl, ln, wr⟩) (hu : spotF (z1, z2) ((s.data.toList.drop m).take ln) = (u1, u2)) (hk : m + ln = k) (hz1 : z1 < 2305843009213693952) (hz2 : z2 < 2305843009213693952) (hwr : wr = 0) (w : World) (hL : IsS w b 78 (lexL s p (x, y) 0)) :
    Calls Tryd.prog 21 #[.pointer (some ⟨b, 0, none⟩)] w fun en w' => (en = .returned (.tuple #[tokV ⟨kd, tx, vl, z1, z2, m, k⟩, .nilIface]) ∧ IsS w' b 78 (lexL s k (u1, u2) 0)) ∧ Turn w w' b := by
  have cS : ∀ w, IsS w b 78 (lexL s p (x, y) 0) → Calls Tryd.prog 26 #[.pointer (some ⟨b, 0, none⟩)] w fun en w' => en = .returned (.tuple #[]) ∧ IsS w' b 78 (lexL s m (z1, z2) 0) ∧ Turn w w' b := fun w h => by
    have := skip_any s (by omega) b p x y hp hx hy w h
    rw [hcl, hn, hq, hm] at this
    exact this
  have hi : ¬ (1048576 : Int) < s.size := by omega
  clear hn hcl hq hm
  have hen : ((m : Int) == s.size) = false := by simp; omega
  have hme : (m : Int) ≤ s.size := by omega
  have cC : ∀ w, Calls Tryd.prog 28 #[.string (s.extract m s.size)] w fun e w' => e = .returned (.agg (pieceL ⟨kd, tx, vl, ln, wr⟩).toArray) ∧ Below w.heap.size w w' := fun w => by
    have := cut_any5 (s.extract m s.size) (by rw [ByteArray.size_extract]; omega) (by rw [ByteArray.size_extract]; omega) w
    rw [exD, hC] at this
    exact this
  have hln : ln ≤ s.size - m := (by have := cutF_le (s.data.toList.drop m); rw [hC, List.length_drop, ← sizeL] at this; exact this)
  have HM : Hid (∀ w, IsS w b 78 (lexL s m (z1, z2) 0) → Calls Tryd.prog 29 #[.pointer (some ⟨b, 0, none⟩), .int .i64 ((m : Int) + ln)] w fun en w' => en = .returned (.tuple #[]) ∧ IsS w' b 78 (lexL s k (u1, u2) 0) ∧ Turn w w' b) := fun w h => by
    have := move_any s (by omega) b m (m + ln) z1 z2 0 (by omega) (by omega) hz1 hz2 w h
    rw [take_drop_add, hu, Int.natCast_add, hk] at this
    exact this
  have hw64 : IntKind.i64.wrap ((m : Int) + ln) = (m : Int) + ln := by rw [IntKind.wrap_i64]; omega
  clear hC hu hk
  subst hwr
  go_enter Tryd.func21, Tryd.ntmps21
  go_wp2_with (first
    | (refine wpList_allocS rfl 44 rfl (tokL noTok) Tryd.zeroValue44 ?_; intro W1 b2 F1 N1; have hb2 : w.heap.size ≤ b2 := Nat.le_of_eq F1.at'.symm; have hne : b2 ≠ b := (by have := hL.lt; omega); have K1 := hL.fresh F1; have T1 := Turn.of_below (F1.trans (Below.refl _ _) (Nat.le_refl _)) b; clear F1; have c0 : W1.cell? ⟨b, 0, none⟩ = some (.string s) := K1.cell 0; have c4 : W1.cell? ⟨b, 4, none⟩ = some (.int .i64 (0 : Int)) := K1.cell 4)
    | (go_at_call 26; refine (cS _ K1).mono ?_; rintro en W2 ⟨rfl, K2, T2⟩; have N2 := N1.turnL T2 hne; have T3 := T1.trans T2; clear T1 T2 N1 K1 c0 c4; have d4 : W2.cell? ⟨b, 4, none⟩ = some (.int .i64 (0 : Int)) := K2.cell 4))
  refine grow_make 19 _ (MadeS 44 (tokL noTok) W2) (by kernel_rfl) (by kernel_rfl) rfl rfl (madeS_grown _ _ W2) (madeS_make _ _ Tryd.zeroValue44 rfl W2) ?_
  simp only [List.take_succ_cons, List.take_zero, List.drop_succ_cons, List.drop_zero]
  refine wpG_put rfl (v := .pointer (some ⟨b, 0, none⟩)) (fun w => by first | rfl | (go_simp; done)) ?_
  refine wpG_put rfl (v := .pointer (some ⟨b, 0, none⟩)) (fun w => by first | rfl | (go_simp; done)) ?_
  refine wpG_put rfl (v := .pointer (some ⟨b, 2, none⟩)) (fun w => by first | rfl | (go_simp; done)) ?_
  simp only [Act.put, List.setIfInBounds_toArray, List.set_cons_succ, List.set_cons_zero]
  refine wpG_put rfl (v := .pointer (some ⟨b, 2, none⟩)) (fun w => by first | rfl | (go_simp; done)) ?_
  refine wpG_load1 rfl 3 _ rfl rfl K2 (v := .int .i64 (z1 : Int)) rfl ld3 ?_
  simp only [Act.put, List.setIfInBounds_toArray, List.set_cons_succ, List.set_cons_zero]
  refine wpG_put rfl (v := .pointer (some ⟨b, 0, none⟩)) (fun w => by first | rfl | (go_simp; done)) ?_
  refine wpG_put rfl (v := .pointer (some ⟨b, 0, none⟩)) (fun w => by first | rfl | (go_simp; done)) ?_
  refine wpG_put rfl (v := .pointer (some ⟨b, 2, none⟩)) (fun w => by first | rfl | (go_simp; done)) ?_
  simp only [Act.put, List.setIfInBounds_toArray, List.set_cons_succ, List.set_cons_zero]
  refine wpG_put rfl (v := .pointer (some ⟨b, 3, none⟩)) (fun w => by first | rfl | (go_simp; done)) ?_
  refine wpG_load1 rfl 3 _ rfl rfl K2 (v := .int .i64 (z2 : Int)) rfl ld3 ?_
  simp only [Act.put, List.setIfInBounds_toArray, List.set_cons_succ, List.set_cons_zero]
  refine wpG_put rfl (v := .pointer (some ⟨b, 0, none⟩)) (fun w => by first | rfl | (go_simp; done)) ?_
  refine wpG_put rfl (v := .pointer (some ⟨b, 0, none⟩)) (fun w => by first | rfl | (go_simp; done)) ?_
  refine wpG_put rfl (v := .pointer (some ⟨b, 1, none⟩)) (fun w => by first | rfl | (go_simp; done)) ?_
  simp only [Act.put, List.setIfInBounds_toArray, List.set_cons_succ, List.set_cons_zero]
  refine wpG_load1 rfl 3 _ rfl rfl K2 (v := .int .i64 (m : Int)) rfl ld3 ?_
  simp only [Act.put, List.setIfInBounds_toArray, List.set_cons_succ, List.set_cons_zero]
  refine wpG_put rfl (v := .pointer (some ⟨b, 0, none⟩)) (fun w => by first | rfl | (go_simp; done)) ?_
  refine wpG_put rfl (v := .pointer (some ⟨b, 0, none⟩)) (fun w => by first | rfl | (go_simp; done)) ?_
  refine wpG_put rfl (v := .pointer (some ⟨b, 1, none⟩)) (fun w => by first | rfl | (go_simp; done)) ?_
  simp only [Act.put, List.setIfInBounds_toArray, List.set_cons_succ, List.set_cons_zero]
  refine wpG_load1 rfl 3 _ rfl rfl K2 (v := .int .i64 (m : Int)) rfl ld3 ?_
  simp only [Act.put, List.setIfInBounds_toArray, List.set_cons_succ, List.set_cons_zero]
  refine wpG_put rfl (v := .agg #[.int .i64 0, .string ⟨#[]⟩, .int .i64 0, .int .i64 (z1 : Int), .int .i64 (z2 : Int), .int .i64 (m : Int), .int .i64 (m : Int)]) (fun w => by first | rfl | (go_simp; done)) ?_
  simp only [Act.put, List.setIfInBounds_toArray, List.set_cons_succ, List.set_cons_zero]
  refine wpG_nil ?_
  rintro v W3 ⟨B3, b4, rfl, hb4, M3⟩
  simp only [Act.put, List.setIfInBounds_toArray, List.set_cons_succ, List.set_cons_zero]
  have hb4w : w.heap.size ≤ b4 := Nat.le_trans T3.size hb4
  have h42 : b2 ≠ b4 := (by have := N2.lt; omega)
  have h4b : b ≠ b4 := (by have := K2.lt; omega)
  have N3 := N2.grown B3
  have K3 := K2.grown B3
  have T4 := T3.grow B3
  clear N2 K2 T3 d4 B3
  refine wpList_storeS rfl 44 _ _ rfl rfl (tokL ⟨0, [], 0, z1, z2, m, m⟩) rfl M3 (by simp [tokL, noTok]) info38 (tok_one _) ?_
  intro W4 U4 M4x
  have M4 : IsS W4 b4 44 (tokL ⟨0, [], 0, z1, z2, m, m⟩) := M4x
  clear M4x
  have N4 := N3.upd U4 h42
  have K4 := K3.upd U4 h4b
  have T5 := T4.upd hb4w U4
  clear U4 N3 K3 T4 M3
  have f0 : W4.cell? ⟨b, 0, none⟩ = some (.string s) := K4.cell 0
  have f1 : W4.cell? ⟨b, 1, none⟩ = some (.int .i64 (m : Int)) := K4.cell 1
  go_wp2_with fail
  go_quiet (fail)
  have N5 : IsS (W4.drewN nq) b2 44 (tokL noTok) := N4
  have K5 : IsS (W4.drewN nq) b 78 (lexL s m (z1, z2) 0) := K4
  have M5 : IsS (W4.drewN nq) b4 44 (tokL ⟨0, [], 0, z1, z2, m, m⟩) := M4
  have T6 : Turn w (W4.drewN nq) b := T5.drewN nq
  clear N4 K4 M4 T5 f0 f1
  obtain ⟨W5, hW5⟩ : ∃ W, W4.drewN nq = W := ⟨_, rfl⟩
  rw [hW5] at N5 K5 M5 T6 ⊢
  clear hW5
  go_wp2_with fail
  refine grow_make 10 _ (MadeS 81 [.int .i64 0, .string ⟨#[]⟩, .int .i64 0, .int .i64 0, .int .i64 0] W5) (by kernel_rfl) (by kernel_rfl) rfl rfl (madeS_grown _ _ W5) (madeS_make _ _ Tryd.zeroValue81 rfl W5) ?_
  simp only [List.take_succ_cons, List.take_zero, List.drop_succ_cons, List.drop_zero]
  refine wpG_put rfl (v := .pointer (some ⟨b, 0, none⟩)) (fun w => by first | rfl | (go_simp; done)) ?_
  refine wpG_put rfl (v := .pointer (some ⟨b, 0, none⟩)) (fun w => by first | rfl | (go_simp; done)) ?_
  refine wpG_put rfl (v := .pointer (some ⟨b, 0, none⟩)) (fun w => by first | rfl | (go_simp; done)) ?_
  simp only [Act.put, List.setIfInBounds_toArray, List.set_cons_succ, List.set_cons_zero]
  refine wpG_load1 rfl 9 _ rfl rfl K5 (v := .string s) rfl ld9 ?_
  refine wpG_put rfl (v := .pointer (some ⟨b, 0, none⟩)) (fun w => by first | rfl | (go_simp; done)) ?_
  refine wpG_put rfl (v := .pointer (some ⟨b, 0, none⟩)) (fun w => by first | rfl | (go_simp; done)) ?_
  simp only [Act.put, List.setIfInBounds_toArray, List.set_cons_succ, List.set_cons_zero]
  refine wpG_put rfl (v := .pointer (some ⟨b, 1, none⟩)) (fun w => by first | rfl | (go_simp; done)) ?_
  refine wpG_load1 rfl 3 _ rfl rfl K5 (v := .int .i64 (m : Int)) rfl ld3 ?_
  simp only [Act.put, List.setIfInBounds_toArray, List.set_cons_succ, List.set_cons_zero]
  refine wpG_put rfl (v := .string (s.extract m s.size)) (fun w => by first | rfl | (go_simp; done)) ?_
  refine wpG_call rfl (fun w _ => cC w) (fun w => by first | rfl | (go_simp; done)) ?_
  simp only [Act.put, List.setIfInBounds_toArray, List.set_cons_succ, List.set_cons_zero]
  refine wpG_nil ?_
  rintro v W6 ⟨B6, b5, rfl, hb5, Q6⟩
  simp only [Act.put, List.setIfInBounds_toArray, List.set_cons_succ, List.set_cons_zero]
  have hb5w : w.heap.size ≤ b5 := Nat.le_trans T6.size hb5
  have h52 : b2 ≠ b5 := (by have := N5.lt; omega)
  have h5b : b ≠ b5 := (by have := K5.lt; omega)
  have h54 : b4 ≠ b5 := (by have := M5.lt; omega)
  have N6 := N5.grown B6
  have K6 := K5.grown B6
  have M6 := M5.grown B6
  have T7 := T6.grow B6
  clear N5 K5 M5 T6 B6 cC hb5
  refine wpList_storeS rfl 81 _ _ rfl rfl (pieceL ⟨kd, tx, vl, ln, 0⟩) rfl Q6 (by simp [pieceL]) info75 (piece_one _) ?_
  intro W7 U7 Q7x
  have Q7 : IsS W7 b5 81 (pieceL ⟨kd, tx, vl, ln, 0⟩) := Q7x
  have N7 := N6.upd U7 h52
  have K7 := K6.upd U7 h5b
  have M7 := M6.upd U7 h54
  have T8 := T7.upd hb5w U7
  clear U7 N6 K6 M6 T7 Q6 Q7x
  go_wp2_with fail
  refine grow_tail 8 (by kernel_rfl) (by kernel_rfl) ?_
  simp only [List.take_succ_cons, List.take_zero, List.drop_succ_cons, List.drop_zero]
  refine wpG_put rfl (v := .pointer (some ⟨b, 0, none⟩)) (fun w => by first | rfl | (go_simp; done)) ?_
  refine wpG_put rfl (v := .pointer (some ⟨b, 0, none⟩)) (fun w => by first | rfl | (go_simp; done)) ?_
  refine wpG_put rfl (v := .pointer (some ⟨b, 0, none⟩)) (fun w => by first | rfl | (go_simp; done)) ?_
  simp only [Act.put, List.setIfInBounds_toArray, List.set_cons_succ, List.set_cons_zero]
  refine wpG_put rfl (v := .pointer (some ⟨b, 1, none⟩)) (fun w => by first | rfl | (go_simp; done)) ?_
  refine wpG_load1 rfl 3 _ rfl rfl K7 (v := .int .i64 (m : Int)) rfl ld3 ?_
  simp only [Act.put, List.setIfInBounds_toArray, List.set_cons_succ, List.set_cons_zero]
  refine wpG_put rfl (v := .pointer (some ⟨b5, 3, none⟩)) (fun w => by first | rfl | (go_simp; done)) ?_
  refine wpG_load1 rfl 3 _ rfl rfl Q7 (v := .int .i64 (ln : Int)) rfl ld3 ?_
  simp only [Act.put, List.setIfInBounds_toArray, List.set_cons_succ, List.set_cons_zero]
  refine wpG_put rfl (v := .int .i64 ((m : Int) + ln)) (fun w => by first | rfl | (go_simp; done) | (go_simp; simp [hw64]; done) | (simp [go_sem, hw64]; done)) ?_
  simp only [Act.put, List.setIfInBounds_toArray, List.set_cons_succ, List.set_cons_zero]
  refine wpG_nil ?_
  intro W8 B8
  have N8 := N7.grown B8
  have K8 := K7.grown B8
  have M8 := M7.grown B8
  have Q8 := Q7.grown B8
  have T9 := T8.grow B8
  clear N7 K7 M7 Q7 T8 B8
  go_wp2_with (first
    | (go_at_call 29; refine (HM.out _ K8).mono ?_; rintro en WA ⟨rfl, KA, TA⟩; have NA := N8.turnL TA hne; have MA := M8.turnL TA (Ne.symm h4b); have QA := Q8.turnL TA (Ne.symm h5b); have TB := T9.trans TA; clear TA N8 M8 Q8 T9 K8; have e4 : WA.cell? ⟨b5, 4, none⟩ = some (.int .i64 ((0 : Nat) : Int)) := QA.cell 4))
  have q0 : WA.cell? ⟨b5, 0, none⟩ = some (.int .i64 (kd : Int)) := QA.cell 0
  have q1 : WA.cell? ⟨b5, 1, none⟩ = some (.string ⟨tx.toArray⟩) := QA.cell 1
  have q2 : WA.cell? ⟨b5, 2, none⟩ = some (.int .i64 vl) := QA.cell 2
  have l1 : WA.cell? ⟨b, 1, none⟩ = some (.int .i64 (k : Int)) := KA.cell 1
  have t0 : WA.cell? ⟨b4, 0, none⟩ = some (.int .i64 0) := MA.cell 0
  have t1 : WA.cell? ⟨b4, 1, none⟩ = some (.string ⟨#[]⟩) := MA.cell 1
  have t2 : WA.cell? ⟨b4, 2, none⟩ = some (.int .i64 0) := MA.cell 2
  have t6 : WA.cell? ⟨b4, 6, none⟩ = some (.int .i64 (m : Int)) := MA.cell 6
  have r0 := MA.frozen 0
  have r1 := MA.frozen 1
  have r2 := MA.frozen 2
  have r6 := MA.frozen 6
  have hne1 : ¬ (b4 = b5) := h54
  have hne2 : ¬ (b5 = b4) := fun e => h54 e.symm
  have hne3 : ¬ (b4 = b) := fun e => h4b e.symm
  have hne4 : ¬ (b = b4) := h4b
  clear e4
  go_region
  have MX := (((MA.set1 0 (.int .i64 (kd : Int))).set1 1 (.string ⟨tx.toArray⟩)).set1 2 (.int .i64 vl)).set1 6 (.int .i64 (k : Int))
  have UX := (((Upd.setCell WA b4 0 (.int .i64 (kd : Int))).comp (Upd.setCell _ b4 1 (.string ⟨tx.toArray⟩))).comp (Upd.setCell _ b4 2 (.int .i64 vl))).comp (Upd.setCell _ b4 6 (.int .i64 (k : Int)))
  clear q0 q1 q2 l1 t0 t1 t2 t6 r0 r1 r2 r6 hne1 hne2 hne3 hne4
  generalize (((WA.setCell ⟨b4, 0, none⟩ (.int .i64 (kd : Int))).setCell ⟨b4, 1, none⟩ (.string ⟨tx.toArray⟩)).setCell ⟨b4, 2, none⟩ (.int .i64 vl)).setCell ⟨b4, 6, none⟩ (.int .i64 (k : Int)) = X at MX UX ⊢
  have M4 : IsS X.drew b4 44 (tokL ⟨kd, tx, vl, z1, z2, m, k⟩) := MX
  have N4 : IsS X.drew b2 44 (tokL noTok) := (show IsS X b2 44 (tokL noTok) from NA.upd UX h42)
  have K4 : IsS X.drew b 78 (lexL s k (u1, u2) 0) := (show IsS X b 78 (lexL s k (u1, u2) 0) from KA.upd UX h4b)
  have X4x := TB.upd hb4w UX
  have X4 : Turn w X.drew b := ⟨X4x.os, X4x.tape, X4x.output, X4x.size, X4x.block⟩
  clear X4x MX UX NA KA TB MA QA
  generalize X.drew = Y at *
  go_wp2_with (first
    | (refine wpList_loadP rfl 44 _ rfl rfl M4 7 (tokL ⟨kd, tx, vl, z1, z2, m, k⟩) rfl _ Tryd.underlying44 rfl info38 ?_)
    | (refine wpList_storeS rfl 44 _ _ rfl rfl (tokL ⟨kd, tx, vl, z1, z2, m, k⟩) rfl N4 (by simp [tokL, noTok]) info38 (tok_one _) ?_; intro V9 U9 NZ; have TZ := X4.upd hb2 U9; have KZ := K4.upd U9 (Ne.symm hne); clear U9 N4 K4 X4))
  exact ret_ST rfl rfl rfl NZ _ Tryd.underlying44 rfl info38 _ rfl ⟨⟨rfl, KZ⟩, TZ⟩
end Go.Proofs.YtopnbemodlcknaaDoor.Lx

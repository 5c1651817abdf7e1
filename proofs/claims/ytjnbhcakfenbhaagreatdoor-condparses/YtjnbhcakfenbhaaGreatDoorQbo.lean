/- Several texts in one: LxX17, LxR1. -/
import Derived.Test.YtjnbhcakfenbhaaGreatDoorQbn
import Derived.RangeFuncNested
import Derived.RangeFuncBound
import Derived.RangeFuncCalls
import Derived.RangeFuncLeaves
import Derived.RangeFuncBox
/- Next, where a piece is cut. -/
namespace Go.Proofs.YtjnbhcakfenbhaaGreatDoor.Lx
open Go.RowKit M
set_option linter.unusedSimpArgs false
set_option linter.unusedVariables false

set_option maxRecDepth 100000 in
set_option maxHeartbeats 2000000 in
theorem next_wrong (s : ByteArray) (hs : s.size ≤ 1048576) (b p x y : Nat) (n z1 z2 : Nat) (hp : p ≤ s.size) (hx : x < 2305843009213693952) (hy : y < 2305843009213693952) (hn : (blkF (s.data.toList.drop p)).1 = n) (hcl : (blkF (s.data.toList.drop p)).2 = true) (hq : spotF (x, y) ((s.data.toList.drop p).take n) = (z1, z2)) (m : Nat) (hm : p + n = m) (hlt : m < s.size) (kd : Nat) (tx : List UInt8) (vl : Int) (ln wr u1 u2 k : Nat) (hC : cutF (s.data.toList.drop m) = ⟨kd, tx, vl, ln, wr⟩) (hu : spotF (z1, z2) ((s.data.toList.drop m).take ln) = (u1, u2)) (hk : m + ln = k) (hz1 : z1 < 2305843009213693952) (hz2 : z2 < 2305843009213693952) (hwr : wr ≠ 0) (w : World) (hL : IsS w b 160 (lexL s p (x, y) 0)) :
    Calls Tryz.prog 58 #[.pointer (some ⟨b, 0, none⟩)] w fun en w' => ((∃ g, en = .returned (.tuple #[tokV noTok, .iface 52 (.pointer (some ⟨g, 0, none⟩))]) ∧ w.heap.size ≤ g ∧ IsS w' g 54 (faultL u1 u2 wr)) ∧ IsS w' b 160 (lexL s k (u1, u2) wr)) ∧ Turn w w' b := by
  have cS : ∀ w, IsS w b 160 (lexL s p (x, y) 0) → Calls Tryz.prog 77 #[.pointer (some ⟨b, 0, none⟩)] w fun en w' => en = .returned (.tuple #[]) ∧ IsS w' b 160 (lexL s m (z1, z2) 0) ∧ Turn w w' b := fun w h => by
    have := skip_any s (by omega) b p x y hp hx hy w h
    rw [hcl, hn, hq, hm] at this
    exact this
  have hi : ¬ (1048576 : Int) < s.size := by omega
  clear hn hcl hq hm
  have hen : ((m : Int) == s.size) = false := by simp; omega
  have hme : (m : Int) ≤ s.size := by omega
  have cC : ∀ w, Calls Tryz.prog 79 #[.string (s.extract m s.size)] w fun e w' => e = .returned (.agg (pieceL ⟨kd, tx, vl, ln, wr⟩).toArray) ∧ Below w.heap.size w w' := fun w => by
    have := cut_any5 (s.extract m s.size) (by rw [ByteArray.size_extract]; omega) (by rw [ByteArray.size_extract]; omega) w
    rw [exD, hC] at this
    exact this
  have hln : ln ≤ s.size - m := (by have := cutF_le (s.data.toList.drop m); rw [hC, List.length_drop, ← sizeL] at this; exact this)
  have HM : Hid (∀ w, IsS w b 160 (lexL s m (z1, z2) 0) → Calls Tryz.prog 80 #[.pointer (some ⟨b, 0, none⟩), .int .i64 ((m : Int) + ln)] w fun en w' => en = .returned (.tuple #[]) ∧ IsS w' b 160 (lexL s k (u1, u2) 0) ∧ Turn w w' b) := fun w h => by
    have := move_any s (by omega) b m (m + ln) z1 z2 0 (by omega) (by omega) hz1 hz2 w h
    rw [take_drop_add, hu, Int.natCast_add, hk] at this
    exact this
  have hw64 : IntKind.i64.wrap ((m : Int) + ln) = (m : Int) + ln := by rw [IntKind.wrap_i64]; omega
  clear hC hu hk
  have hwz : ((wr : Int) == 0) = false := by simp; omega
  go_enter Tryz.func58, Tryz.ntmps58
  go_wp2_with (first
    | (refine wpList_allocS rfl 49 rfl (tokL noTok) Tryz.zeroValue49 ?_; intro W1 b2 F1 N1; have hb2 : w.heap.size ≤ b2 := Nat.le_of_eq F1.at'.symm; have hne : b2 ≠ b := (by have := hL.lt; omega); have K1 := hL.fresh F1; have T1 := Turn.of_below (F1.trans (Below.refl _ _) (Nat.le_refl _)) b; clear F1; have c0 : W1.cell? ⟨b, 0, none⟩ = some (.string s) := K1.cell 0; have c4 : W1.cell? ⟨b, 4, none⟩ = some (.int .i64 (0 : Int)) := K1.cell 4)
    | (go_at_call 77; refine (cS _ K1).mono ?_; rintro en W2 ⟨rfl, K2, T2⟩; have N2 := N1.turnL T2 hne; have T3 := T1.trans T2; clear T1 T2 N1 K1 c0 c4; have d4 : W2.cell? ⟨b, 4, none⟩ = some (.int .i64 (0 : Int)) := K2.cell 4))
  refine grow_make 19 _ (MadeS 49 (tokL noTok) W2) (by kernel_rfl) (by kernel_rfl) rfl rfl (madeS_grown _ _ W2) (madeS_make _ _ Tryz.zeroValue49 rfl W2) ?_
  simp only [List.take_succ_cons, List.take_zero, List.drop_succ_cons, List.drop_zero]
  refine wpG_put rfl (v := .pointer (some ⟨b, 0, none⟩)) (fun w => by first | rfl | (go_simp; done)) ?_
  refine wpG_put rfl (v := .pointer (some ⟨b, 0, none⟩)) (fun w => by first | rfl | (go_simp; done)) ?_
  refine wpG_put rfl (v := .pointer (some ⟨b, 2, none⟩)) (fun w => by first | rfl | (go_simp; done)) ?_
  simp only [Act.put, List.setIfInBounds_toArray, List.set_cons_succ, List.set_cons_zero]
  refine wpG_put rfl (v := .pointer (some ⟨b, 2, none⟩)) (fun w => by first | rfl | (go_simp; done)) ?_
  refine wpG_load1 rfl 3 _ rfl rfl K2 (v := .int .i64 (z1 : Int)) rfl ld3 ?_
  simp only [Act.put, List.setIfInBounds_toArray, List.set_cons_succ, List.set_cons_zero]
  refine wpG_put rfl (v := .pointer (some ⟨b, 0, none⟩)) (fun w => by first | rfl | (go_simp; done)) ?_
  refine wpG_put rfl (v := .pointer (some ⟨b, 0, none⟩)) (fun w => by first | rfl | (go_simp; done)) ?_
  refine wpG_put rfl (v := .pointer (some ⟨b, 2, none⟩)) (fun w => by first | rfl | (go_simp; done)) ?_
  simp only [Act.put, List.setIfInBounds_toArray, List.set_cons_succ, List.set_cons_zero]
  refine wpG_put rfl (v := .pointer (some ⟨b, 3, none⟩)) (fun w => by first | rfl | (go_simp; done)) ?_
  refine wpG_load1 rfl 3 _ rfl rfl K2 (v := .int .i64 (z2 : Int)) rfl ld3 ?_
  simp only [Act.put, List.setIfInBounds_toArray, List.set_cons_succ, List.set_cons_zero]
  refine wpG_put rfl (v := .pointer (some ⟨b, 0, none⟩)) (fun w => by first | rfl | (go_simp; done)) ?_
  refine wpG_put rfl (v := .pointer (some ⟨b, 0, none⟩)) (fun w => by first | rfl | (go_simp; done)) ?_
  refine wpG_put rfl (v := .pointer (some ⟨b, 1, none⟩)) (fun w => by first | rfl | (go_simp; done)) ?_
  simp only [Act.put, List.setIfInBounds_toArray, List.set_cons_succ, List.set_cons_zero]
  refine wpG_load1 rfl 3 _ rfl rfl K2 (v := .int .i64 (m : Int)) rfl ld3 ?_
  simp only [Act.put, List.setIfInBounds_toArray, List.set_cons_succ, List.set_cons_zero]
  refine wpG_put rfl (v := .pointer (some ⟨b, 0, none⟩)) (fun w => by first | rfl | (go_simp; done)) ?_
  refine wpG_put rfl (v := .pointer (some ⟨b, 0, none⟩)) (fun w => by first | rfl | (go_simp; done)) ?_
  refine wpG_put rfl (v := .pointer (some ⟨b, 1, none⟩)) (fun w => by first | rfl | (go_simp; done)) ?_
  simp only [Act.put, List.setIfInBounds_toArray, List.set_cons_succ, List.set_cons_zero]
  refine wpG_load1 rfl 3 _ rfl rfl K2 (v := .int .i64 (m : Int)) rfl ld3 ?_
  simp only [Act.put, List.setIfInBounds_toArray, List.set_cons_succ, List.set_cons_zero]
  refine wpG_put rfl (v := .agg #[.int .i64 0, .string ⟨#[]⟩, .int .i64 0, .int .i64 (z1 : Int), .int .i64 (z2 : Int), .int .i64 (m : Int), .int .i64 (m : Int)]) (fun w => by first | rfl | (go_simp; done)) ?_
  simp only [Act.put, List.setIfInBounds_toArray, List.set_cons_succ, List.set_cons_zero]
  refine wpG_nil ?_
  rintro v W3 ⟨B3, b4, rfl, hb4, M3⟩
  simp only [Act.put, List.setIfInBounds_toArray, List.set_cons_succ, List.set_cons_zero]
  have hb4w : w.heap.size ≤ b4 := Nat.le_trans T3.size hb4
  have h42 : b2 ≠ b4 := (by have := N2.lt; omega)
  have h4b : b ≠ b4 := (by have := K2.lt; omega)
  have N3 := N2.grown B3
  have K3 := K2.grown B3
  have T4 := T3.grow B3
  clear N2 K2 T3 d4 B3
  refine wpList_storeS rfl 49 _ _ rfl rfl (tokL ⟨0, [], 0, z1, z2, m, m⟩) rfl M3 (by simp [tokL, noTok]) info38 (tok_one _) ?_
  intro W4 U4 M4x
  have M4 : IsS W4 b4 49 (tokL ⟨0, [], 0, z1, z2, m, m⟩) := M4x
  clear M4x
  have N4 := N3.upd U4 h42
  have K4 := K3.upd U4 h4b
  have T5 := T4.upd hb4w U4
  clear U4 N3 K3 T4 M3
  have f0 : W4.cell? ⟨b, 0, none⟩ = some (.string s) := K4.cell 0
  have f1 : W4.cell? ⟨b, 1, none⟩ = some (.int .i64 (m : Int)) := K4.cell 1
  go_wp2_with fail
  go_quiet (fail)
  have N5 : IsS (W4.drewN nq) b2 49 (tokL noTok) := N4
  have K5 : IsS (W4.drewN nq) b 160 (lexL s m (z1, z2) 0) := K4
  have M5 : IsS (W4.drewN nq) b4 49 (tokL ⟨0, [], 0, z1, z2, m, m⟩) := M4
  have T6 : Turn w (W4.drewN nq) b := T5.drewN nq
  clear N4 K4 M4 T5 f0 f1
  obtain ⟨W5, hW5⟩ : ∃ W, W4.drewN nq = W := ⟨_, rfl⟩
  rw [hW5] at N5 K5 M5 T6 ⊢
  clear hW5
  go_wp2_with fail
  refine grow_make 10 _ (MadeS 162 [.int .i64 0, .string ⟨#[]⟩, .int .i64 0, .int .i64 0, .int .i64 0] W5) (by kernel_rfl) (by kernel_rfl) rfl rfl (madeS_grown _ _ W5) (madeS_make _ _ Tryz.zeroValue162 rfl W5) ?_
  simp only [List.take_succ_cons, List.take_zero, List.drop_succ_cons, List.drop_zero]
  refine wpG_put rfl (v := .pointer (some ⟨b, 0, none⟩)) (fun w => by first | rfl | (go_simp; done)) ?_
  refine wpG_put rfl (v := .pointer (some ⟨b, 0, none⟩)) (fun w => by first | rfl | (go_simp; done)) ?_
  refine wpG_put rfl (v := .pointer (some ⟨b, 0, none⟩)) (fun w => by first | rfl | (go_simp; done)) ?_
  simp only [Act.put, List.setIfInBounds_toArray, List.set_cons_succ, List.set_cons_zero]
  refine wpG_load1 rfl 9 _ rfl rfl K5 (v := .string s) rfl ld9 ?_
  refine wpG_put rfl (v := .pointer (some ⟨b, 0, none⟩)) (fun w => by first | rfl | (go_simp; done)) ?_
  refine wpG_put rfl (v := .pointer (some ⟨b, 0, none⟩)) (fun w => by first | rfl | (go_simp; done)) ?_
  simp only [Act.put, List.setIfInBounds_toArray, List.set_cons_succ, List.set_cons_zero]
  refine wpG_put rfl (v := .pointer (some ⟨b, 1, none⟩)) (fun w => by first | rfl | (go_simp; done)) ?_
  refine wpG_load1 rfl 3 _ rfl rfl K5 (v := .int .i64 (m : Int)) rfl ld3 ?_
  simp only [Act.put, List.setIfInBounds_toArray, List.set_cons_succ, List.set_cons_zero]
  refine wpG_put rfl (v := .string (s.extract m s.size)) (fun w => by first | rfl | (go_simp; done)) ?_
  refine wpG_call rfl (fun w _ => cC w) (fun w => by first | rfl | (go_simp; done)) ?_
  simp only [Act.put, List.setIfInBounds_toArray, List.set_cons_succ, List.set_cons_zero]
  refine wpG_nil ?_
  rintro v W6 ⟨B6, b5, rfl, hb5, Q6⟩
  simp only [Act.put, List.setIfInBounds_toArray, List.set_cons_succ, List.set_cons_zero]
  have hb5w : w.heap.size ≤ b5 := Nat.le_trans T6.size hb5
  have h52 : b2 ≠ b5 := (by have := N5.lt; omega)
  have h5b : b ≠ b5 := (by have := K5.lt; omega)
  have h54 : b4 ≠ b5 := (by have := M5.lt; omega)
  have N6 := N5.grown B6
  have K6 := K5.grown B6
  have M6 := M5.grown B6
  have T7 := T6.grow B6
  clear N5 K5 M5 T6 B6 cC hb5
  refine wpList_storeS rfl 162 _ _ rfl rfl (pieceL ⟨kd, tx, vl, ln, wr⟩) rfl Q6 (by simp [pieceL]) info75 (piece_one _) ?_
  intro W7 U7 Q7x
  have Q7 : IsS W7 b5 162 (pieceL ⟨kd, tx, vl, ln, wr⟩) := Q7x
  have N7 := N6.upd U7 h52
  have K7 := K6.upd U7 h5b
  have M7 := M6.upd U7 h54
  have T8 := T7.upd hb5w U7
  clear U7 N6 K6 M6 T7 Q6 Q7x
  go_wp2_with fail
  refine grow_tail 8 (by kernel_rfl) (by kernel_rfl) ?_
  simp only [List.take_succ_cons, List.take_zero, List.drop_succ_cons, List.drop_zero]
  refine wpG_put rfl (v := .pointer (some ⟨b, 0, none⟩)) (fun w => by first | rfl | (go_simp; done)) ?_
  refine wpG_put rfl (v := .pointer (some ⟨b, 0, none⟩)) (fun w => by first | rfl | (go_simp; done)) ?_
  refine wpG_put rfl (v := .pointer (some ⟨b, 0, none⟩)) (fun w => by first | rfl | (go_simp; done)) ?_
  simp only [Act.put, List.setIfInBounds_toArray, List.set_cons_succ, List.set_cons_zero]
  refine wpG_put rfl (v := .pointer (some ⟨b, 1, none⟩)) (fun w => by first | rfl | (go_simp; done)) ?_
  refine wpG_load1 rfl 3 _ rfl rfl K7 (v := .int .i64 (m : Int)) rfl ld3 ?_
  simp only [Act.put, List.setIfInBounds_toArray, List.set_cons_succ, List.set_cons_zero]
  refine wpG_put rfl (v := .pointer (some ⟨b5, 3, none⟩)) (fun w => by first | rfl | (go_simp; done)) ?_
  refine wpG_load1 rfl 3 _ rfl rfl Q7 (v := .int .i64 (ln : Int)) rfl ld3 ?_
  simp only [Act.put, List.setIfInBounds_toArray, List.set_cons_succ, List.set_cons_zero]
  refine wpG_put rfl (v := .int .i64 ((m : Int) + ln)) (fun w => by first | rfl | (go_simp; done) | (go_simp; simp [hw64]; done) | (simp [go_sem, hw64]; done)) ?_
  simp only [Act.put, List.setIfInBounds_toArray, List.set_cons_succ, List.set_cons_zero]
  refine wpG_nil ?_
  intro W8 B8
  have N8 := N7.grown B8
  have K8 := K7.grown B8
  have M8 := M7.grown B8
  have Q8 := Q7.grown B8
  have T9 := T8.grow B8
  clear N7 K7 M7 Q7 T8 B8
  go_wp2_with (first
    | (go_at_call 80; refine (HM.out _ K8).mono ?_; rintro en WA ⟨rfl, KA, TA⟩; have NA := N8.turnL TA hne; have MA := M8.turnL TA (Ne.symm h4b); have QA := Q8.turnL TA (Ne.symm h5b); have TB := T9.trans TA; clear TA N8 M8 Q8 T9 K8; have e4 : WA.cell? ⟨b5, 4, none⟩ = some (.int .i64 (wr : Int)) := QA.cell 4)
    | (refine wpList_store1 rfl 37 _ _ rfl rfl (.int .i64 (wr : Int)) rfl KA (by simp [lexL]) infoE rfl ?_; intro WC UC KCx; have KC : IsS WC b 160 (lexL s k (u1, u2) wr) := KCx; have NC := NA.upd UC hne; have TC := TB.trans (Turn.of_upd UC); clear UC KCx NA TB KA MA QA e4)
    | (go_at_call 78; refine (fault_any s b _ _ _ _ _ KC).mono ?_; rintro en WF ⟨⟨g, rfl, hg, NG⟩, BF⟩; have NF := NC.grown BF; have KF := KC.grown BF; have TF := TC.grow BF; have hgw : w.heap.size ≤ g := Nat.le_trans TC.size hg; have hgb : g ≠ b2 := (by have := NC.lt; omega); clear BF hg NC KC TC)
    | (refine wpList_storeS rfl 49 _ _ rfl rfl (tokL noTok) rfl NF (by simp [tokL]) info38 (tok_one noTok) ?_; intro W9 U9 NZ; have TZ := TF.upd hb2 U9; have KZ := KF.upd U9 (Ne.symm hne); have GZ := NG.upd U9 hgb; clear U9 NF KF TF NG))
  exact ret_ST rfl rfl rfl NZ _ Tryz.underlying49 rfl info38 _ rfl ⟨⟨⟨g, rfl, hgw, GZ⟩, KZ⟩, TZ⟩

set_option maxRecDepth 100000 in
set_option maxHeartbeats 2000000 in
theorem next_tok (s : ByteArray) (hs : s.size ≤ 1048576) (b p x y : Nat) (n z1 z2 : Nat) (hp : p ≤ s.size) (hx : x < 2305843009213693952) (hy : y < 2305843009213693952) (hn : (blkF (s.data.toList.drop p)).1 = n) (hcl : (blkF (s.data.toList.drop p)).2 = true) (hq : spotF (x, y) ((s.data.toList.drop p).take n) = (z1, z2)) (m : Nat) (hm : p + n = m) (hlt : m < s.size) (kd : Nat) (tx : List UInt8) (vl : Int) (ln wr u1 u2 k : Nat) (hC : cutF (s.data.toList.drop m) = ⟨kd, tx, vl, ln, wr⟩) (hu : spotF (z1, z2) ((s.data.toList.drop m).take ln) = (u1, u2)) (hk : m + ln = k) (hz1 : z1 < 2305843009213693952) (hz2 : z2 < 2305843009213693952) (hwr : wr = 0) (w : World) (hL : IsS w b 160 (lexL s p (x, y) 0)) :
    Calls Tryz.prog 58 #[.pointer (some ⟨b, 0, none⟩)] w fun en w' => (en = .returned (.tuple #[tokV ⟨kd, tx, vl, z1, z2, m, k⟩, .nilIface]) ∧ IsS w' b 160 (lexL s k (u1, u2) 0)) ∧ Turn w w' b := by
  have cS : ∀ w, IsS w b 160 (lexL s p (x, y) 0) → Calls Tryz.prog 77 #[.pointer (some ⟨b, 0, none⟩)] w fun en w' => en = .returned (.tuple #[]) ∧ IsS w' b 160 (lexL s m (z1, z2) 0) ∧ Turn w w' b := fun w h => by
    have := skip_any s (by omega) b p x y hp hx hy w h
    rw [hcl, hn, hq, hm] at this
    exact this
  have hi : ¬ (1048576 : Int) < s.size := by omega
  clear hn hcl hq hm
  have hen : ((m : Int) == s.size) = false := by simp; omega
  have hme : (m : Int) ≤ s.size := by omega
  have cC : ∀ w, Calls Tryz.prog 79 #[.string (s.extract m s.size)] w fun e w' => e = .returned (.agg (pieceL ⟨kd, tx, vl, ln, wr⟩).toArray) ∧ Below w.heap.size w w' := fun w => by
    have := cut_any5 (s.extract m s.size) (by rw [ByteArray.size_extract]; omega) (by rw [ByteArray.size_extract]; omega) w
    rw [exD, hC] at this
    exact this
  have hln : ln ≤ s.size - m := (by have := cutF_le (s.data.toList.drop m); rw [hC, List.length_drop, ← sizeL] at this; exact this)
  have HM : Hid (∀ w, IsS w b 160 (lexL s m (z1, z2) 0) → Calls Tryz.prog 80 #[.pointer (some ⟨b, 0, none⟩), .int .i64 ((m : Int) + ln)] w fun en w' => en = .returned (.tuple #[]) ∧ IsS w' b 160 (lexL s k (u1, u2) 0) ∧ Turn w w' b) := fun w h => by
    have := move_any s (by omega) b m (m + ln) z1 z2 0 (by omega) (by omega) hz1 hz2 w h
    rw [take_drop_add, hu, Int.natCast_add, hk] at this
    exact this
  have hw64 : IntKind.i64.wrap ((m : Int) + ln) = (m : Int) + ln := by rw [IntKind.wrap_i64]; omega
  clear hC hu hk
  subst hwr
  go_enter Tryz.func58, Tryz.ntmps58
  go_wp2_with (first
    | (refine wpList_allocS rfl 49 rfl (tokL noTok) Tryz.zeroValue49 ?_; intro W1 b2 F1 N1; have hb2 : w.heap.size ≤ b2 := Nat.le_of_eq F1.at'.symm; have hne : b2 ≠ b := (by have := hL.lt; omega); have K1 := hL.fresh F1; have T1 := Turn.of_below (F1.trans (Below.refl _ _) (Nat.le_refl _)) b; clear F1; have c0 : W1.cell? ⟨b, 0, none⟩ = some (.string s) := K1.cell 0; have c4 : W1.cell? ⟨b, 4, none⟩ = some (.int .i64 (0 : Int)) := K1.cell 4)
    | (go_at_call 77; refine (cS _ K1).mono ?_; rintro en W2 ⟨rfl, K2, T2⟩; have N2 := N1.turnL T2 hne; have T3 := T1.trans T2; clear T1 T2 N1 K1 c0 c4; have d4 : W2.cell? ⟨b, 4, none⟩ = some (.int .i64 (0 : Int)) := K2.cell 4))
  refine grow_make 19 _ (MadeS 49 (tokL noTok) W2) (by kernel_rfl) (by kernel_rfl) rfl rfl (madeS_grown _ _ W2) (madeS_make _ _ Tryz.zeroValue49 rfl W2) ?_
  simp only [List.take_succ_cons, List.take_zero, List.drop_succ_cons, List.drop_zero]
  refine wpG_put rfl (v := .pointer (some ⟨b, 0, none⟩)) (fun w => by first | rfl | (go_simp; done)) ?_
  refine wpG_put rfl (v := .pointer (some ⟨b, 0, none⟩)) (fun w => by first | rfl | (go_simp; done)) ?_
  refine wpG_put rfl (v := .pointer (some ⟨b, 2, none⟩)) (fun w => by first | rfl | (go_simp; done)) ?_
  simp only [Act.put, List.setIfInBounds_toArray, List.set_cons_succ, List.set_cons_zero]
  refine wpG_put rfl (v := .pointer (some ⟨b, 2, none⟩)) (fun w => by first | rfl | (go_simp; done)) ?_
  refine wpG_load1 rfl 3 _ rfl rfl K2 (v := .int .i64 (z1 : Int)) rfl ld3 ?_
  simp only [Act.put, List.setIfInBounds_toArray, List.set_cons_succ, List.set_cons_zero]
  refine wpG_put rfl (v := .pointer (some ⟨b, 0, none⟩)) (fun w => by first | rfl | (go_simp; done)) ?_
  refine wpG_put rfl (v := .pointer (some ⟨b, 0, none⟩)) (fun w => by first | rfl | (go_simp; done)) ?_
  refine wpG_put rfl (v := .pointer (some ⟨b, 2, none⟩)) (fun w => by first | rfl | (go_simp; done)) ?_
  simp only [Act.put, List.setIfInBounds_toArray, List.set_cons_succ, List.set_cons_zero]
  refine wpG_put rfl (v := .pointer (some ⟨b, 3, none⟩)) (fun w => by first | rfl | (go_simp; done)) ?_
  refine wpG_load1 rfl 3 _ rfl rfl K2 (v := .int .i64 (z2 : Int)) rfl ld3 ?_
  simp only [Act.put, List.setIfInBounds_toArray, List.set_cons_succ, List.set_cons_zero]
  refine wpG_put rfl (v := .pointer (some ⟨b, 0, none⟩)) (fun w => by first | rfl | (go_simp; done)) ?_
  refine wpG_put rfl (v := .pointer (some ⟨b, 0, none⟩)) (fun w => by first | rfl | (go_simp; done)) ?_
  refine wpG_put rfl (v := .pointer (some ⟨b, 1, none⟩)) (fun w => by first | rfl | (go_simp; done)) ?_
  simp only [Act.put, List.setIfInBounds_toArray, List.set_cons_succ, List.set_cons_zero]
  refine wpG_load1 rfl 3 _ rfl rfl K2 (v := .int .i64 (m : Int)) rfl ld3 ?_
  simp only [Act.put, List.setIfInBounds_toArray, List.set_cons_succ, List.set_cons_zero]
  refine wpG_put rfl (v := .pointer (some ⟨b, 0, none⟩)) (fun w => by first | rfl | (go_simp; done)) ?_
  refine wpG_put rfl (v := .pointer (some ⟨b, 0, none⟩)) (fun w => by first | rfl | (go_simp; done)) ?_
  refine wpG_put rfl (v := .pointer (some ⟨b, 1, none⟩)) (fun w => by first | rfl | (go_simp; done)) ?_
  simp only [Act.put, List.setIfInBounds_toArray, List.set_cons_succ, List.set_cons_zero]
  refine wpG_load1 rfl 3 _ rfl rfl K2 (v := .int .i64 (m : Int)) rfl ld3 ?_
  simp only [Act.put, List.setIfInBounds_toArray, List.set_cons_succ, List.set_cons_zero]
  refine wpG_put rfl (v := .agg #[.int .i64 0, .string ⟨#[]⟩, .int .i64 0, .int .i64 (z1 : Int), .int .i64 (z2 : Int), .int .i64 (m : Int), .int .i64 (m : Int)]) (fun w => by first | rfl | (go_simp; done)) ?_
  simp only [Act.put, List.setIfInBounds_toArray, List.set_cons_succ, List.set_cons_zero]
  refine wpG_nil ?_
  rintro v W3 ⟨B3, b4, rfl, hb4, M3⟩
  simp only [Act.put, List.setIfInBounds_toArray, List.set_cons_succ, List.set_cons_zero]
  have hb4w : w.heap.size ≤ b4 := Nat.le_trans T3.size hb4
  have h42 : b2 ≠ b4 := (by have := N2.lt; omega)
  have h4b : b ≠ b4 := (by have := K2.lt; omega)
  have N3 := N2.grown B3
  have K3 := K2.grown B3
  have T4 := T3.grow B3
  clear N2 K2 T3 d4 B3
  refine wpList_storeS rfl 49 _ _ rfl rfl (tokL ⟨0, [], 0, z1, z2, m, m⟩) rfl M3 (by simp [tokL, noTok]) info38 (tok_one _) ?_
  intro W4 U4 M4x
  have M4 : IsS W4 b4 49 (tokL ⟨0, [], 0, z1, z2, m, m⟩) := M4x
  clear M4x
  have N4 := N3.upd U4 h42
  have K4 := K3.upd U4 h4b
  have T5 := T4.upd hb4w U4
  clear U4 N3 K3 T4 M3
  have f0 : W4.cell? ⟨b, 0, none⟩ = some (.string s) := K4.cell 0
  have f1 : W4.cell? ⟨b, 1, none⟩ = some (.int .i64 (m : Int)) := K4.cell 1
  go_wp2_with fail
  go_quiet (fail)
  have N5 : IsS (W4.drewN nq) b2 49 (tokL noTok) := N4
  have K5 : IsS (W4.drewN nq) b 160 (lexL s m (z1, z2) 0) := K4
  have M5 : IsS (W4.drewN nq) b4 49 (tokL ⟨0, [], 0, z1, z2, m, m⟩) := M4
  have T6 : Turn w (W4.drewN nq) b := T5.drewN nq
  clear N4 K4 M4 T5 f0 f1
  obtain ⟨W5, hW5⟩ : ∃ W, W4.drewN nq = W := ⟨_, rfl⟩
  rw [hW5] at N5 K5 M5 T6 ⊢
  clear hW5
  go_wp2_with fail
  refine grow_make 10 _ (MadeS 162 [.int .i64 0, .string ⟨#[]⟩, .int .i64 0, .int .i64 0, .int .i64 0] W5) (by kernel_rfl) (by kernel_rfl) rfl rfl (madeS_grown _ _ W5) (madeS_make _ _ Tryz.zeroValue162 rfl W5) ?_
  simp only [List.take_succ_cons, List.take_zero, List.drop_succ_cons, List.drop_zero]
  refine wpG_put rfl (v := .pointer (some ⟨b, 0, none⟩)) (fun w => by first | rfl | (go_simp; done)) ?_
  refine wpG_put rfl (v := .pointer (some ⟨b, 0, none⟩)) (fun w => by first | rfl | (go_simp; done)) ?_
  refine wpG_put rfl (v := .pointer (some ⟨b, 0, none⟩)) (fun w => by first | rfl | (go_simp; done)) ?_
  simp only [Act.put, List.setIfInBounds_toArray, List.set_cons_succ, List.set_cons_zero]
  refine wpG_load1 rfl 9 _ rfl rfl K5 (v := .string s) rfl ld9 ?_
  refine wpG_put rfl (v := .pointer (some ⟨b, 0, none⟩)) (fun w => by first | rfl | (go_simp; done)) ?_
  refine wpG_put rfl (v := .pointer (some ⟨b, 0, none⟩)) (fun w => by first | rfl | (go_simp; done)) ?_
  simp only [Act.put, List.setIfInBounds_toArray, List.set_cons_succ, List.set_cons_zero]
  refine wpG_put rfl (v := .pointer (some ⟨b, 1, none⟩)) (fun w => by first | rfl | (go_simp; done)) ?_
  refine wpG_load1 rfl 3 _ rfl rfl K5 (v := .int .i64 (m : Int)) rfl ld3 ?_
  simp only [Act.put, List.setIfInBounds_toArray, List.set_cons_succ, List.set_cons_zero]
  refine wpG_put rfl (v := .string (s.extract m s.size)) (fun w => by first | rfl | (go_simp; done)) ?_
  refine wpG_call rfl (fun w _ => cC w) (fun w => by first | rfl | (go_simp; done)) ?_
  simp only [Act.put, List.setIfInBounds_toArray, List.set_cons_succ, List.set_cons_zero]
  refine wpG_nil ?_
  rintro v W6 ⟨B6, b5, rfl, hb5, Q6⟩
  simp only [Act.put, List.setIfInBounds_toArray, List.set_cons_succ, List.set_cons_zero]
  have hb5w : w.heap.size ≤ b5 := Nat.le_trans T6.size hb5
  have h52 : b2 ≠ b5 := (by have := N5.lt; omega)
  have h5b : b ≠ b5 := (by have := K5.lt; omega)
  have h54 : b4 ≠ b5 := (by have := M5.lt; omega)
  have N6 := N5.grown B6
  have K6 := K5.grown B6
  have M6 := M5.grown B6
  have T7 := T6.grow B6
  clear N5 K5 M5 T6 B6 cC hb5
  refine wpList_storeS rfl 162 _ _ rfl rfl (pieceL ⟨kd, tx, vl, ln, 0⟩) rfl Q6 (by simp [pieceL]) info75 (piece_one _) ?_
  intro W7 U7 Q7x
  have Q7 : IsS W7 b5 162 (pieceL ⟨kd, tx, vl, ln, 0⟩) := Q7x
  have N7 := N6.upd U7 h52
  have K7 := K6.upd U7 h5b
  have M7 := M6.upd U7 h54
  have T8 := T7.upd hb5w U7
  clear U7 N6 K6 M6 T7 Q6 Q7x
  go_wp2_with fail
  refine grow_tail 8 (by kernel_rfl) (by kernel_rfl) ?_
  simp only [List.take_succ_cons, List.take_zero, List.drop_succ_cons, List.drop_zero]
  refine wpG_put rfl (v := .pointer (some ⟨b, 0, none⟩)) (fun w => by first | rfl | (go_simp; done)) ?_
  refine wpG_put rfl (v := .pointer (some ⟨b, 0, none⟩)) (fun w => by first | rfl | (go_simp; done)) ?_
  refine wpG_put rfl (v := .pointer (some ⟨b, 0, none⟩)) (fun w => by first | rfl | (go_simp; done)) ?_
  simp only [Act.put, List.setIfInBounds_toArray, List.set_cons_succ, List.set_cons_zero]
  refine wpG_put rfl (v := .pointer (some ⟨b, 1, none⟩)) (fun w => by first | rfl | (go_simp; done)) ?_
  refine wpG_load1 rfl 3 _ rfl rfl K7 (v := .int .i64 (m : Int)) rfl ld3 ?_
  simp only [Act.put, List.setIfInBounds_toArray, List.set_cons_succ, List.set_cons_zero]
  refine wpG_put rfl (v := .pointer (some ⟨b5, 3, none⟩)) (fun w => by first | rfl | (go_simp; done)) ?_
  refine wpG_load1 rfl 3 _ rfl rfl Q7 (v := .int .i64 (ln : Int)) rfl ld3 ?_
  simp only [Act.put, List.setIfInBounds_toArray, List.set_cons_succ, List.set_cons_zero]
  refine wpG_put rfl (v := .int .i64 ((m : Int) + ln)) (fun w => by first | rfl | (go_simp; done) | (go_simp; simp [hw64]; done) | (simp [go_sem, hw64]; done)) ?_
  simp only [Act.put, List.setIfInBounds_toArray, List.set_cons_succ, List.set_cons_zero]
  refine wpG_nil ?_
  intro W8 B8
  have N8 := N7.grown B8
  have K8 := K7.grown B8
  have M8 := M7.grown B8
  have Q8 := Q7.grown B8
  have T9 := T8.grow B8
  clear N7 K7 M7 Q7 T8 B8
  go_wp2_with (first
    | (go_at_call 80; refine (HM.out _ K8).mono ?_; rintro en WA ⟨rfl, KA, TA⟩; have NA := N8.turnL TA hne; have MA := M8.turnL TA (Ne.symm h4b); have QA := Q8.turnL TA (Ne.symm h5b); have TB := T9.trans TA; clear TA N8 M8 Q8 T9 K8; have e4 : WA.cell? ⟨b5, 4, none⟩ = some (.int .i64 ((0 : Nat) : Int)) := QA.cell 4))
  have q0 : WA.cell? ⟨b5, 0, none⟩ = some (.int .i64 (kd : Int)) := QA.cell 0
  have q1 : WA.cell? ⟨b5, 1, none⟩ = some (.string ⟨tx.toArray⟩) := QA.cell 1
  have q2 : WA.cell? ⟨b5, 2, none⟩ = some (.int .i64 vl) := QA.cell 2
  have l1 : WA.cell? ⟨b, 1, none⟩ = some (.int .i64 (k : Int)) := KA.cell 1
  have t0 : WA.cell? ⟨b4, 0, none⟩ = some (.int .i64 0) := MA.cell 0
  have t1 : WA.cell? ⟨b4, 1, none⟩ = some (.string ⟨#[]⟩) := MA.cell 1
  have t2 : WA.cell? ⟨b4, 2, none⟩ = some (.int .i64 0) := MA.cell 2
  have t6 : WA.cell? ⟨b4, 6, none⟩ = some (.int .i64 (m : Int)) := MA.cell 6
  have r0 := MA.frozen 0
  have r1 := MA.frozen 1
  have r2 := MA.frozen 2
  have r6 := MA.frozen 6
  have hne1 : ¬ (b4 = b5) := h54
  have hne2 : ¬ (b5 = b4) := fun e => h54 e.symm
  have hne3 : ¬ (b4 = b) := fun e => h4b e.symm
  have hne4 : ¬ (b = b4) := h4b
  clear e4
  go_region
  have MX := (((MA.set1 0 (.int .i64 (kd : Int))).set1 1 (.string ⟨tx.toArray⟩)).set1 2 (.int .i64 vl)).set1 6 (.int .i64 (k : Int))
  have UX := (((Upd.setCell WA b4 0 (.int .i64 (kd : Int))).comp (Upd.setCell _ b4 1 (.string ⟨tx.toArray⟩))).comp (Upd.setCell _ b4 2 (.int .i64 vl))).comp (Upd.setCell _ b4 6 (.int .i64 (k : Int)))
  clear q0 q1 q2 l1 t0 t1 t2 t6 r0 r1 r2 r6 hne1 hne2 hne3 hne4
  generalize (((WA.setCell ⟨b4, 0, none⟩ (.int .i64 (kd : Int))).setCell ⟨b4, 1, none⟩ (.string ⟨tx.toArray⟩)).setCell ⟨b4, 2, none⟩ (.int .i64 vl)).setCell ⟨b4, 6, none⟩ (.int .i64 (k : Int)) = X at MX UX ⊢
  have M4 : IsS X.drew b4 49 (tokL ⟨kd, tx, vl, z1, z2, m, k⟩) := MX
  have N4 : IsS X.drew b2 49 (tokL noTok) := (show IsS X b2 49 (tokL noTok) from NA.upd UX h42)
  have K4 : IsS X.drew b 160 (lexL s k (u1, u2) 0) := (show IsS X b 160 (lexL s k (u1, u2) 0) from KA.upd UX h4b)
  have X4x := TB.upd hb4w UX
  have X4 : Turn w X.drew b := ⟨X4x.os, X4x.tape, X4x.output, X4x.size, X4x.block⟩
  clear X4x MX UX NA KA TB MA QA
  generalize X.drew = Y at *
  go_wp2_with (first
    | (refine wpList_loadP rfl 49 _ rfl rfl M4 7 (tokL ⟨kd, tx, vl, z1, z2, m, k⟩) rfl _ Tryz.underlying49 rfl info38 ?_)
    | (refine wpList_storeS rfl 49 _ _ rfl rfl (tokL ⟨kd, tx, vl, z1, z2, m, k⟩) rfl N4 (by simp [tokL, noTok]) info38 (tok_one _) ?_; intro V9 U9 NZ; have TZ := X4.upd hb2 U9; have KZ := K4.upd U9 (Ne.symm hne); clear U9 N4 K4 X4))
  exact ret_ST rfl rfl rfl NZ _ Tryz.underlying49 rfl info38 _ rfl ⟨⟨rfl, KZ⟩, TZ⟩
end Go.Proofs.YtjnbhcakfenbhaaGreatDoor.Lx
/- A loop over an iterator that keeps memory of its own: a contract that parts memory between the two sides, and the law of the loop for it. -/
namespace Go.Proofs.YtjnbhcakfenbhaaGreatDoor.Lx
open Go.RowKit Go.Shelf M
set_option linter.unusedSimpArgs false
set_option linter.unusedVariables false

/-- Blocks of one's own lie as they lay. -/
structure Keep (O : Nat → Prop) (X Y : World) : Prop where
  os : Y.os = X.os
  tape : Y.tape = X.tape
  output : Y.output = X.output
  size : X.heap.size ≤ Y.heap.size
  block : ∀ k o, O k → X.heap[k]? = some o → Y.heap[k]? = some o
/-- A round of the caller's: what is neither its own nor handed to it lies as it lay; what it owns behind it owned, was handed or has made. -/
structure Chg (O A O' : Nat → Prop) (X Y : World) : Prop where
  os : Y.os = X.os
  tape : Y.tape = X.tape
  output : Y.output = X.output
  size : X.heap.size ≤ Y.heap.size
  block : ∀ k o, ¬ O k → ¬ A k → X.heap[k]? = some o → Y.heap[k]? = some o
  own : ∀ k, O' k → O k ∨ A k ∨ X.heap.size ≤ k
  bd : ∀ k, O' k → k < Y.heap.size
def Abides (J : (Nat → Prop) → World → Prop) : Prop := ∀ O X Y, J O X → Keep O X Y → J O Y
theorem Keep.of_below {O : Nat → Prop} {X Y : World} (h : Below X.heap.size X Y) : Keep O X Y :=
  ⟨h.os, h.tape, h.output, h.size, fun k o _ hk => (h.block k (Array.getElem?_eq_some_iff.1 hk).1).trans hk⟩
theorem Keep.of_turn {O : Nat → Prop} {X Y : World} {b : Nat} (h : Turn X Y b) (hb : ¬ O b) : Keep O X Y :=
  ⟨h.os, h.tape, h.output, h.size, fun k o ho hk => (h.block k (Array.getElem?_eq_some_iff.1 hk).1 (fun e => hb (e ▸ ho))).trans hk⟩
theorem Keep.of_upd {O : Nat → Prop} {X Y : World} {b : Nat} (h : Upd X Y b) (hb : ¬ O b) : Keep O X Y := Keep.of_turn (Turn.of_upd h) hb
theorem Keep.put {O : Nat → Prop} {X : World} {b : Nat} (o : Obj) (hb : ¬ O b) : Keep O X (X.putObj b o) :=
  ⟨rfl, rfl, rfl, by simp, fun k _ ho hk => (World.putObj_heap_other (fun e => hb (by first | (rw [← e]; exact ho) | (rw [e]; exact ho)))).trans hk⟩
theorem Keep.sub {O O' : Nat → Prop} {X Y : World} (h : Keep O X Y) (hs : ∀ k, O' k → O k) : Keep O' X Y := ⟨h.os, h.tape, h.output, h.size, fun k o ho hk => h.block k o (hs k ho) hk⟩

/-- An iterator's contract: it goes through these; what it hands over in a round is encoded so. -/
def SeqM {α : Type} (g : Nat) (lb : Array Value) (R : α → World → Array Value → (Nat → Prop) → Prop) (xs : List α) (w : World) : Prop :=
  ∀ (n l : Nat) (J Jx : List α → (Nat → Prop) → World → Prop) (W : World) (O : Nat → Prop), Below w.heap.size w W → (∀ pre, Abides (J pre)) → (∀ pre, Abides (Jx pre)) → (∀ k, O k → k < W.heap.size) →
    (∀ pre x post args A O W1 m, pre ++ x :: post = xs → J pre O W1 → R x W1 args A → (∀ k, A k → W.heap.size ≤ k) → YieldAt Fence.wide m Tryz.prog l args W1 fun e W' =>
      (e = .returned (.bool true) ∧ ∃ O', J (pre ++ [x]) O' W' ∧ Chg O A O' W1 W') ∨ (e = .returned (.bool false) ∧ ∃ O', Jx (pre ++ [x]) O' W' ∧ Chg O A O' W1 W')) →
    J [] O W → CallsIn Fence.wide n Tryz.prog g (#[.func (.yield l) #[] #[]] ++ lb) W fun e W' => (∃ v, e = .returned v) ∧ ∃ O', J xs O' W' ∨ ∃ pre, pre <+: xs ∧ Jx pre O' W'

/-- What a loop's two blocks hold. -/
def Holds2 (W : World) (D : Nat) (r : Loop) : Prop := W.heap[D]? = some (.deferred (some [])) ∧ W.heap[D + 1]? = some (.loop r)
theorem Holds2.lt {W : World} {D : Nat} {r : Loop} (h : Holds2 W D r) : D + 1 < W.heap.size := (Array.getElem?_eq_some_iff.1 h.2).1
theorem Holds2.put {W : World} {D : Nat} {r : Loop} (h : Holds2 W D r) (r' : Loop) : Holds2 (W.putObj (D + 1) (.loop r')) D r' :=
  ⟨(World.putObj_heap_other (by omega)).trans h.1, World.putObj_heap_same h.lt⟩

/-- How the body of a round may be left. -/
def postM {α : Type} (O : Nat → Prop) (I : List α → (Nat → Prop) → World → Prop) (Ix : Code → List α → (Nat → Prop) → World → Prop) (xs : List α) (W : World) : Exit → Act → World → Prop
  | .normal, _, W' => ∃ O', Chg O (fun _ => False) O' W W' ∧ I xs O' W'
  | .ret, _, W' => ∃ O', Chg O (fun _ => False) O' W W' ∧ Ix .ret xs O' W'
  | .exit id, _, W' => ∃ O', Chg O (fun _ => False) O' W W' ∧ Ix (.exit id) xs O' W'
  | _, _, _ => False

theorem rangeM {α : Type} {g : Operand} {ps : Array Tmp} {assign body : Code} {Q : Exit → Act → World → Prop} {a : Act} {w : World} {n : Nat} (h1 : 1 ≤ n)
    {gf : Nat} {lb : Array Value} (hg : a.eval g = .func (.func gf) #[] lb) (eg : ∀ args w, (callFunc gf args).run Tryz.prog w = .ok (.enter gf args) w)
    {R : α → World → Array Value → (Nat → Prop) → Prop} {xs : List α} {w0 : World} (hseq : SeqM gf lb R xs w0) (hb0 : Below w0.heap.size w0 w) (hR : ∀ x W args A, R x W args A → args.size = ps.size)
    (I : List α → (Nat → Prop) → World → Prop) (Ix : Code → List α → (Nat → Prop) → World → Prop) (Mid : List α → α → Act → (Nat → Prop) → World → Prop)
    (hI : ∀ pre, Abides (I pre)) (hIx : ∀ c pre, Abides (Ix c pre)) (hMid : ∀ pre x a', Abides (Mid pre x a')) (O0 : Nat → Prop) (hO0 : ∀ k, O0 k → k < w.heap.size) (h0 : I [] O0 w)
    (hassign : ∀ (l m : Nat) (pre : List α) (x : α) (post : List α) (args : Array Value) (A O : Nat → Prop) (W : World) (K : Act → World → Prop), pre ++ x :: post = xs → I pre O W → R x W args A → (∀ a' O' W', Mid pre x a' O' W' → Chg O A O' W W' → K a' W') →
      assign.wpIn (Fence.wide.inRound l) m Tryz.prog (Exit.then K (fun _ _ _ => False)) { tmps := (ps.zip args).foldl (fun t (p, v) => t.setIfInBounds p v) a.tmps, defers := [] } W)
    (hbody : ∀ (l m : Nat) (pre : List α) (x : α) (post : List α) (a' : Act) (O : Nat → Prop) (W : World), pre ++ x :: post = xs → Mid pre x a' O W → body.wpIn (Fence.wide.inRound l) m Tryz.prog (postM O I Ix (pre ++ [x]) W) a' W)
    (hdone : ∀ (D : Nat) (O : Nat → Prop) (W : World), w.heap.size ≤ D → ¬ O D → I xs O W → W.heap[D]? = some (.deferred (some [])) → Q .normal { a with defers := { target := .collected D, args := #[] } :: a.defers } W)
    (hstop : ∀ (D : Nat) (c : Code) (pre : List α) (O : Nat → Prop) (W : World), w.heap.size ≤ D → ¬ O D → pre <+: xs → Ix c pre O W → W.heap[D]? = some (.deferred (some [])) → c.wpIn Fence.wide n Tryz.prog Q { a with defers := { target := .collected D, args := #[] } :: a.defers } W) :
    (Code.rangeFunc g ps assign body).wpIn Fence.wide n Tryz.prog Q a w := by
  refine wpIn_rangeFunc fun fn hfn => ?_
  rw [show Fence.wide.round = none from rfl]
  obtain ⟨mk, hmk⟩ : ∃ mk : LoopState → Option Code → Loop, mk = fun st pe => { state := st, pending := pe, fn, tmps := a.tmps, params := ps, assign, body, defers := w.heap.size } := ⟨_, rfl⟩
  have hen : (Instr.enterLoop fn a.tmps ps assign body none).run Tryz.prog w = .ok (w.heap.size + 1, [{ target := .collected w.heap.size, args := #[] }]) ((w.alloc (.deferred (some []))).alloc (.loop (mk .ready none))) := by
    rw [hmk]; exact run_enterLoop_outer _ _ _ _ _
  have hB1 : Below w.heap.size w ((w.alloc (.deferred (some []))).alloc (.loop (mk .ready none))) := ((Below.refl _ w).alloc (Nat.le_refl _) _).alloc (by simp) _
  have hH1 : Holds2 ((w.alloc (.deferred (some []))).alloc (.loop (mk .ready none))) w.heap.size (mk .ready none) := by
    refine ⟨(Below.heap_alloc _ _ _ (by simp)).trans (World.alloc_heap_new w _), ?_⟩
    have := World.alloc_heap_new (w.alloc (.deferred (some []))) (.loop (mk .ready none))
    rwa [World.size_alloc] at this
  have hsz : ((w.alloc (.deferred (some []))).alloc (.loop (mk .ready none))).heap.size = w.heap.size + 2 := by simp
  generalize (w.alloc (.deferred (some []))).alloc (.loop (mk .ready none)) = W1 at *
  have hI1 : I [] O0 W1 := hI [] O0 w W1 h0 (Keep.of_below hB1)
  obtain ⟨D, hD⟩ : ∃ D, w.heap.size = D := ⟨_, rfl⟩
  rw [hD] at hsz hH1 hen
  -- the two sides
  let up : (Nat → Prop) → Nat → Prop := fun Oi k => Oi k ∨ k = D ∨ k = D + 1
  let off : (Nat → Prop) → Prop := fun Oi => ¬ Oi D ∧ ¬ Oi (D + 1)
  have ab : ∀ (K : (Nat → Prop) → World → Prop) (r : Loop), Abides K → Abides (fun O W => ∃ Oi, (∀ k, O k ↔ Oi k ∨ k = D ∨ k = D + 1) ∧ (¬ Oi D ∧ ¬ Oi (D + 1)) ∧ K Oi W ∧ Holds2 W D r) := fun K r hK O X Y hs hk => by
    obtain ⟨Oi, e, ho, hj, hh⟩ := hs
    exact ⟨Oi, e, ho, hK Oi X Y hj (hk.sub fun k h => (e k).2 (.inl h)), hk.block D _ ((e D).2 (.inr (.inl rfl))) hh.1, hk.block (D + 1) _ ((e _).2 (.inr (.inr rfl))) hh.2⟩
  refine ⟨D + 1, _, W1, { target := .fn (.func gf) lb, args := #[.func (.yield (D + 1)) #[] #[]] }, W1, gf, #[.func (.yield (D + 1)) #[] #[]] ++ lb, W1, hen, ?_, ?_, ?_, fun _ => h1, ?_⟩
  · simp only [resolve, hg]
    simp [go_sem]
  · intro f' hf'; trivial
  · simp [invoke, go_sem, eg]
  · refine (hseq (n - 1) (D + 1) (fun pre O W => ∃ Oi, (∀ k, O k ↔ Oi k ∨ k = D ∨ k = D + 1) ∧ (¬ Oi D ∧ ¬ Oi (D + 1)) ∧ I pre Oi W ∧ Holds2 W D (mk .ready none))
      (fun pre O W => ∃ c Oi, (∀ k, O k ↔ Oi k ∨ k = D ∨ k = D + 1) ∧ (¬ Oi D ∧ ¬ Oi (D + 1)) ∧ Ix c pre Oi W ∧ Holds2 W D (mk .done (some c))) W1 (fun k => O0 k ∨ k = D ∨ k = D + 1)
      (hb0.trans (hB1.mono hb0.size)) (fun pre => ab _ _ (hI pre)) (fun pre O X Y hs hk => by
        obtain ⟨c, hs⟩ := hs
        exact ⟨c, ab _ _ (hIx c pre) O X Y hs hk⟩) ?_ ?_ ⟨O0, fun k => Iff.rfl, ⟨fun h => by have := hO0 _ h; omega, fun h => by have := hO0 _ h; omega⟩, hI1, hH1⟩).mono ?_
    · rintro k (h | rfl | rfl)
      · have := hO0 k h; omega
      · omega
      · omega
    · rintro pre x post args A O W m hxs ⟨Oi, he, ho, hi, hh⟩ hr hA
      have hy := run_yield (P := Tryz.prog) (args := args) hh.2 (by rw [hmk]; exact hR x W args A hr)
      rw [hmk] at hy
      refine ⟨fn, _, assign, body, hy, roundIn_of_wpIn hfn (hassign _ _ pre x post args A Oi W _ hxs hi hr (fun a' O2 W2 hm2 hc2 => ?_))⟩
      have hAD : ¬ A D ∧ ¬ A (D + 1) := ⟨fun h => by have := hA _ h; omega, fun h => by have := hA _ h; omega⟩
      have hlt := hh.lt
      have hh2 : Holds2 W2 D (mk .ready none) := ⟨hc2.block _ _ ho.1 hAD.1 hh.1, hc2.block _ _ ho.2 hAD.2 hh.2⟩
      have ho2 : ¬ O2 D ∧ ¬ O2 (D + 1) := ⟨fun h => (hc2.own _ h).elim (fun h => ho.1 h) fun h => h.elim (fun h => hAD.1 h) fun h => by omega, fun h => (hc2.own _ h).elim (fun h => ho.2 h) fun h => h.elim (fun h => hAD.2 h) fun h => by omega⟩
      refine ⟨_, run_beginRound hh2.2 (by rw [hmk]), ?_⟩
      have hbz := hh2.put { mk .ready none with state := .busy }
      have hm3 := hMid pre x a' O2 W2 _ hm2 (Keep.put (.loop { mk .ready none with state := .busy }) ho2.2)
      have hs3 : (W2.putObj (D + 1) (.loop { mk .ready none with state := .busy })).heap.size = W2.heap.size := by simp
      refine wpIn_mono (hbody _ _ pre x post a' O2 _ hxs hm3) ?_
      have fin : ∀ (jump : Option Code) (O4 : Nat → Prop) (W4 : World), Chg O2 (fun _ => False) O4 (W2.putObj (D + 1) (.loop { mk .ready none with state := .busy })) W4 →
          (Instr.endRound (D + 1) jump).run Tryz.prog W4 = .ok (.bool jump.isNone) (W4.putObj (D + 1) (.loop (mk (if jump.isNone then .ready else .done) jump))) ∧ Holds2 W4 D { mk .ready none with state := .busy } ∧ (¬ O4 D ∧ ¬ O4 (D + 1)) ∧
          Chg O A (fun k => O4 k ∨ k = D ∨ k = D + 1) W (W4.putObj (D + 1) (.loop (mk (if jump.isNone then .ready else .done) jump))) := fun jump O4 W4 hc4 => by
        have h4 : Holds2 W4 D { mk .ready none with state := .busy } := ⟨hc4.block _ _ ho2.1 (fun h => h) hbz.1, hc4.block _ _ ho2.2 (fun h => h) hbz.2⟩
        have ho4 : ¬ O4 D ∧ ¬ O4 (D + 1) := ⟨fun h => (hc4.own _ h).elim (fun h => ho2.1 h) fun h => h.elim (fun h => h.elim) fun h => by have := hbz.lt; omega, fun h => (hc4.own _ h).elim (fun h => ho2.2 h) fun h => h.elim (fun h => h.elim) fun h => by have := hbz.lt; omega⟩
        refine ⟨?_, h4, ho4, ?_, ?_, ?_, ?_, ?_, ?_, ?_⟩
        · have := run_endRound (P := Tryz.prog) jump h4.2
          rw [hmk] at this ⊢
          exact this
        · exact hc4.os.trans hc2.os
        · exact hc4.tape.trans hc2.tape
        · exact hc4.output.trans hc2.output
        · have e1 := hc4.size; have e2 := hc2.size
          rw [hs3] at e1
          have : (W4.putObj (D + 1) (.loop (mk (if jump.isNone then .ready else .done) jump))).heap.size = W4.heap.size := by simp
          omega
        · intro k o hk hka hko
          have hko' : ¬ Oi k ∧ k ≠ D ∧ k ≠ D + 1 := ⟨fun h => hk ((he k).2 (.inl h)), fun h => hk ((he k).2 (.inr (.inl h))), fun h => hk ((he k).2 (.inr (.inr h)))⟩
          have hklt := (Array.getElem?_eq_some_iff.1 hko).1
          have g2 := hc2.block k o hko'.1 hka hko
          have g3 : (W2.putObj (D + 1) (.loop { mk .ready none with state := .busy })).heap[k]? = some o := (World.putObj_heap_other (fun e => hko'.2.2 e)).trans g2
          have n2 : ¬ O2 k := fun h => (hc2.own _ h).elim (fun h => hko'.1 h) fun h => h.elim (fun h => hka h) fun h => by omega
          have g4 := hc4.block k o n2 (fun h => h) g3
          exact (World.putObj_heap_other (fun e => hko'.2.2 e)).trans g4
        · rintro k (h | rfl | rfl)
          · rcases hc4.own _ h with h | h | h
            · rcases hc2.own _ h with h | h | h
              · exact .inl ((he k).2 (.inl h))
              · exact .inr (.inl h)
              · exact .inr (.inr h)
            · exact h.elim
            · have e2 := hc2.size
              rw [hs3] at h
              exact .inr (.inr (by omega))
          · exact .inl ((he _).2 (.inr (.inl rfl)))
          · exact .inl ((he _).2 (.inr (.inr rfl)))
        · have e5 : (W4.putObj (D + 1) (.loop (mk (if jump.isNone then .ready else .done) jump))).heap.size = W4.heap.size := by simp
          have := h4.lt
          rintro k (h | rfl | rfl)
          · rw [e5]; exact hc4.bd k h
          · omega
          · omega
      have out : ∀ (c : Code) (O4 : Nat → Prop) (W4 : World), Chg O2 (fun _ => False) O4 (W2.putObj (D + 1) (.loop { mk .ready none with state := .busy })) W4 → Ix c (pre ++ [x]) O4 W4 →
          ∃ v w', (Instr.endRound (D + 1) (some c)).run Tryz.prog W4 = .ok v w' ∧ ((Ending.returned v = .returned (.bool true) ∧ ∃ O', (∃ Oi, (∀ k, O' k ↔ Oi k ∨ k = D ∨ k = D + 1) ∧ (¬ Oi D ∧ ¬ Oi (D + 1)) ∧ I (pre ++ [x]) Oi w' ∧ Holds2 w' D (mk .ready none)) ∧ Chg O A O' W w') ∨
            (Ending.returned v = .returned (.bool false) ∧ ∃ O', (∃ c Oi, (∀ k, O' k ↔ Oi k ∨ k = D ∨ k = D + 1) ∧ (¬ Oi D ∧ ¬ Oi (D + 1)) ∧ Ix c (pre ++ [x]) Oi w' ∧ Holds2 w' D (mk .done (some c))) ∧ Chg O A O' W w')) := fun c O4 W4 hc4 hx4 => by
        obtain ⟨hr4, h4, ho4, hch⟩ := fin (some c) O4 W4 hc4
        exact ⟨_, _, hr4, .inr ⟨rfl, _, ⟨c, O4, fun k => Iff.rfl, ho4, hIx c _ O4 _ _ hx4 (Keep.put _ ho4.2), h4.put _⟩, hch⟩⟩
      rintro e a3 W4 hp
      cases e with
      | normal =>
        obtain ⟨O4, hc4, hi4⟩ := hp
        obtain ⟨hr4, h4, ho4, hch⟩ := fin none O4 W4 hc4
        exact ⟨_, _, hr4, .inl ⟨rfl, _, ⟨O4, fun k => Iff.rfl, ho4, hI _ O4 _ _ hi4 (Keep.put _ ho4.2), h4.put _⟩, hch⟩⟩
      | ret => obtain ⟨O4, hc4, hx4⟩ := hp; exact out .ret O4 W4 hc4 hx4
      | exit id => obtain ⟨O4, hc4, hx4⟩ := hp; exact out (.exit id) O4 W4 hc4 hx4
      | goto t => exact hp.elim
      | panic ch => exact hp.elim
      | outgrown => exact hp.elim
    · rintro e W2 ⟨⟨v, rfl⟩, O', (⟨Oi, he, ho, hi, hh⟩ | ⟨pre, hpre, c, Oi, he, ho, hi, hh⟩)⟩
      · have hel := run_endLoop (P := Tryz.prog) hh.2 (by rw [hmk]; simp)
        have hp : (mk .ready none).pending = none := by rw [hmk]
        rw [hp] at hel
        exact ⟨none, _, hel, hdone D Oi _ (by omega) ho.1 (hI _ Oi _ _ hi (Keep.put _ ho.2)) ((World.putObj_heap_other (by omega)).trans hh.1)⟩
      · have hel := run_endLoop (P := Tryz.prog) hh.2 (by rw [hmk]; simp)
        have hp : (mk .done (some c)).pending = some c := by rw [hmk]
        rw [hp] at hel
        exact ⟨some c, _, hel, hstop D c pre Oi _ (by omega) ho.1 hpre (hIx c _ Oi _ _ hi (Keep.put _ ho.2)) ((World.putObj_heap_other (by omega)).trans hh.1)⟩
end Go.Proofs.YtjnbhcakfenbhaaGreatDoor.Lx

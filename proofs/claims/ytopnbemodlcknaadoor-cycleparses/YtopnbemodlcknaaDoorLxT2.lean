/- Tokens: the iterator goes through the rounds of its text, which is not too long. -/
import Derived.Test.YtopnbemodlcknaaDoorLxT1
namespace Go.Proofs.YtopnbemodlcknaaDoor.Lx
open Go.RowKit Go.Shelf M
attribute [local go_sem] Oper.semAt_some
set_option linter.unusedSimpArgs false
set_option linter.unusedVariables false

theorem spot_le : ∀ (l : List UInt8) (p : Nat × Nat), (spotF p l).1 ≤ p.1 + l.length ∧ (spotF p l).2 ≤ p.2 + l.length
  | [], p => ⟨Nat.le_refl _, Nat.le_refl _⟩
  | c :: r, p => by
    have := spot_le r (stepP p c)
    rw [spot_cons, List.length_cons]
    by_cases h : c.toNat = 10
    · rw [show stepP p c = (p.1 + 1, 1) from if_pos h] at this ⊢
      simp at this ⊢; omega
    · rw [show stepP p c = (p.1, p.2 + 1) from if_neg h] at this ⊢
      simp at this ⊢; omega
def atOf (wr : World) (bl : Nat) : Nat := match wr.cell? ⟨bl, 1, none⟩ with
  | some (.int _ z) => z.toNat
  | _ => 0
theorem atOf_eq {wr : World} {bl : Nat} {s : ByteArray} {p : Nat} {q : Nat × Nat} {e : Nat} (h : IsS wr bl 78 (lexL s p q e)) : atOf wr bl = p := by
  have : wr.cell? ⟨bl, 1, none⟩ = some (.int .i64 (p : Int)) := h.cell 1
  unfold atOf
  rw [this]
  simp

set_option maxRecDepth 100000 in
set_option maxHeartbeats 4000000 in
theorem tokens_seq (s : ByteArray) (hl : s.size ≤ 1048576) (bb : Nat) (w : World) (hbb : bb < w.heap.size) (hc : w.cell? ⟨bb, 0, none⟩ = some (.string s)) :
    SeqM 19 #[.pointer (some ⟨bb, 0, none⟩)] RdEnc (goF (s.size + 1) s.data.toList 0 (1, 1)) w := by
  intro n l J Jx W O hW hJ hJx hO hY j0
  obtain ⟨X, hX⟩ : ∃ X, goF (s.size + 1) s.data.toList 0 (1, 1) = X := ⟨_, rfl⟩
  rw [hX] at hY ⊢
  have HX : Hid (goF (s.size + 1) s.data.toList 0 (1, 1) = X) := hX
  have HSZ : Hid (s.data.toList.length = s.size) := (sizeL s).symm
  clear hX
  have cN := fun w => new_any s w
  have hcW : W.cell? ⟨bb, 0, none⟩ = some (.string s) := (hW.cell (p := ⟨bb, 0, none⟩) hbb).trans hc
  refine callsIn_wide.2 ((callsIn_wide (n := 8)).1 ?_)
  refine callsIn_of_wp Tryd.func19 rfl trivial ?_ rfl
  simp only [Tryd.ntmps19, List.size_toArray, List.length_cons, List.length_nil, Nat.reduceAdd, Nat.reduceSub, Array.replicate_succ, Array.replicate_zero, List.push_toArray, List.append_toArray, List.nil_append, List.cons_append]
  have hf9 : Fence.wide.fn 20 := trivial
  have hf15 : Fence.wide.fn 21 := trivial
  gi_wp2_with (first
    | (gi_at_call 20; refine (callsIn_wide.2 (cN _)).mono ?_; rintro e W1 ⟨⟨bl, rfl, hbl, L1⟩, B1⟩))
  gi_loopw [4, 5] (fun _ _ wr => ∃ (pre : List Rd) (f p x y : Nat) (Oc : Nat → Prop), Hid (pre ++ goF f s.data.toList p (x, y) = X) ∧ Hid (s.size < p + f) ∧ Hid (p ≤ s.size ∧ x ≤ 1 + p ∧ y ≤ 1 + p) ∧ IsS wr bl 78 (lexL s p (x, y) 0) ∧ Hid (J pre Oc wr) ∧ Hid (¬ Oc bl) ∧ Hid (W.heap.size ≤ wr.heap.size) ∧ Hid (∀ k, Oc k → k < wr.heap.size)) (fun _ _ wr => s.size - atOf wr bl)
  case atStart => exact ⟨[], s.size + 1, 0, 1, 1, O, HX, (show s.size < 0 + (s.size + 1) by omega), (show 0 ≤ s.size ∧ 1 ≤ 1 + 0 ∧ 1 ≤ 1 + 0 by omega), L1, hJ [] O _ _ j0 (Keep.of_below B1), (fun h => by have := hO bl h; omega), B1.size, (fun k h => Nat.lt_of_lt_of_le (hO k h) B1.size)⟩
  case round =>
    obtain ⟨pre, f, p, x, y, Oc, HG, HF, HP, L2, j2, HO, HS, HK⟩ := hrel
    clear j0 hcW L1 B1
    have hp := HP.out
    obtain ⟨f, rfl⟩ : ∃ g, f = g + 1 := ⟨f - 1, by have := HF.out; omega⟩
    obtain ⟨n1, hn⟩ : ∃ n1, (blkF (s.data.toList.drop p)).1 = n1 := ⟨_, rfl⟩
    obtain ⟨⟨z1, z2⟩, hz⟩ : ∃ z, spotF (x, y) ((s.data.toList.drop p).take n1) = z := ⟨_, rfl⟩
    obtain ⟨m, hm⟩ : ∃ m, p + n1 = m := ⟨_, rfl⟩
    have hnle := blkF_le (s.data.toList.drop p)
    rw [hn, List.length_drop, ← sizeL] at hnle
    have hzle := spot_le ((s.data.toList.drop p).take n1) (x, y)
    rw [hz, List.length_take, List.length_drop, ← sizeL] at hzle
    have hzb : z1 ≤ 1 + m ∧ z2 ≤ 1 + m := by simp at hzle; omega
    have tk1 : True := trivial
    cases hcl : (blkF (s.data.toList.drop p)).2 with
    | false =>
      have HE : Hid (pre ++ [Rd.pos z1 z2 51] = X) := (by have := HG.out; rw [go_com hn hcl hz] at this; exact this)
      have cX := next_com s hl bl p x y n1 z1 z2 (by omega) (by omega) (by omega) hn hcl hz m hm wr L2
      clear hn hz hm hcl HG hnle hzle hzb hp
      gi_wp2_with (first
        | (gi_at_call 21; refine (callsIn_wide.2 cX).mono ?_; rintro e W2 ⟨⟨⟨g, rfl, hg, G2⟩, L3⟩, T2⟩; clear cX)
        | (refine inAllocS rfl 44 rfl (tokL noTok) Tryd.zeroValue44 ?_; intro W3 b4 F3 M3)
        | (refine inStoreS rfl 44 _ _ rfl rfl (tokL noTok) rfl M3 (by simp [tokL]) info38 (tok_one noTok) ?_; intro W4 U4 M4)
        | (refine inLoadP rfl 44 _ rfl rfl M4 7 (tokL noTok) rfl _ Tryd.underlying44 rfl info38 ?_))
      have hO4 : ¬ Oc b4 := fun h => by have := HK.out b4 h; have := F3.at'; have := T2.size; omega
      have j4 : J pre Oc W4 := hJ pre Oc _ _ (hJ pre Oc _ _ (hJ pre Oc _ _ j2.out (Keep.of_turn T2 HO.out)) (Keep.of_below (F3.trans (Below.refl _ _) (Nat.le_refl _)))) (Keep.of_upd U4 hO4)
      have hg4 : g ≠ b4 := (by have := G2.lt; have := F3.at'; omega)
      have G4 : IsS W4 g 50 (faultL z1 z2 51) := (G2.fresh F3).upd U4 hg4
      obtain ⟨fn, tmps, assign, body, hy, hR⟩ := hY pre (.pos z1 z2 51) [] #[.agg (tokL noTok).toArray, .iface 47 (.pointer (some ⟨g, 0, none⟩))] (fun k => k = g) Oc W4 7 HE.out j4 ⟨g, rfl, G4, rfl⟩ (fun k h => by have := HS.out; omega)
      clear j4
      gi_wp2_with fail
      rw [hy]
      refine ⟨fun _ => by omega, hR.mono ?_⟩
      rintro e W5 (⟨rfl, O', j5, -⟩ | ⟨rfl, O', j5, -⟩)
      · rw [HE.out] at j5
        gi_wp2
        refine bodyPost_ret (results_none rfl _ _ _) rfl ?_
        exact ⟨⟨_, rfl⟩, O', .inl j5⟩
      · rw [HE.out] at j5
        gi_wp2
        refine bodyPost_ret (results_none rfl _ _ _) rfl ?_
        exact ⟨⟨_, rfl⟩, O', .inr ⟨_, List.prefix_refl _, j5⟩⟩
    | true =>
      by_cases hme : m = s.size
      · have HE : Hid (pre = X) := (by have := HG.out; rw [go_end hn hcl (by rw [HSZ.out, hm]; omega), List.append_nil] at this; exact this)
        have cX := next_end s hl bl p x y n1 z1 z2 (by omega) (by omega) (by omega) hn hcl hz m hm hme wr L2
        clear hn hz hm hcl HG hnle hzle hzb hp hme
        gi_wp2_with (first
          | (gi_at_call 21; refine (callsIn_wide.2 cX).mono ?_; rintro e W2 ⟨⟨rfl, L3⟩, T2⟩; clear cX)
          | (refine inAllocS rfl 44 rfl (tokL noTok) Tryd.zeroValue44 ?_; intro W3 b4 F3 M3)
          | (refine inStoreS rfl 44 _ _ rfl rfl (tokL ⟨0, [], 0, z1, z2, m, m⟩) rfl M3 (by simp [tokL, noTok]) info38 (tok_one _) ?_; intro W4 U4 M4x; have M4 : IsS W4 b4 44 (tokL ⟨0, [], 0, z1, z2, m, m⟩) := M4x; have ck : W4.cell? ⟨b4, 0, none⟩ = some (.int .i64 0) := M4.cell 0; clear M4x))
        have hO4 : ¬ Oc b4 := fun h => by have := HK.out b4 h; have := F3.at'; have := T2.size; omega
        have j4 : J pre Oc W4 := hJ pre Oc _ _ (hJ pre Oc _ _ (hJ pre Oc _ _ j2.out (Keep.of_turn T2 HO.out)) (Keep.of_below (F3.trans (Below.refl _ _) (Nat.le_refl _)))) (Keep.of_upd U4 hO4)
        refine bodyPost_ret (results_none rfl _ _ _) rfl ?_
        rw [HE.out] at j4
        exact ⟨⟨_, rfl⟩, Oc, .inl j4⟩
      · obtain ⟨⟨kd, tx, vl, ln, wg⟩, hC⟩ : ∃ C, cutF (s.data.toList.drop m) = C := ⟨_, rfl⟩
        obtain ⟨⟨u1, u2⟩, hu⟩ : ∃ u, spotF (z1, z2) ((s.data.toList.drop m).take ln) = u := ⟨_, rfl⟩
        have hlt : m < s.size := by omega
        have hlle := cutF_le (s.data.toList.drop m)
        rw [hC, List.length_drop, ← sizeL] at hlle
        have hule := spot_le ((s.data.toList.drop m).take ln) (z1, z2)
        rw [hu, List.length_take, List.length_drop, ← sizeL] at hule
        have hub : u1 ≤ 1 + (m + ln) ∧ u2 ≤ 1 + (m + ln) := by simp at hule; omega
        by_cases hw : wg = 0
        · subst hw
          have hps := cut_pos (l := s.data.toList.drop m) (by rw [hC])
          rw [hC] at hps
          have hps' : 1 ≤ ln ∧ 1 ≤ kd := hps
          have hlle' : ln ≤ s.size - m := hlle
          clear hps
          have HE : Hid (pre ++ Rd.tok ⟨kd, tx, vl, z1, z2, m, m + ln⟩ :: goF f s.data.toList (m + ln) (u1, u2) = X) := (by have := HG.out; rw [go_tok hn hcl hm (by rw [HSZ.out]; exact hlt) hz hC hu rfl] at this; exact this)
          have cX := next_tok s hl bl p x y n1 z1 z2 (by omega) (by omega) (by omega) hn hcl hz m hm hlt kd tx vl ln 0 u1 u2 (m + ln) hC hu rfl (by omega) (by omega) rfl wr L2
          have hkd : ((kd : Int) == 0) = false := (by simp; omega)
          have hat := atOf_eq L2
          have HA : Hid (p ≤ m ∧ m + ln ≤ s.size ∧ 1 ≤ ln ∧ u1 ≤ 1 + (m + ln) ∧ u2 ≤ 1 + (m + ln)) := (show p ≤ m ∧ m + ln ≤ s.size ∧ 1 ≤ ln ∧ u1 ≤ 1 + (m + ln) ∧ u2 ≤ 1 + (m + ln) by omega)
          have HAT : Hid (atOf wr bl = p) := hat
          clear hn hz hm hcl HG hnle hzle hzb hp hme hC hu hlt hlle hlle' hule hub hps' hat
          gi_wp2_with (first
            | (gi_at_call 21; refine (callsIn_wide.2 cX).mono ?_; rintro e W2 ⟨⟨rfl, L3⟩, T2⟩; clear cX)
            | (refine inAllocS rfl 44 rfl (tokL noTok) Tryd.zeroValue44 ?_; intro W3 b4 F3 M3)
            | (refine inStoreS rfl 44 _ _ rfl rfl (tokL ⟨kd, tx, vl, z1, z2, m, m + ln⟩) rfl M3 (by simp [tokL, noTok]) info38 (tok_one _) ?_; intro W4 U4 M4x; have M4 : IsS W4 b4 44 (tokL ⟨kd, tx, vl, z1, z2, m, m + ln⟩) := M4x; have ck : W4.cell? ⟨b4, 0, none⟩ = some (.int .i64 (kd : Int)) := M4.cell 0; clear M4x)
            | (refine inLoadP rfl 44 _ rfl rfl M4 7 (tokL ⟨kd, tx, vl, z1, z2, m, m + ln⟩) rfl _ Tryd.underlying44 rfl info38 ?_))
          have hO4 : ¬ Oc b4 := fun h => by have := HK.out b4 h; have := F3.at'; have := T2.size; omega
          have j4 : J pre Oc W4 := hJ pre Oc _ _ (hJ pre Oc _ _ (hJ pre Oc _ _ j2.out (Keep.of_turn T2 HO.out)) (Keep.of_below (F3.trans (Below.refl _ _) (Nat.le_refl _)))) (Keep.of_upd U4 hO4)
          have hne4 : bl ≠ b4 := (by have := L3.lt; have := F3.at'; omega)
          have L4 : IsS W4 bl 78 (lexL s (m + ln) (u1, u2) 0) := (L3.fresh F3).upd U4 hne4
          have hs4 : wr.heap.size ≤ W4.heap.size := (by have := U4.size; have := F3.size; have := F3.at'; have := T2.size; omega)
          obtain ⟨fn, tmps, assign, body, hy, hR⟩ := hY pre (.tok ⟨kd, tx, vl, z1, z2, m, m + ln⟩) (goF f s.data.toList (m + ln) (u1, u2)) #[.agg (tokL ⟨kd, tx, vl, z1, z2, m, m + ln⟩).toArray, .nilIface] (fun _ => False) Oc W4 7 HE.out j4 ⟨rfl, rfl⟩ (fun k h => h.elim)
          clear j4
          gi_wp2_with fail
          rw [hy]
          refine ⟨fun _ => by omega, hR.mono ?_⟩
          rintro e W5 (⟨rfl, O', j5, hch⟩ | ⟨rfl, O', j5, -⟩)
          · have hbO : ¬ O' bl := fun h => (hch.own _ h).elim (fun h => HO.out h) fun h => h.elim (fun h => h) fun h => by have := L4.lt; omega
            have L5 : IsS W5 bl 78 (lexL s (m + ln) (u1, u2) 0) := hch.block bl _ HO.out (fun h => h) L4
            gi_wp2
            go_roundw
            case rel => exact ⟨pre ++ [Rd.tok ⟨kd, tx, vl, z1, z2, m, m + ln⟩], f, m + ln, u1, u2, O', (by have := HE.out; show _ = _; rw [List.append_assoc]; exact this), (show s.size < m + ln + f by have := HA.out; have := HF.out; omega), (show m + ln ≤ s.size ∧ u1 ≤ 1 + (m + ln) ∧ u2 ≤ 1 + (m + ln) by have := HA.out; omega), L5, j5, hbO, (show W.heap.size ≤ W5.heap.size by have := HS.out; have := hch.size; omega), hch.bd⟩
            case measure => show s.size - atOf W5 bl < s.size - atOf wr bl; rw [atOf_eq L5, HAT.out]; have := HA.out; omega
          · gi_wp2
            refine bodyPost_ret (results_none rfl _ _ _) rfl ?_
            exact ⟨⟨_, rfl⟩, O', .inr ⟨_, ⟨goF f s.data.toList (m + ln) (u1, u2), (by have := HE.out; rw [List.append_assoc]; exact this)⟩, j5⟩⟩
        · have HE : Hid (pre ++ [Rd.pos u1 u2 wg] = X) := (by have := HG.out; rw [go_wrong hn hcl hm (by rw [HSZ.out]; exact hlt) hz hC hu hw] at this; exact this)
          have cX := next_wrong s hl bl p x y n1 z1 z2 (by omega) (by omega) (by omega) hn hcl hz m hm hlt kd tx vl ln wg u1 u2 (m + ln) hC hu rfl (by omega) (by omega) hw wr L2
          clear hn hz hm hcl HG hnle hzle hzb hp hme hC hu hlt hlle hule hub hw
          gi_wp2_with (first
            | (gi_at_call 21; refine (callsIn_wide.2 cX).mono ?_; rintro e W2 ⟨⟨⟨g, rfl, hg, G2⟩, L3⟩, T2⟩; clear cX)
            | (refine inAllocS rfl 44 rfl (tokL noTok) Tryd.zeroValue44 ?_; intro W3 b4 F3 M3)
            | (refine inStoreS rfl 44 _ _ rfl rfl (tokL noTok) rfl M3 (by simp [tokL]) info38 (tok_one noTok) ?_; intro W4 U4 M4)
            | (refine inLoadP rfl 44 _ rfl rfl M4 7 (tokL noTok) rfl _ Tryd.underlying44 rfl info38 ?_))
          have hO4 : ¬ Oc b4 := fun h => by have := HK.out b4 h; have := F3.at'; have := T2.size; omega
          have j4 : J pre Oc W4 := hJ pre Oc _ _ (hJ pre Oc _ _ (hJ pre Oc _ _ j2.out (Keep.of_turn T2 HO.out)) (Keep.of_below (F3.trans (Below.refl _ _) (Nat.le_refl _)))) (Keep.of_upd U4 hO4)
          have hg4 : g ≠ b4 := (by have := G2.lt; have := F3.at'; omega)
          have G4 : IsS W4 g 50 (faultL u1 u2 wg) := (G2.fresh F3).upd U4 hg4
          obtain ⟨fn, tmps, assign, body, hy, hR⟩ := hY pre (.pos u1 u2 wg) [] #[.agg (tokL noTok).toArray, .iface 47 (.pointer (some ⟨g, 0, none⟩))] (fun k => k = g) Oc W4 7 HE.out j4 ⟨g, rfl, G4, rfl⟩ (fun k h => by have := HS.out; omega)
          clear j4
          gi_wp2_with fail
          rw [hy]
          refine ⟨fun _ => by omega, hR.mono ?_⟩
          rintro e W5 (⟨rfl, O', j5, -⟩ | ⟨rfl, O', j5, -⟩)
          · rw [HE.out] at j5
            gi_wp2
            refine bodyPost_ret (results_none rfl _ _ _) rfl ?_
            exact ⟨⟨_, rfl⟩, O', .inl j5⟩
          · rw [HE.out] at j5
            gi_wp2
            refine bodyPost_ret (results_none rfl _ _ _) rfl ?_
            exact ⟨⟨_, rfl⟩, O', .inr ⟨_, List.prefix_refl _, j5⟩⟩
end Go.Proofs.YtopnbemodlcknaaDoor.Lx

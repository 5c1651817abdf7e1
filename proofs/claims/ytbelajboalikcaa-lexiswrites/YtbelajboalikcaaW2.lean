/- Write. -/
import Derived.Test.YtbelajboalikcaaW1
namespace Go.Proofs.Ytbelajboalikcaa
open Go.RowKit Go.Shelf M
set_option linter.unusedSimpArgs false
set_option linter.unusedVariables false

/-- One token more. -/
def stepW (i : Nat) (out : List UInt8) (g : GT) : Option (List UInt8) :=
  if saysF (ownF g.kind g.text.data.toList) g.kind g.text.data.toList then some (if 1048576 < out.length then out else out ++ ((if 0 < i then [32] else []) ++ ownF g.kind g.text.data.toList)) else none
/-- What is written of the first tokens; none: one of them is no token. -/
def wrTo (gs : List GT) : Nat → Option (List UInt8)
  | 0 => some []
  | j + 1 => match wrTo gs j, gs[j]? with
    | some out, some g => stepW j out g
    | _, _ => none
theorem wrTo_none {gs : List GT} {j : Nat} (h : wrTo gs j = none) : ∀ k, wrTo gs (j + k) = none
  | 0 => h
  | k + 1 => by
    show (match wrTo gs (j + k), gs[j + k]? with | some out, some g => stepW (j + k) out g | _, _ => none) = none
    rw [wrTo_none h k]
theorem wrTo_step {gs : List GT} {j : Nat} {out : List UInt8} {g : GT} (h : wrTo gs j = some out) (hg : gs[j]? = some g) : wrTo gs (j + 1) = stepW j out g := by
  show (match wrTo gs j, gs[j]? with | some out, some g => stepW j out g | _, _ => none) = _
  rw [h, hg]
/-- What Write answers. -/
def writeV (gs : List GT) : Value := match wrTo gs gs.length with
  | none => .tuple #[.string ⟨#[]⟩, .int .i64 50]
  | some out => if 1048576 < out.length then .tuple #[.string ⟨#[]⟩, .int .i64 1] else .tuple #[.string ⟨out.toArray⟩, .int .i64 0]
theorem says_len {l : List UInt8} {k : Int} {tx : List UInt8} (h : saysF l k tx = true) : l.length ≤ 1048576 := by
  by_cases hl : 1048576 < l.length
  · unfold saysF at h
    rw [show rounds l = [.long] from if_pos hl] at h
    cases h
  · omega
theorem bld_grown {B b : Nat} {bs : List Value} {W W' : World} (h : Lib.IsBuilder 89 5 B b bs W) (hB : Below W.heap.size W W') : Lib.IsBuilder 89 5 B b bs W' := by
  have one : ∀ p, Lib.BuilderAt 89 5 B b p bs W → Lib.BuilderAt 89 5 B b p bs W' := fun p ⟨h1, v, h2, h3, h4⟩ => ⟨h1, v, (hB.block b (Array.getElem?_eq_some_iff.1 h2).1).trans h2, own_belowW h3 hB, h4⟩
  exact h.imp (one _) (one _)
theorem bld_upd {B b b6 t : Nat} {bs cs : List Value} {W W' : World} (h : Lib.IsBuilder 89 5 B b bs W) (U : Upd W W' b6) (hc : IsS W b6 t cs) (h1 : t ≠ 89) (h2 : t ≠ 5) : Lib.IsBuilder 89 5 B b bs W' := by
  have one : ∀ p, Lib.BuilderAt 89 5 B b p bs W → Lib.BuilderAt 89 5 B b p bs W' := fun p ⟨g1, v, g2, g3, g4⟩ =>
    ⟨g1, v, (U.block b (fun e => by
      subst e
      unfold IsS at hc
      rw [hc] at g2
      cases g2
      exact h1 rfl)).trans g2, own_updN g3 U (own_ne g3 hc h2), g4⟩
  exact h.imp (one _) (one _)
/-- Tokens in memory. -/
def Toks (w : World) (a : Option Addr) (gs : List GT) : Prop := ∀ j g, gs[j]? = some g → ∃ b o, a = some ⟨b, o, none⟩ ∧ b < w.heap.size ∧ w.rangeAt b (o + j * 7) (gtL g)
theorem Toks.below {w W : World} {a : Option Addr} {gs : List GT} (h : Toks w a gs) (hB : Below w.heap.size w W) : Toks W a gs := fun j g hg => by
  obtain ⟨b, o, h1, h2, h3⟩ := h j g hg
  refine ⟨b, o, h1, Nat.lt_of_lt_of_le h2 hB.size, fun i v hv => ?_⟩
  rw [hB.cell (p := ⟨b, o + j * 7 + i, none⟩) h2]
  exact h3 i v hv

set_option maxRecDepth 100000 in
set_option maxHeartbeats 2000000 in
theorem write_any (a : Option Addr) (cap : Nat) (gs : List GT) (hs : ∀ g ∈ gs, g.text.size < 2305843009213693952) (hn : gs.length ≤ 1152921504606846976) (w : World) (hT : Toks w a gs) :
    Calls Try.prog 22 #[.slice a gs.length cap] w fun e w' => e = .returned (writeV gs) ∧ Below w.heap.size w w' := by
  have HS : Hid (∀ g ∈ gs, g.text.size < 2305843009213693952) := hs
  obtain ⟨V, hV⟩ : ∃ V, writeV gs = V := ⟨_, rfl⟩
  rw [hV]
  have HV : Hid (writeV gs = V) := hV
  clear hV hs
  go_enter Try.func22, Try.ntmps22
  go_wp2_with (first
    | (refine wpList_allocS rfl 89 rfl [.pointer none, .slice none 0 0] Try.zeroValue89 ?_; intro W1 bo F1 N1; have B1 := F1.trans (Below.refl _ w) (Nat.le_refl _); have hbo : w.heap.size ≤ bo := Nat.le_of_eq F1.at'.symm; clear F1))
  have I1 : Lib.IsBuilder 89 5 w.heap.size bo (Lib.byteCells []) W1 := .inl ⟨hbo, .slice none 0 0, N1, World.ownsRow_nil _ _ _ _, fun e => by cases e⟩
  go_loopw [5, 6, 7, 10] (fun _ _ _ i wr => ∃ (j : Nat) (out : List UInt8), j ≤ gs.length ∧ i = .int .i64 (j : Int) ∧ Hid (wrTo gs j = some out) ∧ out.length ≤ 2097153 ∧ Lib.IsBuilder 89 5 w.heap.size bo (Lib.byteCells out) wr ∧ Hid (Below w.heap.size w wr)) (fun _ _ _ i _ => gs.length - (intOf i).toNat)
  case atStart => exact ⟨0, [], by omega, rfl, rfl, by simp, I1, B1⟩
  case round =>
    obtain ⟨j, out, hj, rfl, HW, hol, IB, HB⟩ := hrel
    clear I1 N1 B1
    have hwr := HB.out.size
    by_cases hlt : j < gs.length
    · have hi : (j : Int) < gs.length := by omega
      obtain ⟨g, hg⟩ : ∃ g, gs[j]? = some g := ⟨_, List.getElem?_eq_getElem hlt⟩
      have hgs := HS.out g (List.mem_of_getElem? hg)
      obtain ⟨b, o, rfl, hb, hrg⟩ := hT.below HB.out j g hg
      have HLN : Hid ((Lib.byteCells out).length = out.length) := (by show _ = _; simp [Lib.byteCells])
      have HST := wrTo_step HW.out hg
      clear hT hg
      cases hsy : saysF (ownF g.kind g.text.data.toList) g.kind g.text.data.toList with
      | false =>
        have HF : Hid (V = .tuple #[.string ⟨#[]⟩, .int .i64 50]) := (by
          show V = _
          have h1 : wrTo gs (j + 1) = none := by rw [HST]; unfold stepW; rw [if_neg (by rw [hsy]; decide)]
          have h2 := wrTo_none h1 (gs.length - (j + 1))
          rw [show j + 1 + (gs.length - (j + 1)) = gs.length by omega] at h2
          rw [← HV.out, writeV, h2])
        clear HST HV HW
        go_wp2_with (first
          | (refine wpList_load_mid rfl 38 _ rfl b _ rfl (gtL g) _ hrg Try.underlying38 rfl info38 ?_)
          | (refine wpList_allocS rfl 38 rfl (tokL noTok) Try.zeroValue38 ?_; intro W2 b6 F2 M2; have I2 := bld_grown IB (F2.trans (Below.refl _ _) (Nat.le_refl _)); have B2 : Hid (Below w.heap.size w W2) := F2.trans HB.out HB.out.size; have hb6 : w.heap.size ≤ b6 := Nat.le_trans hwr (Nat.le_of_eq F2.at'.symm); clear F2)
          | (refine wpList_storeS rfl 38 _ _ rfl rfl (gtL g) rfl M2 (by simp [tokL, gtL]) info38 (gt_one g) ?_; intro W3 U3 M3x; have M3 : IsS W3 b6 38 (gtL g) := M3x; have I3 := bld_upd I2 U3 M2 (by decide) (by decide); have B3 : Hid (Below w.heap.size w W3) := U3.trans B2.out hb6; clear U3 M3x I2 B2 M2)
          | (refine wpList_loadP rfl 38 _ rfl rfl M3 7 (gtL g) rfl _ Try.underlying38 rfl info38 ?_)
          | (go_at_call 40; refine (own_any g hgs _).mono ?_; rintro e W4 ⟨⟨t, rfl, ht, hts⟩, B4⟩; have M4 := M3.grown B4; have I4 := bld_grown I3 B4; have B5 : Hid (Below w.heap.size w W4) := B3.out.trans (B4.mono B3.out.size); have HT : Hid (t.data.toList = ownF g.kind g.text.data.toList) := ht; clear B4 M3 I3 B3 ht)
          | (refine wpList_loadP rfl 38 _ rfl rfl M4 7 (gtL g) rfl _ Try.underlying38 rfl info38 ?_)
          | (go_at_call 41; have cs := says_any t (by omega) g W4; rw [HT.out, hsy] at cs; refine cs.mono ?_; clear cs; rintro e W5 ⟨rfl, B6⟩; have I5 := bld_grown I4 B6; have B7 : Hid (Below w.heap.size w W5) := B5.out.trans (B6.mono B5.out.size); clear B6 M4 I4 B5)
          | (go_at_call 42; have cl := Try.Builder_Len w.heap.size bo _ W5 I5; rw [HLN.out] at cl; refine cl.mono ?_; clear cl; rintro e w' ⟨rfl, hw'⟩; replace hw' := hw'.symm; subst hw'))
        go_ret2
        exact ⟨by rw [HF.out]; rfl, B7.out⟩
      | true =>
        have htl : Hid ((ownF g.kind g.text.data.toList).length ≤ 1048576) := says_len hsy
        by_cases hbig : 1048576 < out.length
        · have HN : Hid (wrTo gs (j + 1) = some out) := (by show _ = _; rw [HST]; unfold stepW; rw [if_pos hsy, if_pos hbig])
          have hbi : (1048576 : Int) < out.length := by omega
          clear HST HW
          go_wp2_with (first
            | (refine wpList_load_mid rfl 38 _ rfl b _ rfl (gtL g) _ hrg Try.underlying38 rfl info38 ?_)
            | (refine wpList_allocS rfl 38 rfl (tokL noTok) Try.zeroValue38 ?_; intro W2 b6 F2 M2; have I2 := bld_grown IB (F2.trans (Below.refl _ _) (Nat.le_refl _)); have B2 : Hid (Below w.heap.size w W2) := F2.trans HB.out HB.out.size; have hb6 : w.heap.size ≤ b6 := Nat.le_trans hwr (Nat.le_of_eq F2.at'.symm); clear F2)
            | (refine wpList_storeS rfl 38 _ _ rfl rfl (gtL g) rfl M2 (by simp [tokL, gtL]) info38 (gt_one g) ?_; intro W3 U3 M3x; have M3 : IsS W3 b6 38 (gtL g) := M3x; have I3 := bld_upd I2 U3 M2 (by decide) (by decide); have B3 : Hid (Below w.heap.size w W3) := U3.trans B2.out hb6; clear U3 M3x I2 B2 M2)
            | (refine wpList_loadP rfl 38 _ rfl rfl M3 7 (gtL g) rfl _ Try.underlying38 rfl info38 ?_)
            | (go_at_call 40; refine (own_any g hgs _).mono ?_; rintro e W4 ⟨⟨t, rfl, ht, hts⟩, B4⟩; have M4 := M3.grown B4; have I4 := bld_grown I3 B4; have B5 : Hid (Below w.heap.size w W4) := B3.out.trans (B4.mono B3.out.size); have HT : Hid (t.data.toList = ownF g.kind g.text.data.toList) := ht; clear B4 M3 I3 B3 ht)
            | (refine wpList_loadP rfl 38 _ rfl rfl M4 7 (gtL g) rfl _ Try.underlying38 rfl info38 ?_)
            | (go_at_call 41; have cs := says_any t (by omega) g W4; rw [HT.out, hsy] at cs; refine cs.mono ?_; clear cs; rintro e W5 ⟨rfl, B6⟩; have I5 := bld_grown I4 B6; have B7 : Hid (Below w.heap.size w W5) := B5.out.trans (B6.mono B5.out.size); clear B6 M4 I4 B5)
            | (go_at_call 42; have cl := Try.Builder_Len w.heap.size bo _ W5 I5; rw [HLN.out] at cl; refine cl.mono ?_; clear cl; rintro e w' ⟨rfl, hw'⟩; replace hw' := hw'.symm; subst hw'))
          go_roundw
          case rel => exact ⟨j + 1, out, by omega, by go_num, HN, hol, I5, B7⟩
          case measure => simp [intOf]; omega
        · have hbi : ¬ (1048576 : Int) < out.length := by omega
          by_cases hj0 : 0 < j
          · have HN : Hid (wrTo gs (j + 1) = some (out ++ [32] ++ ownF g.kind g.text.data.toList)) := (by show _ = _; rw [HST]; unfold stepW; rw [if_pos hsy, if_neg hbig, if_pos hj0, List.append_assoc])
            have hji : (0 : Int) < j := by omega
            clear HST HW
            go_wp2_with (first
              | (refine wpList_load_mid rfl 38 _ rfl b _ rfl (gtL g) _ hrg Try.underlying38 rfl info38 ?_)
              | (refine wpList_allocS rfl 38 rfl (tokL noTok) Try.zeroValue38 ?_; intro W2 b6 F2 M2; have I2 := bld_grown IB (F2.trans (Below.refl _ _) (Nat.le_refl _)); have B2 : Hid (Below w.heap.size w W2) := F2.trans HB.out HB.out.size; have hb6 : w.heap.size ≤ b6 := Nat.le_trans hwr (Nat.le_of_eq F2.at'.symm); clear F2)
              | (refine wpList_storeS rfl 38 _ _ rfl rfl (gtL g) rfl M2 (by simp [tokL, gtL]) info38 (gt_one g) ?_; intro W3 U3 M3x; have M3 : IsS W3 b6 38 (gtL g) := M3x; have I3 := bld_upd I2 U3 M2 (by decide) (by decide); have B3 : Hid (Below w.heap.size w W3) := U3.trans B2.out hb6; clear U3 M3x I2 B2 M2)
              | (refine wpList_loadP rfl 38 _ rfl rfl M3 7 (gtL g) rfl _ Try.underlying38 rfl info38 ?_)
              | (go_at_call 40; refine (own_any g hgs _).mono ?_; rintro e W4 ⟨⟨t, rfl, ht, hts⟩, B4⟩; have M4 := M3.grown B4; have I4 := bld_grown I3 B4; have B5 : Hid (Below w.heap.size w W4) := B3.out.trans (B4.mono B3.out.size); have HT : Hid (t.data.toList = ownF g.kind g.text.data.toList) := ht; clear B4 M3 I3 B3 ht)
              | (refine wpList_loadP rfl 38 _ rfl rfl M4 7 (gtL g) rfl _ Try.underlying38 rfl info38 ?_)
              | (go_at_call 41; have cs := says_any t (by omega) g W4; rw [HT.out, hsy] at cs; refine cs.mono ?_; clear cs; rintro e W5 ⟨rfl, B6⟩; have I5 := bld_grown I4 B6; have B7 : Hid (Below w.heap.size w W5) := B5.out.trans (B6.mono B5.out.size); clear B6 M4 I4 B5)
              | (go_at_call 42; have cl := Try.Builder_Len w.heap.size bo _ W5 I5; rw [HLN.out] at cl; refine cl.mono ?_; clear cl; rintro e w' ⟨rfl, hw'⟩; replace hw' := hw'.symm; subst hw')
              | (go_at_call 43; have cb := writeByte_any w.heap.size bo out 32 W5 I5 (by omega) (by have := B7.out.size; omega); refine cb.mono ?_; clear cb; rintro e W6 ⟨rfl, I6, B8⟩; have B9 : Hid (Below w.heap.size w W6) := B7.out.trans B8; clear B8 I5 B7)
              | (go_at_call 44; have cw := writeString_any w.heap.size bo (out ++ [32]) t W6 I6 (by rw [List.length_append]; have := htl.out; have := HT.out; rw [sizeL, this]; simp; omega) (by have := B9.out.size; omega); refine cw.mono ?_; clear cw; rintro e W7 ⟨rfl, I7, B10⟩; have B11 : Hid (Below w.heap.size w W7) := B9.out.trans B10; clear B10 I6 B9))
            go_roundw
            case rel => exact ⟨j + 1, out ++ [32] ++ ownF g.kind g.text.data.toList, by omega, by go_num, HN, (by have := htl.out; simp; omega), (by rw [← HT.out]; exact I7), B11⟩
            case measure => simp [intOf]; omega
          · have hj' : j = 0 := by omega
            subst hj'
            have HN : Hid (wrTo gs (0 + 1) = some (out ++ ownF g.kind g.text.data.toList)) := (by show _ = _; rw [HST]; unfold stepW; rw [if_pos hsy, if_neg hbig, if_neg hj0, List.nil_append])
            clear HST HW
            go_wp2_with (first
              | (refine wpList_load_mid rfl 38 _ rfl b _ rfl (gtL g) _ hrg Try.underlying38 rfl info38 ?_)
              | (refine wpList_allocS rfl 38 rfl (tokL noTok) Try.zeroValue38 ?_; intro W2 b6 F2 M2; have I2 := bld_grown IB (F2.trans (Below.refl _ _) (Nat.le_refl _)); have B2 : Hid (Below w.heap.size w W2) := F2.trans HB.out HB.out.size; have hb6 : w.heap.size ≤ b6 := Nat.le_trans hwr (Nat.le_of_eq F2.at'.symm); clear F2)
              | (refine wpList_storeS rfl 38 _ _ rfl rfl (gtL g) rfl M2 (by simp [tokL, gtL]) info38 (gt_one g) ?_; intro W3 U3 M3x; have M3 : IsS W3 b6 38 (gtL g) := M3x; have I3 := bld_upd I2 U3 M2 (by decide) (by decide); have B3 : Hid (Below w.heap.size w W3) := U3.trans B2.out hb6; clear U3 M3x I2 B2 M2)
              | (refine wpList_loadP rfl 38 _ rfl rfl M3 7 (gtL g) rfl _ Try.underlying38 rfl info38 ?_)
              | (go_at_call 40; refine (own_any g hgs _).mono ?_; rintro e W4 ⟨⟨t, rfl, ht, hts⟩, B4⟩; have M4 := M3.grown B4; have I4 := bld_grown I3 B4; have B5 : Hid (Below w.heap.size w W4) := B3.out.trans (B4.mono B3.out.size); have HT : Hid (t.data.toList = ownF g.kind g.text.data.toList) := ht; clear B4 M3 I3 B3 ht)
              | (refine wpList_loadP rfl 38 _ rfl rfl M4 7 (gtL g) rfl _ Try.underlying38 rfl info38 ?_)
              | (go_at_call 41; have cs := says_any t (by omega) g W4; rw [HT.out, hsy] at cs; refine cs.mono ?_; clear cs; rintro e W5 ⟨rfl, B6⟩; have I5 := bld_grown I4 B6; have B7 : Hid (Below w.heap.size w W5) := B5.out.trans (B6.mono B5.out.size); clear B6 M4 I4 B5)
              | (go_at_call 42; have cl := Try.Builder_Len w.heap.size bo _ W5 I5; rw [HLN.out] at cl; refine cl.mono ?_; clear cl; rintro e w' ⟨rfl, hw'⟩; replace hw' := hw'.symm; subst hw')
              | (go_at_call 44; have cw := writeString_any w.heap.size bo out t W5 I5 (by have := htl.out; have := HT.out; rw [sizeL, this]; omega) (by have := B7.out.size; omega); refine cw.mono ?_; clear cw; rintro e W7 ⟨rfl, I7, B10⟩; have B11 : Hid (Below w.heap.size w W7) := B7.out.trans B10; clear B10 I5 B7))
            go_roundw
            case rel => exact ⟨0 + 1, out ++ ownF g.kind g.text.data.toList, by omega, by go_num, HN, (by have := htl.out; simp; omega), (by rw [← HT.out]; exact I7), B11⟩
            case measure => simp [intOf]; omega
    · obtain rfl : j = gs.length := by omega
      have HLN : Hid ((Lib.byteCells out).length = out.length) := (by show _ = _; simp [Lib.byteCells])
      by_cases hbig : 1048576 < out.length
      · have HF : Hid (V = .tuple #[.string ⟨#[]⟩, .int .i64 1]) := (by show V = _; rw [← HV.out, writeV, HW.out]; exact if_pos hbig)
        have hbi : (1048576 : Int) < out.length := by omega
        clear HV HW
        go_wp2_with (first
          | (go_at_call 42; have cl := Try.Builder_Len w.heap.size bo _ wr IB; rw [HLN.out] at cl; refine cl.mono ?_; clear cl; rintro e w' ⟨rfl, hw'⟩; replace hw' := hw'.symm; subst hw'))
        go_ret2
        exact ⟨by rw [HF.out]; rfl, HB.out⟩
      · have HF : Hid (V = .tuple #[.string ⟨out.toArray⟩, .int .i64 0]) := (by show V = _; rw [← HV.out, writeV, HW.out]; exact if_neg hbig)
        have hbi : ¬ (1048576 : Int) < out.length := by omega
        clear HV HW
        go_wp2_with (first
          | (go_at_call 42; have cl := Try.Builder_Len w.heap.size bo _ wr IB; rw [HLN.out] at cl; refine cl.mono ?_; clear cl; rintro e w' ⟨rfl, hw'⟩; replace hw' := hw'.symm; subst hw')
          | (go_at_call 45; refine (Try.Builder_String_any w.heap.size bo out wr IB (by omega)).mono ?_; rintro e W9 ⟨rfl, B9⟩))
        go_ret2
        exact ⟨by rw [HF.out]; rfl, HB.out.trans B9⟩
end Go.Proofs.Ytbelajboalikcaa

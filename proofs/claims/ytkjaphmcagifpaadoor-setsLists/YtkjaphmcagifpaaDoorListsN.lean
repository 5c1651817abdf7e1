/- SetsLists at the nil list. -/
import Derived.Test.YtkjaphmcagifpaaDoorLists
namespace Go.Proofs.YtkjaphmcagifpaaDoor
open Go.RowKit M
set_option linter.unusedSimpArgs false
set_option linter.unusedVariables false

set_option maxRecDepth 1000000 in
set_option maxHeartbeats 4000000 in
theorem setsLists_none  (s : Nat) (w : World) (hs : s < 18446744073709551616) (hT : TabAt w) (lv : View 0 w none ([] : List Int)) :
    Calls Tryd.prog 4 #[.slice none 0 0, .int .u64 s] w fun e w' => e = .returned (.bool true) ∧ Below w.heap.size w w' := by
  obtain ⟨i0, hi, hz0, hz1, hz2⟩ := info_parts info3
  have hpos0 := hT.pos
  have hlt0 : ∀ b off, (none : Option Addr) = some (⟨b, off, none⟩ : Addr) → b < w.heap.size ∨ 0 = 0 := fun b off e => by cases e
  have hle := length_lst_le s
  obtain ⟨L, hL⟩ : ∃ L, ((lst s).map fun n : Nat => (n : Int)) = L := ⟨_, rfl⟩
  have hlL : L.length ≤ 64 := by rw [← hL, List.length_map]; exact hle
  have cl : Hid (∀ W : World, TabAt W → Calls Tryd.prog 27 #[.int .u64 s] W fun e w' => ∃ v, e = .returned v ∧ w'.ownsRow W.heap.size 3 1 v L.length (intsZ L) ∧ Below W.heap.size W w') := fun W h => by
    have := list_v s W hs h
    rw [hL] at this
    exact this
  have cr : Hid (∀ W : World, Calls Tryd.prog 28 #[.int .u64 s] W fun e w' => ∃ v, e = .returned v ∧ w'.ownsRow W.heap.size 3 1 v L.length (intsZ L) ∧ Below W.heap.size W w') := fun W => by
    have := rlist_v s W hs
    rw [hL] at this
    exact this
  have ct : Hid (∀ W : World, TabAt W → Calls Tryd.prog 30 #[.int .u64 s] W fun e w' => e = .returned (.string (textB (lst s))) ∧ Below W.heap.size W w') := fun W h => text_any s W hs h
  have cu : Hid (∀ W : World, Calls Tryd.prog 31 #[.int .u64 s] W fun e w' => e = .returned (.string (textB (lst s))) ∧ Below W.heap.size W w') := fun W => rtext_any s W hs
  clear hL hle
  have tk1 : True := trivial
  have tk2 : True := trivial
  generalize textB (lst s) = tx at *
  have hown0 : (w.alloc (.cells #[] 3)).ownsRow w.heap.size 3 1 (.slice (some ⟨w.heap.size, 0, none⟩) 0 0) 0 [] := World.ownsRow_lit w #[] 0 (Nat.le_refl _) (by decide) rfl
  have hBw : Below w.heap.size w (w.alloc (.cells #[] 3)) := (Below.refl _ w).alloc (Nat.le_refl _) _
  replace lv := lv.below hBw
  replace hT := hT.below hBw
  go_enter Tryd.func4, Tryd.ntmps4
  go_wp2_with (first
    | (at_builtin; refine wpList_append_own_none rfl (.tmp 14) (.tmp 15) 34 rfl w.heap.size 3 i0 1 Tryd.underlying34 hi _ 0 [] rfl hown0 rfl ?_; obtain ⟨wa, hwa⟩ : ∃ wa, w.alloc (.cells #[] 3) = wa := ⟨_, rfl⟩; rw [hwa] at hown0 hBw lv hT ⊢; have own1 : wa.ownsRow w.heap.size 3 1 (.slice (some ⟨w.heap.size, 0, none⟩) 0 0) ([] : List Int).length (intsZ []) := hown0; have hlt := And.intro (fun k (e : (Value.slice (some ⟨w.heap.size, 0, none⟩) 0 0).ownBlock = some k) => ((own1.alloc (.cells #[.int .i64 99] 3)).lt k e).1) hlt0; have hpos := fun k (e : (Value.slice (some ⟨w.heap.size, 0, none⟩) 0 0).ownBlock = some k) => Nat.lt_of_lt_of_le hpos0 ((own1.alloc (.cells #[.int .i64 99] 3)).lt k e).1; clear hown0 hwa)
    | (at_builtin; refine wpList_append_own _ rfl (.tmp 16) (.tmp 17) 34 rfl w.heap.size 3 i0 (.int .i64 0) 1 8 Tryd.underlying34 hi hz0 hz1 hz2 rfl (by decide) _ 0 (intsZ ([] : List Int)) rfl (own1.alloc _) ⟨wa.heap.size, 0, none⟩ 1 1 [.int .i64 99] rfl rfl (cell_one_new _ _ _) (by simp [Value.oneCell']) (by unfold maxLen; omega) (by omega) (by have := hBw.size; simp; omega) ?_; intro v2 wb own2 grow2 hif2; clear hif2; obtain ⟨g, capc, rfl⟩ := ownsRow_succ own2; obtain ⟨cv, c99, hgl, hgc⟩ := nums_copy own2; (try simp only [List.length_nil] at c99 hgc); replace hBw := (hBw.alloc hBw.size (.cells #[.int .i64 99] 3)).grown grow2 (by have := hBw.size; simp; omega) (fun k e => ((own1.alloc (.cells #[.int .i64 99] 3)).lt k e).1); replace lv := (lv.below ((Below.refl wa.heap.size wa).alloc (Nat.le_refl _) (.cells #[.int .i64 99] 3))).grown0 grow2 hlt; replace hT := (hT.below ((Below.refl wa.heap.size wa).alloc (Nat.le_refl _) (.cells #[.int .i64 99] 3))).grown0 grow2 hpos; clear own1 own2 grow2)
    | (go_at_call 25; refine (of_any _ _ ([] : List Int) _ cv.nums (by first | omega | simp)).mono ?_; rintro e w' ⟨rfl, hw'⟩; replace hw' := hw'.symm; subst hw')
    | (go_at_call 26; refine (rof_any _ _ ([] : List Int) _ lv.nums (by first | omega | simp)).mono ?_; rintro e w' ⟨rfl, hw'⟩; replace hw' := hw'.symm; subst hw')
    | (go_at_call 27; have _ := av; refine (cl.out _ hT).mono ?_; rintro e wd ⟨v, rfl, ownb, hb⟩; obtain ⟨bb, capb, rfl, bv⟩ := view_of_own ownb; have hcd := hb.size; replace lv := lv.below hb; replace cv := cv.below hb; replace c99 := (hb.cell (p := ⟨g, 0, none⟩) hgl).trans c99; replace hgl := Nat.lt_of_lt_of_le hgl hb.size; replace hT := hT.below hb; replace hBw := hBw.trans (hb.mono hBw.size); replace av := av.below hb; replace ao := own_below ao hb; clear ownb hb)
    | (go_at_call 27; refine (cl.out _ hT).mono ?_; rintro e wc ⟨v, rfl, ao, hb⟩; obtain ⟨aa, capa, rfl, av⟩ := view_of_own ao; have hga := fun k (e : (Value.slice aa L.length capa).ownBlock = some k) => (ao.lt k e).2; have hwb := hBw.size; replace lv := lv.below hb; replace cv := cv.below hb; replace c99 := (hb.cell (p := ⟨g, 0, none⟩) hgl).trans c99; replace hgl := Nat.lt_of_lt_of_le hgl hb.size; replace hT := hT.below hb; replace hBw := hBw.trans (hb.mono hBw.size); clear hb)
    | (go_at_call 28; refine (cr.out _).mono ?_; rintro e we ⟨v, rfl, owno, hb⟩; obtain ⟨oo, capo, rfl, ov⟩ := view_of_own owno; replace lv := lv.below hb; replace cv := cv.below hb; replace c99 := (hb.cell (p := ⟨g, 0, none⟩) hgl).trans c99; replace hgl := Nat.lt_of_lt_of_le hgl hb.size; replace hT := hT.below hb; replace hBw := hBw.trans (hb.mono hBw.size); replace av := av.below hb; replace ao := own_below ao hb; replace bv := bv.below hb; clear owno hb)
    | (go_at_call 29; clear tk1; refine (same_v _ _ _ _ L _ av ov (by omega)).mono ?_; rintro e w' ⟨rfl, hb⟩; replace lv := lv.below hb; replace cv := cv.below hb; replace c99 := (hb.cell (p := ⟨g, 0, none⟩) hgl).trans c99; replace hgl := Nat.lt_of_lt_of_le hgl hb.size; replace hT := hT.below hb; replace hBw := hBw.trans (hb.mono hBw.size); replace av := av.below hb; replace ao := own_below ao hb; replace bv := bv.below hb; replace ov := ov.below hb; clear hb)
    | (go_at_call 29; clear tk2; refine (same_v _ _ _ _ L _ bv ov (by omega)).mono ?_; rintro e w' ⟨rfl, hb⟩; replace lv := lv.below hb; replace cv := cv.below hb; replace c99 := (hb.cell (p := ⟨g, 0, none⟩) hgl).trans c99; replace hgl := Nat.lt_of_lt_of_le hgl hb.size; replace hT := hT.below hb; replace hBw := hBw.trans (hb.mono hBw.size); replace av := av.below hb; replace ao := own_below ao hb; replace bv := bv.below hb; replace ov := ov.below hb; clear hb)
    | (go_at_call 29; refine (same_v _ _ _ _ ([] : List Int) _ cv lv (by first | omega | simp)).mono ?_; rintro e w' ⟨rfl, hb⟩; replace lv := lv.below hb; replace cv := cv.below hb; replace c99 := (hb.cell (p := ⟨g, 0, none⟩) hgl).trans c99; replace hgl := Nat.lt_of_lt_of_le hgl hb.size; replace hT := hT.below hb; replace hBw := hBw.trans (hb.mono hBw.size); replace av := av.below hb; replace ao := own_below ao hb; replace bv := bv.below hb; replace ov := ov.below hb; clear hb)
    | (go_at_call 30; refine (ct.out _ hT).mono ?_; rintro e w' ⟨rfl, hb⟩; replace lv := lv.below hb; replace cv := cv.below hb; replace c99 := (hb.cell (p := ⟨g, 0, none⟩) hgl).trans c99; replace hgl := Nat.lt_of_lt_of_le hgl hb.size; replace hT := hT.below hb; replace hBw := hBw.trans (hb.mono hBw.size); replace av := av.below hb; replace ao := own_below ao hb; replace bv := bv.below hb; replace ov := ov.below hb; clear hb)
    | (go_at_call 31; refine (cu.out _).mono ?_; rintro e w' ⟨rfl, hb⟩; replace lv := lv.below hb; replace cv := cv.below hb; replace c99 := (hb.cell (p := ⟨g, 0, none⟩) hgl).trans c99; replace hgl := Nat.lt_of_lt_of_le hgl hb.size; replace hT := hT.below hb; replace hBw := hBw.trans (hb.mono hBw.size); replace av := av.below hb; replace ao := own_below ao hb; replace bv := bv.below hb; replace ov := ov.below hb; clear hb))
  replace ov := ov.lower hcd
  clear av cv c99 lv cl cr ct cu hcd
  go_loopw [13] (fun i wr => ∃ k : Nat, k ≤ L.length ∧ i = .int .i64 k ∧ (∃ ys, wr.ownsRow wb.heap.size 3 1 (.slice aa L.length capa) L.length ys) ∧ View wc.heap.size wr bb L ∧ View wc.heap.size wr oo L ∧ Below w.heap.size w wr) (fun i _ => L.length - (intOf i).toNat)
  case atStart => exact ⟨0, by omega, rfl, ⟨_, ao⟩, bv, ov, hBw⟩
  case round =>
    clear ao bv ov hBw hT
    obtain ⟨k, hk, rfl, ⟨ys, ao⟩, bv, ov, hBw⟩ := hrel
    by_cases hlt : k < L.length
    · obtain ⟨ga, capg, he⟩ := Go.Joins.ownsRow_form ao (by omega)
      cases he
      have hga' := hga ga rfl
      have hgb := (ao.lt ga rfl).1
      have hfz := ao.frozenAt k
      have hyl : ys.length = L.length := by have := ao.1; omega
      obtain ⟨y, hy⟩ : ∃ y, wr.cell? ⟨ga, k, none⟩ = some y := by
        rw [ao.cellAt k (by omega), List.getElem?_eq_getElem (by omega)]; exact ⟨_, rfl⟩
      obtain ⟨ao2, gr⟩ := ao.stored k (.int .i64 (-5))
      have bv2 := bv.grown gr (fun j e => by cases e; exact hga')
      have ov2 := ov.grown gr (fun j e => by cases e; exact hga')
      have hB2 := hBw.setCell (p := ⟨ga, k, none⟩) (by show w.heap.size ≤ ga; omega) (.int .i64 (-5))
      clear ao gr bv ov hBw
      go_wp2
      go_roundw
      case rel => exact ⟨k + 1, by omega, by go_num, ⟨_, ao2⟩, bv2, ov2, hB2⟩
      case measure => simp [intOf]; omega
    · obtain rfl : k = L.length := by omega
      go_wp2_with (first
        | (at_builtin; refine wpList_append_own _ rfl (.tmp 91) (.tmp 92) 34 rfl w.heap.size 3 i0 (.int .i64 0) 1 8 Tryd.underlying34 hi hz0 hz1 hz2 rfl (by decide) _ L.length ys rfl ((Go.Joins.ownsRow_le ao hwb).alloc _) ⟨wr.heap.size, 0, none⟩ 1 1 [.int .i64 (-6)] rfl rfl (cell_one_new _ _ _) (by simp [Value.oneCell']) (by unfold maxLen; omega) (by omega) (by have := hBw.size; simp; omega) ?_; intro v3 w5 own3 grow3 hif3; clear hif3; obtain ⟨g3, cap3, rfl⟩ := ownsRow_succ own3; replace bv := (bv.below ((Below.refl wr.heap.size wr).alloc (Nat.le_refl _) (.cells #[.int .i64 (-6)] 3))).grown grow3 hga; replace ov := (ov.below ((Below.refl wr.heap.size wr).alloc (Nat.le_refl _) (.cells #[.int .i64 (-6)] 3))).grown grow3 hga; replace hBw := (hBw.alloc hBw.size (.cells #[.int .i64 (-6)] 3)).grown grow3 (by have := hBw.size; simp; omega) (fun k e => (((Go.Joins.ownsRow_le ao hwb).alloc (.cells #[.int .i64 (-6)] 3)).lt k e).1); clear own3 grow3 ao)
        | (go_at_call 29; refine (same_v _ _ _ _ _ _ bv ov (by omega)).mono ?_; rintro e w6 ⟨rfl, hb6⟩))
      go_ret
      exact ⟨ret_bool (by first | rfl | simp), hBw.trans (hb6.mono hBw.size)⟩
end Go.Proofs.YtkjaphmcagifpaaDoor

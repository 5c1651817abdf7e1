/- SetsLists: for every list of numbers and every set it returns true: the walk of the law itself, from the contracts of what it calls. -/
import Derived.Test.YtkjaphmcagifpaaDoorW5
import Derived.Laws.AppendOwnNone
namespace Go.Proofs.YtkjaphmcagifpaaDoor
open Go.RowKit M
set_option linter.unusedSimpArgs false
set_option linter.unusedVariables false

/-- A slice's numbers, in a block from lo on. -/
structure View (lo : Nat) (W : World) (a : Option Addr) (zs : List Int) : Prop where
  nums : Nums W a zs
  lies : ∀ b off, a = some ⟨b, off, none⟩ → lo ≤ b ∧ (b < W.heap.size ∨ zs.length = 0)

theorem View.step {lo : Nat} {W W' : World} {a : Option Addr} {zs : List Int} (h : View lo W a zs) (hs : W.heap.size ≤ W'.heap.size) (hk : ∀ k, lo ≤ k → k < W.heap.size → W'.heap[k]? = W.heap[k]?) : View lo W' a zs where
  nums := fun j hj => by
    obtain ⟨b, off, rfl, hc⟩ := h.nums j hj
    have hl := h.lies b off rfl
    refine ⟨b, off, rfl, ?_⟩
    rw [World.cell?_of_block (w := W) (hk b hl.1 (by omega))]
    exact hc
  lies := fun b off e => by
    have := h.lies b off e
    omega

theorem View.below {lo : Nat} {W W' : World} {a : Option Addr} {zs : List Int} (h : View lo W a zs) (hb : Below W.heap.size W W') : View lo W' a zs := h.step hb.size (fun k _ hk => hb.block k hk)
theorem View.grown {lo : Nat} {W W' : World} {a : Option Addr} {zs : List Int} {row : Option Nat} (h : View lo W a zs) (hg : W.grownBy W' row) (hr : ∀ k, row = some k → k < lo) : View lo W' a zs :=
  h.step hg.size (fun k hl hk => hg.block k hk (fun e => by have := hr k e.symm; omega))

theorem same_v {lo lo' : Nat} (a b : Option Addr) (c d : Nat) (zs : List Int) (W : World) (hA : View lo W a zs) (hB : View lo' W b zs) (hl : zs.length ≤ 1152921504606846976) :
    Calls Tryd.prog 29 #[.slice a zs.length c, .slice b zs.length d] W fun e w' => e = .returned (.bool true) ∧ Below W.heap.size W w' :=
  (same_any a b c d zs W hA.nums hB.nums hl).mono fun e w' ⟨he, n, hw⟩ => ⟨he, by rw [hw]; exact below_drewN (Below.refl _ _) n⟩

theorem own_below {W W' : World} {base n : Nat} {v : Value} {xs : List Value} (h : W.ownsRow base 3 1 v n xs) (hb : Below W.heap.size W W') : W'.ownsRow base 3 1 v n xs := by
  refine ⟨h.1, ?_⟩
  rcases h.2 with hn | ⟨g, cap, cur, rfl, hg, hh, rest⟩
  · exact Or.inl hn
  · exact Or.inr ⟨g, cap, cur, rfl, hg, (hb.block g (Array.getElem?_eq_some_iff.1 hh).1).trans hh, rest⟩

/-- The cells of a list of numbers. -/
def intsZ (zs : List Int) : List Value := zs.map fun z => Value.int .i64 z
theorem ints_eq (l : List Nat) : ints l = intsZ (l.map fun n : Nat => (n : Int)) := by simp [ints, intsZ]

theorem view_of_own {W : World} {base : Nat} {v : Value} {zs : List Int} (h : W.ownsRow base 3 1 v zs.length (intsZ zs)) : ∃ a cap, v = .slice a zs.length cap ∧ View base W a zs := by
  rcases h.2 with ⟨rfl, h0⟩ | ⟨g, cap, cur, rfl, hg, hh, rest⟩
  · exact ⟨none, 0, by rw [h0], fun j hj => by omega, fun b off e => by cases e⟩
  · refine ⟨_, cap, rfl, fun j hj => ⟨g, 0, rfl, ?_⟩, fun b off e => ?_⟩
    · rw [Nat.zero_add, h.cellAt j (by omega)]
      simp [intsZ, hj]
    · cases e; exact ⟨hg, Or.inl (Array.getElem?_eq_some_iff.1 hh).1⟩

theorem list_v (s : Nat) (W : World) (hs : s < 18446744073709551616) (hT : TabAt W) :
    Calls Tryd.prog 27 #[.int .u64 s] W fun e w' => ∃ v, e = .returned v ∧ w'.ownsRow W.heap.size 3 1 v ((lst s).map fun n : Nat => (n : Int)).length (intsZ ((lst s).map fun n : Nat => (n : Int))) ∧ Below W.heap.size W w' := by
  have := list_any s W hs hT
  rw [ints_eq] at this
  rw [List.length_map]
  exact this
theorem rlist_v (s : Nat) (W : World) (hs : s < 18446744073709551616) :
    Calls Tryd.prog 28 #[.int .u64 s] W fun e w' => ∃ v, e = .returned v ∧ w'.ownsRow W.heap.size 3 1 v ((lst s).map fun n : Nat => (n : Int)).length (intsZ ((lst s).map fun n : Nat => (n : Int))) ∧ Below W.heap.size W w' := by
  have := rlist_any s W hs
  rw [ints_eq] at this
  rw [List.length_map]
  exact this

/-- What stands behind the two appends: the numbers that came in, and 99. -/
theorem nums_copy {W : World} {base g cap : Nat} {zs : List Int} (h : W.ownsRow base 3 1 (.slice (some ⟨g, 0, none⟩) (zs.length + 1) cap) (zs.length + 1) (intsZ zs ++ [.int .i64 99])) :
    View base W (some ⟨g, 0, none⟩) zs ∧ W.cell? ⟨g, zs.length, none⟩ = some (.int .i64 99) ∧ g < W.heap.size ∧ zs.length < cap := by
  have hl : (intsZ zs).length = zs.length := by simp [intsZ]
  have hg : base ≤ g ∧ g < W.heap.size ∧ zs.length < cap := by
    rcases h.2 with ⟨hv, _⟩ | ⟨g', cap', cur, hv, hb, hh, hc, _⟩
    · cases hv
    · cases hv; exact ⟨hb, (Array.getElem?_eq_some_iff.1 hh).1, by omega⟩
  refine ⟨⟨fun j hj => ⟨g, 0, rfl, ?_⟩, fun b off e => ?_⟩, ?_, hg.2⟩
  · rw [Nat.zero_add, h.cellAt j (by omega), List.getElem?_append_left (by omega)]
    simp [intsZ, hj]
  · cases e; exact ⟨hg.1, Or.inl hg.2.1⟩
  · rw [h.cellAt zs.length (by omega), List.getElem?_append_right (by omega), hl]
    simp

theorem View.lower {lo lo' : Nat} {W : World} {a : Option Addr} {zs : List Int} (h : View lo W a zs) (hl : lo' ≤ lo) : View lo' W a zs := ⟨h.nums, fun b off e => by have := h.lies b off e; omega⟩

theorem View.grown0 {W W' : World} {a : Option Addr} {zs : List Int} {row : Option Nat} {N : Nat} (h : View 0 W a zs) (hg : W.grownBy W' row) (hr : (∀ k, row = some k → N ≤ k) ∧ ∀ b off, a = some ⟨b, off, none⟩ → b < N ∨ zs.length = 0) : View 0 W' a zs where
  nums := fun j hj => by
    obtain ⟨b, off, rfl, hc⟩ := h.nums j hj
    have h1 := hr.2 b off rfl
    have h2 := h.lies b off rfl
    refine ⟨b, off, rfl, ?_⟩
    rw [World.cell?_of_block (w := W) (hg.block b (by omega) (fun e => by have := hr.1 b e.symm; omega))]
    exact hc
  lies := fun b off e => by
    have := h.lies b off e
    have := hg.size
    omega

theorem TabAt.grown0 {W W' : World} {row : Option Nat} (h : TabAt W) (hg : W.grownBy W' row) (hr : ∀ k, row = some k → 0 < k) : TabAt W' := fun j hj =>
  (World.cell?_of_block (w := W) (hg.block 0 h.pos (fun e => by have := hr 0 e.symm; omega))).trans (h j hj)

set_option maxRecDepth 1000000 in
set_option maxHeartbeats 4000000 in
theorem setsLists_some (ad : Addr) (a0 : Option Addr) (ha : a0 = some ad) (Z : List Int)  (cap0 : Nat) (s : Nat) (w : World) (hs : s < 18446744073709551616) (hT : TabAt w) (hZ : Z.length * 8 ≤ 140737488351232) (lv : View 0 w a0 Z) :
    Calls Tryd.prog 4 #[.slice a0 Z.length cap0, .int .u64 s] w fun e w' => e = .returned (.bool true) ∧ Below w.heap.size w w' := by
  obtain ⟨i0, hi, hz0, hz1, hz2⟩ := info_parts info3
  have hpos0 := hT.pos
  subst ha
  have hlt0 : ∀ b off, some ad = some (⟨b, off, none⟩ : Addr) → b < w.heap.size ∨ Z.length = 0 := fun b off e => (lv.lies b off e).2
  have hle := length_lst_le s
  obtain ⟨L, hL⟩ : ∃ L, ((lst s).map fun n : Nat => (n : Int)) = L := ⟨_, rfl⟩
  have hlL : L.length ≤ 64 := by rw [← hL, List.length_map]; exact hle
  have cl : Hid (∀ W : World, TabAt W → Calls Tryd.prog 27 #[.int .u64 s] W fun e w' => ∃ v, e = .returned v ∧ w'.ownsRow W.heap.size 3 1 v L.length (intsZ L) ∧ Below W.heap.size W w') := fun W h => by
    have := list_v s W hs h
    rw [hL] at this
    exact this
  have cr : Hid (∀ W : World, Calls Tryd.prog 28 #[.int .u64 s] W fun e w' => ∃ v, e = .returned v ∧ w'.ownsRow W.heap.size 3 1 v L.length (intsZ L) ∧ Below W.heap.size W w') := fun W => by
    have := rlist_v s W hs
    rw [hL] at this
    exact this
  have ct : Hid (∀ W : World, TabAt W → Calls Tryd.prog 30 #[.int .u64 s] W fun e w' => e = .returned (.string (textB (lst s))) ∧ Below W.heap.size W w') := fun W h => text_any s W hs h
  have cu : Hid (∀ W : World, Calls Tryd.prog 31 #[.int .u64 s] W fun e w' => e = .returned (.string (textB (lst s))) ∧ Below W.heap.size W w') := fun W => rtext_any s W hs
  clear hL hle
  have tk1 : True := trivial
  have tk2 : True := trivial
  generalize textB (lst s) = tx at *
  have hown0 : (w.alloc (.cells #[] 3)).ownsRow w.heap.size 3 1 (.slice (some ⟨w.heap.size, 0, none⟩) 0 0) 0 [] := World.ownsRow_lit w #[] 0 (Nat.le_refl _) (by decide) rfl
  have hBw : Below w.heap.size w (w.alloc (.cells #[] 3)) := (Below.refl _ w).alloc (Nat.le_refl _) _
  replace lv := lv.below hBw
  replace hT := hT.below hBw
  have hnews : Hid (∀ j u, (intsZ Z)[j]? = some u → (w.alloc (.cells #[] 3)).cell? (ad.add j) = some u) := fun j u hj => by
    have hjl : j < Z.length := by
      have := (List.getElem?_eq_some_iff.1 hj).1
      simpa [intsZ] using this
    obtain ⟨b, off, e, hc⟩ := lv.nums j hjl
    cases e
    have : (⟨b, off, none⟩ : Addr).add j = ⟨b, off + j, none⟩ := by simp [Addr.add]
    rw [this, hc]
    simp [intsZ, hjl] at hj
    rw [← hj]
    simp [hjl]
  go_enter Tryd.func4, Tryd.ntmps4
  go_wp2_with (first
    | (at_builtin; refine wpList_append_own _ rfl (.tmp 14) (.tmp 15) 34 rfl w.heap.size 3 i0 (.int .i64 0) 1 8 Tryd.underlying34 hi hz0 hz1 hz2 rfl (by decide) _ 0 [] rfl hown0 ad Z.length cap0 (intsZ Z) rfl (by simp [intsZ]) hnews.out (by simp [intsZ, Value.oneCell']) (by unfold maxLen; omega) (by omega) (by simp) ?_; intro v1 wa own1 grow1 hif1; clear hif1; simp only [Nat.zero_add, List.nil_append] at own1; replace hBw := hBw.grown grow1 hBw.size (fun k e => by cases e; exact Nat.le_refl _); replace lv := lv.grown0 grow1 (N := w.heap.size) ⟨fun k e => by cases e; exact Nat.le_refl _, hlt0⟩; replace hT := hT.grown0 grow1 (fun k e => by cases e; exact hpos0); have hlt := And.intro (fun k (e : v1.ownBlock = some k) => ((own1.alloc (.cells #[.int .i64 99] 3)).lt k e).1) hlt0; have hpos := fun k (e : v1.ownBlock = some k) => Nat.lt_of_lt_of_le hpos0 ((own1.alloc (.cells #[.int .i64 99] 3)).lt k e).1; clear grow1 hnews)
    | (at_builtin; refine wpList_append_own _ rfl (.tmp 16) (.tmp 17) 34 rfl w.heap.size 3 i0 (.int .i64 0) 1 8 Tryd.underlying34 hi hz0 hz1 hz2 rfl (by decide) _ Z.length (intsZ Z) rfl (own1.alloc _) ⟨wa.heap.size, 0, none⟩ 1 1 [.int .i64 99] rfl rfl (cell_one_new _ _ _) (by simp [Value.oneCell']) (by unfold maxLen; omega) (by omega) (by have := hBw.size; simp; omega) ?_; intro v2 wb own2 grow2 hif2; clear hif2; obtain ⟨g, capc, rfl⟩ := ownsRow_succ own2; obtain ⟨cv, c99, hgl, hgc⟩ := nums_copy own2; (try simp only [List.length_nil] at c99 hgc); replace hBw := (hBw.alloc hBw.size (.cells #[.int .i64 99] 3)).grown grow2 (by have := hBw.size; simp; omega) (fun k e => ((own1.alloc (.cells #[.int .i64 99] 3)).lt k e).1); replace lv := (lv.below ((Below.refl wa.heap.size wa).alloc (Nat.le_refl _) (.cells #[.int .i64 99] 3))).grown0 grow2 hlt; replace hT := (hT.below ((Below.refl wa.heap.size wa).alloc (Nat.le_refl _) (.cells #[.int .i64 99] 3))).grown0 grow2 hpos; clear own1 own2 grow2)
    | (go_at_call 25; refine (of_any _ _ Z _ cv.nums (by first | omega | simp)).mono ?_; rintro e w' ⟨rfl, hw'⟩; replace hw' := hw'.symm; subst hw')
    | (go_at_call 26; refine (rof_any _ _ Z _ lv.nums (by first | omega | simp)).mono ?_; rintro e w' ⟨rfl, hw'⟩; replace hw' := hw'.symm; subst hw')
    | (go_at_call 27; have _ := av; refine (cl.out _ hT).mono ?_; rintro e wd ⟨v, rfl, ownb, hb⟩; obtain ⟨bb, capb, rfl, bv⟩ := view_of_own ownb; have hcd := hb.size; replace lv := lv.below hb; replace cv := cv.below hb; replace c99 := (hb.cell (p := ⟨g, Z.length, none⟩) hgl).trans c99; replace hgl := Nat.lt_of_lt_of_le hgl hb.size; replace hT := hT.below hb; replace hBw := hBw.trans (hb.mono hBw.size); replace av := av.below hb; replace ao := own_below ao hb; clear ownb hb)
    | (go_at_call 27; refine (cl.out _ hT).mono ?_; rintro e wc ⟨v, rfl, ao, hb⟩; obtain ⟨aa, capa, rfl, av⟩ := view_of_own ao; have hga := fun k (e : (Value.slice aa L.length capa).ownBlock = some k) => (ao.lt k e).2; have hwb := hBw.size; replace lv := lv.below hb; replace cv := cv.below hb; replace c99 := (hb.cell (p := ⟨g, Z.length, none⟩) hgl).trans c99; replace hgl := Nat.lt_of_lt_of_le hgl hb.size; replace hT := hT.below hb; replace hBw := hBw.trans (hb.mono hBw.size); clear hb)
    | (go_at_call 28; refine (cr.out _).mono ?_; rintro e we ⟨v, rfl, owno, hb⟩; obtain ⟨oo, capo, rfl, ov⟩ := view_of_own owno; replace lv := lv.below hb; replace cv := cv.below hb; replace c99 := (hb.cell (p := ⟨g, Z.length, none⟩) hgl).trans c99; replace hgl := Nat.lt_of_lt_of_le hgl hb.size; replace hT := hT.below hb; replace hBw := hBw.trans (hb.mono hBw.size); replace av := av.below hb; replace ao := own_below ao hb; replace bv := bv.below hb; clear owno hb)
    | (go_at_call 29; clear tk1; refine (same_v _ _ _ _ L _ av ov (by omega)).mono ?_; rintro e w' ⟨rfl, hb⟩; replace lv := lv.below hb; replace cv := cv.below hb; replace c99 := (hb.cell (p := ⟨g, Z.length, none⟩) hgl).trans c99; replace hgl := Nat.lt_of_lt_of_le hgl hb.size; replace hT := hT.below hb; replace hBw := hBw.trans (hb.mono hBw.size); replace av := av.below hb; replace ao := own_below ao hb; replace bv := bv.below hb; replace ov := ov.below hb; clear hb)
    | (go_at_call 29; clear tk2; refine (same_v _ _ _ _ L _ bv ov (by omega)).mono ?_; rintro e w' ⟨rfl, hb⟩; replace lv := lv.below hb; replace cv := cv.below hb; replace c99 := (hb.cell (p := ⟨g, Z.length, none⟩) hgl).trans c99; replace hgl := Nat.lt_of_lt_of_le hgl hb.size; replace hT := hT.below hb; replace hBw := hBw.trans (hb.mono hBw.size); replace av := av.below hb; replace ao := own_below ao hb; replace bv := bv.below hb; replace ov := ov.below hb; clear hb)
    | (go_at_call 29; refine (same_v _ _ _ _ Z _ cv lv (by first | omega | simp)).mono ?_; rintro e w' ⟨rfl, hb⟩; replace lv := lv.below hb; replace cv := cv.below hb; replace c99 := (hb.cell (p := ⟨g, Z.length, none⟩) hgl).trans c99; replace hgl := Nat.lt_of_lt_of_le hgl hb.size; replace hT := hT.below hb; replace hBw := hBw.trans (hb.mono hBw.size); replace av := av.below hb; replace ao := own_below ao hb; replace bv := bv.below hb; replace ov := ov.below hb; clear hb)
    | (go_at_call 30; refine (ct.out _ hT).mono ?_; rintro e w' ⟨rfl, hb⟩; replace lv := lv.below hb; replace cv := cv.below hb; replace c99 := (hb.cell (p := ⟨g, Z.length, none⟩) hgl).trans c99; replace hgl := Nat.lt_of_lt_of_le hgl hb.size; replace hT := hT.below hb; replace hBw := hBw.trans (hb.mono hBw.size); replace av := av.below hb; replace ao := own_below ao hb; replace bv := bv.below hb; replace ov := ov.below hb; clear hb)
    | (go_at_call 31; refine (cu.out _).mono ?_; rintro e w' ⟨rfl, hb⟩; replace lv := lv.below hb; replace cv := cv.below hb; replace c99 := (hb.cell (p := ⟨g, Z.length, none⟩) hgl).trans c99; replace hgl := Nat.lt_of_lt_of_le hgl hb.size; replace hT := hT.below hb; replace hBw := hBw.trans (hb.mono hBw.size); replace av := av.below hb; replace ao := own_below ao hb; replace bv := bv.below hb; replace ov := ov.below hb; clear hb))
  replace ov := ov.lower hcd
  clear av cv c99 lv cl cr ct cu hcd
  go_loopw [13] (fun i wr => ∃ k : Nat, k ≤ L.length ∧ i = .int .i64 k ∧ (∃ ys, wr.ownsRow wb.heap.size 3 1 (.slice aa L.length capa) L.length ys) ∧ View wc.heap.size wr bb L ∧ View wc.heap.size wr oo L ∧ Below w.heap.size w wr) (fun i _ => L.length - (intOf i).toNat)
  case atStart => exact ⟨0, by omega, rfl, ⟨_, ao⟩, bv, ov, hBw⟩
  case round =>
    clear ao bv ov hBw hT
    obtain ⟨k, hk, rfl, ⟨ys, ao⟩, bv, ov, hBw⟩ := hrel
    by_cases hlt : k < L.length
    · obtain ⟨ga, capg, he⟩ := Go.Joins.ownsRow_form ao (by omega)
      cases he
      have hga' := hga ga rfl
      have hgb := (ao.lt ga rfl).1
      have hfz := ao.frozenAt k
      have hyl : ys.length = L.length := by have := ao.1; omega
      obtain ⟨y, hy⟩ : ∃ y, wr.cell? ⟨ga, k, none⟩ = some y := by
        rw [ao.cellAt k (by omega), List.getElem?_eq_getElem (by omega)]; exact ⟨_, rfl⟩
      obtain ⟨ao2, gr⟩ := ao.stored k (.int .i64 (-5))
      have bv2 := bv.grown gr (fun j e => by cases e; exact hga')
      have ov2 := ov.grown gr (fun j e => by cases e; exact hga')
      have hB2 := hBw.setCell (p := ⟨ga, k, none⟩) (by show w.heap.size ≤ ga; omega) (.int .i64 (-5))
      clear ao gr bv ov hBw
      go_wp2
      go_roundw
      case rel => exact ⟨k + 1, by omega, by go_num, ⟨_, ao2⟩, bv2, ov2, hB2⟩
      case measure => simp [intOf]; omega
    · obtain rfl : k = L.length := by omega
      go_wp2_with (first
        | (at_builtin; refine wpList_append_own _ rfl (.tmp 91) (.tmp 92) 34 rfl w.heap.size 3 i0 (.int .i64 0) 1 8 Tryd.underlying34 hi hz0 hz1 hz2 rfl (by decide) _ L.length ys rfl ((Go.Joins.ownsRow_le ao hwb).alloc _) ⟨wr.heap.size, 0, none⟩ 1 1 [.int .i64 (-6)] rfl rfl (cell_one_new _ _ _) (by simp [Value.oneCell']) (by unfold maxLen; omega) (by omega) (by have := hBw.size; simp; omega) ?_; intro v3 w5 own3 grow3 hif3; clear hif3; obtain ⟨g3, cap3, rfl⟩ := ownsRow_succ own3; replace bv := (bv.below ((Below.refl wr.heap.size wr).alloc (Nat.le_refl _) (.cells #[.int .i64 (-6)] 3))).grown grow3 hga; replace ov := (ov.below ((Below.refl wr.heap.size wr).alloc (Nat.le_refl _) (.cells #[.int .i64 (-6)] 3))).grown grow3 hga; replace hBw := (hBw.alloc hBw.size (.cells #[.int .i64 (-6)] 3)).grown grow3 (by have := hBw.size; simp; omega) (fun k e => (((Go.Joins.ownsRow_le ao hwb).alloc (.cells #[.int .i64 (-6)] 3)).lt k e).1); clear own3 grow3 ao)
        | (go_at_call 29; refine (same_v _ _ _ _ _ _ bv ov (by omega)).mono ?_; rintro e w6 ⟨rfl, hb6⟩))
      go_ret
      exact ⟨ret_bool (by first | rfl | simp), hBw.trans (hb6.mono hBw.size)⟩
end Go.Proofs.YtkjaphmcagifpaaDoor

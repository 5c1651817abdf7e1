/- What the law's helper takes of an iterator: the first pairs of a relation. -/
import Derived.Test.YtkccckjiemijeaaDoorX3
namespace Go.Proofs.YtkccckjiemijeaaDoor
open Go.RowKit Go.Shelf M
attribute [local go_sem] Oper.semAt_some
set_option linter.unusedSimpArgs false
set_option linter.unusedVariables false

def Pair (W : World) (b : Nat) (x y : Int) : Prop := W.heap[b]? = some (.cells #[.int .i64 x, .int .i64 y] 29 (0, 0))
theorem Pair.new (W : World) (x y : Int) : Pair (W.alloc (.cells #[.int .i64 x, .int .i64 y] 29)) W.heap.size x y := heap_alloc_last W _
theorem Pair.c0 {W : World} {b : Nat} {x y : Int} (h : Pair W b x y) : W.cell? ⟨b, 0, none⟩ = some (.int .i64 x) := by
  rw [cell_of_row W b 0 _ 29 (0, 0) h]; rfl
theorem Pair.c1 {W : World} {b : Nat} {x y : Int} (h : Pair W b x y) : W.cell? ⟨b, 1, none⟩ = some (.int .i64 y) := by
  rw [cell_of_row W b 1 _ 29 (0, 0) h]; rfl
theorem pair_own {β : Type} (b : Nat) (x y : Int) : Own (fun (_ : β) W => Pair W b x y) := fun s X Y row hs hg hr => by
  refine (hg.block b (Array.getElem?_eq_some_iff.1 hs).1 (fun e => ?_)).trans hs
  obtain ⟨o, ho, hc⟩ := hr b e.symm
  rw [show X.heap[b]? = _ from hs] at ho
  cases ho
  cases hc
theorem kpb_append {B n : Nat} {bs : List Nat} {W w1 : World} {v : Value} {xs : List Value} {tmp : Obj} (hown : W.ownsRow B 29 2 v n xs) (hg : (W.alloc tmp).grownBy w1 v.ownBlock) : KpB B bs [29] W w1 := by
  have hsz := hg.size
  rw [World.size_alloc] at hsz
  refine ⟨by omega, fun k o hk hb ht => ?_⟩
  have hlt := (Array.getElem?_eq_some_iff.1 hk).1
  refine (hg.block k (by simp; omega) (fun e => ?_)).trans ((Below.heap_alloc W tmp k hlt).trans hk)
  rcases hown.2 with ⟨rfl, _⟩ | ⟨g', cap', cur, rfl, hb', hh, _⟩
  · cases e
  · cases e
    rw [hh] at hk
    cases hk
    exact ht hb' _ _ _ rfl (by simp)

theorem own_form {W : World} {base e s n : Nat} {v : Value} {xs : List Value} (h : W.ownsRow base e s v n xs) : ∃ a cap, v = .slice a n cap := by
  rcases h.2 with ⟨rfl, rfl⟩ | ⟨g', cap', cur, rfl, _⟩
  · exact ⟨_, _, rfl⟩
  · exact ⟨_, _, rfl⟩
theorem own_upd {W W' : World} {base e s n b : Nat} {v : Value} {xs : List Value} (h : W.ownsRow base e s v n xs) (U : Upd W W' b) (hb : b < base) : W'.ownsRow base e s v n xs := by
  refine ⟨h.1, ?_⟩
  rcases h.2 with hn | ⟨g, cap, cur, rfl, hg, hh, rest⟩
  · exact Or.inl hn
  · exact Or.inr ⟨g, cap, cur, rfl, hg, (U.block g (by omega)).trans hh, rest⟩
theorem KpB.weaken {B : Nat} {bs bs' ts : List Nat} {W W' : World} (h : KpB B bs ts W W') (hs : ∀ b ∈ bs, b ∈ bs') : KpB B bs' ts W W' := ⟨h.1, fun k o hk hb ht => h.2 k o hk (fun hm => hb (hs k hm)) ht⟩
theorem take_snocP (pre : List (Fin 64 × Fin 64)) (x : Fin 64 × Fin 64) (most : Nat) (h : pre.length = most) : (valsP (pre ++ [x])).take most = valsP pre := by
  rw [valsP_app, List.take_append_of_le_length (by rw [valsP_len]; omega), List.take_of_length_le (by rw [valsP_len]; omega)]

set_option maxRecDepth 100000 in
set_option maxHeartbeats 2000000 in
theorem take_any (Bn N : Nat) (hN : N ≤ 64) (g : Nat → Nat) (hg : Hid (Wf g)) (most : Nat) (w : World) (hr : IsR w Bn N g) (hT : TabAt w) :
    Calls Tryd.prog 25 #[.func (.func 73) #[] #[.pointer (some ⟨Bn, 0, none⟩)], .int .i64 most] w fun e w' => ∃ v, e = .returned v ∧ w'.ownsRow w.heap.size 29 2 v ((edgesL N g).take most).length (cellsE (toI ((edgesL N g).take most))) ∧ Below w.heap.size w w' := by
  obtain ⟨i0, hi, hz0, hz1, hz2⟩ := info_parts info29'
  have hle := edgesL_le g N
  have hf73 : Fence.wide.fn 73 := trivial
  refine (callsIn_wide (n := 8)).1 ?_
  refine callsIn_of_wp_marks Tryd.func25 rfl trivial ?_ rfl
  simp only [Tryd.ntmps25, List.size_toArray, List.length_cons, List.length_nil, Nat.reduceAdd, Nat.reduceSub, Array.replicate_succ, Array.replicate_zero, List.push_toArray, List.append_toArray, List.nil_append, List.cons_append]
  gi_wp2
  have bM := (Boxed.new w 3 (.int .i64 (most : Nat))).alloc (.cells #[.slice none 0 0] 26)
  have bL := Boxed.new (w.alloc (.cells #[.int .i64 (most : Nat)] 3)) 26 (.slice none 0 0)
  rw [World.size_alloc] at bL
  have BA : Below w.heap.size w ((w.alloc (.cells #[.int .i64 (most : Nat)] 3)).alloc (.cells #[.slice none 0 0] 26)) := ((Below.refl _ w).alloc (Nat.le_refl _) _).alloc (by simp) _
  have hsz : ((w.alloc (.cells #[.int .i64 (most : Nat)] 3)).alloc (.cells #[.slice none 0 0] 26)).heap.size = w.heap.size + 2 := by simp
  have rW := hr.grown BA
  have tW := hT.below BA
  have hlt := hr.lt
  have hpos := hT.pos
  generalize (w.alloc (.cells #[.int .i64 (most : Nat)] 3)).alloc (.cells #[.slice none 0 0] 26) = W1 at *
  refine rangeO (bs := [w.heap.size + 1, W1.heap.size + 1]) (ts := [29]) rfl (by omega) (gf := 73) (lb := #[.pointer (some ⟨Bn, 0, none⟩)]) rfl trivial (enters_of Tryd.func73 (by kernel_rfl) rfl)
    (edges1_O Bn N hN g hg [w.heap.size + 1, W1.heap.size + 1] [29] (by simp) (by simp; omega) (by decide) W1 rW tW (8 - 1)) (fun b hb => by simp at hb; omega) (by simp) (Below.refl _ _) (fun _ => rfl)
    (fun pre W => (∃ v, Boxed W (w.heap.size + 1) 26 v ∧ W.ownsRow W1.heap.size 29 2 v (valsP pre).length (cellsE (toI (valsP pre))) ∧ True) ∧ Boxed W w.heap.size 3 (.int .i64 (most : Nat)) ∧ pre.length ≤ most ∧ Below w.heap.size w W ∧ W1.heap.size ≤ W.heap.size)
    (fun c pre W => (∃ v, Boxed W (w.heap.size + 1) 26 v ∧ W.ownsRow W1.heap.size 29 2 v ((valsP pre).take most).length (cellsE (toI ((valsP pre).take most))) ∧ True) ∧ (c = .exit 0 ∧ most < pre.length) ∧ Below w.heap.size w W)
    ?ownI ?ownX ?start
    (fun x a' W => ∃ Bx, W1.heap.size ≤ Bx ∧ Pair W Bx x.1.val x.2.val ∧ a' = { tmps := #[.func (.func 73) #[] #[.pointer (some ⟨Bn, 0, none⟩)], .int .i64 (most : Nat), undef, .pointer (some ⟨w.heap.size, 0, none⟩), .slice none 0 0, .pointer (some ⟨w.heap.size + 1, 0, none⟩), .pointer (some ⟨Bx, 0, none⟩), .func (.func 73) #[] #[.pointer (some ⟨Bn, 0, none⟩)], .agg #[.int .i64 (x.1.val : Nat), .int .i64 (x.2.val : Nat)], undef, undef, undef, undef, undef, undef, undef, undef, undef], defers := [] })
    ?ownA ?assign ?body ?done ?stop
  case ownI =>
    exact OwnFrom.and (Own.from (holdsRow_own W1.heap.size (w.heap.size + 1) 26 29 2 (fun pre => (valsP pre).length) (fun pre => cellsE (toI (valsP pre))) (fun pre v => True)) _) (OwnFrom.and (Own.from (boxed_own _ _ (fun _ => _)) _) (OwnFrom.and (ownFrom_pure _ (fun pre : List (Fin 64 × Fin 64) => pre.length ≤ most)) (OwnFrom.and (ownFrom_below (Nat.le_refl _) (by omega)) (fun s X Y row hs hg hr => Nat.le_trans hs hg.size))))
  case ownX =>
    exact fun c => OwnFrom.and (Own.from (holdsRow_own W1.heap.size (w.heap.size + 1) 26 29 2 (fun pre => ((valsP pre).take most).length) (fun pre => cellsE (toI ((valsP pre).take most))) (fun pre v => True)) _) (OwnFrom.and (ownFrom_pure _ (fun pre : List (Fin 64 × Fin 64) => c = .exit 0 ∧ most < pre.length)) (ownFrom_below (Nat.le_refl _) (by omega)))
  case start => exact ⟨⟨_, bL, ⟨rfl, .inl ⟨rfl, rfl⟩⟩, trivial⟩, bM, by simp, BA, Nat.le_refl _⟩
  case ownA =>
    intro x a'
    intro s X Y row hs hg hr
    obtain ⟨Bx, h1, h2, h3⟩ := hs
    exact ⟨Bx, h1, pair_own Bx _ _ () X Y row h2 hg (fun r e => (hr r e).2), h3⟩
  case assign =>
    rintro l pre x W K ⟨⟨v, hv, hrow, _⟩, hm, hp, hB, hS⟩ hK
    dsimp only [encE]
    gi_wp2
    exact hK _ _ ((KeepsOthers.alloc _ _).from _) (KpB.of_below ((Below.refl _ W).alloc (Nat.le_refl _) _)) ⟨⟨v, hv.alloc _, hrow.alloc _, trivial⟩, hm.alloc _, hp, hB.alloc hB.size _, by simp; omega⟩ ⟨W.heap.size, hS, Pair.new W _ _, rfl⟩
  case body =>
    rintro l pre x a' W ⟨⟨v, hv, hrow, _⟩, hm, hp, hB, hS⟩ ⟨Bx, hBx, hx, rfl⟩ hlen
    have hc := hv.cell
    have hcm := hm.cell
    have hx0 := hx.c0
    have hx1 := hx.c1
    obtain ⟨a0, c0, rfl⟩ := own_form hrow
    have hpl := valsP_len pre
    by_cases hlt : pre.length < most
    · have HS : Hid (valsP (pre ++ [x]) = valsP pre ++ [(x.1.val, x.2.val)]) := (show valsP (pre ++ [x]) = _ by simp [valsP])
      have HP : Hid ((pre ++ [x]).length ≤ most) := (show (pre ++ [x]).length ≤ most by simp; omega)
      obtain ⟨L, hL⟩ : ∃ L, (valsP pre).length = L := ⟨_, rfl⟩
      rw [hL] at hrow hv hc hpl
      have hL1 : L < most := by omega
      have hL2 : L ≤ 4096 := by omega
      have hLi : (L : Int) < (most : Int) := by omega
      have HL : Hid ((valsP (pre ++ [x])).length = L + 1) := (show (valsP (pre ++ [x])).length = L + 1 by rw [HS.out, List.length_append, hL]; rfl)
      have HC : Hid (cellsE (toI (valsP (pre ++ [x]))) = cellsE (toI (valsP pre)) ++ [.int .i64 (x.1.val : Nat), .int .i64 (x.2.val : Nat)]) := (show cellsE (toI (valsP (pre ++ [x]))) = _ by rw [HS.out, cellsE_snoc])
      clear hlt hL hp hlen hpl
      gi_wp2_with (gi_at_builtin; refine wpListIn_append_own _ rfl _ _ 26 rfl W1.heap.size 29 i0 (.agg #[.int .i64 0, .int .i64 0]) 2 16 Tryd.underlying26 hi hz0 hz1 hz2 rfl (by decide) _ _ _ rfl (hrow.alloc _) ⟨W.heap.size, 0, none⟩ 1 1 [.int .i64 (x.1.val : Nat), .int .i64 (x.2.val : Nat)] rfl rfl (cell_pair_new _ _ _ _) (by simp [Value.oneCell']) (by unfold maxLen; omega) (by omega) (by simp; omega) ?_; intro v' w2 hown' hgrow hif; clear hif; obtain ⟨g', cap', rfl⟩ := ownsRow_succ hown'; have hne : some (w.heap.size + 1) ≠ (Value.slice a0 L c0).ownBlock := (fun e => by have := ((hrow.alloc (.cells #[.int .i64 (x.1.val : Nat), .int .i64 (x.2.val : Nat)] 29)).lt _ e.symm).1; omega); have hv1 := (hv.alloc (.cells #[.int .i64 (x.1.val : Nat), .int .i64 (x.2.val : Nat)] 29)).kept hgrow hne; have hne3 : some w.heap.size ≠ (Value.slice a0 L c0).ownBlock := (fun e => by have := ((hrow.alloc (.cells #[.int .i64 (x.1.val : Nat), .int .i64 (x.2.val : Nat)] 29)).lt _ e.symm).1; omega); have hm1 := (hm.alloc (.cells #[.int .i64 (x.1.val : Nat), .int .i64 (x.2.val : Nat)] 29)).kept hgrow hne3; have hc1 := hv1.cell; have hf1 := hv1.frozen)
      have U := Upd.setCell w2 (w.heap.size + 1) 0 (.slice (some ⟨g', 0, none⟩) (L + 1) cap')
      have hv2 := Boxed.set (.slice (some ⟨g', 0, none⟩) (L + 1) cap') hv1
      have hk := (kpb_append (bs := [w.heap.size + 1]) hrow hgrow).trans (KpB.of_upd U (by simp))
      have hB2 := U.trans ((hB.alloc hB.size (.cells #[.int .i64 (x.1.val : Nat), .int .i64 (x.2.val : Nat)] 29)).grown hgrow (by have := hB.size; simp; omega) (fun k e => by have := ((hrow.alloc (.cells #[.int .i64 (x.1.val : Nat), .int .i64 (x.2.val : Nat)] 29)).lt k e).1; omega)) (by omega)
      exact ⟨hk.keepsFrom (fun b hb => by simp at hb; omega), hk.weaken (fun b hb => by simp at hb; simp [hb]), ⟨_, hv2, by rw [HL.out, HC.out]; exact own_upd hown' U (by omega), trivial⟩, boxed_upd hm1 U (by omega), HP.out, hB2, Nat.le_trans hS hk.1⟩
    · have hpm : pre.length = most := by omega
      have HT := take_snocP pre x most hpm
      have hLi : (most : Int) ≤ ((valsP pre).length : Int) := by rw [hpl]; omega
      have HF : Hid (∃ v, Boxed W (w.heap.size + 1) 26 v ∧ W.ownsRow W1.heap.size 29 2 v ((valsP (pre ++ [x])).take most).length (cellsE (toI ((valsP (pre ++ [x])).take most))) ∧ True) := (show ∃ v, _ from ⟨_, hv, by rw [HT]; exact hrow, trivial⟩)
      have HG : Hid (most < (pre ++ [x]).length) := (show most < (pre ++ [x]).length by simp; omega)
      clear HT hrow hlen hp
      generalize (valsP pre).length = L at *
      gi_wp2
      exact ⟨KeepsFrom.refl _ _, KpB.refl _ _ _ _, HF.out, ⟨rfl, HG.out⟩, hB⟩
  case done =>
    rintro D ys W hD hys ⟨⟨v, hv, hrow, _⟩, hm, hp, hB, hS⟩ hK
    have hc := hv.cell
    have HT : Hid ((edgesL N g).take most = valsP ys) := (show (edgesL N g).take most = valsP ys by rw [← hys]; exact List.take_of_length_le (by rw [valsP_len]; omega))
    clear hys hm
    gi_wp2
    refine ⟨by simp, .inl ⟨_, _, rfl, run_takeDeferred hK, ?_⟩⟩
    exact ⟨_, results_tmp rfl _ _ _, v, rfl, by rw [HT.out]; exact own_base (ownsRow_putObj hrow _ hK rfl) (by omega), hB.trans (belowK_b (w := w) (Nat.le_refl _) W D _ _ (by omega) hK rfl rfl)⟩
  case stop =>
    rintro D c pre W hD hpre ⟨⟨v, hv, hrow, _⟩, ⟨rfl, hml⟩, hB⟩ hK
    have hc := hv.cell
    have HT : Hid ((edgesL N g).take most = (valsP pre).take most) := (show (edgesL N g).take most = (valsP pre).take most by
      obtain ⟨r, hr'⟩ := hpre
      rw [← hr', List.take_append_of_le_length (by rw [valsP_len]; omega)])
    clear hpre
    gi_wp2
    refine ⟨by simp, .inl ⟨_, _, rfl, run_takeDeferred hK, ?_⟩⟩
    exact ⟨_, results_tmp rfl _ _ _, v, rfl, by rw [HT.out]; exact own_base (ownsRow_putObj hrow _ hK rfl) (by omega), hB.trans (belowK_b (w := w) (Nat.le_refl _) W D _ _ (by omega) hK rfl rfl)⟩
end Go.Proofs.YtkccckjiemijeaaDoor

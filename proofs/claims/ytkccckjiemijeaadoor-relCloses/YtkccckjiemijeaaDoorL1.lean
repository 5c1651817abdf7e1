/- RelMakes: for every relation, number, list of pairs and two sets it returns true: the walk of the law itself, where the list is not nil. -/
import Derived.Test.YtkccckjiemijeaaDoorL0
namespace Go.Proofs.YtkccckjiemijeaaDoor
open Go.RowKit M
set_option linter.unusedSimpArgs false
set_option linter.unusedVariables false

theorem info29 : (Tryd.prog.info? 29).map (fun i => (i.zero, i.size, i.bytes)) = some (some (.agg #[.int .i64 0, .int .i64 0]), 2, 16) := by kernel_rfl

theorem cell_two_new (w : World) (x y : Value) (t : TypeId) : ∀ j u, [x, y][j]? = some u → (w.alloc (.cells #[x, y] t)).cell? ((⟨w.heap.size, 0, none⟩ : Addr).add j) = some u := by
  intro j u hj
  rw [Addr.add_mid, Nat.zero_add, cell_of_row _ _ j #[x, y] t (0, 0) (heap_alloc_last w _)]
  simpa using hj

theorem below_drewN {B : Nat} {w W : World} (h : Below B w W) (m : Nat) : Below B w (W.drewN m) := ⟨h.os, h.tape, h.output, h.size, h.block⟩
theorem wp_region_quiet_at {C : World → Prop} {id : Nat} {Q : Exit → Act → World → Prop} {a : Act} {w : World} {l : List Oper} (hm : Tryd.prog.follows .mixedOrders = true) (hB : Region.lexB .any l.toArray = true) (hC : C { w with drawn := w.drawn + 1 })
    (h : wpQuiet Tryd.prog l.toArray C (fun a' => ∀ w', C w' → Q .normal a' w') l a) : (Code.region id l.toArray true).wp Tryd.prog Q a w :=
  wp_region_quiet hm hB hC (by simpa using h)

set_option maxRecDepth 1000000 in
set_option maxHeartbeats 4000000 in
theorem relMakes_some (rn : Int) (rf : Nat → Nat) (n : Int) (ad : Addr) (a0 : Option Addr) (ha : a0 = some ad) (l : List (Int × Int)) (cap0 : Nat) (f t : Nat) (w : World) (hrf : Wf rf) (hf : f < 18446744073709551616) (ht : t < 18446744073709551616) (hT : TabAt w) (hZ : l.length * 16 ≤ 140737488351232) (lv : Prs w a0 l) :
    Calls Tryd.prog 3 #[relv rn rf, .int .i64 n, .slice a0 l.length cap0, .int .u64 f, .int .u64 t] w fun e w' => e = .returned (.bool true) ∧ Below w.heap.size w w' := by
  obtain ⟨i0, hi, hz0, hz1, hz2⟩ := info_parts info29
  subst ha
  obtain ⟨p1, q1, e1, hV⟩ := ofV_tuple n l
  have c9 : Hid (∀ (W : World) (g cap : Nat), Prs W (some ⟨g, 0, none⟩) l → Calls Tryd.prog 9 #[.int .i64 n, .slice (some ⟨g, 0, none⟩) l.length cap] W fun e w' => e = .returned (.tuple #[relv p1 q1, .int .i64 e1]) ∧ Below W.heap.size W w') := fun W g cap h => by
    have := of_any n (some ⟨g, 0, none⟩) cap l W h (by omega)
    rw [hV] at this; exact this
  have c10 : Hid (∀ (W : World), Prs W (some ad) l → Calls Tryd.prog 10 #[.int .i64 n, .slice (some ad) l.length cap0] W fun e w' => e = .returned (.tuple #[relv p1 q1, .int .i64 e1]) ∧ Below W.heap.size W w') := fun W h => by
    have := rof_any n (some ad) cap0 l W h (by omega)
    rw [hV] at this; exact this
  clear hV
  have c12 : Hid (∀ W : World, Calls Tryd.prog 12 #[relv rn rf] W fun e w' => e = .returned (.int .i64 (checkN rn rf)) ∧ Below W.heap.size W w') := fun W => check_any rn rf W hrf
  have c13 : Hid (∀ W : World, Calls Tryd.prog 13 #[relv rn rf] W fun e w' => e = .returned (.int .i64 (checkN rn rf)) ∧ Below W.heap.size W w') := fun W => rcheck_any rn rf W hrf
  generalize checkN rn rf = ck at c12 c13
  have tk1 : True := trivial
  go_enter Tryd.func3, Tryd.ntmps3
  go_wp2_with (first
    | (refine wpList_boxR rfl _ rfl rfl ?_; intro W1 b1 F1 r1; have hBw := Fresh.trans (Below.refl _ w) (Nat.le_refl _) F1; replace lv := lv.below hBw; have hown0 : (W1.alloc (.cells #[] 29)).ownsRow W1.heap.size 29 2 (.slice (some ⟨W1.heap.size, 0, none⟩) 0 0) 0 [] := World.ownsRow_lit W1 #[] 0 (Nat.le_refl _) (by decide) rfl; have hnews : Hid (∀ j u, (cellsE l)[j]? = some u → (W1.alloc (.cells #[] 29)).cell? (ad.add j) = some u) := (lv.below ((Below.refl _ W1).alloc (Nat.le_refl _) _)).news)
    | (at_builtin; refine wpList_append_own _ rfl (.tmp 16) (.tmp 17) 26 rfl W1.heap.size 29 i0 (.agg #[.int .i64 0, .int .i64 0]) 2 16 Tryd.underlying26 hi hz0 hz1 hz2 rfl (by decide) _ 0 [] rfl hown0 ad l.length cap0 (cellsE l) rfl (cellsE_len l) hnews.out (cellsE_one l) (by unfold maxLen; omega) (by omega) (by simp) ?_; intro v1 wa own1 grow1 hif1; clear hif1; simp only [Nat.zero_add, List.nil_append] at own1; have D := ((Below.refl W1.heap.size W1).alloc (Nat.le_refl _) (.cells #[] 29)).grown grow1 (by simp) (fun k e => by cases e; exact Nat.le_refl _); clear grow1 hnews hown0)
    | (at_builtin; refine wpList_append_own _ rfl (.tmp 18) (.tmp 20) 26 rfl W1.heap.size 29 i0 (.agg #[.int .i64 0, .int .i64 0]) 2 16 Tryd.underlying26 hi hz0 hz1 hz2 rfl (by decide) _ l.length (cellsE l) rfl (own1.alloc _) ⟨wa.heap.size, 0, none⟩ 1 1 [.int .i64 (-7), .int .i64 (-7)] rfl rfl (cell_two_new _ _ _ _) (by simp [Value.oneCell']) (by unfold maxLen; omega) (by omega) (by have := D.size; simp; omega) ?_; intro v2 wb own2 grow2 hif2; clear hif2; obtain ⟨g, capc, rfl⟩ := ownsRow_succ own2; obtain ⟨cv, c7, hgb, hgl, hgc⟩ := prs_copy own2; replace D := (D.alloc D.size (.cells #[.int .i64 (-7), .int .i64 (-7)] 29)).grown grow2 (by have := D.size; simp; omega) (fun k e => ((own1.alloc (.cells #[.int .i64 (-7), .int .i64 (-7)] 29)).lt k e).1); replace lv := lv.below D; replace r1 := r1.grown D; replace hBw := hBw.trans (D.mono hBw.size); clear own1 own2 grow2 D)
    | (go_at_call 9; refine (c9.out _ _ _ cv).mono ?_; rintro e w2 ⟨rfl, E⟩)
    | (go_at_call 10; refine (c10.out _ (lv.below E)).mono ?_; rintro e w5 ⟨rfl, E5⟩; replace r4 := r4.grown E5; replace E := E.trans (E5.mono E.size))
    | (refine wpList_allocR rfl rfl ?_; clear tk1; intro W3 b3 F3 r3; have hb3 : wb.heap.size ≤ b3 := (by rw [F3.at']; exact E.size); replace E := Fresh.trans E E.size F3)
    | (refine wpList_allocR rfl rfl ?_; intro W6 b6 F6 r6; have hb6 : wb.heap.size ≤ b6 := (by rw [F6.at']; exact E.size); have hb36 : b3 < b6 := (by rw [F6.at']; exact r4.lt); replace E := Fresh.trans E E.size F6; replace r4 := r4.fresh F6)
    | (refine wpList_storeR rfl _ _ rfl rfl rfl r3 ?_; intro W4 U4 r4; replace E := U4.trans E hb3)
    | (refine wpList_storeR rfl _ _ rfl rfl rfl r6 ?_; intro W7 U7 r7; replace E := U7.trans E hb6; replace r4 := r4.upd U7 (by omega)))
  have hr1 : ∀ W', Below W7.heap.size W7 W' → IsR W' b1 rn rf := fun W' h => (r1.grown E).grown h
  have hr4 : ∀ W', Below W7.heap.size W7 W' → IsR W' b3 p1 q1 := fun W' h => r4.grown h
  have hr7 : ∀ W', Below W7.heap.size W7 W' → IsR W' b6 p1 q1 := fun W' h => r7.grown h
  have h12 : ∀ W', Below W7.heap.size W7 W' → Calls Tryd.prog 12 #[relv rn rf] W' fun e w' => e = .returned (.int .i64 ck) ∧ Below W7.heap.size W7 w' := fun W' h => (c12.out W').mono fun e w' ⟨he, hb⟩ => ⟨he, h.trans (hb.mono h.size)⟩
  have h13 : ∀ W', Below W7.heap.size W7 W' → Calls Tryd.prog 13 #[relv rn rf] W' fun e w' => e = .returned (.int .i64 ck) ∧ Below W7.heap.size W7 w' := fun W' h => (c13.out W').mono fun e w' ⟨he, hb⟩ => ⟨he, h.trans (hb.mono h.size)⟩
  have h11 : ∀ (z : Int) W', Below W7.heap.size W7 W' → Calls Tryd.prog 11 #[.int .i64 z] W' fun e w' => e = .returned (.int .i64 z) ∧ Below W7.heap.size W7 w' := fun z W' h => (num_any z W').mono fun e w' ⟨he, hb⟩ => ⟨he, by rw [hb]; exact h⟩
  have h14 : ∀ W', Below W7.heap.size W7 W' → Calls Tryd.prog 14 #[.slice (some ⟨g, 0, none⟩) l.length capc, .slice (some ad) l.length cap0] W' fun e w' => e = .returned (.bool true) ∧ Below W7.heap.size W7 w' := fun W' h =>
    (same_any (some ⟨g, 0, none⟩) (some ad) capc cap0 l W' ((cv.below E).below h) ((lv.below E).below h) (by omega)).mono fun e w' ⟨he, m, hb⟩ => ⟨he, by rw [hb]; exact below_drewN h m⟩
  have h7 : ∀ W', Below W7.heap.size W7 W' → W'.cell? ⟨g, l.length * 2, none⟩ = some (.int .i64 (-7)) := fun W' h =>
    (h.cell (p := ⟨g, l.length * 2, none⟩) (Nat.lt_of_lt_of_le hgl E.size)).trans ((E.cell (p := ⟨g, l.length * 2, none⟩) hgl).trans c7)
  have hneq := neqR p1 q1
  have hgc' : l.length ≤ capc := by omega
  have hli : (l.length : Int) < (l.length : Int) + 1 := by omega
  have heg := eqGuardR .neq
  have HE : Hid (Below w.heap.size w W7) := hBw.trans (E.mono hBw.size)
  have HT : Hid (TabAt W7) := hT.below HE.out
  clear c9 c10 c12 c13 cv c7 E r1 r4 r7 U7 F6 r6 U4 F3 r3 hBw F1 lv hT hb3 hb6 hb36 hi hz0 hz1 hz2
  refine wp_region_quiet_at (C := fun W' => Below W7.heap.size W7 W') (by kernel_rfl) (by kernel_rfl) ⟨rfl, rfl, rfl, Nat.le_refl _, fun _ _ => rfl⟩ ?_
  refine wpQuiet_loadR rfl _ rfl rfl hr1 ?_
  (refine wpQuiet_step (fun K hK => ?_); go_simp; refine ⟨_, h12, hK _ ?_⟩; clear hK K)
  (refine wpQuiet_step (fun K hK => ?_); go_simp; refine ⟨_, h11 _, hK _ ?_⟩; clear hK K)
  refine wpQuiet_loadR rfl _ rfl rfl hr1 ?_
  (refine wpQuiet_step (fun K hK => ?_); go_simp; refine ⟨_, h13, hK _ ?_⟩; clear hK K)
  (refine wpQuiet_step (fun K hK => ?_); go_simp; first | (refine hK _ ?_; clear hK K) | (refine ⟨_, fun _ _ => rfl, hK _ ?_⟩; clear hK K))
  (refine wpQuiet_step (fun K hK => ?_); go_simp; first | (refine hK _ ?_; clear hK K) | (refine ⟨_, fun _ _ => rfl, hK _ ?_⟩; clear hK K))
  refine wpQuiet_loadR rfl _ rfl rfl hr4 ?_
  refine wpQuiet_loadR rfl _ rfl rfl hr7 ?_
  (refine wpQuiet_step (fun K hK => ?_); go_simp; first | (refine hK _ ?_; clear hK K) | (refine ⟨_, fun _ _ => rfl, hK _ ?_⟩; clear hK K))
  (refine wpQuiet_step (fun K hK => ?_); go_simp; first | (refine hK _ ?_; clear hK K) | (refine ⟨_, fun _ _ => rfl, hK _ ?_⟩; clear hK K))
  (refine wpQuiet_step (fun K hK => ?_); go_simp; first | (refine hK _ ?_; clear hK K) | (refine ⟨_, fun _ _ => rfl, hK _ ?_⟩; clear hK K))
  (refine wpQuiet_step (fun K hK => ?_); go_simp; first | (refine hK _ ?_; clear hK K) | (refine ⟨_, fun _ _ => rfl, hK _ ?_⟩; clear hK K))
  (refine wpQuiet_step (fun K hK => ?_); go_simp; refine ⟨_, h11 _, hK _ ?_⟩; clear hK K)
  (refine wpQuiet_step (fun K hK => ?_); go_simp; first | (refine hK _ ?_; clear hK K) | (refine ⟨_, fun _ _ => rfl, hK _ ?_⟩; clear hK K))
  (refine wpQuiet_step (fun K hK => ?_); go_simp; first | (refine hK _ ?_; clear hK K) | (refine ⟨_, fun _ _ => rfl, hK _ ?_⟩; clear hK K))
  (refine wpQuiet_step (fun K hK => ?_); go_simp; first | (refine hK _ ?_; clear hK K) | (refine ⟨_, fun _ _ => rfl, hK _ ?_⟩; clear hK K))
  (refine wpQuiet_step (fun K hK => ?_); go_simp; first | (refine hK _ ?_; clear hK K) | (refine ⟨_, fun _ _ => rfl, hK _ ?_⟩; clear hK K))
  (refine wpQuiet_step (fun K hK => ?_); go_simp; first | (refine hK _ ?_; clear hK K) | (refine ⟨_, fun _ _ => rfl, hK _ ?_⟩; clear hK K))
  (refine wpQuiet_step (fun K hK => ?_); go_simp; first | (refine hK _ ?_; clear hK K) | (refine ⟨_, fun _ _ => rfl, hK _ ?_⟩; clear hK K))
  (refine wpQuiet_step (fun K hK => ?_); go_simp; first | (refine hK _ ?_; clear hK K) | (refine ⟨_, fun _ _ => rfl, hK _ ?_⟩; clear hK K))
  (refine wpQuiet_step (fun K hK => ?_); go_simp; first | (refine hK _ ?_; clear hK K) | (refine ⟨_, fun _ _ => rfl, hK _ ?_⟩; clear hK K))
  (refine wpQuiet_step (fun K hK => ?_); go_simp; first | (refine hK _ ?_; clear hK K) | (refine ⟨_, fun _ _ => rfl, hK _ ?_⟩; clear hK K))
  (refine wpQuiet_step (fun K hK => ?_); go_simp; refine ⟨_, h14, hK _ ?_⟩; clear hK K)
  (refine wpQuiet_step (fun K hK => ?_); go_simp; first | (refine hK _ ?_; clear hK K) | (refine ⟨_, fun _ _ => rfl, hK _ ?_⟩; clear hK K))
  (refine wpQuiet_step (fun K hK => ?_); go_simp; first | (refine hK _ ?_; clear hK K) | (refine ⟨_, fun _ _ => rfl, hK _ ?_⟩; clear hK K))
  (refine wpQuiet_step (fun K hK => ?_); go_simp; first | (refine hK _ ?_; clear hK K) | (refine ⟨_, fun _ _ => rfl, hK _ ?_⟩; clear hK K))
  (refine wpQuiet_step (fun K hK => ?_); go_simp; first | (refine hK _ ?_; clear hK K) | (refine ⟨_, fun _ _ => rfl, hK _ ?_⟩; clear hK K))
  (refine wpQuiet_step (fun K hK => ?_); go_simp; first | (refine hK _ ?_; clear hK K) | (refine ⟨_, fun _ _ => rfl, hK _ ?_⟩; clear hK K))
  (refine wpQuiet_step (fun K hK => ?_); go_simp; first | (refine hK _ ?_; clear hK K) | (refine ⟨_, fun _ _ => rfl, hK _ ?_⟩; clear hK K))
  (refine wpQuiet_step (fun K hK => ?_); go_simp; first | (refine hK _ ?_; clear hK K) | (refine ⟨_, fun _ _ => rfl, hK _ ?_⟩; clear hK K))
  (refine wpQuiet_step (fun K hK => ?_); go_simp; first | (refine hK _ ?_; clear hK K) | (refine ⟨_, fun _ _ => rfl, hK _ ?_⟩; clear hK K))
  (refine wpQuiet_value rfl (v := .int .i64 (-7)) ?e ?k; (case e => (intro W8 hW8; have h8 := h7 W8 hW8; go_simp; done)))
  (refine wpQuiet_step (fun K hK => ?_); go_simp; first | (refine hK _ ?_; clear hK K) | (refine ⟨_, fun _ _ => rfl, hK _ ?_⟩; clear hK K))
  (refine wpQuiet_step (fun K hK => ?_); go_simp; first | (refine hK _ ?_; clear hK K) | (refine ⟨_, fun _ _ => rfl, hK _ ?_⟩; clear hK K))
  refine wpQuiet_nil ?_
  intro W8 hW8
  have HB := HE.out.trans (hW8.mono HE.out.size)
  have hT8 := HT.out.below hW8
  clear hr1 hr4 hr7 h11 h12 h13 h14 h7 hneq HE HT hW8
  obtain ⟨p2, q2, hV2⟩ := crV_rel n f t
  obtain ⟨p3, q3, hV3⟩ := onV_rel n f
  have c15 := cross_any n f t W8 hf ht hT8
  have c16 : Hid (∀ W, Calls Tryd.prog 16 #[.int .i64 n, .int .u64 f, .int .u64 t] W fun e w' => e = .returned (relv p2 q2) ∧ Below W.heap.size W w') := fun W => by
    have := rcross_any n f t W hf ht
    rw [hV2] at this; exact this
  have c17 : Hid (∀ W, Calls Tryd.prog 17 #[.int .i64 n, .int .u64 f] W fun e w' => e = .returned (relv p3 q3) ∧ Below W.heap.size W w') := fun W => by
    have := on_any n f W hf
    rw [hV3] at this; exact this
  have c18 : Hid (∀ W, Calls Tryd.prog 18 #[.int .i64 n, .int .u64 f] W fun e w' => e = .returned (relv p3 q3) ∧ Below W.heap.size W w') := fun W => by
    have := ron_any n f W hf
    rw [hV3] at this; exact this
  rw [hV2] at c15
  have hq2 := eqlR p2 q2
  have hq3 := eqlR p3 q3
  have hgg := eqGuardR .eql
  clear hV2 hV3 hT8 heg
  go_wp2_with (first
    | (go_at_call 15; refine c15.mono ?_; rintro e w' ⟨rfl, hb⟩; replace HB := HB.trans (hb.mono HB.size); clear hb)
    | (go_at_call 16; refine (c16.out _).mono ?_; rintro e w' ⟨rfl, hb⟩; replace HB := HB.trans (hb.mono HB.size); clear hb)
    | (go_at_call 17; refine (c17.out _).mono ?_; rintro e w' ⟨rfl, hb⟩; replace HB := HB.trans (hb.mono HB.size); clear hb)
    | (go_at_call 18; refine (c18.out _).mono ?_; rintro e w' ⟨rfl, hb⟩; replace HB := HB.trans (hb.mono HB.size); clear hb))
  go_ret
  exact ⟨rfl, HB⟩
end Go.Proofs.YtkccckjiemijeaaDoor

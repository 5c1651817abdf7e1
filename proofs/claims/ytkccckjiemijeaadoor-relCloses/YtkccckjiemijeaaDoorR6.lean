/- Of, of the reference. -/
import Derived.Test.YtkccckjiemijeaaDoorR5
namespace Go.Proofs.YtkccckjiemijeaaDoor
open Go.RowKit M
set_option linter.unusedSimpArgs false
set_option linter.unusedVariables false

set_option maxRecDepth 100000 in
set_option maxHeartbeats 1000000 in
theorem rof_any (n : Int) (a : Option Addr) (cap : Nat) (l : List (Int × Int)) (w : World) (hN : Hid (Prs w a l)) (hl : l.length ≤ 1152921504606846976) :
    Calls Tryd.prog 10 #[.int .i64 n, .slice a l.length cap] w fun e w' => e = .returned (ofV n l) ∧ Below w.heap.size w w' := by
  by_cases h0 : 0 ≤ n ∧ n ≤ 64
  · have H0 : Hid (0 ≤ n ∧ n ≤ 64) := h0
    obtain ⟨h01, h02⟩ := h0
    have tk : True := trivial
    go_enter Tryd.func10, Tryd.ntmps10
    go_wp2_with (first
      | (refine wpList_allocR rfl rfl ?_; clear tk; intro W1 b1 F1 r1; have B1 := Fresh.trans (Below.refl _ w) (Nat.le_refl _) F1)
      | (refine wpList_allocR rfl rfl ?_; intro W2 b2 F2 r2; replace B1 := Fresh.trans B1 B1.size F2; replace r1 := r1.fresh F2)
      | (refine wpList_buildRN rfl _ rfl rfl ?_)
      | (refine wpList_storeR rfl _ _ rfl rfl rfl r2 ?_; intro W3 U3 r3))
    have hb1 : w.heap.size ≤ b1 := by rw [F1.at']; exact Nat.le_refl _
    have hb2 : b1 < b2 := by rw [F2.at', F1.size]; omega
    replace B1 := U3.trans B1 (by omega)
    replace r1 := r1.upd U3 (by omega)
    go_loopw [7] (fun i wr => ∃ k : Nat, k ≤ l.length ∧ i = .int .i64 k ∧ Hid ((l.take k).all (okE n) = true) ∧ IsR wr b2 n (ofF (l.take k)) ∧ IsR wr b1 0 void ∧ Below w.heap.size w wr) (fun i _ => l.length - (intOf i).toNat)
    case atStart => exact ⟨0, by omega, rfl, by simp [Hid], r3, r1, B1⟩
    case round =>
      obtain ⟨k, hk, rfl, HK, q2, q1, BB⟩ := hrel
      by_cases hlt : k < l.length
      · obtain ⟨b, off, rfl, hc1, hc2⟩ := hN.out k hlt
        have hbl : b < w.heap.size := World.block_lt_of_cell? w _ hc1
        replace hc1 := (BB.cell (p := ⟨b, off + k * 2, none⟩) hbl).trans hc1
        replace hc2 := (BB.cell (p := ⟨b, off + k * 2 + 1, none⟩) hbl).trans hc2
        obtain ⟨x, y, hxy⟩ : ∃ x y, l.getD k (0, 0) = (x, y) := ⟨_, _, rfl⟩
        rw [hxy] at hc1 hc2
        dsimp only at hc1 hc2
        have HXY : Hid (l.getD k (0, 0) = (x, y)) := hxy
        clear hxy
        by_cases hx0 : 0 ≤ x
        · by_cases hx1 : x < n
          · by_cases hy0 : 0 ≤ y
            · by_cases hy1 : y < n
              · have HO : Hid (okE n (l.getD k (0, 0)) = true) := (show okE n (l.getD k (0, 0)) = true by rw [HXY.out]; simp [okE, hx0, hx1, hy0, hy1])
                obtain ⟨X, rfl⟩ : ∃ X : Nat, x = (X : Int) := ⟨x.toNat, by omega⟩
                obtain ⟨Y, rfl⟩ : ∃ Y : Nat, y = (Y : Int) := ⟨y.toNat, by omega⟩
                have hX := hx1
                have hY := hy1
                have hX64 : X < 64 := by have := H0.out.2; omega
                have hY64 : Y < 64 := by have := H0.out.2; omega
                clear hx0 hx1 hy0 hy1
                have HS := ptake l k hlt
                have HA : Hid ((l.take (k + 1)).all (okE n) = true) := (show (l.take (k + 1)).all (okE n) = true by rw [HS, List.all_append, HK.out]; simp only [List.all_cons, List.all_nil, Bool.and_true, Bool.true_and]; exact HO.out)
                have hrw := (q2.alloc (.cells #[.int .i64 X, .int .i64 Y] 29)).row X hX64
                have hfz := (q2.alloc (.cells #[.int .i64 X, .int .i64 Y] 29)).frozen (1 + X)
                have hxl := ofF_lt n H0.out.2 (l.take k) HK.out X
                have hw := wrap_pow Y hY64
                have hor := or_pow (ofF (l.take k) X) Y hxl hY64
                have HQ : Hid (IsR ((wr.alloc (.cells #[.int .i64 X, .int .i64 Y] 29)).setCell ⟨b2, 1 + X, none⟩ (.int .u64 ((ofF (l.take k) X ||| 2 ^ Y : Nat) : Int))) b2 n (ofF (l.take (k + 1)))) := by
                  have h1 := (q2.alloc (.cells #[.int .i64 X, .int .i64 Y] 29)).set X (ofF (l.take k) X ||| 2 ^ Y) hX64
                  rw [HS, HXY.out, ofF_snoc]
                  exact h1
                have U := Upd.setCell (wr.alloc (.cells #[.int .i64 X, .int .i64 Y] 29)) b2 (1 + X) (.int .u64 ((ofF (l.take k) X ||| 2 ^ Y : Nat) : Int))
                have BW := Fresh.trans BB BB.size (Fresh.alloc wr (.cells #[.int .i64 X, .int .i64 Y] 29))
                have q1' := q1.alloc (.cells #[.int .i64 X, .int .i64 Y] 29)
                have hlt2 := q2.lt
                have hv1 : (wr.alloc (.cells #[.int .i64 X, .int .i64 Y] 29)).cell? ⟨wr.heap.size, 0, none⟩ = some (.int .i64 X) := by
                  rw [cell_of_row _ _ 0 #[.int .i64 X, .int .i64 Y] 29 (0, 0) (heap_alloc_last wr _)]; rfl
                have hv2 : (wr.alloc (.cells #[.int .i64 X, .int .i64 Y] 29)).cell? ⟨wr.heap.size, 1, none⟩ = some (.int .i64 Y) := by
                  rw [cell_of_row _ _ 1 #[.int .i64 X, .int .i64 Y] 29 (0, 0) (heap_alloc_last wr _)]; rfl
                clear HS
                generalize ofF (l.take k) X ||| 2 ^ Y = z at *
                generalize ofF (l.take k) X = z0 at *
                go_wp2
                generalize wr.alloc (.cells #[.int .i64 (X : Int), .int .i64 (Y : Int)] 29) = W5 at *
                generalize wr.heap.size = b8 at *
                go_region
                go_wp2
                go_roundw
                case rel => exact ⟨k + 1, by omega, by simp, HA.out, HQ.out.drew, (q1'.upd U (by omega)).drew, (U.trans BW (by omega)).drew⟩
                case measure => simp [intOf]; omega
              · have H1 : Hid (ofV n l = .tuple #[relv 0 void, .int .i64 4]) := of_bad n l k hlt (by rw [HXY.out]; simp [okE]; intros; omega)
                go_wp2_with (first
                  | (refine wpList_buildR0 rfl rfl ?_)
                  | (refine wpList_storeR rfl _ _ rfl rfl rfl (q1.alloc _) ?_; intro W4 U4 r4))
                refine ret_R2 rfl rfl rfl rfl r4 ⟨by rw [H1.out]; rfl, U4.trans (Fresh.trans BB BB.size (Fresh.alloc wr _)) (by omega)⟩
            · have H1 : Hid (ofV n l = .tuple #[relv 0 void, .int .i64 4]) := of_bad n l k hlt (by rw [HXY.out]; simp [okE]; intros; omega)
              go_wp2_with (first
                | (refine wpList_buildR0 rfl rfl ?_)
                | (refine wpList_storeR rfl _ _ rfl rfl rfl (q1.alloc _) ?_; intro W4 U4 r4))
              refine ret_R2 rfl rfl rfl rfl r4 ⟨by rw [H1.out]; rfl, U4.trans (Fresh.trans BB BB.size (Fresh.alloc wr _)) (by omega)⟩
          · have H1 : Hid (ofV n l = .tuple #[relv 0 void, .int .i64 4]) := of_bad n l k hlt (by rw [HXY.out]; simp [okE]; intros; omega)
            go_wp2_with (first
              | (refine wpList_buildR0 rfl rfl ?_)
              | (refine wpList_storeR rfl _ _ rfl rfl rfl (q1.alloc _) ?_; intro W4 U4 r4))
            refine ret_R2 rfl rfl rfl rfl r4 ⟨by rw [H1.out]; rfl, U4.trans (Fresh.trans BB BB.size (Fresh.alloc wr _)) (by omega)⟩
        · have H1 : Hid (ofV n l = .tuple #[relv 0 void, .int .i64 4]) := of_bad n l k hlt (by rw [HXY.out]; simp [okE]; intros; omega)
          go_wp2_with (first
            | (refine wpList_buildR0 rfl rfl ?_)
            | (refine wpList_storeR rfl _ _ rfl rfl rfl (q1.alloc _) ?_; intro W4 U4 r4))
          refine ret_R2 rfl rfl rfl rfl r4 ⟨by rw [H1.out]; rfl, U4.trans (Fresh.trans BB BB.size (Fresh.alloc wr _)) (by omega)⟩
      · have : k = l.length := by omega
        subst this
        have HT : l.take l.length = l := List.take_length
        rw [HT] at q2
        have H1 : Hid (ofV n l = .tuple #[relv n (ofF l), .int .i64 0]) := by
          have h2 := HK.out
          rw [HT] at h2
          show ofV n l = _
          unfold ofV
          rw [if_pos (by rw [h2, decide_eq_true H0.out]; rfl)]
        clear HT
        go_wp2_with (first
          | (refine wpList_loadR rfl _ rfl rfl q2 ?_)
          | (refine wpList_storeR rfl _ _ rfl rfl rfl q1 ?_; intro W4 U4 r4))
        refine ret_R2 rfl rfl rfl rfl r4 ⟨by rw [H1.out]; rfl, U4.trans BB (by omega)⟩
  · have hd : decide (0 ≤ n ∧ n ≤ 64) = false := decide_eq_false h0
    have HV : Hid (ofV n l = .tuple #[relv 0 void, .int .i64 4]) := (show ofV n l = _ by unfold ofV; rw [if_neg (by rw [hd]; simp)])
    clear hd
    by_cases h01 : 0 ≤ n
    · have h02 : 64 < n := by omega
      clear h0
      go_enter Tryd.func10, Tryd.ntmps10
      go_wp2_with (first
        | (refine wpList_allocR rfl rfl ?_; intro W1 b1 F1 r1; have B1 := Fresh.trans (Below.refl _ w) (Nat.le_refl _) F1)
        | (refine wpList_buildR0 rfl rfl ?_)
        | (refine wpList_storeR rfl _ _ rfl rfl rfl r1 ?_; intro W3 U3 r3))
      refine ret_R2 rfl rfl rfl rfl r3 ⟨by rw [HV.out]; rfl, U3.trans B1 (by rw [F1.at']; exact Nat.le_refl _)⟩
    · clear h0
      go_enter Tryd.func10, Tryd.ntmps10
      go_wp2_with (first
        | (refine wpList_allocR rfl rfl ?_; intro W1 b1 F1 r1; have B1 := Fresh.trans (Below.refl _ w) (Nat.le_refl _) F1)
        | (refine wpList_buildR0 rfl rfl ?_)
        | (refine wpList_storeR rfl _ _ rfl rfl rfl r1 ?_; intro W3 U3 r3))
      refine ret_R2 rfl rfl rfl rfl r3 ⟨by rw [HV.out]; rfl, U3.trans B1 (by rw [F1.at']; exact Nat.le_refl _)⟩
end Go.Proofs.YtkccckjiemijeaaDoor

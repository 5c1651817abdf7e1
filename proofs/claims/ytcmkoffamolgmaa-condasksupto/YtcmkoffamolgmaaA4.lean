/- What a reference has: Set.of of the law, value of the reference; the law's value function. -/
import Derived.Test.YtcmkoffamolgmaaA3
namespace Go.Proofs.Ytcmkoffamolgmaa
open Go Go.RowKit M
set_option linter.unusedSimpArgs false
set_option linter.unusedVariables false

def lkF : List RK → List Int → Int → RK → Int
  | r0 :: rs, v :: vs, d, r => if r0 = r then v else lkF rs vs d r
  | _, _, d, _ => d
def LkAt (rs : List RK) (vs : List Int) (d : Int) (r : RK) (k : Nat) : Prop := lkF rs vs d r = lkF (rs.drop k) (vs.drop k) d r
theorem LkAt.zero (rs : List RK) (vs : List Int) (d : Int) (r : RK) : LkAt rs vs d r 0 := by unfold LkAt; rw [List.drop_zero, List.drop_zero]
theorem drop_atK {α : Type} {l : List α} {k : Nat} {x : α} (h : l[k]? = some x) : l.drop k = x :: l.drop (k + 1) := by
  obtain ⟨hk, e⟩ := List.getElem?_eq_some_iff.1 h
  rw [← e, List.drop_eq_getElem_cons hk]
theorem LkAt.hit {rs : List RK} {vs : List Int} {d : Int} {r x : RK} {v : Int} {k : Nat} (h : LkAt rs vs d r k) (hx : rs[k]? = some x) (hv : vs[k]? = some v) (e : x = r) : lkF rs vs d r = v := by
  unfold LkAt at h; rw [h, drop_atK hx, drop_atK hv]; unfold lkF; rw [if_pos e]
theorem LkAt.next {rs : List RK} {vs : List Int} {d : Int} {r x : RK} {v : Int} {k : Nat} (h : LkAt rs vs d r k) (hx : rs[k]? = some x) (hv : vs[k]? = some v) (e : x ≠ r) : LkAt rs vs d r (k + 1) := by
  unfold LkAt at *; rw [h, drop_atK hx, drop_atK hv]
  conv => lhs; unfold lkF
  rw [if_neg e]
theorem LkAt.done1 {rs : List RK} {vs : List Int} {d : Int} {r : RK} {k : Nat} (h : LkAt rs vs d r k) (hk : rs.length ≤ k) : lkF rs vs d r = d := by
  unfold LkAt at h; rw [h, List.drop_eq_nil_of_le hk]; unfold lkF; cases vs.drop k <;> rfl
theorem LkAt.done2 {rs : List RK} {vs : List Int} {d : Int} {r : RK} {k : Nat} (h : LkAt rs vs d r k) (hk : vs.length ≤ k) : lkF rs vs d r = d := by
  unfold LkAt at h; rw [h, List.drop_eq_nil_of_le hk]; cases rs.drop k <;> rfl
def stL (ar : Option Addr) (nr cr : Nat) (av : Option Addr) (nv cv : Nat) (d : Int) : List Value := [.slice ar nr cr, .slice av nv cv, .int .i64 d]
theorem info27 : (Try.prog.info? 27).map (·.size) = some 3 := by kernel_rfl
theorem st_one (ar : Option Addr) (nr cr : Nat) (av : Option Addr) (nv cv : Nat) (d : Int) : ∀ v ∈ stL ar nr cr av nv cv d, v.oneCell' = true := by simp [stL, Value.oneCell']
theorem ret_intC {a b : Int} (h : a = b) : Ending.returned (.int .i64 a) = Ending.returned (.int .i64 b) := by rw [h]
set_option maxRecDepth 100000 in
set_option maxHeartbeats 4000000 in
theorem of_any (rs : List RK) (vs : List Int) (d : Int) (r : RK) (nr cr nv cv : Nat) (ar av : Option Addr) (hr : rs.length = nr) (hv : vs.length = nv) (hnr : nr ≤ 1048576) (hnv : nv ≤ 1048576) (w : World) (hR : Seg w ar (rs.flatMap rkL)) (hV : Seg w av (vs.flatMap fun x => [.int .i64 x])) :
    Calls Try.prog 11 #[.agg (stL ar nr cr av nv cv d).toArray, .agg (rkL r).toArray] w fun e w' => e = .returned (.int .i64 (lkF rs vs d r)) ∧ Below w.heap.size w w' := by
  have HR : Hid (Seg w ar (rs.flatMap rkL)) := hR
  have HV : Hid (Seg w av (vs.flatMap fun x => [.int .i64 x])) := hV
  have HLR : Hid (rs.length = nr) := hr
  have HLV : Hid (vs.length = nv) := hv
  have hnI : (nr : Int) ≤ 1048576 := by omega
  have hvI : (nv : Int) ≤ 1048576 := by omega
  clear hR hV hr hv
  have t1 : True := trivial
  have t2 : True := trivial
  go_enter Try.func11, Try.ntmps11
  go_wp2_with (first
    | (clear t1; refine wpList_boxS rfl 27 _ rfl (stL ar nr cr av nv cv d) rfl ?_; intro W1 b2 F1 I1; have B1 := F_b F1)
    | (clear t2; refine wpList_boxS rfl 39 _ rfl (rkL r) rfl ?_; intro W2 b3 F2 I2; have I1' := I1.fresh F2; have B2 := Below.then B1 (F_b F2)))
  have HI1 : Hid (IsS W2 b2 27 (stL ar nr cr av nv cv d)) := I1'
  have HI2 : Hid (IsS W2 b3 39 (rkL r)) := I2
  have HB2 : Hid (Below w.heap.size w W2) := B2
  clear I1 I1' I2 B1 B2 F1 F2
  go_loopw [5] (fun i wr => ∃ k : Nat, k ≤ nr ∧ k ≤ nv ∧ i = .int .i64 (k : Int) ∧ Hid (Below W2.heap.size W2 wr) ∧ Hid (LkAt rs vs d r k)) (fun i _ => nr - (intOf i).toNat)
  case atStart => exact ⟨0, Nat.zero_le _, Nat.zero_le _, rfl, Below.refl _ _, LkAt.zero _ _ _ _⟩
  case round =>
    obtain ⟨k, hk, hkv, rfl, HB, HK⟩ := hrel
    have HBB : Hid (Below w.heap.size w wr) := Below.then HB2.out HB.out
    have I1 := HI1.out.grown HB.out
    have I3 := HI2.out.grown HB.out
    have c20 : wr.cell? ⟨b2, 0, none⟩ = some (.slice ar nr cr) := I1.cell 0
    have c21 : wr.cell? ⟨b2, 1, none⟩ = some (.slice av nv cv) := I1.cell 1
    have c22 : wr.cell? ⟨b2, 2, none⟩ = some (.int .i64 d) := I1.cell 2
    have I3r : wr.rangeAt b3 0 (rkL r) := fun j v hv => by rw [Nat.zero_add]; exact (I3.cell j).trans hv
    clear I1
    by_cases hlt : k < nr
    · by_cases hlv : k < nv
      · have hki : (k : Int) < nr := by omega
        have hkj : (k : Int) < nv := by omega
        have hk1 : k < nr := hlt
        obtain ⟨x, hx⟩ : ∃ x, rs[k]? = some x := ⟨_, List.getElem?_eq_getElem (by rw [HLR.out]; exact hlt)⟩
        obtain ⟨v, hv⟩ : ∃ v, vs[k]? = some v := ⟨_, List.getElem?_eq_getElem (by rw [HLV.out]; exact hlv)⟩
        obtain ⟨b1, o1, rfl, hb1, hc1⟩ := seg_rk (HR.out.below HBB.out) hx
        obtain ⟨b9, o9, rfl, hb9, hc9⟩ := (HV.out.below HBB.out) k _ (int_at hv)
        by_cases he : x = r
        · have hd : decide (x = r) = true := by simpa using he
          have HZ : Hid (lkF rs vs d r = v) := HK.out.hit hx hv he
          clear hx hv HK he
          go_wp2
          refine grow_allW (by kernel_rfl) (by kernel_rfl) ?_
          refine WG.put rfl (v := .pointer (some ⟨b2, 0, none⟩)) (fun w => by first | rfl | (go_simp; done) | (simp [go_sem]; done) | (simp [execOp, go_sem]; done)) ?_
          simp only [Act.put, List.setIfInBounds_toArray, List.set_cons_succ, List.set_cons_zero]
          refine WG.cell rfl 24 _ rfl rfl c20 (fun w h => by simp [go_sem, h]) ?_
          simp only [Act.put, List.setIfInBounds_toArray, List.set_cons_succ, List.set_cons_zero]
          refine WG.put rfl (v := .int .i64 (k : Int)) (fun w => by first | rfl | (go_simp; done) | (simp [go_sem]; done) | (simp [execOp, go_sem]; done)) ?_
          simp only [Act.put, List.setIfInBounds_toArray, List.set_cons_succ, List.set_cons_zero]
          refine WG.put rfl (v := .pointer (some ⟨b1, o1 + k * 2, none⟩)) (fun w => by first | rfl | (go_simp; done) | (simp [go_sem, hki, hk1]; done) | (simp [execOp, go_sem, hki, hk1]; done)) ?_
          simp only [Act.put, List.setIfInBounds_toArray, List.set_cons_succ, List.set_cons_zero]
          refine WG.rk rfl _ rfl rfl hb1 hc1 ?_
          simp only [Act.put, List.setIfInBounds_toArray, List.set_cons_succ, List.set_cons_zero]
          refine WG.rk rfl _ rfl rfl I3.lt I3r ?_
          simp only [Act.put, List.setIfInBounds_toArray, List.set_cons_succ, List.set_cons_zero]
          refine WG.eqK rfl _ _ rfl rfl rfl true hd ?_
          simp only [Act.put, List.setIfInBounds_toArray, List.set_cons_succ, List.set_cons_zero]
          refine WG.nil ?_
          intro w5 B5
          have c51 := (B5.cell (p := ⟨b2, 1, none⟩) (World.block_lt_of_cell? wr _ c21)).trans c21
          have c59 := (B5.cell (p := ⟨b9, o9 + k, none⟩) hb9).trans hc9
          go_wp2
          go_ret
          exact ⟨ret_intC HZ.out.symm, Below.then HBB.out B5⟩
        · have hd : decide (x = r) = false := by simpa using he
          have HZ : Hid (LkAt rs vs d r (k + 1)) := HK.out.next hx hv he
          clear hx hv HK he
          go_wp2
          refine grow_allW (by kernel_rfl) (by kernel_rfl) ?_
          refine WG.put rfl (v := .pointer (some ⟨b2, 0, none⟩)) (fun w => by first | rfl | (go_simp; done) | (simp [go_sem]; done) | (simp [execOp, go_sem]; done)) ?_
          simp only [Act.put, List.setIfInBounds_toArray, List.set_cons_succ, List.set_cons_zero]
          refine WG.cell rfl 24 _ rfl rfl c20 (fun w h => by simp [go_sem, h]) ?_
          simp only [Act.put, List.setIfInBounds_toArray, List.set_cons_succ, List.set_cons_zero]
          refine WG.put rfl (v := .int .i64 (k : Int)) (fun w => by first | rfl | (go_simp; done) | (simp [go_sem]; done) | (simp [execOp, go_sem]; done)) ?_
          simp only [Act.put, List.setIfInBounds_toArray, List.set_cons_succ, List.set_cons_zero]
          refine WG.put rfl (v := .pointer (some ⟨b1, o1 + k * 2, none⟩)) (fun w => by first | rfl | (go_simp; done) | (simp [go_sem, hki, hk1]; done) | (simp [execOp, go_sem, hki, hk1]; done)) ?_
          simp only [Act.put, List.setIfInBounds_toArray, List.set_cons_succ, List.set_cons_zero]
          refine WG.rk rfl _ rfl rfl hb1 hc1 ?_
          simp only [Act.put, List.setIfInBounds_toArray, List.set_cons_succ, List.set_cons_zero]
          refine WG.rk rfl _ rfl rfl I3.lt I3r ?_
          simp only [Act.put, List.setIfInBounds_toArray, List.set_cons_succ, List.set_cons_zero]
          refine WG.eqK rfl _ _ rfl rfl rfl false hd ?_
          simp only [Act.put, List.setIfInBounds_toArray, List.set_cons_succ, List.set_cons_zero]
          refine WG.nil ?_
          intro w5 B5
          go_wp2
          go_roundw
          case rel => exact ⟨k + 1, by omega, by omega, by go_num, Below.then HB.out B5, HZ⟩
          case measure => simp [intOf]; omega
      · have e : k = nv := by omega
        subst e
        have HZ : Hid (lkF rs vs d r = d) := HK.out.done2 (by rw [HLV.out]; exact Nat.le_refl _)
        have hki : (k : Int) < nr := by omega
        clear HK
        go_wp2
        go_ret
        exact ⟨ret_intC HZ.out.symm, HBB.out⟩
    · have e : k = nr := by omega
      subst e
      have HZ : Hid (lkF rs vs d r = d) := HK.out.done1 (by rw [HLR.out]; exact Nat.le_refl _)
      clear HK
      go_wp2
      go_ret
      exact ⟨ret_intC HZ.out.symm, HBB.out⟩
set_option maxRecDepth 100000 in
set_option maxHeartbeats 4000000 in
theorem value_any (rs : List RK) (vs : List Int) (r : RK) (nr cr nv cv : Nat) (ar av : Option Addr) (hr : rs.length = nr) (hv : vs.length = nv) (hnr : nr ≤ 1048576) (hnv : nv ≤ 1048576) (w : World) (hR : Seg w ar (rs.flatMap rkL)) (hV : Seg w av (vs.flatMap fun x => [.int .i64 x])) :
    Calls Try.prog 21 #[.slice ar nr cr, .slice av nv cv, .agg (rkL r).toArray] w fun e w' => e = .returned (.int .i64 (lkF rs vs 0 r)) ∧ Below w.heap.size w w' := by
  have HR : Hid (Seg w ar (rs.flatMap rkL)) := hR
  have HV : Hid (Seg w av (vs.flatMap fun x => [.int .i64 x])) := hV
  have HLR : Hid (rs.length = nr) := hr
  have HLV : Hid (vs.length = nv) := hv
  have hnI : (nr : Int) ≤ 1048576 := by omega
  have hvI : (nv : Int) ≤ 1048576 := by omega
  clear hR hV hr hv
  have t1 : True := trivial
  go_enter Try.func21, Try.ntmps21
  go_wp2_with (first
    | (clear t1; refine wpList_boxS rfl 39 _ rfl (rkL r) rfl ?_; intro W2 b3 F2 I2; have B2 := F_b F2))
  have HI2 : Hid (IsS W2 b3 39 (rkL r)) := I2
  have HB2 : Hid (Below w.heap.size w W2) := B2
  clear I2 B2 F2
  go_loopw [7] (fun i wr => ∃ k : Nat, k ≤ nr ∧ k ≤ nv ∧ i = .int .i64 (k : Int) ∧ Hid (Below W2.heap.size W2 wr) ∧ Hid (LkAt rs vs 0 r k)) (fun i _ => nr - (intOf i).toNat)
  case atStart => exact ⟨0, Nat.zero_le _, Nat.zero_le _, rfl, Below.refl _ _, LkAt.zero _ _ _ _⟩
  case round =>
    obtain ⟨k, hk, hkv, rfl, HB, HK⟩ := hrel
    have HBB : Hid (Below w.heap.size w wr) := Below.then HB2.out HB.out
    have I3 := HI2.out.grown HB.out
    have I3r : wr.rangeAt b3 0 (rkL r) := fun j v hv => by rw [Nat.zero_add]; exact (I3.cell j).trans hv
    by_cases hlt : k < nr
    · by_cases hlv : k < nv
      · have hki : (k : Int) < nr := by omega
        have hkj : (k : Int) < nv := by omega
        have hk1 : k < nr := hlt
        obtain ⟨x, hx⟩ : ∃ x, rs[k]? = some x := ⟨_, List.getElem?_eq_getElem (by rw [HLR.out]; exact hlt)⟩
        obtain ⟨v, hv⟩ : ∃ v, vs[k]? = some v := ⟨_, List.getElem?_eq_getElem (by rw [HLV.out]; exact hlv)⟩
        obtain ⟨b1, o1, rfl, hb1, hc1⟩ := seg_rk (HR.out.below HBB.out) hx
        obtain ⟨b9, o9, rfl, hb9, hc9⟩ := (HV.out.below HBB.out) k _ (int_at hv)
        by_cases he : x = r
        · have hd : decide (x = r) = true := by simpa using he
          have HZ : Hid (lkF rs vs 0 r = v) := HK.out.hit hx hv he
          clear hx hv HK he
          go_wp2
          refine grow_allW (by kernel_rfl) (by kernel_rfl) ?_
          refine WG.put rfl (v := .slice (some ⟨b1, o1, none⟩) nr cr) (fun w => by first | rfl | (go_simp; done) | (simp [go_sem]; done) | (simp [execOp, go_sem]; done)) ?_
          simp only [Act.put, List.setIfInBounds_toArray, List.set_cons_succ, List.set_cons_zero]
          refine WG.put rfl (v := .int .i64 (k : Int)) (fun w => by first | rfl | (go_simp; done) | (simp [go_sem]; done) | (simp [execOp, go_sem]; done)) ?_
          simp only [Act.put, List.setIfInBounds_toArray, List.set_cons_succ, List.set_cons_zero]
          refine WG.put rfl (v := .pointer (some ⟨b1, o1 + k * 2, none⟩)) (fun w => by first | rfl | (go_simp; done) | (simp [go_sem, hki, hk1]; done) | (simp [execOp, go_sem, hki, hk1]; done)) ?_
          simp only [Act.put, List.setIfInBounds_toArray, List.set_cons_succ, List.set_cons_zero]
          refine WG.rk rfl _ rfl rfl hb1 hc1 ?_
          simp only [Act.put, List.setIfInBounds_toArray, List.set_cons_succ, List.set_cons_zero]
          refine WG.rk rfl _ rfl rfl I3.lt I3r ?_
          simp only [Act.put, List.setIfInBounds_toArray, List.set_cons_succ, List.set_cons_zero]
          refine WG.eqK rfl _ _ rfl rfl rfl true hd ?_
          simp only [Act.put, List.setIfInBounds_toArray, List.set_cons_succ, List.set_cons_zero]
          refine WG.nil ?_
          intro w5 B5
          have c59 := (B5.cell (p := ⟨b9, o9 + k, none⟩) hb9).trans hc9
          go_wp2
          go_ret
          exact ⟨ret_intC HZ.out.symm, Below.then HBB.out B5⟩
        · have hd : decide (x = r) = false := by simpa using he
          have HZ : Hid (LkAt rs vs 0 r (k + 1)) := HK.out.next hx hv he
          clear hx hv HK he
          go_wp2
          refine grow_allW (by kernel_rfl) (by kernel_rfl) ?_
          refine WG.put rfl (v := .slice (some ⟨b1, o1, none⟩) nr cr) (fun w => by first | rfl | (go_simp; done) | (simp [go_sem]; done) | (simp [execOp, go_sem]; done)) ?_
          simp only [Act.put, List.setIfInBounds_toArray, List.set_cons_succ, List.set_cons_zero]
          refine WG.put rfl (v := .int .i64 (k : Int)) (fun w => by first | rfl | (go_simp; done) | (simp [go_sem]; done) | (simp [execOp, go_sem]; done)) ?_
          simp only [Act.put, List.setIfInBounds_toArray, List.set_cons_succ, List.set_cons_zero]
          refine WG.put rfl (v := .pointer (some ⟨b1, o1 + k * 2, none⟩)) (fun w => by first | rfl | (go_simp; done) | (simp [go_sem, hki, hk1]; done) | (simp [execOp, go_sem, hki, hk1]; done)) ?_
          simp only [Act.put, List.setIfInBounds_toArray, List.set_cons_succ, List.set_cons_zero]
          refine WG.rk rfl _ rfl rfl hb1 hc1 ?_
          simp only [Act.put, List.setIfInBounds_toArray, List.set_cons_succ, List.set_cons_zero]
          refine WG.rk rfl _ rfl rfl I3.lt I3r ?_
          simp only [Act.put, List.setIfInBounds_toArray, List.set_cons_succ, List.set_cons_zero]
          refine WG.eqK rfl _ _ rfl rfl rfl false hd ?_
          simp only [Act.put, List.setIfInBounds_toArray, List.set_cons_succ, List.set_cons_zero]
          refine WG.nil ?_
          intro w5 B5
          go_wp2
          go_roundw
          case rel => exact ⟨k + 1, by omega, by omega, by go_num, Below.then HB.out B5, HZ⟩
          case measure => simp [intOf]; omega
      · have e : k = nv := by omega
        subst e
        have HZ : Hid (lkF rs vs 0 r = 0) := HK.out.done2 (by rw [HLV.out]; exact Nat.le_refl _)
        have hki : (k : Int) < nr := by omega
        clear HK
        go_wp2
        go_ret
        exact ⟨ret_intC HZ.out.symm, HBB.out⟩
    · have e : k = nr := by omega
      subst e
      have HZ : Hid (lkF rs vs 0 r = 0) := HK.out.done1 (by rw [HLR.out]; exact Nat.le_refl _)
      clear HK
      go_wp2
      go_ret
      exact ⟨ret_intC HZ.out.symm, HBB.out⟩
end Go.Proofs.Ytcmkoffamolgmaa

/- Rises of the program and of the reference. -/
import Derived.Test.YtimdmiefjnokmaaRW
namespace Go.Proofs.Ytimdmiefjnokmaa
open Go.RowKit M
set_option linter.unusedSimpArgs false
set_option linter.unusedVariables false
theorem wrap_len {n : Nat} (h : n ≤ 4611686018427387903) : IntKind.i64.wrap (n : Int) = (n : Int) := by
  rw [IntKind.wrap_i64]; omega
theorem ret_bool {a b : Bool} (h : a = b) : Ending.returned (.bool a) = .returned (.bool b) := by rw [h]

set_option maxRecDepth 100000 in
set_option maxHeartbeats 2000000 in
theorem rises_any (a : Option Addr) (cap : Nat) (l : List FS) (hn : l.length ≤ 4611686018427387903) (w : World) (hS : Seg w a (flatF l)) :
    Calls Try.prog 6 #[.slice a l.length cap] w fun e w' => e = .returned (.bool (setB l)) ∧ Below w.heap.size w w' := by
  go_enter Try.func6, Try.ntmps6
  go_wp2
  go_loopw [7] (fun i wr => ∃ k : Nat, k ≤ l.length ∧ i = .int .i64 (k : Int) ∧ Below w.heap.size w wr ∧ Hid (RisTo l k)) (fun i _ => l.length - (intOf i).toNat)
  case atStart => exact ⟨0, Nat.zero_le _, rfl, Below.refl _ _, RisTo.zero l⟩
  case round =>
    obtain ⟨k, hk, rfl, BR, HR⟩ := hrel
    by_cases hlt : k < l.length
    · obtain ⟨b, o, rfl, HB, HX⟩ := seg_at (hS.below BR) k hlt
      have HY : 0 < k → wr.rangeAt b (o + (k - 1) * 49) (encF (l.getD (k - 1) FS.zero)) := fun h0 => by
        obtain ⟨b', o', e, _, h⟩ := seg_at (hS.below BR) (k - 1) (by omega)
        cases e
        rw [getD_at l (k - 1) (by omega)]; exact h
      rw [← getD_at l k hlt] at HX
      have hC := fun W => check_any (l.getD k FS.zero) W
      have hK := fun W => compare_ans (l.getD (k - 1) FS.zero) (l.getD k FS.zero) W
      have N0 : Hid (okF (l.getD k FS.zero) = false → setB l = false) := fun h => setB_no hlt (.inl h)
      have N1 : Hid (0 < k → ¬ cmpF (l.getD (k - 1) FS.zero) (l.getD k FS.zero) < 0 → setB l = false) := fun h h' => setB_no hlt (.inr ⟨h, h'⟩)
      have Y1 : Hid (okF (l.getD k FS.zero) = true → (0 < k → cmpF (l.getD (k - 1) FS.zero) (l.getD k FS.zero) < 0) → RisTo l (k + 1)) := fun h h' => HR.out.succ h h'
      have hiX : (k : Int) < (l.length : Int) := by omega
      have hsz : ((l.length : Nat) : Int) ≤ 4611686018427387903 := by omega
      generalize l.getD k FS.zero = X at *
      generalize l.getD (k - 1) FS.zero = Y at *
      generalize cmpF Y X = c at *
      clear HR hS
      cases hok : okF X with
      | false =>
        have hck : ((ckF X) != 0) = true := by unfold ckF; rw [hok]; rfl
        have HV : Hid (setB l = false) := N0.out hok
        clear N0 N1 Y1 hok hK HY
        go_wp2_with (first
          | (refine wpList_loadE (x := X) rfl _ rfl rfl HX ?_)
          | (refine wpList_allocS rfl _ rfl (encF FS.zero) zeroF ?_; intro w3 b4 F3 I3)
          | (refine wpList_storeF rfl _ _ rfl rfl rfl I3 ?_; intro w4 U4 I4; have B4 : Below wr.heap.size wr w4 := U4.trans (fresh_b F3) (by rw [F3.at']; exact Nat.le_refl _)))
        have HB4 : b < w4.heap.size := Nat.lt_of_lt_of_le HB B4.size
        clear HX HB
        rename b < w4.heap.size => HB
        have BB : Below w.heap.size w w4 := Below.then BR B4
        refine grow_allW (by kernel_rfl) (by kernel_rfl) ?_
        refine WG.whole rfl _ rfl rfl I4 ?_
        simp only [Act.put, List.setIfInBounds_toArray, List.set_cons_succ, List.set_cons_zero]
        refine WG.call rfl (v := .int .i64 (ckF X)) (fun w _ => hC w) (fun w => by first | rfl | (go_simp; done) | (simp [go_sem]; done)) ?_
        simp only [Act.put, List.setIfInBounds_toArray, List.set_cons_succ, List.set_cons_zero]
        refine WG.put rfl (v := .bool true) (fun w => by first | rfl | (go_simp; done) | (simp [go_sem, hck]; done)) ?_
        simp only [Act.put, List.setIfInBounds_toArray, List.set_cons_succ, List.set_cons_zero]
        refine WG.put rfl (v := .bool true) (fun w => by first | rfl | (go_simp; done) | (simp [go_sem]; done)) ?_
        simp only [Act.put, List.setIfInBounds_toArray, List.set_cons_succ, List.set_cons_zero]
        refine WG.skip rfl ?_
        simp only [Act.put, List.setIfInBounds_toArray, List.set_cons_succ, List.set_cons_zero]
        refine WG.skip rfl ?_
        simp only [Act.put, List.setIfInBounds_toArray, List.set_cons_succ, List.set_cons_zero]
        refine WG.skip rfl ?_
        simp only [Act.put, List.setIfInBounds_toArray, List.set_cons_succ, List.set_cons_zero]
        refine WG.skip rfl ?_
        simp only [Act.put, List.setIfInBounds_toArray, List.set_cons_succ, List.set_cons_zero]
        refine WG.skip rfl ?_
        simp only [Act.put, List.setIfInBounds_toArray, List.set_cons_succ, List.set_cons_zero]
        refine WG.skip rfl ?_
        simp only [Act.put, List.setIfInBounds_toArray, List.set_cons_succ, List.set_cons_zero]
        refine WG.skip rfl ?_
        simp only [Act.put, List.setIfInBounds_toArray, List.set_cons_succ, List.set_cons_zero]
        refine WG.skip rfl ?_
        simp only [Act.put, List.setIfInBounds_toArray, List.set_cons_succ, List.set_cons_zero]
        refine WG.skip rfl ?_
        simp only [Act.put, List.setIfInBounds_toArray, List.set_cons_succ, List.set_cons_zero]
        refine WG.skip rfl ?_
        simp only [Act.put, List.setIfInBounds_toArray, List.set_cons_succ, List.set_cons_zero]
        refine WG.skip rfl ?_
        simp only [Act.put, List.setIfInBounds_toArray, List.set_cons_succ, List.set_cons_zero]
        refine WG.skip rfl ?_
        simp only [Act.put, List.setIfInBounds_toArray, List.set_cons_succ, List.set_cons_zero]
        refine WG.put rfl (v := .bool true) (fun w => by first | rfl | (go_simp; done) | (simp [go_sem]; done)) ?_
        simp only [Act.put, List.setIfInBounds_toArray, List.set_cons_succ, List.set_cons_zero]
        refine WG.nil ?_
        intro w5 B5
        go_wp2
        go_ret
        exact ⟨ret_bool (by rw [HV.out]), Below.then BB B5⟩
      | true =>
        by_cases hk1 : 0 < k
        · by_cases hc : c < 0
          · have hck : ((ckF X) != 0) = false := by unfold ckF; rw [hok]; rfl
            have hk0 : (0 < (k : Int)) := by omega
            replace HY := HY hk1
            obtain ⟨i, hi⟩ : ∃ i, k - 1 = i := ⟨_, rfl⟩
            rw [hi] at HY
            have hwr : IntKind.i64.wrap ((k : Int) - 1) = (i : Int) := by rw [show (k : Int) - 1 = (i : Int) by omega]; exact wrap_len (by omega)
            have hkN : 0 < k := hk1
            have hix : (i : Int) < (l.length : Int) := by omega
            have hlt0 : ¬ (0 ≤ c) := by omega
            have HV : Hid (RisTo l (k + 1)) := Y1.out hok (fun _ => hc)
            clear N0 N1 Y1 hok hk1 hc hi
            go_wp2_with (first
              | (refine wpList_loadE (x := X) rfl _ rfl rfl HX ?_)
              | (refine wpList_allocS rfl _ rfl (encF FS.zero) zeroF ?_; intro w3 b4 F3 I3)
              | (refine wpList_storeF rfl _ _ rfl rfl rfl I3 ?_; intro w4 U4 I4; have B4 : Below wr.heap.size wr w4 := U4.trans (fresh_b F3) (by rw [F3.at']; exact Nat.le_refl _)))
            have HB4 : b < w4.heap.size := Nat.lt_of_lt_of_le HB B4.size
            have HY4 : w4.rangeAt b (o + i * 49) (encF Y) := fun j v hv => (B4.cell (p := ⟨b, o + i * 49 + j, none⟩) HB).trans (HY j v hv)
            clear HX HB HY
            rename w4.rangeAt b (o + i * 49) (encF Y) => HY
            rename b < w4.heap.size => HB
            have BB : Below w.heap.size w w4 := Below.then BR B4
            refine grow_allW (by kernel_rfl) (by kernel_rfl) ?_
            refine WG.whole rfl _ rfl rfl I4 ?_
            simp only [Act.put, List.setIfInBounds_toArray, List.set_cons_succ, List.set_cons_zero]
            refine WG.call rfl (v := .int .i64 (ckF X)) (fun w _ => hC w) (fun w => by first | rfl | (go_simp; done) | (simp [go_sem]; done)) ?_
            simp only [Act.put, List.setIfInBounds_toArray, List.set_cons_succ, List.set_cons_zero]
            refine WG.put rfl (v := .bool false) (fun w => by first | rfl | (go_simp; done) | (simp [go_sem, hck]; done)) ?_
            simp only [Act.put, List.setIfInBounds_toArray, List.set_cons_succ, List.set_cons_zero]
            refine WG.put rfl (v := .bool false) (fun w => by first | rfl | (go_simp; done) | (simp [go_sem]; done)) ?_
            simp only [Act.put, List.setIfInBounds_toArray, List.set_cons_succ, List.set_cons_zero]
            refine WG.put rfl (v := .int .i64 (k : Int)) (fun w => by first | rfl | (go_simp; done) | (simp [go_sem]; done)) ?_
            simp only [Act.put, List.setIfInBounds_toArray, List.set_cons_succ, List.set_cons_zero]
            refine WG.put rfl (v := .bool true) (fun w => by first | rfl | (go_simp; done) | (simp [go_sem, hkN]; done)) ?_
            simp only [Act.put, List.setIfInBounds_toArray, List.set_cons_succ, List.set_cons_zero]
            refine WG.put rfl (v := .bool true) (fun w => by first | rfl | (go_simp; done) | (simp [go_sem]; done)) ?_
            simp only [Act.put, List.setIfInBounds_toArray, List.set_cons_succ, List.set_cons_zero]
            refine WG.put rfl (v := .slice (some ⟨b, o, none⟩) l.length cap) (fun w => by first | rfl | (go_simp; done) | (simp [go_sem]; done)) ?_
            simp only [Act.put, List.setIfInBounds_toArray, List.set_cons_succ, List.set_cons_zero]
            refine WG.put rfl (v := .int .i64 (k : Int)) (fun w => by first | rfl | (go_simp; done) | (simp [go_sem]; done)) ?_
            simp only [Act.put, List.setIfInBounds_toArray, List.set_cons_succ, List.set_cons_zero]
            refine WG.put rfl (v := .int .i64 (i : Int)) (fun w => by first | rfl | (go_simp; done) | (simp [go_sem, hwr]; done)) ?_
            simp only [Act.put, List.setIfInBounds_toArray, List.set_cons_succ, List.set_cons_zero]
            refine WG.put rfl (v := .pointer (some ⟨b, o + i * 49, none⟩)) (fun w => by first | rfl | (go_simp; done) | (simp [go_sem, hix]; done)) ?_
            simp only [Act.put, List.setIfInBounds_toArray, List.set_cons_succ, List.set_cons_zero]
            refine WG.elem (x := Y) rfl _ rfl rfl HB HY ?_
            simp only [Act.put, List.setIfInBounds_toArray, List.set_cons_succ, List.set_cons_zero]
            refine WG.whole rfl _ rfl rfl I4 ?_
            simp only [Act.put, List.setIfInBounds_toArray, List.set_cons_succ, List.set_cons_zero]
            refine WG.call rfl (v := .int .i64 c) (fun w _ => hK w) (fun w => by first | rfl | (go_simp; done) | (simp [go_sem]; done)) ?_
            simp only [Act.put, List.setIfInBounds_toArray, List.set_cons_succ, List.set_cons_zero]
            refine WG.put rfl (v := .bool false) (fun w => by first | rfl | (go_simp; done) | (simp [go_sem, hlt0]; done)) ?_
            simp only [Act.put, List.setIfInBounds_toArray, List.set_cons_succ, List.set_cons_zero]
            refine WG.put rfl (v := .bool false) (fun w => by first | rfl | (go_simp; done) | (simp [go_sem]; done)) ?_
            simp only [Act.put, List.setIfInBounds_toArray, List.set_cons_succ, List.set_cons_zero]
            refine WG.put rfl (v := .bool false) (fun w => by first | rfl | (go_simp; done) | (simp [go_sem]; done)) ?_
            simp only [Act.put, List.setIfInBounds_toArray, List.set_cons_succ, List.set_cons_zero]
            refine WG.nil ?_
            intro w5 B5
            go_wp2
            go_roundw
            case rel => exact ⟨k + 1, by omega, by go_num, Below.then BB B5, HV⟩
            case measure => simp [intOf]; omega
          · have hck : ((ckF X) != 0) = false := by unfold ckF; rw [hok]; rfl
            have hk0 : (0 < (k : Int)) := by omega
            replace HY := HY hk1
            obtain ⟨i, hi⟩ : ∃ i, k - 1 = i := ⟨_, rfl⟩
            rw [hi] at HY
            have hwr : IntKind.i64.wrap ((k : Int) - 1) = (i : Int) := by rw [show (k : Int) - 1 = (i : Int) by omega]; exact wrap_len (by omega)
            have hkN : 0 < k := hk1
            have hix : (i : Int) < (l.length : Int) := by omega
            have hlt0 : 0 ≤ c := by omega
            have HV : Hid (setB l = false) := N1.out hk1 hc
            clear N0 N1 Y1 hok hk1 hc hi
            go_wp2_with (first
              | (refine wpList_loadE (x := X) rfl _ rfl rfl HX ?_)
              | (refine wpList_allocS rfl _ rfl (encF FS.zero) zeroF ?_; intro w3 b4 F3 I3)
              | (refine wpList_storeF rfl _ _ rfl rfl rfl I3 ?_; intro w4 U4 I4; have B4 : Below wr.heap.size wr w4 := U4.trans (fresh_b F3) (by rw [F3.at']; exact Nat.le_refl _)))
            have HB4 : b < w4.heap.size := Nat.lt_of_lt_of_le HB B4.size
            have HY4 : w4.rangeAt b (o + i * 49) (encF Y) := fun j v hv => (B4.cell (p := ⟨b, o + i * 49 + j, none⟩) HB).trans (HY j v hv)
            clear HX HB HY
            rename w4.rangeAt b (o + i * 49) (encF Y) => HY
            rename b < w4.heap.size => HB
            have BB : Below w.heap.size w w4 := Below.then BR B4
            refine grow_allW (by kernel_rfl) (by kernel_rfl) ?_
            refine WG.whole rfl _ rfl rfl I4 ?_
            simp only [Act.put, List.setIfInBounds_toArray, List.set_cons_succ, List.set_cons_zero]
            refine WG.call rfl (v := .int .i64 (ckF X)) (fun w _ => hC w) (fun w => by first | rfl | (go_simp; done) | (simp [go_sem]; done)) ?_
            simp only [Act.put, List.setIfInBounds_toArray, List.set_cons_succ, List.set_cons_zero]
            refine WG.put rfl (v := .bool false) (fun w => by first | rfl | (go_simp; done) | (simp [go_sem, hck]; done)) ?_
            simp only [Act.put, List.setIfInBounds_toArray, List.set_cons_succ, List.set_cons_zero]
            refine WG.put rfl (v := .bool false) (fun w => by first | rfl | (go_simp; done) | (simp [go_sem]; done)) ?_
            simp only [Act.put, List.setIfInBounds_toArray, List.set_cons_succ, List.set_cons_zero]
            refine WG.put rfl (v := .int .i64 (k : Int)) (fun w => by first | rfl | (go_simp; done) | (simp [go_sem]; done)) ?_
            simp only [Act.put, List.setIfInBounds_toArray, List.set_cons_succ, List.set_cons_zero]
            refine WG.put rfl (v := .bool true) (fun w => by first | rfl | (go_simp; done) | (simp [go_sem, hkN]; done)) ?_
            simp only [Act.put, List.setIfInBounds_toArray, List.set_cons_succ, List.set_cons_zero]
            refine WG.put rfl (v := .bool true) (fun w => by first | rfl | (go_simp; done) | (simp [go_sem]; done)) ?_
            simp only [Act.put, List.setIfInBounds_toArray, List.set_cons_succ, List.set_cons_zero]
            refine WG.put rfl (v := .slice (some ⟨b, o, none⟩) l.length cap) (fun w => by first | rfl | (go_simp; done) | (simp [go_sem]; done)) ?_
            simp only [Act.put, List.setIfInBounds_toArray, List.set_cons_succ, List.set_cons_zero]
            refine WG.put rfl (v := .int .i64 (k : Int)) (fun w => by first | rfl | (go_simp; done) | (simp [go_sem]; done)) ?_
            simp only [Act.put, List.setIfInBounds_toArray, List.set_cons_succ, List.set_cons_zero]
            refine WG.put rfl (v := .int .i64 (i : Int)) (fun w => by first | rfl | (go_simp; done) | (simp [go_sem, hwr]; done)) ?_
            simp only [Act.put, List.setIfInBounds_toArray, List.set_cons_succ, List.set_cons_zero]
            refine WG.put rfl (v := .pointer (some ⟨b, o + i * 49, none⟩)) (fun w => by first | rfl | (go_simp; done) | (simp [go_sem, hix]; done)) ?_
            simp only [Act.put, List.setIfInBounds_toArray, List.set_cons_succ, List.set_cons_zero]
            refine WG.elem (x := Y) rfl _ rfl rfl HB HY ?_
            simp only [Act.put, List.setIfInBounds_toArray, List.set_cons_succ, List.set_cons_zero]
            refine WG.whole rfl _ rfl rfl I4 ?_
            simp only [Act.put, List.setIfInBounds_toArray, List.set_cons_succ, List.set_cons_zero]
            refine WG.call rfl (v := .int .i64 c) (fun w _ => hK w) (fun w => by first | rfl | (go_simp; done) | (simp [go_sem]; done)) ?_
            simp only [Act.put, List.setIfInBounds_toArray, List.set_cons_succ, List.set_cons_zero]
            refine WG.put rfl (v := .bool true) (fun w => by first | rfl | (go_simp; done) | (simp [go_sem, hlt0]; done)) ?_
            simp only [Act.put, List.setIfInBounds_toArray, List.set_cons_succ, List.set_cons_zero]
            refine WG.put rfl (v := .bool true) (fun w => by first | rfl | (go_simp; done) | (simp [go_sem]; done)) ?_
            simp only [Act.put, List.setIfInBounds_toArray, List.set_cons_succ, List.set_cons_zero]
            refine WG.put rfl (v := .bool true) (fun w => by first | rfl | (go_simp; done) | (simp [go_sem]; done)) ?_
            simp only [Act.put, List.setIfInBounds_toArray, List.set_cons_succ, List.set_cons_zero]
            refine WG.nil ?_
            intro w5 B5
            go_wp2
            go_ret
            exact ⟨ret_bool (by rw [HV.out]), Below.then BB B5⟩
        · have hck : ((ckF X) != 0) = false := by unfold ckF; rw [hok]; rfl
          have hk0 : ¬ (0 < (k : Int)) := by omega
          have hkN : ¬ 0 < k := hk1
          have HV : Hid (RisTo l (k + 1)) := Y1.out hok (fun h => absurd h hk1)
          clear N0 N1 Y1 hok hK HY hk1
          go_wp2_with (first
            | (refine wpList_loadE (x := X) rfl _ rfl rfl HX ?_)
            | (refine wpList_allocS rfl _ rfl (encF FS.zero) zeroF ?_; intro w3 b4 F3 I3)
            | (refine wpList_storeF rfl _ _ rfl rfl rfl I3 ?_; intro w4 U4 I4; have B4 : Below wr.heap.size wr w4 := U4.trans (fresh_b F3) (by rw [F3.at']; exact Nat.le_refl _)))
          have HB4 : b < w4.heap.size := Nat.lt_of_lt_of_le HB B4.size
          clear HX HB
          rename b < w4.heap.size => HB
          have BB : Below w.heap.size w w4 := Below.then BR B4
          refine grow_allW (by kernel_rfl) (by kernel_rfl) ?_
          refine WG.whole rfl _ rfl rfl I4 ?_
          simp only [Act.put, List.setIfInBounds_toArray, List.set_cons_succ, List.set_cons_zero]
          refine WG.call rfl (v := .int .i64 (ckF X)) (fun w _ => hC w) (fun w => by first | rfl | (go_simp; done) | (simp [go_sem]; done)) ?_
          simp only [Act.put, List.setIfInBounds_toArray, List.set_cons_succ, List.set_cons_zero]
          refine WG.put rfl (v := .bool false) (fun w => by first | rfl | (go_simp; done) | (simp [go_sem, hck]; done)) ?_
          simp only [Act.put, List.setIfInBounds_toArray, List.set_cons_succ, List.set_cons_zero]
          refine WG.put rfl (v := .bool false) (fun w => by first | rfl | (go_simp; done) | (simp [go_sem]; done)) ?_
          simp only [Act.put, List.setIfInBounds_toArray, List.set_cons_succ, List.set_cons_zero]
          refine WG.put rfl (v := .int .i64 (k : Int)) (fun w => by first | rfl | (go_simp; done) | (simp [go_sem]; done)) ?_
          simp only [Act.put, List.setIfInBounds_toArray, List.set_cons_succ, List.set_cons_zero]
          refine WG.put rfl (v := .bool false) (fun w => by first | rfl | (go_simp; done) | (simp [go_sem, hkN]; done)) ?_
          simp only [Act.put, List.setIfInBounds_toArray, List.set_cons_succ, List.set_cons_zero]
          refine WG.put rfl (v := .bool false) (fun w => by first | rfl | (go_simp; done) | (simp [go_sem]; done)) ?_
          simp only [Act.put, List.setIfInBounds_toArray, List.set_cons_succ, List.set_cons_zero]
          refine WG.skip rfl ?_
          simp only [Act.put, List.setIfInBounds_toArray, List.set_cons_succ, List.set_cons_zero]
          refine WG.skip rfl ?_
          simp only [Act.put, List.setIfInBounds_toArray, List.set_cons_succ, List.set_cons_zero]
          refine WG.skip rfl ?_
          simp only [Act.put, List.setIfInBounds_toArray, List.set_cons_succ, List.set_cons_zero]
          refine WG.skip rfl ?_
          simp only [Act.put, List.setIfInBounds_toArray, List.set_cons_succ, List.set_cons_zero]
          refine WG.skip rfl ?_
          simp only [Act.put, List.setIfInBounds_toArray, List.set_cons_succ, List.set_cons_zero]
          refine WG.skip rfl ?_
          simp only [Act.put, List.setIfInBounds_toArray, List.set_cons_succ, List.set_cons_zero]
          refine WG.skip rfl ?_
          simp only [Act.put, List.setIfInBounds_toArray, List.set_cons_succ, List.set_cons_zero]
          refine WG.skip rfl ?_
          simp only [Act.put, List.setIfInBounds_toArray, List.set_cons_succ, List.set_cons_zero]
          refine WG.put rfl (v := .bool false) (fun w => by first | rfl | (go_simp; done) | (simp [go_sem]; done)) ?_
          simp only [Act.put, List.setIfInBounds_toArray, List.set_cons_succ, List.set_cons_zero]
          refine WG.put rfl (v := .bool false) (fun w => by first | rfl | (go_simp; done) | (simp [go_sem]; done)) ?_
          simp only [Act.put, List.setIfInBounds_toArray, List.set_cons_succ, List.set_cons_zero]
          refine WG.nil ?_
          intro w5 B5
          go_wp2
          go_roundw
          case rel => exact ⟨k + 1, by omega, by go_num, Below.then BB B5, HV⟩
          case measure => simp [intOf]; omega
    · have e : k = l.length := by omega
      subst e
      have HV : Hid (setB l = true) := (setB_iff l).2 HR.out
      clear HR hS hlt
      go_wp2
      go_ret
      exact ⟨ret_bool HV.out.symm, BR⟩

set_option maxRecDepth 100000 in
set_option maxHeartbeats 2000000 in
theorem rrises_any (a : Option Addr) (cap : Nat) (l : List FS) (hn : l.length ≤ 4611686018427387903) (w : World) (hS : Seg w a (flatF l)) :
    Calls Try.prog 8 #[.slice a l.length cap] w fun e w' => e = .returned (.bool (setB l)) ∧ Below w.heap.size w w' := by
  go_enter Try.func8, Try.ntmps8
  go_wp2
  go_loopw [3] (fun i wr => ∃ k : Nat, k ≤ l.length ∧ i = .int .i64 (k : Int) ∧ Below w.heap.size w wr ∧ Hid (RisTo l k)) (fun i _ => l.length - (intOf i).toNat)
  case atStart => exact ⟨0, Nat.zero_le _, rfl, Below.refl _ _, RisTo.zero l⟩
  case round =>
    obtain ⟨k, hk, rfl, BR, HR⟩ := hrel
    by_cases hlt : k < l.length
    · obtain ⟨b, o, rfl, HB, HX⟩ := seg_at (hS.below BR) k hlt
      have HY : 0 < k → wr.rangeAt b (o + (k - 1) * 49) (encF (l.getD (k - 1) FS.zero)) := fun h0 => by
        obtain ⟨b', o', e, _, h⟩ := seg_at (hS.below BR) (k - 1) (by omega)
        cases e
        rw [getD_at l (k - 1) (by omega)]; exact h
      rw [← getD_at l k hlt] at HX
      have hC := fun W => rcheck_any (l.getD k FS.zero) W
      have hK := fun W => rcompare_ans (l.getD (k - 1) FS.zero) (l.getD k FS.zero) W
      have N0 : Hid (okF (l.getD k FS.zero) = false → setB l = false) := fun h => setB_no hlt (.inl h)
      have N1 : Hid (0 < k → ¬ cmpF (l.getD (k - 1) FS.zero) (l.getD k FS.zero) < 0 → setB l = false) := fun h h' => setB_no hlt (.inr ⟨h, h'⟩)
      have Y1 : Hid (okF (l.getD k FS.zero) = true → (0 < k → cmpF (l.getD (k - 1) FS.zero) (l.getD k FS.zero) < 0) → RisTo l (k + 1)) := fun h h' => HR.out.succ h h'
      have hiX : (k : Int) < (l.length : Int) := by omega
      have hsz : ((l.length : Nat) : Int) ≤ 4611686018427387903 := by omega
      generalize l.getD k FS.zero = X at *
      generalize l.getD (k - 1) FS.zero = Y at *
      generalize cmpF Y X = c at *
      clear HR hS
      cases hok : okF X with
      | false =>
        have hck : ((ckF X) != 0) = true := by unfold ckF; rw [hok]; rfl
        have HV : Hid (setB l = false) := N0.out hok
        clear N0 N1 Y1 hok hK HY
        go_wp2
        refine grow_allW (by kernel_rfl) (by kernel_rfl) ?_
        refine WG.put rfl (v := .slice (some ⟨b, o, none⟩) l.length cap) (fun w => by first | rfl | (go_simp; done) | (simp [go_sem]; done)) ?_
        simp only [Act.put, List.setIfInBounds_toArray, List.set_cons_succ, List.set_cons_zero]
        refine WG.put rfl (v := .int .i64 (k : Int)) (fun w => by first | rfl | (go_simp; done) | (simp [go_sem]; done)) ?_
        simp only [Act.put, List.setIfInBounds_toArray, List.set_cons_succ, List.set_cons_zero]
        refine WG.put rfl (v := .pointer (some ⟨b, o + k * 49, none⟩)) (fun w => by first | rfl | (go_simp; done) | (simp [go_sem, hiX]; done)) ?_
        simp only [Act.put, List.setIfInBounds_toArray, List.set_cons_succ, List.set_cons_zero]
        refine WG.elem (x := X) rfl _ rfl rfl HB HX ?_
        simp only [Act.put, List.setIfInBounds_toArray, List.set_cons_succ, List.set_cons_zero]
        refine WG.call rfl (v := .int .i64 (ckF X)) (fun w _ => hC w) (fun w => by first | rfl | (go_simp; done) | (simp [go_sem]; done)) ?_
        simp only [Act.put, List.setIfInBounds_toArray, List.set_cons_succ, List.set_cons_zero]
        refine WG.put rfl (v := .bool true) (fun w => by first | rfl | (go_simp; done) | (simp [go_sem, hck]; done)) ?_
        simp only [Act.put, List.setIfInBounds_toArray, List.set_cons_succ, List.set_cons_zero]
        refine WG.put rfl (v := .bool true) (fun w => by first | rfl | (go_simp; done) | (simp [go_sem]; done)) ?_
        simp only [Act.put, List.setIfInBounds_toArray, List.set_cons_succ, List.set_cons_zero]
        refine WG.skip rfl ?_
        simp only [Act.put, List.setIfInBounds_toArray, List.set_cons_succ, List.set_cons_zero]
        refine WG.skip rfl ?_
        simp only [Act.put, List.setIfInBounds_toArray, List.set_cons_succ, List.set_cons_zero]
        refine WG.skip rfl ?_
        simp only [Act.put, List.setIfInBounds_toArray, List.set_cons_succ, List.set_cons_zero]
        refine WG.skip rfl ?_
        simp only [Act.put, List.setIfInBounds_toArray, List.set_cons_succ, List.set_cons_zero]
        refine WG.skip rfl ?_
        simp only [Act.put, List.setIfInBounds_toArray, List.set_cons_succ, List.set_cons_zero]
        refine WG.skip rfl ?_
        simp only [Act.put, List.setIfInBounds_toArray, List.set_cons_succ, List.set_cons_zero]
        refine WG.skip rfl ?_
        simp only [Act.put, List.setIfInBounds_toArray, List.set_cons_succ, List.set_cons_zero]
        refine WG.skip rfl ?_
        simp only [Act.put, List.setIfInBounds_toArray, List.set_cons_succ, List.set_cons_zero]
        refine WG.skip rfl ?_
        simp only [Act.put, List.setIfInBounds_toArray, List.set_cons_succ, List.set_cons_zero]
        refine WG.skip rfl ?_
        simp only [Act.put, List.setIfInBounds_toArray, List.set_cons_succ, List.set_cons_zero]
        refine WG.skip rfl ?_
        simp only [Act.put, List.setIfInBounds_toArray, List.set_cons_succ, List.set_cons_zero]
        refine WG.skip rfl ?_
        simp only [Act.put, List.setIfInBounds_toArray, List.set_cons_succ, List.set_cons_zero]
        refine WG.skip rfl ?_
        simp only [Act.put, List.setIfInBounds_toArray, List.set_cons_succ, List.set_cons_zero]
        refine WG.skip rfl ?_
        simp only [Act.put, List.setIfInBounds_toArray, List.set_cons_succ, List.set_cons_zero]
        refine WG.skip rfl ?_
        simp only [Act.put, List.setIfInBounds_toArray, List.set_cons_succ, List.set_cons_zero]
        refine WG.put rfl (v := .bool true) (fun w => by first | rfl | (go_simp; done) | (simp [go_sem]; done)) ?_
        simp only [Act.put, List.setIfInBounds_toArray, List.set_cons_succ, List.set_cons_zero]
        refine WG.nil ?_
        intro w5 B5
        go_wp2
        go_ret
        exact ⟨ret_bool (by rw [HV.out]), Below.then BR B5⟩
      | true =>
        by_cases hk1 : 0 < k
        · by_cases hc : c < 0
          · have hck : ((ckF X) != 0) = false := by unfold ckF; rw [hok]; rfl
            have hk0 : (0 < (k : Int)) := by omega
            replace HY := HY hk1
            obtain ⟨i, hi⟩ : ∃ i, k - 1 = i := ⟨_, rfl⟩
            rw [hi] at HY
            have hwr : IntKind.i64.wrap ((k : Int) - 1) = (i : Int) := by rw [show (k : Int) - 1 = (i : Int) by omega]; exact wrap_len (by omega)
            have hkN : 0 < k := hk1
            have hix : (i : Int) < (l.length : Int) := by omega
            have hlt0 : ¬ (0 ≤ c) := by omega
            have HV : Hid (RisTo l (k + 1)) := Y1.out hok (fun _ => hc)
            clear N0 N1 Y1 hok hk1 hc hi
            go_wp2
            refine grow_allW (by kernel_rfl) (by kernel_rfl) ?_
            refine WG.put rfl (v := .slice (some ⟨b, o, none⟩) l.length cap) (fun w => by first | rfl | (go_simp; done) | (simp [go_sem]; done)) ?_
            simp only [Act.put, List.setIfInBounds_toArray, List.set_cons_succ, List.set_cons_zero]
            refine WG.put rfl (v := .int .i64 (k : Int)) (fun w => by first | rfl | (go_simp; done) | (simp [go_sem]; done)) ?_
            simp only [Act.put, List.setIfInBounds_toArray, List.set_cons_succ, List.set_cons_zero]
            refine WG.put rfl (v := .pointer (some ⟨b, o + k * 49, none⟩)) (fun w => by first | rfl | (go_simp; done) | (simp [go_sem, hiX]; done)) ?_
            simp only [Act.put, List.setIfInBounds_toArray, List.set_cons_succ, List.set_cons_zero]
            refine WG.elem (x := X) rfl _ rfl rfl HB HX ?_
            simp only [Act.put, List.setIfInBounds_toArray, List.set_cons_succ, List.set_cons_zero]
            refine WG.call rfl (v := .int .i64 (ckF X)) (fun w _ => hC w) (fun w => by first | rfl | (go_simp; done) | (simp [go_sem]; done)) ?_
            simp only [Act.put, List.setIfInBounds_toArray, List.set_cons_succ, List.set_cons_zero]
            refine WG.put rfl (v := .bool false) (fun w => by first | rfl | (go_simp; done) | (simp [go_sem, hck]; done)) ?_
            simp only [Act.put, List.setIfInBounds_toArray, List.set_cons_succ, List.set_cons_zero]
            refine WG.put rfl (v := .bool false) (fun w => by first | rfl | (go_simp; done) | (simp [go_sem]; done)) ?_
            simp only [Act.put, List.setIfInBounds_toArray, List.set_cons_succ, List.set_cons_zero]
            refine WG.put rfl (v := .int .i64 (k : Int)) (fun w => by first | rfl | (go_simp; done) | (simp [go_sem]; done)) ?_
            simp only [Act.put, List.setIfInBounds_toArray, List.set_cons_succ, List.set_cons_zero]
            refine WG.put rfl (v := .bool true) (fun w => by first | rfl | (go_simp; done) | (simp [go_sem, hkN]; done)) ?_
            simp only [Act.put, List.setIfInBounds_toArray, List.set_cons_succ, List.set_cons_zero]
            refine WG.put rfl (v := .bool true) (fun w => by first | rfl | (go_simp; done) | (simp [go_sem]; done)) ?_
            simp only [Act.put, List.setIfInBounds_toArray, List.set_cons_succ, List.set_cons_zero]
            refine WG.put rfl (v := .slice (some ⟨b, o, none⟩) l.length cap) (fun w => by first | rfl | (go_simp; done) | (simp [go_sem]; done)) ?_
            simp only [Act.put, List.setIfInBounds_toArray, List.set_cons_succ, List.set_cons_zero]
            refine WG.put rfl (v := .int .i64 (k : Int)) (fun w => by first | rfl | (go_simp; done) | (simp [go_sem]; done)) ?_
            simp only [Act.put, List.setIfInBounds_toArray, List.set_cons_succ, List.set_cons_zero]
            refine WG.put rfl (v := .int .i64 (i : Int)) (fun w => by first | rfl | (go_simp; done) | (simp [go_sem, hwr]; done)) ?_
            simp only [Act.put, List.setIfInBounds_toArray, List.set_cons_succ, List.set_cons_zero]
            refine WG.put rfl (v := .pointer (some ⟨b, o + i * 49, none⟩)) (fun w => by first | rfl | (go_simp; done) | (simp [go_sem, hix]; done)) ?_
            simp only [Act.put, List.setIfInBounds_toArray, List.set_cons_succ, List.set_cons_zero]
            refine WG.elem (x := Y) rfl _ rfl rfl HB HY ?_
            simp only [Act.put, List.setIfInBounds_toArray, List.set_cons_succ, List.set_cons_zero]
            refine WG.put rfl (v := .slice (some ⟨b, o, none⟩) l.length cap) (fun w => by first | rfl | (go_simp; done) | (simp [go_sem]; done)) ?_
            simp only [Act.put, List.setIfInBounds_toArray, List.set_cons_succ, List.set_cons_zero]
            refine WG.put rfl (v := .int .i64 (k : Int)) (fun w => by first | rfl | (go_simp; done) | (simp [go_sem]; done)) ?_
            simp only [Act.put, List.setIfInBounds_toArray, List.set_cons_succ, List.set_cons_zero]
            refine WG.put rfl (v := .pointer (some ⟨b, o + k * 49, none⟩)) (fun w => by first | rfl | (go_simp; done) | (simp [go_sem, hiX]; done)) ?_
            simp only [Act.put, List.setIfInBounds_toArray, List.set_cons_succ, List.set_cons_zero]
            refine WG.elem (x := X) rfl _ rfl rfl HB HX ?_
            simp only [Act.put, List.setIfInBounds_toArray, List.set_cons_succ, List.set_cons_zero]
            refine WG.call rfl (v := .int .i64 c) (fun w _ => hK w) (fun w => by first | rfl | (go_simp; done) | (simp [go_sem]; done)) ?_
            simp only [Act.put, List.setIfInBounds_toArray, List.set_cons_succ, List.set_cons_zero]
            refine WG.put rfl (v := .bool false) (fun w => by first | rfl | (go_simp; done) | (simp [go_sem, hlt0]; done)) ?_
            simp only [Act.put, List.setIfInBounds_toArray, List.set_cons_succ, List.set_cons_zero]
            refine WG.put rfl (v := .bool false) (fun w => by first | rfl | (go_simp; done) | (simp [go_sem]; done)) ?_
            simp only [Act.put, List.setIfInBounds_toArray, List.set_cons_succ, List.set_cons_zero]
            refine WG.put rfl (v := .bool false) (fun w => by first | rfl | (go_simp; done) | (simp [go_sem]; done)) ?_
            simp only [Act.put, List.setIfInBounds_toArray, List.set_cons_succ, List.set_cons_zero]
            refine WG.nil ?_
            intro w5 B5
            go_wp2
            go_roundw
            case rel => exact ⟨k + 1, by omega, by go_num, Below.then BR B5, HV⟩
            case measure => simp [intOf]; omega
          · have hck : ((ckF X) != 0) = false := by unfold ckF; rw [hok]; rfl
            have hk0 : (0 < (k : Int)) := by omega
            replace HY := HY hk1
            obtain ⟨i, hi⟩ : ∃ i, k - 1 = i := ⟨_, rfl⟩
            rw [hi] at HY
            have hwr : IntKind.i64.wrap ((k : Int) - 1) = (i : Int) := by rw [show (k : Int) - 1 = (i : Int) by omega]; exact wrap_len (by omega)
            have hkN : 0 < k := hk1
            have hix : (i : Int) < (l.length : Int) := by omega
            have hlt0 : 0 ≤ c := by omega
            have HV : Hid (setB l = false) := N1.out hk1 hc
            clear N0 N1 Y1 hok hk1 hc hi
            go_wp2
            refine grow_allW (by kernel_rfl) (by kernel_rfl) ?_
            refine WG.put rfl (v := .slice (some ⟨b, o, none⟩) l.length cap) (fun w => by first | rfl | (go_simp; done) | (simp [go_sem]; done)) ?_
            simp only [Act.put, List.setIfInBounds_toArray, List.set_cons_succ, List.set_cons_zero]
            refine WG.put rfl (v := .int .i64 (k : Int)) (fun w => by first | rfl | (go_simp; done) | (simp [go_sem]; done)) ?_
            simp only [Act.put, List.setIfInBounds_toArray, List.set_cons_succ, List.set_cons_zero]
            refine WG.put rfl (v := .pointer (some ⟨b, o + k * 49, none⟩)) (fun w => by first | rfl | (go_simp; done) | (simp [go_sem, hiX]; done)) ?_
            simp only [Act.put, List.setIfInBounds_toArray, List.set_cons_succ, List.set_cons_zero]
            refine WG.elem (x := X) rfl _ rfl rfl HB HX ?_
            simp only [Act.put, List.setIfInBounds_toArray, List.set_cons_succ, List.set_cons_zero]
            refine WG.call rfl (v := .int .i64 (ckF X)) (fun w _ => hC w) (fun w => by first | rfl | (go_simp; done) | (simp [go_sem]; done)) ?_
            simp only [Act.put, List.setIfInBounds_toArray, List.set_cons_succ, List.set_cons_zero]
            refine WG.put rfl (v := .bool false) (fun w => by first | rfl | (go_simp; done) | (simp [go_sem, hck]; done)) ?_
            simp only [Act.put, List.setIfInBounds_toArray, List.set_cons_succ, List.set_cons_zero]
            refine WG.put rfl (v := .bool false) (fun w => by first | rfl | (go_simp; done) | (simp [go_sem]; done)) ?_
            simp only [Act.put, List.setIfInBounds_toArray, List.set_cons_succ, List.set_cons_zero]
            refine WG.put rfl (v := .int .i64 (k : Int)) (fun w => by first | rfl | (go_simp; done) | (simp [go_sem]; done)) ?_
            simp only [Act.put, List.setIfInBounds_toArray, List.set_cons_succ, List.set_cons_zero]
            refine WG.put rfl (v := .bool true) (fun w => by first | rfl | (go_simp; done) | (simp [go_sem, hkN]; done)) ?_
            simp only [Act.put, List.setIfInBounds_toArray, List.set_cons_succ, List.set_cons_zero]
            refine WG.put rfl (v := .bool true) (fun w => by first | rfl | (go_simp; done) | (simp [go_sem]; done)) ?_
            simp only [Act.put, List.setIfInBounds_toArray, List.set_cons_succ, List.set_cons_zero]
            refine WG.put rfl (v := .slice (some ⟨b, o, none⟩) l.length cap) (fun w => by first | rfl | (go_simp; done) | (simp [go_sem]; done)) ?_
            simp only [Act.put, List.setIfInBounds_toArray, List.set_cons_succ, List.set_cons_zero]
            refine WG.put rfl (v := .int .i64 (k : Int)) (fun w => by first | rfl | (go_simp; done) | (simp [go_sem]; done)) ?_
            simp only [Act.put, List.setIfInBounds_toArray, List.set_cons_succ, List.set_cons_zero]
            refine WG.put rfl (v := .int .i64 (i : Int)) (fun w => by first | rfl | (go_simp; done) | (simp [go_sem, hwr]; done)) ?_
            simp only [Act.put, List.setIfInBounds_toArray, List.set_cons_succ, List.set_cons_zero]
            refine WG.put rfl (v := .pointer (some ⟨b, o + i * 49, none⟩)) (fun w => by first | rfl | (go_simp; done) | (simp [go_sem, hix]; done)) ?_
            simp only [Act.put, List.setIfInBounds_toArray, List.set_cons_succ, List.set_cons_zero]
            refine WG.elem (x := Y) rfl _ rfl rfl HB HY ?_
            simp only [Act.put, List.setIfInBounds_toArray, List.set_cons_succ, List.set_cons_zero]
            refine WG.put rfl (v := .slice (some ⟨b, o, none⟩) l.length cap) (fun w => by first | rfl | (go_simp; done) | (simp [go_sem]; done)) ?_
            simp only [Act.put, List.setIfInBounds_toArray, List.set_cons_succ, List.set_cons_zero]
            refine WG.put rfl (v := .int .i64 (k : Int)) (fun w => by first | rfl | (go_simp; done) | (simp [go_sem]; done)) ?_
            simp only [Act.put, List.setIfInBounds_toArray, List.set_cons_succ, List.set_cons_zero]
            refine WG.put rfl (v := .pointer (some ⟨b, o + k * 49, none⟩)) (fun w => by first | rfl | (go_simp; done) | (simp [go_sem, hiX]; done)) ?_
            simp only [Act.put, List.setIfInBounds_toArray, List.set_cons_succ, List.set_cons_zero]
            refine WG.elem (x := X) rfl _ rfl rfl HB HX ?_
            simp only [Act.put, List.setIfInBounds_toArray, List.set_cons_succ, List.set_cons_zero]
            refine WG.call rfl (v := .int .i64 c) (fun w _ => hK w) (fun w => by first | rfl | (go_simp; done) | (simp [go_sem]; done)) ?_
            simp only [Act.put, List.setIfInBounds_toArray, List.set_cons_succ, List.set_cons_zero]
            refine WG.put rfl (v := .bool true) (fun w => by first | rfl | (go_simp; done) | (simp [go_sem, hlt0]; done)) ?_
            simp only [Act.put, List.setIfInBounds_toArray, List.set_cons_succ, List.set_cons_zero]
            refine WG.put rfl (v := .bool true) (fun w => by first | rfl | (go_simp; done) | (simp [go_sem]; done)) ?_
            simp only [Act.put, List.setIfInBounds_toArray, List.set_cons_succ, List.set_cons_zero]
            refine WG.put rfl (v := .bool true) (fun w => by first | rfl | (go_simp; done) | (simp [go_sem]; done)) ?_
            simp only [Act.put, List.setIfInBounds_toArray, List.set_cons_succ, List.set_cons_zero]
            refine WG.nil ?_
            intro w5 B5
            go_wp2
            go_ret
            exact ⟨ret_bool (by rw [HV.out]), Below.then BR B5⟩
        · have hck : ((ckF X) != 0) = false := by unfold ckF; rw [hok]; rfl
          have hk0 : ¬ (0 < (k : Int)) := by omega
          have hkN : ¬ 0 < k := hk1
          have HV : Hid (RisTo l (k + 1)) := Y1.out hok (fun h => absurd h hk1)
          clear N0 N1 Y1 hok hK HY hk1
          go_wp2
          refine grow_allW (by kernel_rfl) (by kernel_rfl) ?_
          refine WG.put rfl (v := .slice (some ⟨b, o, none⟩) l.length cap) (fun w => by first | rfl | (go_simp; done) | (simp [go_sem]; done)) ?_
          simp only [Act.put, List.setIfInBounds_toArray, List.set_cons_succ, List.set_cons_zero]
          refine WG.put rfl (v := .int .i64 (k : Int)) (fun w => by first | rfl | (go_simp; done) | (simp [go_sem]; done)) ?_
          simp only [Act.put, List.setIfInBounds_toArray, List.set_cons_succ, List.set_cons_zero]
          refine WG.put rfl (v := .pointer (some ⟨b, o + k * 49, none⟩)) (fun w => by first | rfl | (go_simp; done) | (simp [go_sem, hiX]; done)) ?_
          simp only [Act.put, List.setIfInBounds_toArray, List.set_cons_succ, List.set_cons_zero]
          refine WG.elem (x := X) rfl _ rfl rfl HB HX ?_
          simp only [Act.put, List.setIfInBounds_toArray, List.set_cons_succ, List.set_cons_zero]
          refine WG.call rfl (v := .int .i64 (ckF X)) (fun w _ => hC w) (fun w => by first | rfl | (go_simp; done) | (simp [go_sem]; done)) ?_
          simp only [Act.put, List.setIfInBounds_toArray, List.set_cons_succ, List.set_cons_zero]
          refine WG.put rfl (v := .bool false) (fun w => by first | rfl | (go_simp; done) | (simp [go_sem, hck]; done)) ?_
          simp only [Act.put, List.setIfInBounds_toArray, List.set_cons_succ, List.set_cons_zero]
          refine WG.put rfl (v := .bool false) (fun w => by first | rfl | (go_simp; done) | (simp [go_sem]; done)) ?_
          simp only [Act.put, List.setIfInBounds_toArray, List.set_cons_succ, List.set_cons_zero]
          refine WG.put rfl (v := .int .i64 (k : Int)) (fun w => by first | rfl | (go_simp; done) | (simp [go_sem]; done)) ?_
          simp only [Act.put, List.setIfInBounds_toArray, List.set_cons_succ, List.set_cons_zero]
          refine WG.put rfl (v := .bool false) (fun w => by first | rfl | (go_simp; done) | (simp [go_sem, hkN]; done)) ?_
          simp only [Act.put, List.setIfInBounds_toArray, List.set_cons_succ, List.set_cons_zero]
          refine WG.put rfl (v := .bool false) (fun w => by first | rfl | (go_simp; done) | (simp [go_sem]; done)) ?_
          simp only [Act.put, List.setIfInBounds_toArray, List.set_cons_succ, List.set_cons_zero]
          refine WG.skip rfl ?_
          simp only [Act.put, List.setIfInBounds_toArray, List.set_cons_succ, List.set_cons_zero]
          refine WG.skip rfl ?_
          simp only [Act.put, List.setIfInBounds_toArray, List.set_cons_succ, List.set_cons_zero]
          refine WG.skip rfl ?_
          simp only [Act.put, List.setIfInBounds_toArray, List.set_cons_succ, List.set_cons_zero]
          refine WG.skip rfl ?_
          simp only [Act.put, List.setIfInBounds_toArray, List.set_cons_succ, List.set_cons_zero]
          refine WG.skip rfl ?_
          simp only [Act.put, List.setIfInBounds_toArray, List.set_cons_succ, List.set_cons_zero]
          refine WG.skip rfl ?_
          simp only [Act.put, List.setIfInBounds_toArray, List.set_cons_succ, List.set_cons_zero]
          refine WG.skip rfl ?_
          simp only [Act.put, List.setIfInBounds_toArray, List.set_cons_succ, List.set_cons_zero]
          refine WG.skip rfl ?_
          simp only [Act.put, List.setIfInBounds_toArray, List.set_cons_succ, List.set_cons_zero]
          refine WG.skip rfl ?_
          simp only [Act.put, List.setIfInBounds_toArray, List.set_cons_succ, List.set_cons_zero]
          refine WG.skip rfl ?_
          simp only [Act.put, List.setIfInBounds_toArray, List.set_cons_succ, List.set_cons_zero]
          refine WG.skip rfl ?_
          simp only [Act.put, List.setIfInBounds_toArray, List.set_cons_succ, List.set_cons_zero]
          refine WG.put rfl (v := .bool false) (fun w => by first | rfl | (go_simp; done) | (simp [go_sem]; done)) ?_
          simp only [Act.put, List.setIfInBounds_toArray, List.set_cons_succ, List.set_cons_zero]
          refine WG.put rfl (v := .bool false) (fun w => by first | rfl | (go_simp; done) | (simp [go_sem]; done)) ?_
          simp only [Act.put, List.setIfInBounds_toArray, List.set_cons_succ, List.set_cons_zero]
          refine WG.nil ?_
          intro w5 B5
          go_wp2
          go_roundw
          case rel => exact ⟨k + 1, by omega, by go_num, Below.then BR B5, HV⟩
          case measure => simp [intOf]; omega
    · have e : k = l.length := by omega
      subst e
      have HV : Hid (setB l = true) := (setB_iff l).2 HR.out
      clear HR hS hlt
      go_wp2
      go_ret
      exact ⟨ret_bool HV.out.symm, BR⟩
end Go.Proofs.Ytimdmiefjnokmaa

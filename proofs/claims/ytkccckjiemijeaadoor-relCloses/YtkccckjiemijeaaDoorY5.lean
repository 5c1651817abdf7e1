/- The reference's inverse and complement. -/
import Derived.Test.YtkccckjiemijeaaDoorY3
namespace Go.Proofs.YtkccckjiemijeaaDoor
open Go.RowKit Go.Shelf M
set_option linter.unusedSimpArgs false
set_option linter.unusedVariables false

def hNo (F : Nat → Nat) (a b : Nat) : Bool := !(F a).testBit b
/-- The matrix turned about, as far as row k, place m. -/
def invTo (F : Nat → Nat) (k m : Nat) : Nat → Nat := fun j => rowB (fun a => (F a).testBit j) k ||| (if (decide (j < m) && (F k).testBit j) = true then 2 ^ k else 0)
theorem invTo_start (F : Nat → Nat) (j : Nat) : invTo F 0 0 j = 0 := by simp [invTo, rowB]
theorem invTo_next {N : Nat} {F : Nat → Nat} (h : Right N F) (k j : Nat) (hk : k < 64) (hj : j < 64) : invTo F k N j = invTo F (k + 1) 0 j := by
  unfold invTo
  have e0 : (decide (j < 0) && (F (k + 1)).testBit j) = false := by simp
  rw [e0]
  cases hb : (F k).testBit j
  · simp [rowB, hb]
  · have := (h.in' k hk j hj hb).2
    simp [rowB, hb, this]
theorem invTo_at (F : Nat → Nat) (k m : Nat) : invTo F k m m = rowB (fun a => (F a).testBit m) k := by simp [invTo]
theorem invTo_yes (F : Nat → Nat) (k m : Nat) (hh : (F k).testBit m = true) (j : Nat) : upd (invTo F k m) m (rowB (fun a => (F a).testBit m) k ||| 2 ^ k) j = invTo F k (m + 1) j := by
  unfold upd invTo
  by_cases e : j = m
  · subst e; simp [hh]
  · rw [if_neg e]
    have h2 : decide (j < m + 1) = decide (j < m) := by simp only [decide_eq_decide]; omega
    rw [h2]
theorem invTo_no (F : Nat → Nat) (k m : Nat) (hh : (F k).testBit m = false) (j : Nat) : invTo F k m j = invTo F k (m + 1) j := by
  unfold invTo
  by_cases e : j = m
  · subst e; simp [hh]
  · have h2 : decide (j < m + 1) = decide (j < m) := by simp only [decide_eq_decide]; omega
    rw [h2]

set_option maxRecDepth 100000 in
set_option maxHeartbeats 2000000 in
theorem rnot_any (n : Int) (f : Nat → Nat) (w : World) (hf : Hid (Wf f)) :
    Calls Tryd.prog 34 #[relv n f] w fun e w' => e = .returned (relv (nN n f) (matF (nN n f).toNat (hNo (nF n f)))) ∧ Below w.heap.size w w' := by
  have c1 : Hid (∀ W, Calls Tryd.prog 24 #[relv n f] W fun e w' => e = .returned (relv (nN n f) (nF n f)) ∧ Below W.heap.size W w') := fun W => rright_any n f W hf
  obtain ⟨N, h1, hN64, h3⟩ := n_right' n f hf.out
  rw [h1] at c1 ⊢
  rw [Int.toNat_natCast]
  have hR : Hid (Right N (nF n f)) := h3
  have wF : Hid (Wf (nF n f)) := h3.wf
  generalize nF n f = F at *
  clear h1 h3
  have cF : Hid (∀ a b W, a < N → b < N → Calls Tryd.prog 23 #[relv N F, .int .i64 (a : Nat), .int .i64 (b : Nat)] W fun e w' => e = .returned (.bool ((F a).testBit b)) ∧ Below W.heap.size W w') := fun a b W ha hb => by
    have := rhas_any N hN64 F a b W wF
    rw [hasE_in N F a b ha hb] at this
    exact this
  clear wF
  have tk2 : True := trivial
  have tk4 : True := trivial
  go_enter Tryd.func34, Tryd.ntmps34
  go_wp2_with (first
      | (refine wpList_boxR rfl _ rfl rfl ?_; intro W1 b4 F1 r4; have B1 := Fresh.trans (Below.refl _ w) (Nat.le_refl _) F1)
      | (refine wpList_allocR rfl rfl ?_; clear tk2; intro W3 b6 F3 r6; replace B1 := Fresh.trans B1 B1.size F3; replace r4 := r4.fresh F3; have hb4 : w.heap.size ≤ b4 := (by rw [F1.at']; exact Nat.le_refl _); have hb6 : b4 < b6 := (by rw [F3.at', F1.size]; omega); clear F1 F3)
      | (refine wpList_allocR rfl rfl ?_; intro W4 b7 F4 r7; replace B1 := Fresh.trans B1 B1.size F4; replace r4 := r4.fresh F4; replace r6 := r6.fresh F4; have hb7 : b6 < b7 := (by rw [F4.at']; exact hb67); clear F4)
      | (refine wpList_loadR rfl _ rfl rfl r4 ?_)
      | (refine wpList_buildRN rfl _ rfl rfl ?_)
      | (go_at_call 24; refine (c1.out _).mono ?_; rintro e w' ⟨rfl, hw'⟩; replace r4 := r4.grown hw'; replace r6 := r6.grown hw'; replace B1 := B1.trans (hw'.mono B1.size); clear hw')
      | (refine wpList_storeR rfl _ _ rfl rfl rfl r4 ?_; clear tk4; intro W5 U5 q4; replace B1 := U5.trans B1 (by omega); replace r6 := r6.upd U5 (by omega); clear U5 r4; have r4 := q4; clear q4; have cn4 := r4.n; have hb67 := r6.lt)
      | (refine wpList_storeR rfl _ _ rfl rfl rfl r7 ?_; intro W5 U5 q7; replace B1 := U5.trans B1 (by omega); replace r4 := r4.upd U5 (by omega); replace r6 := r6.upd U5 (by omega); clear U5 r7))
  clear cn4 hb67 c1
  go_loopw [4] (fun i wr => ∃ k : Nat, k ≤ N ∧ i = .int .i64 k ∧ IsR wr b7 N (matTo N (hNo F) k 0) ∧ IsR wr b4 N F ∧ IsR wr b6 0 void ∧ Below w.heap.size w wr) (fun i _ => N - (intOf i).toNat)
  case atStart => exact ⟨0, by omega, rfl, q7.congr (fun j _ => by rw [matTo_start]; rfl), r4, r6, B1⟩
  case round =>
    clear r4 r6 q7 B1
    obtain ⟨k, hk, rfl, q7, q4, q6, BB⟩ := hrel
    have cn4 := q4.n
    by_cases hlt : k < N
    · have hki : (k : Int) < (N : Int) := by omega
      go_wp2
      go_loopw [5] (fun i wr => ∃ m : Nat, m ≤ N ∧ i = .int .i64 m ∧ IsR wr b7 N (matTo N (hNo F) k m) ∧ IsR wr b4 N F ∧ IsR wr b6 0 void ∧ Below w.heap.size w wr) (fun i _ => N - (intOf i).toNat)
      case atStart => exact ⟨0, by omega, rfl, q7, q4, q6, BB⟩
      case round =>
        clear q4 q6 q7 BB cn4
        obtain ⟨m, hm, rfl, q7, q4, q6, BB⟩ := hrel
        have cn4 := q4.n
        by_cases hml : m < N
        · have hmi : (m : Int) < (N : Int) := by omega
          have e1 := fun W => cF.out k m W hlt hml
          cases hp : (F k).testBit m
          · rw [hp] at e1
            have HH : Hid (hNo F k m = true) := (show hNo F k m = _ by simp [hNo, hp])
            clear hp
            go_wp2_with (first
              | (refine wpList_loadRg rfl _ rfl rfl q4 ?_)
              | (go_at_call 23; refine (e1 _).mono ?_; rintro e V ⟨rfl, hb⟩; replace q4 := q4.grown hb; replace q6 := q6.grown hb; replace q7 := q7.grown hb; replace BB := BB.trans (hb.mono BB.size); clear hb cn4; have cn4 := q4.n))
            have hrow := q7.row k (by omega)
            rw [matTo_at] at hrow
            have hxl := rowB_lt (hNo F k) m (by omega)
            have hfz := q7.frozen (1 + k)
            have hw := wrap_pow m (by omega)
            have hor := or_pow (rowB (hNo F k) m) m hxl (by omega)
            have U := Upd.setCell V b7 (1 + k) (.int .u64 ((rowB (hNo F k) m ||| 2 ^ m : Nat) : Int))
            have HQ : Hid (IsR (V.setCell ⟨b7, 1 + k, none⟩ (.int .u64 ((rowB (hNo F k) m ||| 2 ^ m : Nat) : Int))) b7 N (matTo N (hNo F) k (m + 1)) ∧ IsR (V.setCell ⟨b7, 1 + k, none⟩ (.int .u64 ((rowB (hNo F k) m ||| 2 ^ m : Nat) : Int))) b4 N F ∧ IsR (V.setCell ⟨b7, 1 + k, none⟩ (.int .u64 ((rowB (hNo F k) m ||| 2 ^ m : Nat) : Int))) b6 0 void ∧ Below w.heap.size w (V.setCell ⟨b7, 1 + k, none⟩ (.int .u64 ((rowB (hNo F k) m ||| 2 ^ m : Nat) : Int)))) := ⟨(q7.set k (rowB (hNo F k) m ||| 2 ^ m) (by omega)).congr (fun j _ => matTo_yes N (hNo F) k m HH.out j), q4.upd U (by omega), q6.upd U (by omega), U.trans BB (by omega)⟩
            have hki64 : (k : Int) < 64 := by omega
            clear U q4 q6 q7 BB cF HH hxl
            generalize rowB (hNo F k) m ||| 2 ^ m = z at *
            generalize rowB (hNo F k) m = z0 at *
            go_region
            go_wp2
            go_roundw
            case rel => exact ⟨m + 1, by omega, by simp, HQ.out.1.drew, HQ.out.2.1.drew, HQ.out.2.2.1.drew, HQ.out.2.2.2.drew⟩
            case measure => simp [intOf]; omega
          · rw [hp] at e1
            have HH : Hid (hNo F k m = false) := (show hNo F k m = _ by simp [hNo, hp])
            clear hp
            go_wp2_with (first
              | (refine wpList_loadRg rfl _ rfl rfl q4 ?_)
              | (go_at_call 23; refine (e1 _).mono ?_; rintro e V ⟨rfl, hb⟩; replace q4 := q4.grown hb; replace q6 := q6.grown hb; replace q7 := q7.grown hb; replace BB := BB.trans (hb.mono BB.size); clear hb cn4; have cn4 := q4.n))
            have HQ : Hid (IsR V b7 N (matTo N (hNo F) k (m + 1))) := q7.congr (fun j _ => matTo_no N (hNo F) k m HH.out j)
            clear q7 cF HH
            go_roundw
            case rel => exact ⟨m + 1, by omega, by simp, HQ.out, q4, q6, BB⟩
            case measure => simp [intOf]; omega
        · obtain rfl : m = N := by omega
          have HX : Hid (IsR wr b7 m (matTo m (hNo F) (k + 1) 0)) := q7.congr (fun j hj => matTo_next m (hNo F) k j)
          clear cF q7
          go_wp2
          go_roundw
          case rel => exact ⟨k + 1, by omega, by simp, HX.out, q4, q6, BB⟩
          case measure => simp [intOf]; omega
    · obtain rfl : k = N := by omega
      clear cF
      go_wp2_with (first
        | (refine wpList_loadR rfl _ rfl rfl q7 ?_)
        | (refine wpList_storeR rfl _ _ rfl rfl rfl q6 ?_; intro W9 U9 r9))
      refine ret_R rfl rfl rfl r9 ⟨rfl, U9.trans BB (by omega)⟩

set_option maxRecDepth 100000 in
set_option maxHeartbeats 2000000 in
theorem rinv_any (n : Int) (f : Nat → Nat) (w : World) (hf : Hid (Wf f)) :
    Calls Tryd.prog 32 #[relv n f] w fun e w' => e = .returned (relv (nN n f) (invTo (nF n f) (nN n f).toNat 0)) ∧ Below w.heap.size w w' := by
  have c1 : Hid (∀ W, Calls Tryd.prog 24 #[relv n f] W fun e w' => e = .returned (relv (nN n f) (nF n f)) ∧ Below W.heap.size W w') := fun W => rright_any n f W hf
  obtain ⟨N, h1, hN64, h3⟩ := n_right' n f hf.out
  rw [h1] at c1 ⊢
  rw [Int.toNat_natCast]
  have hR : Hid (Right N (nF n f)) := h3
  have wF : Hid (Wf (nF n f)) := h3.wf
  generalize nF n f = F at *
  clear h1 h3
  have cF : Hid (∀ a b W, a < N → b < N → Calls Tryd.prog 23 #[relv N F, .int .i64 (a : Nat), .int .i64 (b : Nat)] W fun e w' => e = .returned (.bool ((F a).testBit b)) ∧ Below W.heap.size W w') := fun a b W ha hb => by
    have := rhas_any N hN64 F a b W wF
    rw [hasE_in N F a b ha hb] at this
    exact this
  clear wF
  have tk2 : True := trivial
  have tk4 : True := trivial
  go_enter Tryd.func32, Tryd.ntmps32
  go_wp2_with (first
      | (refine wpList_boxR rfl _ rfl rfl ?_; intro W1 b4 F1 r4; have B1 := Fresh.trans (Below.refl _ w) (Nat.le_refl _) F1)
      | (refine wpList_allocR rfl rfl ?_; clear tk2; intro W3 b6 F3 r6; replace B1 := Fresh.trans B1 B1.size F3; replace r4 := r4.fresh F3; have hb4 : w.heap.size ≤ b4 := (by rw [F1.at']; exact Nat.le_refl _); have hb6 : b4 < b6 := (by rw [F3.at', F1.size]; omega); clear F1 F3)
      | (refine wpList_allocR rfl rfl ?_; intro W4 b7 F4 r7; replace B1 := Fresh.trans B1 B1.size F4; replace r4 := r4.fresh F4; replace r6 := r6.fresh F4; have hb7 : b6 < b7 := (by rw [F4.at']; exact hb67); clear F4)
      | (refine wpList_loadR rfl _ rfl rfl r4 ?_)
      | (refine wpList_buildRN rfl _ rfl rfl ?_)
      | (go_at_call 24; refine (c1.out _).mono ?_; rintro e w' ⟨rfl, hw'⟩; replace r4 := r4.grown hw'; replace r6 := r6.grown hw'; replace B1 := B1.trans (hw'.mono B1.size); clear hw')
      | (refine wpList_storeR rfl _ _ rfl rfl rfl r4 ?_; clear tk4; intro W5 U5 q4; replace B1 := U5.trans B1 (by omega); replace r6 := r6.upd U5 (by omega); clear U5 r4; have r4 := q4; clear q4; have cn4 := r4.n; have hb67 := r6.lt)
      | (refine wpList_storeR rfl _ _ rfl rfl rfl r7 ?_; intro W5 U5 q7; replace B1 := U5.trans B1 (by omega); replace r4 := r4.upd U5 (by omega); replace r6 := r6.upd U5 (by omega); clear U5 r7))
  clear cn4 hb67 c1
  go_loopw [4] (fun i wr => ∃ k : Nat, k ≤ N ∧ i = .int .i64 k ∧ IsR wr b7 N (invTo F k 0) ∧ IsR wr b4 N F ∧ IsR wr b6 0 void ∧ Below w.heap.size w wr) (fun i _ => N - (intOf i).toNat)
  case atStart => exact ⟨0, by omega, rfl, q7.congr (fun j _ => by rw [invTo_start]; rfl), r4, r6, B1⟩
  case round =>
    clear r4 r6 q7 B1
    obtain ⟨k, hk, rfl, q7, q4, q6, BB⟩ := hrel
    have cn4 := q4.n
    by_cases hlt : k < N
    · have hki : (k : Int) < (N : Int) := by omega
      go_wp2
      go_loopw [5] (fun i wr => ∃ m : Nat, m ≤ N ∧ i = .int .i64 m ∧ IsR wr b7 N (invTo F k m) ∧ IsR wr b4 N F ∧ IsR wr b6 0 void ∧ Below w.heap.size w wr) (fun i _ => N - (intOf i).toNat)
      case atStart => exact ⟨0, by omega, rfl, q7, q4, q6, BB⟩
      case round =>
        clear q4 q6 q7 BB cn4
        obtain ⟨m, hm, rfl, q7, q4, q6, BB⟩ := hrel
        have cn4 := q4.n
        by_cases hml : m < N
        · have hmi : (m : Int) < (N : Int) := by omega
          have e1 := fun W => cF.out k m W hlt hml
          cases hp : (F k).testBit m
          · rw [hp] at e1
            have HH : Hid ((F k).testBit m = false) := hp
            clear hp
            go_wp2_with (first
              | (refine wpList_loadRg rfl _ rfl rfl q4 ?_)
              | (go_at_call 23; refine (e1 _).mono ?_; rintro e V ⟨rfl, hb⟩; replace q4 := q4.grown hb; replace q6 := q6.grown hb; replace q7 := q7.grown hb; replace BB := BB.trans (hb.mono BB.size); clear hb cn4; have cn4 := q4.n))
            have HQ : Hid (IsR V b7 N (invTo F k (m + 1))) := q7.congr (fun j _ => invTo_no F k m HH.out j)
            clear q7 cF HH
            go_roundw
            case rel => exact ⟨m + 1, by omega, by simp, HQ.out, q4, q6, BB⟩
            case measure => simp [intOf]; omega
          · rw [hp] at e1
            have HH : Hid ((F k).testBit m = true) := hp
            clear hp
            go_wp2_with (first
              | (refine wpList_loadRg rfl _ rfl rfl q4 ?_)
              | (go_at_call 23; refine (e1 _).mono ?_; rintro e V ⟨rfl, hb⟩; replace q4 := q4.grown hb; replace q6 := q6.grown hb; replace q7 := q7.grown hb; replace BB := BB.trans (hb.mono BB.size); clear hb cn4; have cn4 := q4.n))
            have hrow := q7.row m (by omega)
            rw [invTo_at] at hrow
            have hxl := rowB_lt (fun a => (F a).testBit m) k (by omega)
            have hfz := q7.frozen (1 + m)
            have hw := wrap_pow k (by omega)
            have hor := or_pow (rowB (fun a => (F a).testBit m) k) k hxl (by omega)
            have U := Upd.setCell V b7 (1 + m) (.int .u64 ((rowB (fun a => (F a).testBit m) k ||| 2 ^ k : Nat) : Int))
            have HQ : Hid (IsR (V.setCell ⟨b7, 1 + m, none⟩ (.int .u64 ((rowB (fun a => (F a).testBit m) k ||| 2 ^ k : Nat) : Int))) b7 N (invTo F k (m + 1)) ∧ IsR (V.setCell ⟨b7, 1 + m, none⟩ (.int .u64 ((rowB (fun a => (F a).testBit m) k ||| 2 ^ k : Nat) : Int))) b4 N F ∧ IsR (V.setCell ⟨b7, 1 + m, none⟩ (.int .u64 ((rowB (fun a => (F a).testBit m) k ||| 2 ^ k : Nat) : Int))) b6 0 void ∧ Below w.heap.size w (V.setCell ⟨b7, 1 + m, none⟩ (.int .u64 ((rowB (fun a => (F a).testBit m) k ||| 2 ^ k : Nat) : Int)))) := ⟨(q7.set m (rowB (fun a => (F a).testBit m) k ||| 2 ^ k) (by omega)).congr (fun j _ => invTo_yes F k m HH.out j), q4.upd U (by omega), q6.upd U (by omega), U.trans BB (by omega)⟩
            have hki64 : (m : Int) < 64 := by omega
            clear U q4 q6 q7 BB cF HH hxl
            generalize rowB (fun a => (F a).testBit m) k ||| 2 ^ k = z at *
            generalize rowB (fun a => (F a).testBit m) k = z0 at *
            go_region
            go_wp2
            go_roundw
            case rel => exact ⟨m + 1, by omega, by simp, HQ.out.1.drew, HQ.out.2.1.drew, HQ.out.2.2.1.drew, HQ.out.2.2.2.drew⟩
            case measure => simp [intOf]; omega
        · obtain rfl : m = N := by omega
          have HX : Hid (IsR wr b7 m (invTo F (k + 1) 0)) := q7.congr (fun j hj => invTo_next hR.out k j (by omega) hj)
          clear cF q7
          go_wp2
          go_roundw
          case rel => exact ⟨k + 1, by omega, by simp, HX.out, q4, q6, BB⟩
          case measure => simp [intOf]; omega
    · obtain rfl : k = N := by omega
      clear cF
      go_wp2_with (first
        | (refine wpList_loadR rfl _ rfl rfl q7 ?_)
        | (refine wpList_storeR rfl _ _ rfl rfl rfl q6 ?_; intro W9 U9 r9))
      refine ret_R rfl rfl rfl r9 ⟨rfl, U9.trans BB (by omega)⟩
end Go.Proofs.YtkccckjiemijeaaDoor

/- Fr of event. -/
import Derived.Test.YtdjlfpkemdiadaaDoorEJ17
namespace Go.Proofs.YtdjlfpkemdiadaaDoor
open Go.RowKit Go.Shelf M
set_option linter.unusedSimpArgs false
set_option linter.unusedVariables false

theorem infoEx : (Tryd.prog.info? 51).map (·.size) = some 5 := by kernel_rfl
theorem IsR.isS {w : World} {b : Nat} {n : Int} {f : Nat → Nat} (h : IsR w b n f) : IsS w b 43 (cellsL n f) := h
section
variable {ops : Array Oper} {W : World} {Q : Act → Prop} {rest : List Oper} {op : Oper} {a : Act}
theorem WG.loadR {b : Nat} {n : Int} {f : Nat → Nat} (hw : Region.wanted op (yielded ops a.tmps) = true) (x : Operand) (ho : op.op = .load 43 x) (hx : a.eval x = .pointer (some ⟨b, 0, none⟩)) (hc : IsR W b n f)
    (h : WG ops W Q rest (a.put op.dst (relv n f))) : WG ops W Q (op :: rest) a :=
  WG.row hw 43 x ho hx hc.isS (cellsL n f) rfl _ Tryd.underlying43 rfl (by rw [cellsL_length]; exact info25) h
theorem WG.loadX {b : Nat} {cs : List Value} (hw : Region.wanted op (yielded ops a.tmps) = true) (x : Operand) (ho : op.op = .load 51 x) (hx : a.eval x = .pointer (some ⟨b, 0, none⟩)) (hc : IsS W b 51 cs) (hl : cs.length = 5)
    (h : WG ops W Q rest (a.put op.dst (.agg cs.toArray))) : WG ops W Q (op :: rest) a :=
  WG.row hw 51 x ho hx hc cs rfl _ Tryd.underlying51 rfl (by rw [hl]; exact infoEx) h
end
theorem exec_allocR {w : World} {op : Oper} {a : Act} (ho : op.op = .alloc 43) : (execOp a.eval op).run Tryd.prog w = .ok (.value (.pointer (some ⟨w.heap.size, 0, none⟩))) (w.alloc (.cells (cellsR 0 void) 43)) := by
  unfold execOp
  simp [ho, go_sem, Value.cells, zero25]
set_option maxRecDepth 100000 in
set_option maxHeartbeats 8000000 in
theorem fr_x {w : World} {cs : List Value} {ne : Nat} {fr : List Int} {od : List (List Int)} (hT : TabAt w) (h : XE w cs ne fr od) :
    Calls Tryd.prog 17 #[.agg cs.toArray] w fun e w' => e = .returned (relv (shN ne) (frF (shN ne) (rfX ne fr) (coX ne od))) ∧ Below w.heap.size w w' := by
  have HL : Hid (cs.length = 5) := h.len
  have cR : Hid (∀ W, Below w.heap.size w W → Calls Tryd.prog 15 #[.agg cs.toArray] W fun e w' => e = .returned (relv (shN ne) (rfX ne fr)) ∧ Below W.heap.size W w') := fun W hB => rf_x (h.below hB)
  have cC : Hid (∀ W, Below w.heap.size w W → Calls Tryd.prog 16 #[.agg cs.toArray] W fun e w' => e = .returned (relv (shN ne) (coX ne od)) ∧ Below W.heap.size W w') := fun W hB => co_x (h.below hB)
  have hN := shN_le ne
  have hR := right_rfX ne fr
  have hC := right_coX ne od
  have HV : Hid (relv (shN ne) (opF notN (coF (coX ne od) (edgesL (shN ne) (tuF (edgesL (shN ne) (rfX ne fr))))) (onF 18446744073709551615 (shN ne))) = relv (shN ne) (frF (shN ne) (rfX ne fr) (coX ne od))) := relv_congr rfl (fun a ha => fr_same hN hR hC a ha)
  rw [← HV.out]
  clear HV h
  have hI := inv_R hN hR
  have hRI := right_tu hN hR
  generalize rfX ne fr = R at *
  generalize coX ne od = C at *
  generalize shN ne = N at *
  have hK := comp_R hN hRI hC
  have hRK := right_co hN hRI hC
  generalize tuF (edgesL N R) = RI at *
  generalize coF C (edgesL N RI) = K at *
  have hO := on_R N hN
  have hMi := minus_R hN hRK (right_on N hN)
  generalize onF 18446744073709551615 N = O at *
  generalize opF notN K O = Z at *
  have cI : Hid (∀ W, TabAt W → Calls Tryd.prog 39 #[relv N R] W fun e w' => e = .returned (relv N RI) ∧ Below W.heap.size W w') := hI
  have cK : Hid (∀ W, TabAt W → Calls Tryd.prog 38 #[relv N RI, relv N C] W fun e w' => e = .returned (relv N K) ∧ Below W.heap.size W w') := hK
  have cO : Hid (∀ W, TabAt W → Calls Tryd.prog 41 #[.int .i64 (N : Int), .int .u64 18446744073709551615] W fun e w' => e = .returned (relv N O) ∧ Below W.heap.size W w') := hO
  have cM : Hid (∀ W, TabAt W → Calls Tryd.prog 40 #[relv N K, relv N O] W fun e w' => e = .returned (relv N Z) ∧ Below W.heap.size W w') := hMi
  have HT : Hid (TabAt w) := hT
  clear hI hK hO hMi hRI hRK hR hC hT
  go_enter Tryd.func17, Tryd.ntmps17
  go_wp2_with (first
    | (refine wpList_boxS rfl 51 _ rfl cs rfl ?_; intro W1 b1 F1 C1; have B1 := F_b F1; have hb1 : w.heap.size ≤ b1 := Nat.le_of_eq F1.at'.symm; clear F1)
    | (refine wpList_allocR rfl rfl ?_; intro W2 b2 F2 r2; replace B1 := Below.then B1 (F_b F2); have hb2 : b1 < b2 := (by rw [F2.at']; exact C1.lt); replace C1 := C1.fresh F2; clear F2))
  have HB : Hid (Below w.heap.size w W2) := B1
  have HC1 : Hid (IsS W2 b1 51 cs) := C1
  clear B1 C1
  refine region_invA 7 (fun a0 listed a' w' => ∃ x4 x5 x6 x7 x8 x9 x3 : Value, a' = (((((((a0.put (some 4) x4).put (some 5) x5).put (some 6) x6).put (some 7) x7).put (some 8) x8).put (some 9) x9).put (some 3) x3) ∧ Hid (Below W2.heap.size W2 w') ∧ (listed.getD 0 false = true → x4 = (.agg cs.toArray)) ∧ (listed.getD 1 false = true → x5 = (relv N R)) ∧ (listed.getD 2 false = true → x6 = (relv N RI)) ∧ (listed.getD 3 false = true → x7 = (.agg cs.toArray)) ∧ (listed.getD 4 false = true → x8 = (relv N C)) ∧ (listed.getD 5 false = true → x9 = (relv N K)) ∧ (listed.getD 6 false = true → ∃ b9, x3 = .pointer (some ⟨b9, 0, none⟩) ∧ W2.heap.size ≤ b9 ∧ IsR w' b9 0 void)) (by kernel_rfl) (by kernel_rfl) ?i0 ?istep ?iend
  case i0 => exact ⟨_, _, _, _, _, _, _, by first | (simp only [Act.put, List.setIfInBounds_toArray, List.set_cons_succ, List.set_cons_zero]; done) | (simp only [Act.put, List.setIfInBounds_toArray, List.set_cons_succ, List.set_cons_zero]; rfl) | rfl, below_drew (Below.refl _ _), fun h => (not_rep h).elim, fun h => (not_rep h).elim, fun h => (not_rep h).elim, fun h => (not_rep h).elim, fun h => (not_rep h).elim, fun h => (not_rep h).elim, fun h => (not_rep h).elim⟩
  case istep =>
    rintro i listed a' w' hi hr ⟨x4, x5, x6, x7, x8, x9, x3, rfl, HBw, d0, d1, d2, d3, d4, d5, d6⟩
    obtain ⟨hun, oj, hoj, hwt⟩ := mem_ready.1 hr
    simp only [Act.put, List.setIfInBounds_toArray, List.set_cons_succ, List.set_cons_zero]
    have hcase : i = 0 ∨ i = 1 ∨ i = 2 ∨ i = 3 ∨ i = 4 ∨ i = 5 ∨ i = 6 := by omega
    rcases hcase with rfl | rfl | rfl | rfl | rfl | rfl | rfl
    · have hoj2 := hoj
      obtain rfl := Option.some.inj hoj
      refine wpOp_value hoj2 rfl (v := (.agg cs.toArray)) (w' := w') (exec_loadSX rfl rfl (HC1.out.grown HBw.out) Tryd.underlying51 rfl (by rw [HL.out]; exact infoEx)) ?_
      exact ⟨(.agg cs.toArray), x5, x6, x7, x8, x9, x3, by first | (simp only [Act.put, List.setIfInBounds_toArray, List.set_cons_succ, List.set_cons_zero]; done) | (simp only [Act.put, List.setIfInBounds_toArray, List.set_cons_succ, List.set_cons_zero]; rfl) | rfl, Below.then HBw.out (Below.refl _ _), fun _ => rfl, fun h => (d1 (keep (by decide) h)), fun h => (d2 (keep (by decide) h)), fun h => (d3 (keep (by decide) h)), fun h => (d4 (keep (by decide) h)), fun h => (d5 (keep (by decide) h)), fun h => (Exists.elim (d6 (keep (by decide) h)) fun b h => ⟨b, h.1, h.2.1, h.2.2.grown (Below.refl _ _)⟩)⟩
    · have hoj2 := hoj
      obtain rfl := Option.some.inj hoj
      have e0 := d0 (hwt ⟨0, .data⟩ (by simp) rfl)
      subst e0
      refine wpOp_call hoj2 rfl (f := 15) (args := #[(.agg cs.toArray)]) (by first | rfl | (go_simp; done) | (simp [go_sem]; done) | (simp [execOp, go_sem]; done)) ?_
      refine (cR.out w' (Below.then HB.out HBw.out)).mono ?_
      rintro e w4 ⟨rfl, B4⟩
      refine ⟨_, rfl, ?_⟩
      exact ⟨(.agg cs.toArray), (relv N R), x6, x7, x8, x9, x3, by first | (simp only [Act.put, List.setIfInBounds_toArray, List.set_cons_succ, List.set_cons_zero]; done) | (simp only [Act.put, List.setIfInBounds_toArray, List.set_cons_succ, List.set_cons_zero]; rfl) | rfl, Below.then HBw.out B4, fun h => (d0 (keep (by decide) h)), fun _ => rfl, fun h => (d2 (keep (by decide) h)), fun h => (d3 (keep (by decide) h)), fun h => (d4 (keep (by decide) h)), fun h => (d5 (keep (by decide) h)), fun h => (Exists.elim (d6 (keep (by decide) h)) fun b h => ⟨b, h.1, h.2.1, h.2.2.grown B4⟩)⟩
    · have hoj2 := hoj
      obtain rfl := Option.some.inj hoj
      have e1 := d1 (hwt ⟨1, .data⟩ (by simp) rfl)
      subst e1
      refine wpOp_call hoj2 rfl (f := 39) (args := #[relv N R]) (by first | rfl | (go_simp; done) | (simp [go_sem]; done) | (simp [execOp, go_sem]; done)) ?_
      refine (cI.out w' (HT.out.below (Below.then HB.out HBw.out))).mono ?_
      rintro e w4 ⟨rfl, B4⟩
      refine ⟨_, rfl, ?_⟩
      exact ⟨x4, (relv N R), (relv N RI), x7, x8, x9, x3, by first | (simp only [Act.put, List.setIfInBounds_toArray, List.set_cons_succ, List.set_cons_zero]; done) | (simp only [Act.put, List.setIfInBounds_toArray, List.set_cons_succ, List.set_cons_zero]; rfl) | rfl, Below.then HBw.out B4, fun h => (d0 (keep (by decide) h)), fun h => (d1 (keep (by decide) h)), fun _ => rfl, fun h => (d3 (keep (by decide) h)), fun h => (d4 (keep (by decide) h)), fun h => (d5 (keep (by decide) h)), fun h => (Exists.elim (d6 (keep (by decide) h)) fun b h => ⟨b, h.1, h.2.1, h.2.2.grown B4⟩)⟩
    · have hoj2 := hoj
      obtain rfl := Option.some.inj hoj
      refine wpOp_value hoj2 rfl (v := (.agg cs.toArray)) (w' := w') (exec_loadSX rfl rfl (HC1.out.grown HBw.out) Tryd.underlying51 rfl (by rw [HL.out]; exact infoEx)) ?_
      exact ⟨x4, x5, x6, (.agg cs.toArray), x8, x9, x3, by first | (simp only [Act.put, List.setIfInBounds_toArray, List.set_cons_succ, List.set_cons_zero]; done) | (simp only [Act.put, List.setIfInBounds_toArray, List.set_cons_succ, List.set_cons_zero]; rfl) | rfl, Below.then HBw.out (Below.refl _ _), fun h => (d0 (keep (by decide) h)), fun h => (d1 (keep (by decide) h)), fun h => (d2 (keep (by decide) h)), fun _ => rfl, fun h => (d4 (keep (by decide) h)), fun h => (d5 (keep (by decide) h)), fun h => (Exists.elim (d6 (keep (by decide) h)) fun b h => ⟨b, h.1, h.2.1, h.2.2.grown (Below.refl _ _)⟩)⟩
    · have hoj2 := hoj
      obtain rfl := Option.some.inj hoj
      have e3 := d3 (hwt ⟨3, .data⟩ (by simp) rfl)
      have e2 := d2 (hwt ⟨2, .chain⟩ (by simp) rfl)
      subst e3
      refine wpOp_call hoj2 rfl (f := 16) (args := #[(.agg cs.toArray)]) (by first | rfl | (go_simp; done) | (simp [go_sem]; done) | (simp [execOp, go_sem]; done)) ?_
      refine (cC.out w' (Below.then HB.out HBw.out)).mono ?_
      rintro e w4 ⟨rfl, B4⟩
      refine ⟨_, rfl, ?_⟩
      exact ⟨x4, x5, x6, (.agg cs.toArray), (relv N C), x9, x3, by first | (simp only [Act.put, List.setIfInBounds_toArray, List.set_cons_succ, List.set_cons_zero]; done) | (simp only [Act.put, List.setIfInBounds_toArray, List.set_cons_succ, List.set_cons_zero]; rfl) | rfl, Below.then HBw.out B4, fun h => (d0 (keep (by decide) h)), fun h => (d1 (keep (by decide) h)), fun h => (d2 (keep (by decide) h)), fun h => (d3 (keep (by decide) h)), fun _ => rfl, fun h => (d5 (keep (by decide) h)), fun h => (Exists.elim (d6 (keep (by decide) h)) fun b h => ⟨b, h.1, h.2.1, h.2.2.grown B4⟩)⟩
    · have hoj2 := hoj
      obtain rfl := Option.some.inj hoj
      have e2 := d2 (hwt ⟨2, .data⟩ (by simp) rfl)
      have e4 := d4 (hwt ⟨4, .data⟩ (by simp) rfl)
      subst e2 e4
      refine wpOp_call hoj2 rfl (f := 38) (args := #[relv N RI, relv N C]) (by first | rfl | (go_simp; done) | (simp [go_sem]; done) | (simp [execOp, go_sem]; done)) ?_
      refine (cK.out w' (HT.out.below (Below.then HB.out HBw.out))).mono ?_
      rintro e w4 ⟨rfl, B4⟩
      refine ⟨_, rfl, ?_⟩
      exact ⟨x4, x5, (relv N RI), x7, (relv N C), (relv N K), x3, by first | (simp only [Act.put, List.setIfInBounds_toArray, List.set_cons_succ, List.set_cons_zero]; done) | (simp only [Act.put, List.setIfInBounds_toArray, List.set_cons_succ, List.set_cons_zero]; rfl) | rfl, Below.then HBw.out B4, fun h => (d0 (keep (by decide) h)), fun h => (d1 (keep (by decide) h)), fun h => (d2 (keep (by decide) h)), fun h => (d3 (keep (by decide) h)), fun h => (d4 (keep (by decide) h)), fun _ => rfl, fun h => (Exists.elim (d6 (keep (by decide) h)) fun b h => ⟨b, h.1, h.2.1, h.2.2.grown B4⟩)⟩
    · have hoj2 := hoj
      obtain rfl := Option.some.inj hoj
      refine wpOp_value hoj2 rfl (exec_allocR rfl) ?_
      have B9 := F_b (Fresh.alloc w' (.cells (cellsR 0 void) 43))
      exact ⟨x4, x5, x6, x7, x8, x9, _, by first | (simp only [Act.put, List.setIfInBounds_toArray, List.set_cons_succ, List.set_cons_zero]; done) | (simp only [Act.put, List.setIfInBounds_toArray, List.set_cons_succ, List.set_cons_zero]; rfl) | rfl, Below.then HBw.out B9, fun h => (d0 (keep (by decide) h)), fun h => (d1 (keep (by decide) h)), fun h => (d2 (keep (by decide) h)), fun h => (d3 (keep (by decide) h)), fun h => (d4 (keep (by decide) h)), fun h => (d5 (keep (by decide) h)), fun _ => ⟨_, rfl, HBw.out.size, IsR.new w' 0 void⟩⟩
  case iend =>
    rintro a' w' ⟨x4, x5, x6, x7, x8, x9, x3, rfl, HBw, d0, d1, d2, d3, d4, d5, d6⟩
    replace d0 := d0 rfl
    replace d1 := d1 rfl
    replace d2 := d2 rfl
    replace d3 := d3 rfl
    replace d4 := d4 rfl
    replace d5 := d5 rfl
    replace d6 := d6 rfl
    simp only [Act.put, List.setIfInBounds_toArray, List.set_cons_succ, List.set_cons_zero]
    simp only [List.drop_succ_cons, List.drop_zero]
    obtain ⟨b3, rfl, hb3, r3⟩ := d6
    subst d0 d1 d2 d3 d4 d5
    have hl2 := r2.lt
    replace r2 := r2.grown HBw.out
    have B3 := Below.then HB.out HBw.out
    clear HBw HC1 cR cC cI cK
    go_wp2_with (first
      | (refine wpList_storeR rfl _ _ rfl rfl rfl r3 ?_; intro W5 U5 q3; replace B3 := U5.trans B3 (by have := HB.out.size; omega); replace r2 := r2.upd U5 (by omega); clear U5 r3))
    have HB5 : Hid (Below w.heap.size w W5) := B3
    clear B3
    refine grow_tail 5 (by kernel_rfl) (by kernel_rfl) ?_
    simp only [List.take_succ_cons, List.take_zero, List.drop_succ_cons, List.drop_zero]
    refine WG.out ?_
    refine WG.loadR rfl _ rfl rfl q3 ?_
    simp only [Act.put, List.setIfInBounds_toArray, List.set_cons_succ, List.set_cons_zero]
    refine WG.put rfl (v := .pointer (some ⟨b3, 0, none⟩)) (fun w => by first | rfl | (go_simp; done)) ?_
    simp only [Act.put, List.setIfInBounds_toArray, List.set_cons_succ, List.set_cons_zero]
    refine WG.cell rfl 3 _ rfl rfl q3.n (fun w h => by go_simp) ?_
    simp only [Act.put, List.setIfInBounds_toArray, List.set_cons_succ, List.set_cons_zero]
    refine WG.call rfl (fun w' hw' => cO.out w' (HT.out.below (Below.then HB5.out hw'))) (fun w => by first | rfl | (go_simp; done)) ?_
    simp only [Act.put, List.setIfInBounds_toArray, List.set_cons_succ, List.set_cons_zero]
    refine WG.call rfl (fun w' hw' => cM.out w' (HT.out.below (Below.then HB5.out hw'))) (fun w => by first | rfl | (go_simp; done)) ?_
    simp only [Act.put, List.setIfInBounds_toArray, List.set_cons_succ, List.set_cons_zero]
    refine WG.nil (fun W6 hw6 => ?_)
    replace r2 := r2.grown hw6
    have B6 := Below.then HB5.out hw6
    clear hw6 HB5 q3
    go_wp2_with (first
      | (refine wpList_storeR rfl _ _ rfl rfl rfl r2 ?_; intro W7 U7 q7))
    refine ret_R rfl rfl rfl q7 ⟨rfl, U7.trans B6 (by omega)⟩
end Go.Proofs.YtdjlfpkemdiadaaDoor

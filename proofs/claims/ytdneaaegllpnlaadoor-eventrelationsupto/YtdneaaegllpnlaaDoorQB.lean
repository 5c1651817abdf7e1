/- Several texts in one: EL17, EN17. -/
import Derived.Test.YtdneaaegllpnlaaDoorEK17
/- Fr of the reference; the law. -/
namespace Go.Proofs.YtdneaaegllpnlaaDoor
open Go.RowKit Go.Shelf M
set_option linter.unusedSimpArgs false
set_option linter.unusedVariables false

set_option maxRecDepth 100000 in
set_option maxHeartbeats 8000000 in
theorem rfr_x {w : World} {cs : List Value} {ne : Nat} {fr : List Int} {od : List (List Int)} (h : XE w cs ne fr od) :
    Calls Tryd.prog 35 #[.agg cs.toArray] w fun e w' => e = .returned (relv (shN ne) (frF (shN ne) (rfX ne fr) (coX ne od))) ∧ Below w.heap.size w w' := by
  have HL : Hid (cs.length = 5) := h.len
  have cR : Hid (∀ W, Below w.heap.size w W → Calls Tryd.prog 31 #[.agg cs.toArray] W fun e w' => e = .returned (relv (shN ne) (rfX ne fr)) ∧ Below W.heap.size W w') := fun W hB => rrf_x (h.below hB)
  have cC : Hid (∀ W, Below w.heap.size w W → Calls Tryd.prog 33 #[.agg cs.toArray] W fun e w' => e = .returned (relv (shN ne) (coX ne od)) ∧ Below W.heap.size W w') := fun W hB => rco_x (h.below hB)
  have hN := shN_le ne
  have HR : Hid (Right (shN ne) (rfX ne fr)) := right_rfX ne fr
  have HC : Hid (Right (shN ne) (coX ne od)) := right_coX ne od
  generalize rfX ne fr = R at *
  generalize coX ne od = C at *
  generalize shN ne = N at *
  clear h
  go_enter Tryd.func35, Tryd.ntmps35
  go_wp2_with (first
    | (refine wpList_boxS rfl 61 _ rfl cs rfl ?_; intro W1 b1 F1 C1; have B1 := F_b F1; have hb1 : w.heap.size ≤ b1 := Nat.le_of_eq F1.at'.symm; clear F1)
    | (refine wpList_allocR rfl rfl ?_; intro W2 b2 F2 r2; replace B1 := Below.then B1 (F_b F2); have hb2 : b1 < b2 := (by rw [F2.at']; exact C1.lt); replace C1 := C1.fresh F2; clear F2))
  have HB : Hid (Below w.heap.size w W2) := B1
  have HC1 : Hid (IsS W2 b1 61 cs) := C1
  clear B1 C1
  refine region_invA 6 (fun a0 listed a' w' => ∃ x8 x9 x10 x11 x3 x4 : Value, a' = ((((((a0.put (some 8) x8).put (some 9) x9).put (some 10) x10).put (some 11) x11).put (some 3) x3).put (some 4) x4) ∧ Hid (Below W2.heap.size W2 w') ∧ (listed.getD 0 false = true → x8 = (.agg cs.toArray)) ∧ (listed.getD 1 false = true → x9 = (relv N R)) ∧ (listed.getD 2 false = true → x10 = (.agg cs.toArray)) ∧ (listed.getD 3 false = true → x11 = (relv N C)) ∧ (listed.getD 4 false = true → ∃ b9, x3 = .pointer (some ⟨b9, 0, none⟩) ∧ W2.heap.size ≤ b9 ∧ IsR w' b9 0 void) ∧ (listed.getD 5 false = true → ∃ b9, x4 = .pointer (some ⟨b9, 0, none⟩) ∧ W2.heap.size ≤ b9 ∧ IsR w' b9 0 void ∧ (listed.getD 4 false = true → ∀ b, x3 = .pointer (some ⟨b, 0, none⟩) → b ≠ b9))) (by kernel_rfl) (by kernel_rfl) ?i0 ?istep ?iend
  case i0 => exact ⟨_, _, _, _, _, _, by first | (simp only [Act.put, List.setIfInBounds_toArray, List.set_cons_succ, List.set_cons_zero]; done) | (simp only [Act.put, List.setIfInBounds_toArray, List.set_cons_succ, List.set_cons_zero]; rfl) | rfl, below_drew (Below.refl _ _), fun h => (not_rep h).elim, fun h => (not_rep h).elim, fun h => (not_rep h).elim, fun h => (not_rep h).elim, fun h => (not_rep h).elim, fun h => (not_rep h).elim⟩
  case istep =>
    rintro i listed a' w' hi hr ⟨x8, x9, x10, x11, x3, x4, rfl, HBw, d0, d1, d2, d3, d4, d5⟩
    obtain ⟨hun, oj, hoj, hwt⟩ := mem_ready.1 hr
    simp only [Act.put, List.setIfInBounds_toArray, List.set_cons_succ, List.set_cons_zero]
    have hcase : i = 0 ∨ i = 1 ∨ i = 2 ∨ i = 3 ∨ i = 4 ∨ i = 5 := by omega
    rcases hcase with rfl | rfl | rfl | rfl | rfl | rfl
    · have hoj2 := hoj
      obtain rfl := Option.some.inj hoj
      refine wpOp_value hoj2 rfl (v := (.agg cs.toArray)) (w' := w') (exec_loadSX rfl rfl (HC1.out.grown HBw.out) Tryd.underlying61 rfl (by rw [HL.out]; exact infoEx)) ?_
      exact ⟨(.agg cs.toArray), x9, x10, x11, x3, x4, by first | (simp only [Act.put, List.setIfInBounds_toArray, List.set_cons_succ, List.set_cons_zero]; done) | (simp only [Act.put, List.setIfInBounds_toArray, List.set_cons_succ, List.set_cons_zero]; rfl) | rfl, Below.then HBw.out (Below.refl _ _), fun _ => rfl, fun h => (d1 (keep (by decide) h)), fun h => (d2 (keep (by decide) h)), fun h => (d3 (keep (by decide) h)), fun h => (Exists.elim (d4 (keep (by decide) h)) fun b h => ⟨b, h.1, h.2.1, h.2.2.grown (Below.refl _ _)⟩), fun h => (Exists.elim (d5 (keep (by decide) h)) fun b h => ⟨b, h.1, h.2.1, h.2.2.1.grown (Below.refl _ _), fun hq => h.2.2.2 (keep (by decide) hq)⟩)⟩
    · have hoj2 := hoj
      obtain rfl := Option.some.inj hoj
      have e0 := d0 (hwt ⟨0, .data⟩ (by simp) rfl)
      subst e0
      refine wpOp_call hoj2 rfl (f := 31) (args := #[(.agg cs.toArray)]) (by first | rfl | (go_simp; done) | (simp [go_sem]; done) | (simp [execOp, go_sem]; done)) ?_
      refine (cR.out w' (Below.then HB.out HBw.out)).mono ?_
      rintro e w4 ⟨rfl, B4⟩
      refine ⟨_, rfl, ?_⟩
      exact ⟨(.agg cs.toArray), (relv N R), x10, x11, x3, x4, by first | (simp only [Act.put, List.setIfInBounds_toArray, List.set_cons_succ, List.set_cons_zero]; done) | (simp only [Act.put, List.setIfInBounds_toArray, List.set_cons_succ, List.set_cons_zero]; rfl) | rfl, Below.then HBw.out B4, fun h => (d0 (keep (by decide) h)), fun _ => rfl, fun h => (d2 (keep (by decide) h)), fun h => (d3 (keep (by decide) h)), fun h => (Exists.elim (d4 (keep (by decide) h)) fun b h => ⟨b, h.1, h.2.1, h.2.2.grown B4⟩), fun h => (Exists.elim (d5 (keep (by decide) h)) fun b h => ⟨b, h.1, h.2.1, h.2.2.1.grown B4, fun hq => h.2.2.2 (keep (by decide) hq)⟩)⟩
    · have hoj2 := hoj
      obtain rfl := Option.some.inj hoj
      refine wpOp_value hoj2 rfl (v := (.agg cs.toArray)) (w' := w') (exec_loadSX rfl rfl (HC1.out.grown HBw.out) Tryd.underlying61 rfl (by rw [HL.out]; exact infoEx)) ?_
      exact ⟨x8, x9, (.agg cs.toArray), x11, x3, x4, by first | (simp only [Act.put, List.setIfInBounds_toArray, List.set_cons_succ, List.set_cons_zero]; done) | (simp only [Act.put, List.setIfInBounds_toArray, List.set_cons_succ, List.set_cons_zero]; rfl) | rfl, Below.then HBw.out (Below.refl _ _), fun h => (d0 (keep (by decide) h)), fun h => (d1 (keep (by decide) h)), fun _ => rfl, fun h => (d3 (keep (by decide) h)), fun h => (Exists.elim (d4 (keep (by decide) h)) fun b h => ⟨b, h.1, h.2.1, h.2.2.grown (Below.refl _ _)⟩), fun h => (Exists.elim (d5 (keep (by decide) h)) fun b h => ⟨b, h.1, h.2.1, h.2.2.1.grown (Below.refl _ _), fun hq => h.2.2.2 (keep (by decide) hq)⟩)⟩
    · have hoj2 := hoj
      obtain rfl := Option.some.inj hoj
      have e2 := d2 (hwt ⟨2, .data⟩ (by simp) rfl)
      have e1 := d1 (hwt ⟨1, .chain⟩ (by simp) rfl)
      subst e2
      refine wpOp_call hoj2 rfl (f := 33) (args := #[(.agg cs.toArray)]) (by first | rfl | (go_simp; done) | (simp [go_sem]; done) | (simp [execOp, go_sem]; done)) ?_
      refine (cC.out w' (Below.then HB.out HBw.out)).mono ?_
      rintro e w4 ⟨rfl, B4⟩
      refine ⟨_, rfl, ?_⟩
      exact ⟨x8, x9, (.agg cs.toArray), (relv N C), x3, x4, by first | (simp only [Act.put, List.setIfInBounds_toArray, List.set_cons_succ, List.set_cons_zero]; done) | (simp only [Act.put, List.setIfInBounds_toArray, List.set_cons_succ, List.set_cons_zero]; rfl) | rfl, Below.then HBw.out B4, fun h => (d0 (keep (by decide) h)), fun h => (d1 (keep (by decide) h)), fun h => (d2 (keep (by decide) h)), fun _ => rfl, fun h => (Exists.elim (d4 (keep (by decide) h)) fun b h => ⟨b, h.1, h.2.1, h.2.2.grown B4⟩), fun h => (Exists.elim (d5 (keep (by decide) h)) fun b h => ⟨b, h.1, h.2.1, h.2.2.1.grown B4, fun hq => h.2.2.2 (keep (by decide) hq)⟩)⟩
    · have hoj2 := hoj
      obtain rfl := Option.some.inj hoj
      refine wpOp_value hoj2 rfl (exec_allocR rfl) ?_
      have B9a := F_b (Fresh.alloc w' (.cells (cellsR 0 void) 54))
      exact ⟨x8, x9, x10, x11, _, x4, by first | (simp only [Act.put, List.setIfInBounds_toArray, List.set_cons_succ, List.set_cons_zero]; done) | (simp only [Act.put, List.setIfInBounds_toArray, List.set_cons_succ, List.set_cons_zero]; rfl) | rfl, Below.then HBw.out B9a, fun h => (d0 (keep (by decide) h)), fun h => (d1 (keep (by decide) h)), fun h => (d2 (keep (by decide) h)), fun h => (d3 (keep (by decide) h)), fun _ => ⟨_, rfl, HBw.out.size, IsR.new w' 0 void⟩, fun h => (Exists.elim (d5 (keep (by decide) h)) fun b h => ⟨b, h.1, h.2.1, h.2.2.1.grown B9a, fun _ b8 e => by injection e with e; injection e with e; injection e with e; have := h.2.2.1.lt; omega⟩)⟩
    · have hoj2 := hoj
      obtain rfl := Option.some.inj hoj
      refine wpOp_value hoj2 rfl (exec_allocR rfl) ?_
      have B9 := F_b (Fresh.alloc w' (.cells (cellsR 0 void) 54))
      exact ⟨x8, x9, x10, x11, x3, _, by first | (simp only [Act.put, List.setIfInBounds_toArray, List.set_cons_succ, List.set_cons_zero]; done) | (simp only [Act.put, List.setIfInBounds_toArray, List.set_cons_succ, List.set_cons_zero]; rfl) | rfl, Below.then HBw.out B9, fun h => (d0 (keep (by decide) h)), fun h => (d1 (keep (by decide) h)), fun h => (d2 (keep (by decide) h)), fun h => (d3 (keep (by decide) h)), fun h => (Exists.elim (d4 (keep (by decide) h)) fun b h => ⟨b, h.1, h.2.1, h.2.2.grown B9⟩), fun _ => ⟨_, rfl, HBw.out.size, IsR.new w' 0 void, fun hq b8 e => by obtain ⟨b7, e7, _, h7⟩ := d4 (keep (by decide) hq); rw [e7] at e; injection e with e; injection e with e; injection e with e; have := h7.lt; omega⟩⟩
  case iend =>
    rintro a' w' ⟨x8, x9, x10, x11, x3, x4, rfl, HBw, d0, d1, d2, d3, d4, d5⟩
    replace d0 := d0 rfl
    replace d1 := d1 rfl
    replace d2 := d2 rfl
    replace d3 := d3 rfl
    replace d4 := d4 rfl
    replace d5 := d5 rfl
    simp only [Act.put, List.setIfInBounds_toArray, List.set_cons_succ, List.set_cons_zero]
    simp only [List.drop_succ_cons, List.drop_zero]
    obtain ⟨b3, rfl, hb3, r3⟩ := d4
    obtain ⟨b4, rfl, hb4, r4, hne⟩ := d5
    have hne34 : b3 ≠ b4 := hne rfl b3 rfl
    clear hne
    subst d0 d1 d2 d3
    have hl2 := r2.lt
    replace r2 := r2.grown HBw.out
    have B3 := Below.then HB.out HBw.out
    clear HBw HC1 cR cC
    have t1 : True := trivial
    have hbw := HB.out.size
    go_wp2_with (first
      | (clear t1; refine wpList_storeR rfl _ _ rfl rfl rfl r3 ?_; intro W5 U5 q3; replace B3 := U5.trans B3 (by omega); replace r2 := r2.upd U5 (by omega); replace r4 := r4.upd U5 (by omega); clear U5 r3)
      | (refine wpList_storeR rfl _ _ rfl rfl rfl r4 ?_; intro W6 U6 q4; replace B3 := U6.trans B3 (by omega); replace r2 := r2.upd U6 (by omega); replace q3 := q3.upd U6 (by omega); clear U6 r4; have yn := q3.n; have hl3 := q3.lt; have hl4 := q4.lt; have hlr := r2.lt)
      | (refine wpList_buildRN rfl _ rfl rfl ?_)
      | (refine wpList_allocR rfl rfl ?_; intro W7 b5 F7 r5; replace B3 := Below.then B3 (F_b F7); have hb5 : W6.heap.size ≤ b5 := Nat.le_of_eq F7.at'.symm; replace r2 := r2.fresh F7; replace q3 := q3.fresh F7; replace q4 := q4.fresh F7; clear F7)
      | (refine wpList_storeR rfl _ _ rfl rfl rfl r5 ?_; intro W8 U8 q5; replace B3 := U8.trans B3 (by omega); replace r2 := r2.upd U8 (by omega); replace q3 := q3.upd U8 (by omega); replace q4 := q4.upd U8 (by omega); clear U8 r5))
    clear yn
    go_loopw [6] (fun i wr => ∃ k : Nat, k ≤ N ∧ i = .int .i64 k ∧ IsR wr b5 N (frS N R C k 0) ∧ IsR wr b3 N R ∧ IsR wr b4 N C ∧ IsR wr b2 0 void ∧ Hid (Below w.heap.size w wr)) (fun i _ => N - (intOf i).toNat)
    case atStart => exact ⟨0, by omega, rfl, q5.congr (fun i _ => (frS_start N R C i).symm), q3, q4, r2, B3⟩
    case round =>
      clear q5 q3 q4 r2 B3
      obtain ⟨k, hk, rfl, q5, q3, q4, q2, BB⟩ := hrel
      have yn := q3.n
      by_cases hlt : k < N
      · have hki : (k : Int) < (N : Int) := by omega
        have hk64 : (k : Int) < 64 := by omega
        go_wp2
        clear yn
        go_loopw [7] (fun i wr => ∃ j : Nat, j ≤ N ∧ i = .int .i64 j ∧ IsR wr b5 N (frS N R C k j) ∧ IsR wr b3 N R ∧ IsR wr b4 N C ∧ IsR wr b2 0 void ∧ Hid (Below w.heap.size w wr)) (fun i _ => N - (intOf i).toNat)
        case atStart => exact ⟨0, by omega, rfl, q5, q3, q4, q2, BB⟩
        case round =>
          clear q5 q3 q4 q2 BB
          obtain ⟨j, hj, rfl, q5, q3, q4, q2, BB⟩ := hrel
          have yn := q3.n
          by_cases hjt : j < N
          · have hji : (j : Int) < (N : Int) := by omega
            have hj64 : (j : Int) < 64 := by omega
            have hrk := q3.row k (by omega)
            have hsb := shr_bits (R k) j (by omega) (HR.out.wf k)
            rw [bit_of] at hsb
            cases hb : (R k).testBit j with
            | true =>
              rw [hb] at hsb
              simp only [if_true] at hsb
              have hrow := q5.row j (by omega)
              rw [frS_at N R C k j hjt] at hrow
              have hcow := q4.row k (by omega)
              have hfz := q5.frozen (1 + j)
              have hfa := frA_lt R C HC.out.wf j k
              have hw := wrap_pow j (by omega)
              have hpl := pow_lt j (by omega)
              have hnt := u64_andNot_nat (C k) (2 ^ j) (HC.out.wf k) hpl
              change bits .andNot .u64 (C k : Int) ((2 ^ j : Nat) : Int) = ((notN (C k) (2 ^ j) : Nat) : Int) at hnt
              rw [← pow_cast] at hnt
              have hnl : notN (C k) (2 ^ j) < 18446744073709551616 := Nat.lt_of_le_of_lt Nat.and_le_left (HC.out.wf k)
              have hor := u64_or_nat (frA R C k j) (notN (C k) (2 ^ j)) hfa hnl
              have U := Upd.setCell wr b5 (1 + j) (.int .u64 ((frA R C k j ||| notN (C k) (2 ^ j) : Nat) : Int))
              have HQ : Hid (IsR (wr.setCell ⟨b5, 1 + j, none⟩ (.int .u64 ((frA R C k j ||| notN (C k) (2 ^ j) : Nat) : Int))) b5 N (frS N R C k (j + 1)) ∧ IsR (wr.setCell ⟨b5, 1 + j, none⟩ (.int .u64 ((frA R C k j ||| notN (C k) (2 ^ j) : Nat) : Int))) b3 N R ∧ IsR (wr.setCell ⟨b5, 1 + j, none⟩ (.int .u64 ((frA R C k j ||| notN (C k) (2 ^ j) : Nat) : Int))) b4 N C ∧ IsR (wr.setCell ⟨b5, 1 + j, none⟩ (.int .u64 ((frA R C k j ||| notN (C k) (2 ^ j) : Nat) : Int))) b2 0 void ∧ Below w.heap.size w (wr.setCell ⟨b5, 1 + j, none⟩ (.int .u64 ((frA R C k j ||| notN (C k) (2 ^ j) : Nat) : Int)))) :=
                ⟨(q5.set j _ (by omega)).congr (fun a _ => frS_yes N R C k j a hjt hb), q3.upd U (by omega), q4.upd U (by omega), q2.upd U (by omega), U.trans BB.out (by omega)⟩
              clear U q5 q3 q4 q2 BB hb hfa hpl hnl
              generalize frA R C k j ||| notN (C k) (2 ^ j) = z at *
              generalize notN (C k) (2 ^ j) = z1 at *
              generalize frA R C k j = z0 at *
              generalize R k = z2 at *
              generalize C k = z3 at *
              go_wp2
              go_region
              go_wp2
              go_roundw
              case rel => exact ⟨j + 1, by omega, by simp, HQ.out.1.drew, HQ.out.2.1.drew, HQ.out.2.2.1.drew, HQ.out.2.2.2.1.drew, HQ.out.2.2.2.2.drew⟩
              case measure => simp [intOf]; omega
            | false =>
              rw [hb] at hsb
              simp only [Bool.false_eq_true, if_false] at hsb
              have HQ : Hid (IsR wr b5 N (frS N R C k (j + 1))) := q5.congr (fun a _ => frS_no N R C k j a hb)
              clear hb q5
              generalize R k = z2 at *
              go_wp2
              go_roundw
              case rel => exact ⟨j + 1, by omega, by simp, HQ.out, q3, q4, q2, BB⟩
              case measure => simp [intOf]; omega
          · obtain rfl : j = N := by omega
            have HQ : Hid (IsR wr b5 j (frS j R C (k + 1) 0)) := q5.congr (fun a _ => frS_next j R C k a)
            clear q5
            go_wp2
            go_roundw
            case rel => exact ⟨k + 1, by omega, by simp, HQ.out, q3, q4, q2, BB⟩
            case measure => simp [intOf]; omega
      · obtain rfl : k = N := by omega
        have HQ := q5.congr (fun a ha => frS_end k hN R C HC.out a ha)
        clear q5
        go_wp2_with (first
          | (refine wpList_loadR rfl _ rfl rfl HQ ?_)
          | (refine wpList_storeR rfl _ _ rfl rfl rfl q2 ?_; intro W4 U4 r4))
        refine ret_R rfl rfl rfl r4 ⟨rfl, U4.trans BB.out (by omega)⟩
end Go.Proofs.YtdneaaegllpnlaaDoor
/- EventReads: for every execution the law returns true. -/
namespace Go.Proofs.YtdneaaegllpnlaaDoor
open Go.RowKit Go.Shelf M
set_option linter.unusedSimpArgs false
set_option linter.unusedVariables false

section
variable {ops : Array Oper} {W : World} {Q : Act → Prop} {rest : List Oper} {op : Oper} {a : Act}
theorem WG.eqR (hw : Region.wanted op (yielded ops a.tmps) = true) (x y : Operand) (ho : op.op = .binOp .eql 54 x y 54) {n : Int} {f : Nat → Nat} (hx : a.eval x = relv n f) (hy : a.eval y = relv n f)
    (h : WG ops W Q rest (a.put op.dst (.bool true))) : WG ops W Q (op :: rest) a := by
  refine WG.put hw (fun w => ?_) h
  unfold execOp
  have h1 := eqlR n f w
  have h2 := eqGuardR .eql x y n n f f w
  simp [ho, hx, hy, Sem.run_bind, h1, h2]
end
set_option maxRecDepth 100000 in
set_option maxHeartbeats 8000000 in
theorem eventReads_any {w : World} {cs : List Value} {ne : Nat} {fr : List Int} {od : List (List Int)} (hT : TabAt w) (h : XE w cs ne fr od) :
    Calls Tryd.prog 5 #[.agg cs.toArray] w fun e w' => e = .returned (.bool true) ∧ Below w.heap.size w w' := by
  have HL : Hid (cs.length = 5) := h.len
  have c1 : Hid (∀ W, Below w.heap.size w W → Calls Tryd.prog 30 #[.agg cs.toArray] W fun e w' => e = .returned (relv (shN ne) (rfX ne fr)) ∧ Below W.heap.size W w') := fun W hB => rf_x (h.below hB)
  have c2 : Hid (∀ W, Below w.heap.size w W → Calls Tryd.prog 31 #[.agg cs.toArray] W fun e w' => e = .returned (relv (shN ne) (rfX ne fr)) ∧ Below W.heap.size W w') := fun W hB => rrf_x (h.below hB)
  have c3 : Hid (∀ W, Below w.heap.size w W → Calls Tryd.prog 32 #[.agg cs.toArray] W fun e w' => e = .returned (relv (shN ne) (coX ne od)) ∧ Below W.heap.size W w') := fun W hB => co_x (h.below hB)
  have c4 : Hid (∀ W, Below w.heap.size w W → Calls Tryd.prog 33 #[.agg cs.toArray] W fun e w' => e = .returned (relv (shN ne) (coX ne od)) ∧ Below W.heap.size W w') := fun W hB => rco_x (h.below hB)
  have c5 : Hid (∀ W, Below w.heap.size w W → Calls Tryd.prog 34 #[.agg cs.toArray] W fun e w' => e = .returned (relv (shN ne) (frF (shN ne) (rfX ne fr) (coX ne od))) ∧ Below W.heap.size W w') := fun W hB => fr_x (hT.below hB) (h.below hB)
  have c6 : Hid (∀ W, Below w.heap.size w W → Calls Tryd.prog 35 #[.agg cs.toArray] W fun e w' => e = .returned (relv (shN ne) (frF (shN ne) (rfX ne fr) (coX ne od))) ∧ Below W.heap.size W w') := fun W hB => rfr_x (h.below hB)
  generalize frF (shN ne) (rfX ne fr) (coX ne od) = Z at *
  generalize rfX ne fr = R at *
  generalize coX ne od = C at *
  generalize shN ne = N at *
  clear h hT
  go_enter Tryd.func5, Tryd.ntmps5
  go_wp2_with (first
    | (refine wpList_boxS rfl 61 _ rfl cs rfl ?_; intro W1 b1 F1 C1; have B1 := F_b F1; clear F1))
  have HB : Hid (Below w.heap.size w W1) := B1
  have HC1 : Hid (IsS W1 b1 61 cs) := C1
  clear B1 C1
  refine grow_allW (by kernel_rfl) (by kernel_rfl) ?_
  refine WG.loadX rfl _ rfl rfl HC1.out HL.out ?_
  simp only [Act.put, List.setIfInBounds_toArray, List.set_cons_succ, List.set_cons_zero]
  refine WG.call rfl (fun w' hw' => c1.out w' (Below.then HB.out hw')) (fun w => by first | rfl | (go_simp; done)) ?_
  simp only [Act.put, List.setIfInBounds_toArray, List.set_cons_succ, List.set_cons_zero]
  refine WG.loadX rfl _ rfl rfl HC1.out HL.out ?_
  simp only [Act.put, List.setIfInBounds_toArray, List.set_cons_succ, List.set_cons_zero]
  refine WG.call rfl (fun w' hw' => c2.out w' (Below.then HB.out hw')) (fun w => by first | rfl | (go_simp; done)) ?_
  simp only [Act.put, List.setIfInBounds_toArray, List.set_cons_succ, List.set_cons_zero]
  refine WG.eqR rfl _ _ rfl rfl rfl ?_
  simp only [Act.put, List.setIfInBounds_toArray, List.set_cons_succ, List.set_cons_zero]
  refine WG.put rfl (v := .bool true) (fun w => by first | rfl | (go_simp; done)) ?_
  simp only [Act.put, List.setIfInBounds_toArray, List.set_cons_succ, List.set_cons_zero]
  refine WG.loadX rfl _ rfl rfl HC1.out HL.out ?_
  simp only [Act.put, List.setIfInBounds_toArray, List.set_cons_succ, List.set_cons_zero]
  refine WG.call rfl (fun w' hw' => c3.out w' (Below.then HB.out hw')) (fun w => by first | rfl | (go_simp; done)) ?_
  simp only [Act.put, List.setIfInBounds_toArray, List.set_cons_succ, List.set_cons_zero]
  refine WG.loadX rfl _ rfl rfl HC1.out HL.out ?_
  simp only [Act.put, List.setIfInBounds_toArray, List.set_cons_succ, List.set_cons_zero]
  refine WG.call rfl (fun w' hw' => c4.out w' (Below.then HB.out hw')) (fun w => by first | rfl | (go_simp; done)) ?_
  simp only [Act.put, List.setIfInBounds_toArray, List.set_cons_succ, List.set_cons_zero]
  refine WG.eqR rfl _ _ rfl rfl rfl ?_
  simp only [Act.put, List.setIfInBounds_toArray, List.set_cons_succ, List.set_cons_zero]
  refine WG.put rfl (v := .bool true) (fun w => by first | rfl | (go_simp; done)) ?_
  simp only [Act.put, List.setIfInBounds_toArray, List.set_cons_succ, List.set_cons_zero]
  refine WG.put rfl (v := .bool true) (fun w => by first | rfl | (go_simp; done)) ?_
  simp only [Act.put, List.setIfInBounds_toArray, List.set_cons_succ, List.set_cons_zero]
  refine WG.loadX rfl _ rfl rfl HC1.out HL.out ?_
  simp only [Act.put, List.setIfInBounds_toArray, List.set_cons_succ, List.set_cons_zero]
  refine WG.call rfl (fun w' hw' => c5.out w' (Below.then HB.out hw')) (fun w => by first | rfl | (go_simp; done)) ?_
  simp only [Act.put, List.setIfInBounds_toArray, List.set_cons_succ, List.set_cons_zero]
  refine WG.loadX rfl _ rfl rfl HC1.out HL.out ?_
  simp only [Act.put, List.setIfInBounds_toArray, List.set_cons_succ, List.set_cons_zero]
  refine WG.call rfl (fun w' hw' => c6.out w' (Below.then HB.out hw')) (fun w => by first | rfl | (go_simp; done)) ?_
  simp only [Act.put, List.setIfInBounds_toArray, List.set_cons_succ, List.set_cons_zero]
  refine WG.eqR rfl _ _ rfl rfl rfl ?_
  simp only [Act.put, List.setIfInBounds_toArray, List.set_cons_succ, List.set_cons_zero]
  refine WG.put rfl (v := .bool true) (fun w => by first | rfl | (go_simp; done)) ?_
  simp only [Act.put, List.setIfInBounds_toArray, List.set_cons_succ, List.set_cons_zero]
  refine WG.put rfl (v := .bool true) (fun w => by first | rfl | (go_simp; done)) ?_
  simp only [Act.put, List.setIfInBounds_toArray, List.set_cons_succ, List.set_cons_zero]
  refine WG.nil (fun W3 hw3 => ?_)
  have B3 := Below.then HB.out hw3
  go_wp2
  go_ret
  exact ⟨rfl, B3⟩
end Go.Proofs.YtdneaaegllpnlaaDoor

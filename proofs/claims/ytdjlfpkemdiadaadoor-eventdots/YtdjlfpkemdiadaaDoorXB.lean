/- Several texts in one: EL17, FH17, FI17. -/
import Derived.Test.YtdjlfpkemdiadaaDoorEK17
import Derived.Test.YtdjlfpkemdiadaaDoorFH0
import Derived.Deep.CutRange
/- Fr of the reference; the law. -/
namespace Go.Proofs.YtdjlfpkemdiadaaDoor
open Go.RowKit Go.Shelf M
set_option linter.unusedSimpArgs false
set_option linter.unusedVariables false

set_option maxRecDepth 100000 in
set_option maxHeartbeats 8000000 in
theorem rfr_x {w : World} {cs : List Value} {ne : Nat} {fr : List Int} {od : List (List Int)} (h : XE w cs ne fr od) :
    Calls Tryd.prog 58 #[.agg cs.toArray] w fun e w' => e = .returned (relv (shN ne) (frF (shN ne) (rfX ne fr) (coX ne od))) ∧ Below w.heap.size w w' := by
  have HL : Hid (cs.length = 5) := h.len
  have cR : Hid (∀ W, Below w.heap.size w W → Calls Tryd.prog 56 #[.agg cs.toArray] W fun e w' => e = .returned (relv (shN ne) (rfX ne fr)) ∧ Below W.heap.size W w') := fun W hB => rrf_x (h.below hB)
  have cC : Hid (∀ W, Below w.heap.size w W → Calls Tryd.prog 57 #[.agg cs.toArray] W fun e w' => e = .returned (relv (shN ne) (coX ne od)) ∧ Below W.heap.size W w') := fun W hB => rco_x (h.below hB)
  have hN := shN_le ne
  have HR : Hid (Right (shN ne) (rfX ne fr)) := right_rfX ne fr
  have HC : Hid (Right (shN ne) (coX ne od)) := right_coX ne od
  generalize rfX ne fr = R at *
  generalize coX ne od = C at *
  generalize shN ne = N at *
  clear h
  go_enter Tryd.func58, Tryd.ntmps58
  go_wp2_with (first
    | (refine wpList_boxS rfl 51 _ rfl cs rfl ?_; intro W1 b1 F1 C1; have B1 := F_b F1; have hb1 : w.heap.size ≤ b1 := Nat.le_of_eq F1.at'.symm; clear F1)
    | (refine wpList_allocR rfl rfl ?_; intro W2 b2 F2 r2; replace B1 := Below.then B1 (F_b F2); have hb2 : b1 < b2 := (by rw [F2.at']; exact C1.lt); replace C1 := C1.fresh F2; clear F2))
  have HB : Hid (Below w.heap.size w W2) := B1
  have HC1 : Hid (IsS W2 b1 51 cs) := C1
  clear B1 C1
  refine region_invA 6 (fun a0 listed a' w' => ∃ x8 x9 x10 x11 x3 x4 : Value, a' = ((((((a0.put (some 8) x8).put (some 9) x9).put (some 10) x10).put (some 11) x11).put (some 3) x3).put (some 4) x4) ∧ Hid (Below W2.heap.size W2 w') ∧ (listed.getD 0 false = true → x8 = (.agg cs.toArray)) ∧ (listed.getD 1 false = true → x9 = (relv N R)) ∧ (listed.getD 2 false = true → x10 = (.agg cs.toArray)) ∧ (listed.getD 3 false = true → x11 = (relv N C)) ∧ (listed.getD 4 false = true → ∃ b9, x3 = .pointer (some ⟨b9, 0, none⟩) ∧ W2.heap.size ≤ b9 ∧ IsR w' b9 0 void) ∧ (listed.getD 5 false = true → ∃ b9, x4 = .pointer (some ⟨b9, 0, none⟩) ∧ W2.heap.size ≤ b9 ∧ IsR w' b9 0 void ∧ (listed.getD 4 false = true → ∀ b, x3 = .pointer (some ⟨b, 0, none⟩) → b ≠ b9))) (by kernel_rfl) (by kernel_rfl) ?i0 ?istep ?iend
  case i0 => exact ⟨_, _, _, _, _, _, by first | (simp only [Act.put, List.setIfInBounds_toArray, List.set_cons_succ, List.set_cons_zero]; done) | (simp only [Act.put, List.setIfInBounds_toArray, List.set_cons_succ, List.set_cons_zero]; rfl) | rfl, below_drew (Below.refl _ _), fun h => (not_rep h).elim, fun h => (not_rep h).elim, fun h => (not_rep h).elim, fun h => (not_rep h).elim, fun h => (not_rep h).elim, fun h => (not_rep h).elim⟩
  case istep =>
    rintro i listed a' w' hi hr ⟨x8, x9, x10, x11, x3, x4, rfl, HBw, d0, d1, d2, d3, d4, d5⟩
    obtain ⟨hun, oj, hoj, hwt⟩ := mem_ready.1 hr
    simp only [Act.put, List.setIfInBounds_toArray, List.set_cons_succ, List.set_cons_zero]
    have hcase : i = 0 ∨ i = 1 ∨ i = 2 ∨ i = 3 ∨ i = 4 ∨ i = 5 := by omega
    rcases hcase with rfl | rfl | rfl | rfl | rfl | rfl
    · have hoj2 := hoj
      obtain rfl := Option.some.inj hoj
      refine wpOp_value hoj2 rfl (v := (.agg cs.toArray)) (w' := w') (exec_loadSX rfl rfl (HC1.out.grown HBw.out) Tryd.underlying51 rfl (by rw [HL.out]; exact infoEx)) ?_
      exact ⟨(.agg cs.toArray), x9, x10, x11, x3, x4, by first | (simp only [Act.put, List.setIfInBounds_toArray, List.set_cons_succ, List.set_cons_zero]; done) | (simp only [Act.put, List.setIfInBounds_toArray, List.set_cons_succ, List.set_cons_zero]; rfl) | rfl, Below.then HBw.out (Below.refl _ _), fun _ => rfl, fun h => (d1 (keep (by decide) h)), fun h => (d2 (keep (by decide) h)), fun h => (d3 (keep (by decide) h)), fun h => (Exists.elim (d4 (keep (by decide) h)) fun b h => ⟨b, h.1, h.2.1, h.2.2.grown (Below.refl _ _)⟩), fun h => (Exists.elim (d5 (keep (by decide) h)) fun b h => ⟨b, h.1, h.2.1, h.2.2.1.grown (Below.refl _ _), fun hq => h.2.2.2 (keep (by decide) hq)⟩)⟩
    · have hoj2 := hoj
      obtain rfl := Option.some.inj hoj
      have e0 := d0 (hwt ⟨0, .data⟩ (by simp) rfl)
      subst e0
      refine wpOp_call hoj2 rfl (f := 56) (args := #[(.agg cs.toArray)]) (by first | rfl | (go_simp; done) | (simp [go_sem]; done) | (simp [execOp, go_sem]; done)) ?_
      refine (cR.out w' (Below.then HB.out HBw.out)).mono ?_
      rintro e w4 ⟨rfl, B4⟩
      refine ⟨_, rfl, ?_⟩
      exact ⟨(.agg cs.toArray), (relv N R), x10, x11, x3, x4, by first | (simp only [Act.put, List.setIfInBounds_toArray, List.set_cons_succ, List.set_cons_zero]; done) | (simp only [Act.put, List.setIfInBounds_toArray, List.set_cons_succ, List.set_cons_zero]; rfl) | rfl, Below.then HBw.out B4, fun h => (d0 (keep (by decide) h)), fun _ => rfl, fun h => (d2 (keep (by decide) h)), fun h => (d3 (keep (by decide) h)), fun h => (Exists.elim (d4 (keep (by decide) h)) fun b h => ⟨b, h.1, h.2.1, h.2.2.grown B4⟩), fun h => (Exists.elim (d5 (keep (by decide) h)) fun b h => ⟨b, h.1, h.2.1, h.2.2.1.grown B4, fun hq => h.2.2.2 (keep (by decide) hq)⟩)⟩
    · have hoj2 := hoj
      obtain rfl := Option.some.inj hoj
      refine wpOp_value hoj2 rfl (v := (.agg cs.toArray)) (w' := w') (exec_loadSX rfl rfl (HC1.out.grown HBw.out) Tryd.underlying51 rfl (by rw [HL.out]; exact infoEx)) ?_
      exact ⟨x8, x9, (.agg cs.toArray), x11, x3, x4, by first | (simp only [Act.put, List.setIfInBounds_toArray, List.set_cons_succ, List.set_cons_zero]; done) | (simp only [Act.put, List.setIfInBounds_toArray, List.set_cons_succ, List.set_cons_zero]; rfl) | rfl, Below.then HBw.out (Below.refl _ _), fun h => (d0 (keep (by decide) h)), fun h => (d1 (keep (by decide) h)), fun _ => rfl, fun h => (d3 (keep (by decide) h)), fun h => (Exists.elim (d4 (keep (by decide) h)) fun b h => ⟨b, h.1, h.2.1, h.2.2.grown (Below.refl _ _)⟩), fun h => (Exists.elim (d5 (keep (by decide) h)) fun b h => ⟨b, h.1, h.2.1, h.2.2.1.grown (Below.refl _ _), fun hq => h.2.2.2 (keep (by decide) hq)⟩)⟩
    · have hoj2 := hoj
      obtain rfl := Option.some.inj hoj
      have e2 := d2 (hwt ⟨2, .data⟩ (by simp) rfl)
      have e1 := d1 (hwt ⟨1, .chain⟩ (by simp) rfl)
      subst e2
      refine wpOp_call hoj2 rfl (f := 57) (args := #[(.agg cs.toArray)]) (by first | rfl | (go_simp; done) | (simp [go_sem]; done) | (simp [execOp, go_sem]; done)) ?_
      refine (cC.out w' (Below.then HB.out HBw.out)).mono ?_
      rintro e w4 ⟨rfl, B4⟩
      refine ⟨_, rfl, ?_⟩
      exact ⟨x8, x9, (.agg cs.toArray), (relv N C), x3, x4, by first | (simp only [Act.put, List.setIfInBounds_toArray, List.set_cons_succ, List.set_cons_zero]; done) | (simp only [Act.put, List.setIfInBounds_toArray, List.set_cons_succ, List.set_cons_zero]; rfl) | rfl, Below.then HBw.out B4, fun h => (d0 (keep (by decide) h)), fun h => (d1 (keep (by decide) h)), fun h => (d2 (keep (by decide) h)), fun _ => rfl, fun h => (Exists.elim (d4 (keep (by decide) h)) fun b h => ⟨b, h.1, h.2.1, h.2.2.grown B4⟩), fun h => (Exists.elim (d5 (keep (by decide) h)) fun b h => ⟨b, h.1, h.2.1, h.2.2.1.grown B4, fun hq => h.2.2.2 (keep (by decide) hq)⟩)⟩
    · have hoj2 := hoj
      obtain rfl := Option.some.inj hoj
      refine wpOp_value hoj2 rfl (exec_allocR rfl) ?_
      have B9a := F_b (Fresh.alloc w' (.cells (cellsR 0 void) 43))
      exact ⟨x8, x9, x10, x11, _, x4, by first | (simp only [Act.put, List.setIfInBounds_toArray, List.set_cons_succ, List.set_cons_zero]; done) | (simp only [Act.put, List.setIfInBounds_toArray, List.set_cons_succ, List.set_cons_zero]; rfl) | rfl, Below.then HBw.out B9a, fun h => (d0 (keep (by decide) h)), fun h => (d1 (keep (by decide) h)), fun h => (d2 (keep (by decide) h)), fun h => (d3 (keep (by decide) h)), fun _ => ⟨_, rfl, HBw.out.size, IsR.new w' 0 void⟩, fun h => (Exists.elim (d5 (keep (by decide) h)) fun b h => ⟨b, h.1, h.2.1, h.2.2.1.grown B9a, fun _ b8 e => by injection e with e; injection e with e; injection e with e; have := h.2.2.1.lt; omega⟩)⟩
    · have hoj2 := hoj
      obtain rfl := Option.some.inj hoj
      refine wpOp_value hoj2 rfl (exec_allocR rfl) ?_
      have B9 := F_b (Fresh.alloc w' (.cells (cellsR 0 void) 43))
      exact ⟨x8, x9, x10, x11, x3, _, by first | (simp only [Act.put, List.setIfInBounds_toArray, List.set_cons_succ, List.set_cons_zero]; done) | (simp only [Act.put, List.setIfInBounds_toArray, List.set_cons_succ, List.set_cons_zero]; rfl) | rfl, Below.then HBw.out B9, fun h => (d0 (keep (by decide) h)), fun h => (d1 (keep (by decide) h)), fun h => (d2 (keep (by decide) h)), fun h => (d3 (keep (by decide) h)), fun h => (Exists.elim (d4 (keep (by decide) h)) fun b h => ⟨b, h.1, h.2.1, h.2.2.grown B9⟩), fun _ => ⟨_, rfl, HBw.out.size, IsR.new w' 0 void, fun hq b8 e => by obtain ⟨b7, e7, _, h7⟩ := d4 (keep (by decide) hq); rw [e7] at e; injection e with e; injection e with e; injection e with e; have := h7.lt; omega⟩⟩
  case iend =>
    rintro a' w' ⟨x8, x9, x10, x11, x3, x4, rfl, HBw, d0, d1, d2, d3, d4, d5⟩
    replace d0 := d0 rfl
    replace d1 := d1 rfl
    replace d2 := d2 rfl
    replace d3 := d3 rfl
    replace d4 := d4 rfl
    replace d5 := d5 rfl
    simp only [Act.put, List.setIfInBounds_toArray, List.set_cons_succ, List.set_cons_zero]
    simp only [List.drop_succ_cons, List.drop_zero]
    obtain ⟨b3, rfl, hb3, r3⟩ := d4
    obtain ⟨b4, rfl, hb4, r4, hne⟩ := d5
    have hne34 : b3 ≠ b4 := hne rfl b3 rfl
    clear hne
    subst d0 d1 d2 d3
    have hl2 := r2.lt
    replace r2 := r2.grown HBw.out
    have B3 := Below.then HB.out HBw.out
    clear HBw HC1 cR cC
    have t1 : True := trivial
    have hbw := HB.out.size
    go_wp2_with (first
      | (clear t1; refine wpList_storeR rfl _ _ rfl rfl rfl r3 ?_; intro W5 U5 q3; replace B3 := U5.trans B3 (by omega); replace r2 := r2.upd U5 (by omega); replace r4 := r4.upd U5 (by omega); clear U5 r3)
      | (refine wpList_storeR rfl _ _ rfl rfl rfl r4 ?_; intro W6 U6 q4; replace B3 := U6.trans B3 (by omega); replace r2 := r2.upd U6 (by omega); replace q3 := q3.upd U6 (by omega); clear U6 r4; have yn := q3.n; have hl3 := q3.lt; have hl4 := q4.lt; have hlr := r2.lt)
      | (refine wpList_buildRN rfl _ rfl rfl ?_)
      | (refine wpList_allocR rfl rfl ?_; intro W7 b5 F7 r5; replace B3 := Below.then B3 (F_b F7); have hb5 : W6.heap.size ≤ b5 := Nat.le_of_eq F7.at'.symm; replace r2 := r2.fresh F7; replace q3 := q3.fresh F7; replace q4 := q4.fresh F7; clear F7)
      | (refine wpList_storeR rfl _ _ rfl rfl rfl r5 ?_; intro W8 U8 q5; replace B3 := U8.trans B3 (by omega); replace r2 := r2.upd U8 (by omega); replace q3 := q3.upd U8 (by omega); replace q4 := q4.upd U8 (by omega); clear U8 r5))
    clear yn
    go_loopw [6] (fun i wr => ∃ k : Nat, k ≤ N ∧ i = .int .i64 k ∧ IsR wr b5 N (frS N R C k 0) ∧ IsR wr b3 N R ∧ IsR wr b4 N C ∧ IsR wr b2 0 void ∧ Hid (Below w.heap.size w wr)) (fun i _ => N - (intOf i).toNat)
    case atStart => exact ⟨0, by omega, rfl, q5.congr (fun i _ => (frS_start N R C i).symm), q3, q4, r2, B3⟩
    case round =>
      clear q5 q3 q4 r2 B3
      obtain ⟨k, hk, rfl, q5, q3, q4, q2, BB⟩ := hrel
      have yn := q3.n
      by_cases hlt : k < N
      · have hki : (k : Int) < (N : Int) := by omega
        have hk64 : (k : Int) < 64 := by omega
        go_wp2
        clear yn
        go_loopw [7] (fun i wr => ∃ j : Nat, j ≤ N ∧ i = .int .i64 j ∧ IsR wr b5 N (frS N R C k j) ∧ IsR wr b3 N R ∧ IsR wr b4 N C ∧ IsR wr b2 0 void ∧ Hid (Below w.heap.size w wr)) (fun i _ => N - (intOf i).toNat)
        case atStart => exact ⟨0, by omega, rfl, q5, q3, q4, q2, BB⟩
        case round =>
          clear q5 q3 q4 q2 BB
          obtain ⟨j, hj, rfl, q5, q3, q4, q2, BB⟩ := hrel
          have yn := q3.n
          by_cases hjt : j < N
          · have hji : (j : Int) < (N : Int) := by omega
            have hj64 : (j : Int) < 64 := by omega
            have hrk := q3.row k (by omega)
            have hsb := shr_bits (R k) j (by omega) (HR.out.wf k)
            rw [bit_of] at hsb
            cases hb : (R k).testBit j with
            | true =>
              rw [hb] at hsb
              simp only [if_true] at hsb
              have hrow := q5.row j (by omega)
              rw [frS_at N R C k j hjt] at hrow
              have hcow := q4.row k (by omega)
              have hfz := q5.frozen (1 + j)
              have hfa := frA_lt R C HC.out.wf j k
              have hw := wrap_pow j (by omega)
              have hpl := pow_lt j (by omega)
              have hnt := u64_andNot_nat (C k) (2 ^ j) (HC.out.wf k) hpl
              change bits .andNot .u64 (C k : Int) ((2 ^ j : Nat) : Int) = ((notN (C k) (2 ^ j) : Nat) : Int) at hnt
              rw [← pow_cast] at hnt
              have hnl : notN (C k) (2 ^ j) < 18446744073709551616 := Nat.lt_of_le_of_lt Nat.and_le_left (HC.out.wf k)
              have hor := u64_or_nat (frA R C k j) (notN (C k) (2 ^ j)) hfa hnl
              have U := Upd.setCell wr b5 (1 + j) (.int .u64 ((frA R C k j ||| notN (C k) (2 ^ j) : Nat) : Int))
              have HQ : Hid (IsR (wr.setCell ⟨b5, 1 + j, none⟩ (.int .u64 ((frA R C k j ||| notN (C k) (2 ^ j) : Nat) : Int))) b5 N (frS N R C k (j + 1)) ∧ IsR (wr.setCell ⟨b5, 1 + j, none⟩ (.int .u64 ((frA R C k j ||| notN (C k) (2 ^ j) : Nat) : Int))) b3 N R ∧ IsR (wr.setCell ⟨b5, 1 + j, none⟩ (.int .u64 ((frA R C k j ||| notN (C k) (2 ^ j) : Nat) : Int))) b4 N C ∧ IsR (wr.setCell ⟨b5, 1 + j, none⟩ (.int .u64 ((frA R C k j ||| notN (C k) (2 ^ j) : Nat) : Int))) b2 0 void ∧ Below w.heap.size w (wr.setCell ⟨b5, 1 + j, none⟩ (.int .u64 ((frA R C k j ||| notN (C k) (2 ^ j) : Nat) : Int)))) :=
                ⟨(q5.set j _ (by omega)).congr (fun a _ => frS_yes N R C k j a hjt hb), q3.upd U (by omega), q4.upd U (by omega), q2.upd U (by omega), U.trans BB.out (by omega)⟩
              clear U q5 q3 q4 q2 BB hb hfa hpl hnl
              generalize frA R C k j ||| notN (C k) (2 ^ j) = z at *
              generalize notN (C k) (2 ^ j) = z1 at *
              generalize frA R C k j = z0 at *
              generalize R k = z2 at *
              generalize C k = z3 at *
              go_wp2
              go_region
              go_wp2
              go_roundw
              case rel => exact ⟨j + 1, by omega, by simp, HQ.out.1.drew, HQ.out.2.1.drew, HQ.out.2.2.1.drew, HQ.out.2.2.2.1.drew, HQ.out.2.2.2.2.drew⟩
              case measure => simp [intOf]; omega
            | false =>
              rw [hb] at hsb
              simp only [Bool.false_eq_true, if_false] at hsb
              have HQ : Hid (IsR wr b5 N (frS N R C k (j + 1))) := q5.congr (fun a _ => frS_no N R C k j a hb)
              clear hb q5
              generalize R k = z2 at *
              go_wp2
              go_roundw
              case rel => exact ⟨j + 1, by omega, by simp, HQ.out, q3, q4, q2, BB⟩
              case measure => simp [intOf]; omega
          · obtain rfl : j = N := by omega
            have HQ : Hid (IsR wr b5 j (frS j R C (k + 1) 0)) := q5.congr (fun a _ => frS_next j R C k a)
            clear q5
            go_wp2
            go_roundw
            case rel => exact ⟨k + 1, by omega, by simp, HQ.out, q3, q4, q2, BB⟩
            case measure => simp [intOf]; omega
      · obtain rfl : k = N := by omega
        have HQ := q5.congr (fun a ha => frS_end k hN R C HC.out a ha)
        clear q5
        go_wp2_with (first
          | (refine wpList_loadR rfl _ rfl rfl HQ ?_)
          | (refine wpList_storeR rfl _ _ rfl rfl rfl q2 ?_; intro W4 U4 r4))
        refine ret_R rfl rfl rfl r4 ⟨rfl, U4.trans BB.out (by omega)⟩
end Go.Proofs.YtdjlfpkemdiadaaDoor
/- The reference's stands. -/
namespace Go.Proofs.YtdjlfpkemdiadaaDoor
open Go.RowKit M
set_option linter.unusedSimpArgs false
set_option linter.unusedVariables false

theorem nowT {listed : Array Bool} {i : Nat} (h : i < listed.size) : (listed.setIfInBounds i true).getD i false = true := by simp [h]
theorem keepT {listed : Array Bool} {i j : Nat} (h : listed.getD j false = true) : (listed.setIfInBounds i true).getD j false = true := by
  by_cases hij : i = j
  · subst hij
    have hs : i < listed.size := by
      by_cases hs : i < listed.size
      · exact hs
      · simp [hs] at h
    exact nowT hs
  · rw [getD_set_ne false hij]; exact h
theorem exec_loadRg {w : World} {b o t : Nat} {cs : List Value} {op : Oper} {a : Act} {p : Operand} {d : TypeDesc} (ho : op.op = .load t p) (hp : a.eval p = .pointer (some ⟨b, o, none⟩)) (hc : w.rangeAt b o cs) (hu : Tryd.prog.underlying t = some d) (hd : d.isRow = true) (hi : (Tryd.prog.info? t).map (·.size) = some cs.length) : (execOp a.eval op).run Tryd.prog w = .ok (.value (.agg cs.toArray)) w := by
  have hr := run_loadAt_mid (P := Tryd.prog) w b o t cs d hc hu hd hi
  unfold execOp
  simp only [ho, hp, Sem.run_bind, hr, Result.andThen_ok, Sem.run_pure]
theorem wpList_loadGW {w : World} {b t : Nat} {cs : List Value} {ops : Array Oper} {rest : List Oper} {op : Oper} {a : Act} {Q : Exit → Act → World → Prop} (hw : Region.wanted op (yielded ops a.tmps) = true) (ty : TypeId) (x : Operand) (ho : op.op = .load ty x) (hx : a.eval x = .pointer (some ⟨b, 0, none⟩)) (hc : IsS w b t cs) (d : TypeDesc)
    (hu : Tryd.prog.underlying ty = some d) (hd : d.isRow = true) (hi : (Tryd.prog.info? ty).map (·.size) = some cs.length)
    (h : wpList Tryd.prog ops Q rest (a.put op.dst (.agg cs.toArray)) w) : wpList Tryd.prog ops Q (op :: rest) a w := by
  refine wpList_step fun K hK => ?_
  simp only [hw, if_true]
  have hr := run_loadAt_mid (P := Tryd.prog) w b 0 ty cs d (fun i u hu => by rw [Nat.zero_add]; exact (hc.cell i).trans hu) hu hd hi
  unfold Oper.wp execOp
  simp only [ho, hx, Sem.run_bind, hr, Result.andThen_ok, Sem.run_pure]
  exact hK _ _ h
/-- What stands answers, of two events and their places. -/
def stV (r : Int) (x y : EV) (p q : Nat) : Bool :=
  if r = 1 then oneB x y && decide (p < q)
  else if r = 2 then (mmB x && mmB y) && decide (x.loc = y.loc)
  else if r = 3 then oneB x y
  else if r = 4 then !oneB x y
  else ((((((oneB x y && decide (x.idx = y.idx)) && rdB x) && wrB y) && x.lck) && y.lck) && decide (p < q))
set_option maxRecDepth 100000 in
set_option maxHeartbeats 8000000 in
theorem stands_any (r : Int) (hr : r = 1 ∨ r = 2 ∨ r = 3 ∨ r = 4 ∨ r = 5) (x y : EV) (p q n bl ol cl : Nat) (w : World) (hp : p < n) (hq : q < n) (hn : n ≤ 64) (hbl : bl < w.heap.size) (hx : w.rangeAt bl (ol + p * 5) (evL x)) (hy : w.rangeAt bl (ol + q * 5) (evL y)) :
    Calls Tryd.prog 79 #[.slice (some ⟨bl, ol, none⟩) n cl, .int .i64 r, .int .i64 (p : Int), .int .i64 (q : Int)] w fun e w' => e = .returned (.bool (stV r x y p q)) ∧ Below w.heap.size w w' := by
  have HX : Hid (w.rangeAt bl (ol + p * 5) (evL x)) := hx
  have HY : Hid (w.rangeAt bl (ol + q * 5) (evL y)) := hy
  have HBL : Hid (bl < w.heap.size) := hbl
  have hpi : (p : Int) < n := by omega
  have hqi : (q : Int) < n := by omega
  clear hx hy hbl
  go_enter Tryd.func79, Tryd.ntmps79
  go_upto_region 1 with fail
  refine region_invA 11 (fun a0 listed a' w' => ∃ x13 x14 x15 x16 x17 x18 x19 x20 x9 x10 : Value, a' = ((((((((((a0.put (some 13) x13).put (some 14) x14).put (some 15) x15).put (some 16) x16).put (some 17) x17).put (some 18) x18).put (some 19) x19).put (some 20) x20).put (some 9) x9).put (some 10) x10) ∧ Hid (Below w.heap.size w w') ∧ (listed.getD 10 false = true → listed.getD 8 false = true) ∧ (listed.getD 0 false = true → x13 = (.slice (some ⟨bl, ol, none⟩) n cl)) ∧ (listed.getD 1 false = true → x14 = (.int .i64 (p : Int))) ∧ (listed.getD 2 false = true → x15 = (.pointer (some ⟨bl, ol + p * 5, none⟩))) ∧ (listed.getD 3 false = true → x16 = (.agg (evL x).toArray)) ∧ (listed.getD 4 false = true → x17 = (.slice (some ⟨bl, ol, none⟩) n cl)) ∧ (listed.getD 5 false = true → x18 = (.int .i64 (q : Int))) ∧ (listed.getD 6 false = true → x19 = (.pointer (some ⟨bl, ol + q * 5, none⟩))) ∧ (listed.getD 7 false = true → x20 = (.agg (evL y).toArray)) ∧ (listed.getD 8 false = true → ∃ b9, x9 = .pointer (some ⟨b9, 0, none⟩) ∧ w.heap.size ≤ b9 ∧ ∃ cs : List Value, cs.length = 5 ∧ IsS w' b9 46 cs) ∧ (listed.getD 9 false = true → ∃ b9, x10 = .pointer (some ⟨b9, 0, none⟩) ∧ w.heap.size ≤ b9 ∧ IsS w' b9 46 (evL ev0) ∧ (listed.getD 8 false = true → ∀ b, x9 = .pointer (some ⟨b, 0, none⟩) → b ≠ b9)) ∧ (listed.getD 10 false = true → ∃ b9, x9 = .pointer (some ⟨b9, 0, none⟩) ∧ IsS w' b9 46 (evL x))) (by kernel_rfl) (by kernel_rfl) ?i0 ?istep ?iend
  case i0 => exact ⟨_, _, _, _, _, _, _, _, _, _, by first | (simp only [Act.put, List.setIfInBounds_toArray, List.set_cons_succ, List.set_cons_zero]; done) | (simp only [Act.put, List.setIfInBounds_toArray, List.set_cons_succ, List.set_cons_zero]; rfl) | rfl, below_drew (Below.refl _ _), fun h => (not_rep h).elim, fun h => (not_rep h).elim, fun h => (not_rep h).elim, fun h => (not_rep h).elim, fun h => (not_rep h).elim, fun h => (not_rep h).elim, fun h => (not_rep h).elim, fun h => (not_rep h).elim, fun h => (not_rep h).elim, fun h => (not_rep h).elim, fun h => (not_rep h).elim, fun h => (not_rep h).elim⟩
  case istep =>
    rintro i listed a' w' hi hr ⟨x13, x14, x15, x16, x17, x18, x19, x20, x9, x10, rfl, HBw, m10_8, d0, d1, d2, d3, d4, d5, d6, d7, d8, d9, d10⟩
    obtain ⟨hun, oj, hoj, hwt⟩ := mem_ready.1 hr
    simp only [Act.put, List.setIfInBounds_toArray, List.set_cons_succ, List.set_cons_zero]
    have hcase : i = 0 ∨ i = 1 ∨ i = 2 ∨ i = 3 ∨ i = 4 ∨ i = 5 ∨ i = 6 ∨ i = 7 ∨ i = 8 ∨ i = 9 ∨ i = 10 := by omega
    rcases hcase with rfl | rfl | rfl | rfl | rfl | rfl | rfl | rfl | rfl | rfl | rfl
    · have hoj2 := hoj
      obtain rfl := Option.some.inj hoj
      refine wpOp_value hoj2 rfl (v := (.slice (some ⟨bl, ol, none⟩) n cl)) (w' := w') (by first | rfl | (go_simp; done) | (simp [go_sem]; done) | (simp [execOp, go_sem]; done)) ?_
      exact ⟨(.slice (some ⟨bl, ol, none⟩) n cl), x14, x15, x16, x17, x18, x19, x20, x9, x10, by first | (simp only [Act.put, List.setIfInBounds_toArray, List.set_cons_succ, List.set_cons_zero]; done) | (simp only [Act.put, List.setIfInBounds_toArray, List.set_cons_succ, List.set_cons_zero]; rfl) | rfl, Below.then HBw.out (Below.refl _ _), fun h => keepT (m10_8 (keep (by decide) h)), fun _ => rfl, fun h => (d1 (keep (by decide) h)), fun h => (d2 (keep (by decide) h)), fun h => (d3 (keep (by decide) h)), fun h => (d4 (keep (by decide) h)), fun h => (d5 (keep (by decide) h)), fun h => (d6 (keep (by decide) h)), fun h => (d7 (keep (by decide) h)), fun h => (Exists.elim (d8 (keep (by decide) h)) fun b h => ⟨b, h.1, h.2.1, Exists.elim h.2.2 fun cs h => ⟨cs, h.1, h.2.grown (Below.refl _ _)⟩⟩), fun h => (Exists.elim (d9 (keep (by decide) h)) fun b h => ⟨b, h.1, h.2.1, h.2.2.1.grown (Below.refl _ _), fun hq => h.2.2.2 (keep (by decide) hq)⟩), fun h => (Exists.elim (d10 (keep (by decide) h)) fun b h => ⟨b, h.1, h.2.grown (Below.refl _ _)⟩)⟩
    · have hoj2 := hoj
      obtain rfl := Option.some.inj hoj
      refine wpOp_value hoj2 rfl (v := (.int .i64 (p : Int))) (w' := w') (by first | rfl | (go_simp; done) | (simp [go_sem]; done) | (simp [execOp, go_sem]; done)) ?_
      exact ⟨x13, (.int .i64 (p : Int)), x15, x16, x17, x18, x19, x20, x9, x10, by first | (simp only [Act.put, List.setIfInBounds_toArray, List.set_cons_succ, List.set_cons_zero]; done) | (simp only [Act.put, List.setIfInBounds_toArray, List.set_cons_succ, List.set_cons_zero]; rfl) | rfl, Below.then HBw.out (Below.refl _ _), fun h => keepT (m10_8 (keep (by decide) h)), fun h => (d0 (keep (by decide) h)), fun _ => rfl, fun h => (d2 (keep (by decide) h)), fun h => (d3 (keep (by decide) h)), fun h => (d4 (keep (by decide) h)), fun h => (d5 (keep (by decide) h)), fun h => (d6 (keep (by decide) h)), fun h => (d7 (keep (by decide) h)), fun h => (Exists.elim (d8 (keep (by decide) h)) fun b h => ⟨b, h.1, h.2.1, Exists.elim h.2.2 fun cs h => ⟨cs, h.1, h.2.grown (Below.refl _ _)⟩⟩), fun h => (Exists.elim (d9 (keep (by decide) h)) fun b h => ⟨b, h.1, h.2.1, h.2.2.1.grown (Below.refl _ _), fun hq => h.2.2.2 (keep (by decide) hq)⟩), fun h => (Exists.elim (d10 (keep (by decide) h)) fun b h => ⟨b, h.1, h.2.grown (Below.refl _ _)⟩)⟩
    · have hoj2 := hoj
      obtain rfl := Option.some.inj hoj
      have e0 := d0 (hwt ⟨0, .data⟩ (by simp) rfl)
      have e1 := d1 (hwt ⟨1, .data⟩ (by simp) rfl)
      subst e0
      subst e1
      refine wpOp_value hoj2 rfl (v := (.pointer (some ⟨bl, ol + p * 5, none⟩))) (w' := w') (by first | (simp [execOp, go_sem, hpi]; done) | rfl) ?_
      exact ⟨(.slice (some ⟨bl, ol, none⟩) n cl), (.int .i64 (p : Int)), (.pointer (some ⟨bl, ol + p * 5, none⟩)), x16, x17, x18, x19, x20, x9, x10, by first | (simp only [Act.put, List.setIfInBounds_toArray, List.set_cons_succ, List.set_cons_zero]; done) | (simp only [Act.put, List.setIfInBounds_toArray, List.set_cons_succ, List.set_cons_zero]; rfl) | rfl, Below.then HBw.out (Below.refl _ _), fun h => keepT (m10_8 (keep (by decide) h)), fun h => (d0 (keep (by decide) h)), fun h => (d1 (keep (by decide) h)), fun _ => rfl, fun h => (d3 (keep (by decide) h)), fun h => (d4 (keep (by decide) h)), fun h => (d5 (keep (by decide) h)), fun h => (d6 (keep (by decide) h)), fun h => (d7 (keep (by decide) h)), fun h => (Exists.elim (d8 (keep (by decide) h)) fun b h => ⟨b, h.1, h.2.1, Exists.elim h.2.2 fun cs h => ⟨cs, h.1, h.2.grown (Below.refl _ _)⟩⟩), fun h => (Exists.elim (d9 (keep (by decide) h)) fun b h => ⟨b, h.1, h.2.1, h.2.2.1.grown (Below.refl _ _), fun hq => h.2.2.2 (keep (by decide) hq)⟩), fun h => (Exists.elim (d10 (keep (by decide) h)) fun b h => ⟨b, h.1, h.2.grown (Below.refl _ _)⟩)⟩
    · have hoj2 := hoj
      obtain rfl := Option.some.inj hoj
      have e2 := d2 (hwt ⟨2, .data⟩ (by simp) rfl)
      subst e2
      refine wpOp_value hoj2 rfl (v := (.agg (evL x).toArray)) (w' := w') (exec_loadRg rfl rfl (range_grow HX.out HBL.out HBw.out) Tryd.underlying46 rfl infoEv) ?_
      exact ⟨x13, x14, (.pointer (some ⟨bl, ol + p * 5, none⟩)), (.agg (evL x).toArray), x17, x18, x19, x20, x9, x10, by first | (simp only [Act.put, List.setIfInBounds_toArray, List.set_cons_succ, List.set_cons_zero]; done) | (simp only [Act.put, List.setIfInBounds_toArray, List.set_cons_succ, List.set_cons_zero]; rfl) | rfl, Below.then HBw.out (Below.refl _ _), fun h => keepT (m10_8 (keep (by decide) h)), fun h => (d0 (keep (by decide) h)), fun h => (d1 (keep (by decide) h)), fun h => (d2 (keep (by decide) h)), fun _ => rfl, fun h => (d4 (keep (by decide) h)), fun h => (d5 (keep (by decide) h)), fun h => (d6 (keep (by decide) h)), fun h => (d7 (keep (by decide) h)), fun h => (Exists.elim (d8 (keep (by decide) h)) fun b h => ⟨b, h.1, h.2.1, Exists.elim h.2.2 fun cs h => ⟨cs, h.1, h.2.grown (Below.refl _ _)⟩⟩), fun h => (Exists.elim (d9 (keep (by decide) h)) fun b h => ⟨b, h.1, h.2.1, h.2.2.1.grown (Below.refl _ _), fun hq => h.2.2.2 (keep (by decide) hq)⟩), fun h => (Exists.elim (d10 (keep (by decide) h)) fun b h => ⟨b, h.1, h.2.grown (Below.refl _ _)⟩)⟩
    · have hoj2 := hoj
      obtain rfl := Option.some.inj hoj
      refine wpOp_value hoj2 rfl (v := (.slice (some ⟨bl, ol, none⟩) n cl)) (w' := w') (by first | rfl | (go_simp; done) | (simp [go_sem]; done) | (simp [execOp, go_sem]; done)) ?_
      exact ⟨x13, x14, x15, x16, (.slice (some ⟨bl, ol, none⟩) n cl), x18, x19, x20, x9, x10, by first | (simp only [Act.put, List.setIfInBounds_toArray, List.set_cons_succ, List.set_cons_zero]; done) | (simp only [Act.put, List.setIfInBounds_toArray, List.set_cons_succ, List.set_cons_zero]; rfl) | rfl, Below.then HBw.out (Below.refl _ _), fun h => keepT (m10_8 (keep (by decide) h)), fun h => (d0 (keep (by decide) h)), fun h => (d1 (keep (by decide) h)), fun h => (d2 (keep (by decide) h)), fun h => (d3 (keep (by decide) h)), fun _ => rfl, fun h => (d5 (keep (by decide) h)), fun h => (d6 (keep (by decide) h)), fun h => (d7 (keep (by decide) h)), fun h => (Exists.elim (d8 (keep (by decide) h)) fun b h => ⟨b, h.1, h.2.1, Exists.elim h.2.2 fun cs h => ⟨cs, h.1, h.2.grown (Below.refl _ _)⟩⟩), fun h => (Exists.elim (d9 (keep (by decide) h)) fun b h => ⟨b, h.1, h.2.1, h.2.2.1.grown (Below.refl _ _), fun hq => h.2.2.2 (keep (by decide) hq)⟩), fun h => (Exists.elim (d10 (keep (by decide) h)) fun b h => ⟨b, h.1, h.2.grown (Below.refl _ _)⟩)⟩
    · have hoj2 := hoj
      obtain rfl := Option.some.inj hoj
      refine wpOp_value hoj2 rfl (v := (.int .i64 (q : Int))) (w' := w') (by first | rfl | (go_simp; done) | (simp [go_sem]; done) | (simp [execOp, go_sem]; done)) ?_
      exact ⟨x13, x14, x15, x16, x17, (.int .i64 (q : Int)), x19, x20, x9, x10, by first | (simp only [Act.put, List.setIfInBounds_toArray, List.set_cons_succ, List.set_cons_zero]; done) | (simp only [Act.put, List.setIfInBounds_toArray, List.set_cons_succ, List.set_cons_zero]; rfl) | rfl, Below.then HBw.out (Below.refl _ _), fun h => keepT (m10_8 (keep (by decide) h)), fun h => (d0 (keep (by decide) h)), fun h => (d1 (keep (by decide) h)), fun h => (d2 (keep (by decide) h)), fun h => (d3 (keep (by decide) h)), fun h => (d4 (keep (by decide) h)), fun _ => rfl, fun h => (d6 (keep (by decide) h)), fun h => (d7 (keep (by decide) h)), fun h => (Exists.elim (d8 (keep (by decide) h)) fun b h => ⟨b, h.1, h.2.1, Exists.elim h.2.2 fun cs h => ⟨cs, h.1, h.2.grown (Below.refl _ _)⟩⟩), fun h => (Exists.elim (d9 (keep (by decide) h)) fun b h => ⟨b, h.1, h.2.1, h.2.2.1.grown (Below.refl _ _), fun hq => h.2.2.2 (keep (by decide) hq)⟩), fun h => (Exists.elim (d10 (keep (by decide) h)) fun b h => ⟨b, h.1, h.2.grown (Below.refl _ _)⟩)⟩
    · have hoj2 := hoj
      obtain rfl := Option.some.inj hoj
      have e4 := d4 (hwt ⟨4, .data⟩ (by simp) rfl)
      have e5 := d5 (hwt ⟨5, .data⟩ (by simp) rfl)
      subst e4
      subst e5
      refine wpOp_value hoj2 rfl (v := (.pointer (some ⟨bl, ol + q * 5, none⟩))) (w' := w') (by first | (simp [execOp, go_sem, hqi]; done) | rfl) ?_
      exact ⟨x13, x14, x15, x16, (.slice (some ⟨bl, ol, none⟩) n cl), (.int .i64 (q : Int)), (.pointer (some ⟨bl, ol + q * 5, none⟩)), x20, x9, x10, by first | (simp only [Act.put, List.setIfInBounds_toArray, List.set_cons_succ, List.set_cons_zero]; done) | (simp only [Act.put, List.setIfInBounds_toArray, List.set_cons_succ, List.set_cons_zero]; rfl) | rfl, Below.then HBw.out (Below.refl _ _), fun h => keepT (m10_8 (keep (by decide) h)), fun h => (d0 (keep (by decide) h)), fun h => (d1 (keep (by decide) h)), fun h => (d2 (keep (by decide) h)), fun h => (d3 (keep (by decide) h)), fun h => (d4 (keep (by decide) h)), fun h => (d5 (keep (by decide) h)), fun _ => rfl, fun h => (d7 (keep (by decide) h)), fun h => (Exists.elim (d8 (keep (by decide) h)) fun b h => ⟨b, h.1, h.2.1, Exists.elim h.2.2 fun cs h => ⟨cs, h.1, h.2.grown (Below.refl _ _)⟩⟩), fun h => (Exists.elim (d9 (keep (by decide) h)) fun b h => ⟨b, h.1, h.2.1, h.2.2.1.grown (Below.refl _ _), fun hq => h.2.2.2 (keep (by decide) hq)⟩), fun h => (Exists.elim (d10 (keep (by decide) h)) fun b h => ⟨b, h.1, h.2.grown (Below.refl _ _)⟩)⟩
    · have hoj2 := hoj
      obtain rfl := Option.some.inj hoj
      have e6 := d6 (hwt ⟨6, .data⟩ (by simp) rfl)
      subst e6
      refine wpOp_value hoj2 rfl (v := (.agg (evL y).toArray)) (w' := w') (exec_loadRg rfl rfl (range_grow HY.out HBL.out HBw.out) Tryd.underlying46 rfl infoEv) ?_
      exact ⟨x13, x14, x15, x16, x17, x18, (.pointer (some ⟨bl, ol + q * 5, none⟩)), (.agg (evL y).toArray), x9, x10, by first | (simp only [Act.put, List.setIfInBounds_toArray, List.set_cons_succ, List.set_cons_zero]; done) | (simp only [Act.put, List.setIfInBounds_toArray, List.set_cons_succ, List.set_cons_zero]; rfl) | rfl, Below.then HBw.out (Below.refl _ _), fun h => keepT (m10_8 (keep (by decide) h)), fun h => (d0 (keep (by decide) h)), fun h => (d1 (keep (by decide) h)), fun h => (d2 (keep (by decide) h)), fun h => (d3 (keep (by decide) h)), fun h => (d4 (keep (by decide) h)), fun h => (d5 (keep (by decide) h)), fun h => (d6 (keep (by decide) h)), fun _ => rfl, fun h => (Exists.elim (d8 (keep (by decide) h)) fun b h => ⟨b, h.1, h.2.1, Exists.elim h.2.2 fun cs h => ⟨cs, h.1, h.2.grown (Below.refl _ _)⟩⟩), fun h => (Exists.elim (d9 (keep (by decide) h)) fun b h => ⟨b, h.1, h.2.1, h.2.2.1.grown (Below.refl _ _), fun hq => h.2.2.2 (keep (by decide) hq)⟩), fun h => (Exists.elim (d10 (keep (by decide) h)) fun b h => ⟨b, h.1, h.2.grown (Below.refl _ _)⟩)⟩
    · have hoj2 := hoj
      obtain rfl := Option.some.inj hoj
      refine wpOp_value hoj2 rfl (run_allocS 46 (evL ev0) zeroEv rfl _ w') ?_
      have B9a := F_b (Fresh.alloc w' (.cells (evL ev0).toArray 46))
      exact ⟨x13, x14, x15, x16, x17, x18, x19, x20, _, x10, by first | (simp only [Act.put, List.setIfInBounds_toArray, List.set_cons_succ, List.set_cons_zero]; done) | (simp only [Act.put, List.setIfInBounds_toArray, List.set_cons_succ, List.set_cons_zero]; rfl) | rfl, Below.then HBw.out B9a, fun h => keepT (m10_8 (keep (by decide) h)), fun h => (d0 (keep (by decide) h)), fun h => (d1 (keep (by decide) h)), fun h => (d2 (keep (by decide) h)), fun h => (d3 (keep (by decide) h)), fun h => (d4 (keep (by decide) h)), fun h => (d5 (keep (by decide) h)), fun h => (d6 (keep (by decide) h)), fun h => (d7 (keep (by decide) h)), fun _ => ⟨_, rfl, HBw.out.size, evL ev0, rfl, IsS.new w' 46 (evL ev0)⟩, fun h => (Exists.elim (d9 (keep (by decide) h)) fun b h => ⟨b, h.1, h.2.1, h.2.2.1.grown B9a, fun _ b8 e => by injection e with e; injection e with e; injection e with e; have := h.2.2.1.lt; omega⟩), fun h => absurd (m10_8 (keep (by decide) h)) (by rw [getD_both hun]; simp)⟩
    · have hoj2 := hoj
      obtain rfl := Option.some.inj hoj
      refine wpOp_value hoj2 rfl (run_allocS 46 (evL ev0) zeroEv rfl _ w') ?_
      have B9 := F_b (Fresh.alloc w' (.cells (evL ev0).toArray 46))
      exact ⟨x13, x14, x15, x16, x17, x18, x19, x20, x9, _, by first | (simp only [Act.put, List.setIfInBounds_toArray, List.set_cons_succ, List.set_cons_zero]; done) | (simp only [Act.put, List.setIfInBounds_toArray, List.set_cons_succ, List.set_cons_zero]; rfl) | rfl, Below.then HBw.out B9, fun h => keepT (m10_8 (keep (by decide) h)), fun h => (d0 (keep (by decide) h)), fun h => (d1 (keep (by decide) h)), fun h => (d2 (keep (by decide) h)), fun h => (d3 (keep (by decide) h)), fun h => (d4 (keep (by decide) h)), fun h => (d5 (keep (by decide) h)), fun h => (d6 (keep (by decide) h)), fun h => (d7 (keep (by decide) h)), fun h => (Exists.elim (d8 (keep (by decide) h)) fun b h => ⟨b, h.1, h.2.1, Exists.elim h.2.2 fun cs h => ⟨cs, h.1, h.2.grown B9⟩⟩), fun _ => ⟨_, rfl, HBw.out.size, IsS.new w' 46 (evL ev0), fun hq b8 e => by obtain ⟨b7, e7, _, cs7, _, h7⟩ := d8 (keep (by decide) hq); rw [e7] at e; injection e with e; injection e with e; injection e with e; have := h7.lt; omega⟩, fun h => (Exists.elim (d10 (keep (by decide) h)) fun b h => ⟨b, h.1, h.2.grown B9⟩)⟩
    · have hoj2 := hoj
      obtain rfl := Option.some.inj hoj
      have e8 := d8 (hwt ⟨8, .data⟩ (by simp) rfl)
      have e3 := d3 (hwt ⟨3, .data⟩ (by simp) rfl)
      obtain ⟨b9, rfl, hb9, cs9, hl9, I9⟩ := e8
      subst e3
      refine wpOp_storeW hoj2 rfl 46 _ _ rfl rfl (evL x) rfl I9 (by rw [hl9]; rfl) infoEv (ev_oneC _) ?_
      intro W6 U6 I6
      exact ⟨x13, x14, x15, _, x17, x18, x19, x20, _, x10, by first | (simp only [Act.put, List.setIfInBounds_toArray, List.set_cons_succ, List.set_cons_zero]; done) | (simp only [Act.put, List.setIfInBounds_toArray, List.set_cons_succ, List.set_cons_zero]; rfl) | rfl, U6.trans HBw.out hb9, fun _ => keepT (hwt ⟨8, .data⟩ (by simp) rfl), fun h => (d0 (keep (by decide) h)), fun h => (d1 (keep (by decide) h)), fun h => (d2 (keep (by decide) h)), fun h => (d3 (keep (by decide) h)), fun h => (d4 (keep (by decide) h)), fun h => (d5 (keep (by decide) h)), fun h => (d6 (keep (by decide) h)), fun h => (d7 (keep (by decide) h)), fun h => ⟨b9, rfl, hb9, evL x, rfl, I6⟩, fun h => (Exists.elim (d9 (keep (by decide) h)) fun b h => ⟨b, h.1, h.2.1, h.2.2.1.upd U6 (fun e => h.2.2.2 (hwt ⟨8, .data⟩ (by simp) rfl) b9 rfl e.symm), fun hq => h.2.2.2 (keep (by decide) hq)⟩), fun _ => ⟨b9, rfl, I6⟩⟩
  case iend =>
    rintro a' w' ⟨x13, x14, x15, x16, x17, x18, x19, x20, x9, x10, rfl, HBw, m10_8, d0, d1, d2, d3, d4, d5, d6, d7, d8, d9, d10⟩
    replace d0 := d0 rfl
    replace d1 := d1 rfl
    replace d2 := d2 rfl
    replace d3 := d3 rfl
    replace d4 := d4 rfl
    replace d5 := d5 rfl
    replace d6 := d6 rfl
    replace d7 := d7 rfl
    replace d8 := d8 rfl
    replace d9 := d9 rfl
    replace d10 := d10 rfl
    clear m10_8
    simp only [Act.put, List.setIfInBounds_toArray, List.set_cons_succ, List.set_cons_zero]
    simp only [List.drop_succ_cons, List.drop_zero]
    obtain ⟨b9, rfl, hb9, cs9, _, _⟩ := d8
    obtain ⟨b9x, eb9, q9⟩ := d10
    injection eb9 with eb9
    injection eb9 with eb9
    injection eb9 with eb9
    subst eb9
    obtain ⟨b10, rfl, hb10, r10, hne⟩ := d9
    have hne2 : b9 ≠ b10 := hne rfl b9 rfl
    clear hne
    subst d0 d1 d2 d3 d4 d5 d6 d7
    have B3 : Below w.heap.size w w' := HBw.out
    clear HBw
    go_upto_region 2 with (first
      | (refine wpList_storeW rfl 46 _ _ rfl rfl (evL y) rfl r10 rfl infoEv (ev_oneC _) ?_; intro W6 U6 q10; replace B3 := U6.trans B3 hb10; replace q9 := q9.upd U6 hne2; clear U6 r10))
    have HB6 : Hid (Below w.heap.size w W6) := B3
    have HQ : Hid (IsS W6 b9 46 (evL x) ∧ IsS W6 b10 46 (evL y)) := ⟨q9, q10⟩
    have c1 : W6.cell? ⟨b9, 1, none⟩ = some (.int .i64 x.thr) := q9.cell 1
    have c2 : W6.cell? ⟨b10, 1, none⟩ = some (.int .i64 y.thr) := q10.cell 1
    clear q9 q10 B3
    simp only [Act.put]
    go_cut [11] from 21 to 30 (fun v wx => v = .bool (oneB x y) ∧ wx = W6)
    case first =>
      have HV : Hid (oneB x y = (decide (x.thr = y.thr) && !decide (x.thr = -1))) := rfl
      by_cases h1 : x.thr = y.thr
      · by_cases h2 : x.thr = -1
        all_goals
          go_wp2
          go_meet
          exact ⟨by rw [HV.out]; simp [h1, h2]; rfl, rfl⟩
      · go_wp2
        go_meet
        exact ⟨by rw [HV.out]; simp [h1], rfl⟩
    case rest =>
      obtain ⟨rfl, rfl⟩ := hcut
      clear c1 c2
      go_upto_region 3 with fail
      try simp only [Act.put]
      go_cut [12] from 31 to 44 (fun v wx => v = .bool (mmB x && mmB y) ∧ Hid (Below w.heap.size w wx) ∧ Hid (IsS wx b9 46 (evL x) ∧ IsS wx b10 46 (evL y)))
      case first =>
        obtain ⟨QX, QY⟩ := HQ.out
        have BB := HB6.out
        have cwx := fun W => write_any x W
        have cwy := fun W => write_any y W
        have crx := fun W => read_any x W
        have cry := fun W => read_any y W
        have HV : Hid ((mmB x && mmB y) = ((wrB x || rdB x) && (wrB y || rdB y))) := rfl
        generalize (mmB x && mmB y) = mv at *
        generalize wrB x = v1 at *
        generalize rdB x = v2 at *
        generalize wrB y = v3 at *
        generalize rdB y = v4 at *
        clear HQ HB6 HX HY HBL
        cases v1
        · cases v2
          · refine grow_region ?_
            refine WG.row rfl 46 _ rfl rfl QX (evL x) rfl _ Tryd.underlying46 rfl infoEv ?_
            simp only [Act.put, List.setIfInBounds_toArray, List.set_cons_succ, List.set_cons_zero]
            refine WG.call rfl (fun w' _ => cwx w') (fun w => by first | rfl | (go_simp; done) | (simp [execOp, go_sem]; done)) ?_
            simp only [Act.put, List.setIfInBounds_toArray, List.set_cons_succ, List.set_cons_zero]
            refine WG.put rfl (v := (.bool false)) (fun w => by first | rfl | (go_simp; done) | (simp [execOp, go_sem]; done)) ?_
            simp only [Act.put, List.setIfInBounds_toArray, List.set_cons_succ, List.set_cons_zero]
            refine WG.row rfl 46 _ rfl rfl QX (evL x) rfl _ Tryd.underlying46 rfl infoEv ?_
            simp only [Act.put, List.setIfInBounds_toArray, List.set_cons_succ, List.set_cons_zero]
            refine WG.call rfl (fun w' _ => crx w') (fun w => by first | rfl | (go_simp; done) | (simp [execOp, go_sem]; done)) ?_
            simp only [Act.put, List.setIfInBounds_toArray, List.set_cons_succ, List.set_cons_zero]
            refine WG.put rfl (v := (.bool false)) (fun w => by first | rfl | (go_simp; done) | (simp [execOp, go_sem]; done)) ?_
            simp only [Act.put, List.setIfInBounds_toArray, List.set_cons_succ, List.set_cons_zero]
            refine WG.put rfl (v := (.bool false)) (fun w => by first | rfl | (go_simp; done) | (simp [execOp, go_sem]; done)) ?_
            simp only [Act.put, List.setIfInBounds_toArray, List.set_cons_succ, List.set_cons_zero]
            refine WG.skip rfl ?_
            simp only [Act.put, List.setIfInBounds_toArray, List.set_cons_succ, List.set_cons_zero]
            refine WG.skip rfl ?_
            simp only [Act.put, List.setIfInBounds_toArray, List.set_cons_succ, List.set_cons_zero]
            refine WG.skip rfl ?_
            simp only [Act.put, List.setIfInBounds_toArray, List.set_cons_succ, List.set_cons_zero]
            refine WG.skip rfl ?_
            simp only [Act.put, List.setIfInBounds_toArray, List.set_cons_succ, List.set_cons_zero]
            refine WG.skip rfl ?_
            simp only [Act.put, List.setIfInBounds_toArray, List.set_cons_succ, List.set_cons_zero]
            refine WG.skip rfl ?_
            simp only [Act.put, List.setIfInBounds_toArray, List.set_cons_succ, List.set_cons_zero]
            refine WG.put rfl (v := (.bool false)) (fun w => by first | rfl | (go_simp; done) | (simp [execOp, go_sem]; done)) ?_
            simp only [Act.put, List.setIfInBounds_toArray, List.set_cons_succ, List.set_cons_zero]
            refine WG.put rfl (v := (.bool false)) (fun w => by first | rfl | (go_simp; done) | (simp [execOp, go_sem]; done)) ?_
            simp only [Act.put, List.setIfInBounds_toArray, List.set_cons_succ, List.set_cons_zero]
            refine WG.nil (fun w7 hw7 => ?_)
            go_wp2
            go_meet
            exact ⟨by rw [HV.out]; simp, Below.then BB hw7, QX.grown hw7, QY.grown hw7⟩
          · cases v3
            · cases v4
              · refine grow_region ?_
                refine WG.row rfl 46 _ rfl rfl QX (evL x) rfl _ Tryd.underlying46 rfl infoEv ?_
                simp only [Act.put, List.setIfInBounds_toArray, List.set_cons_succ, List.set_cons_zero]
                refine WG.call rfl (fun w' _ => cwx w') (fun w => by first | rfl | (go_simp; done) | (simp [execOp, go_sem]; done)) ?_
                simp only [Act.put, List.setIfInBounds_toArray, List.set_cons_succ, List.set_cons_zero]
                refine WG.put rfl (v := (.bool false)) (fun w => by first | rfl | (go_simp; done) | (simp [execOp, go_sem]; done)) ?_
                simp only [Act.put, List.setIfInBounds_toArray, List.set_cons_succ, List.set_cons_zero]
                refine WG.row rfl 46 _ rfl rfl QX (evL x) rfl _ Tryd.underlying46 rfl infoEv ?_
                simp only [Act.put, List.setIfInBounds_toArray, List.set_cons_succ, List.set_cons_zero]
                refine WG.call rfl (fun w' _ => crx w') (fun w => by first | rfl | (go_simp; done) | (simp [execOp, go_sem]; done)) ?_
                simp only [Act.put, List.setIfInBounds_toArray, List.set_cons_succ, List.set_cons_zero]
                refine WG.put rfl (v := (.bool true)) (fun w => by first | rfl | (go_simp; done) | (simp [execOp, go_sem]; done)) ?_
                simp only [Act.put, List.setIfInBounds_toArray, List.set_cons_succ, List.set_cons_zero]
                refine WG.put rfl (v := (.bool true)) (fun w => by first | rfl | (go_simp; done) | (simp [execOp, go_sem]; done)) ?_
                simp only [Act.put, List.setIfInBounds_toArray, List.set_cons_succ, List.set_cons_zero]
                refine WG.row rfl 46 _ rfl rfl QY (evL y) rfl _ Tryd.underlying46 rfl infoEv ?_
                simp only [Act.put, List.setIfInBounds_toArray, List.set_cons_succ, List.set_cons_zero]
                refine WG.call rfl (fun w' _ => cwy w') (fun w => by first | rfl | (go_simp; done) | (simp [execOp, go_sem]; done)) ?_
                simp only [Act.put, List.setIfInBounds_toArray, List.set_cons_succ, List.set_cons_zero]
                refine WG.put rfl (v := (.bool false)) (fun w => by first | rfl | (go_simp; done) | (simp [execOp, go_sem]; done)) ?_
                simp only [Act.put, List.setIfInBounds_toArray, List.set_cons_succ, List.set_cons_zero]
                refine WG.row rfl 46 _ rfl rfl QY (evL y) rfl _ Tryd.underlying46 rfl infoEv ?_
                simp only [Act.put, List.setIfInBounds_toArray, List.set_cons_succ, List.set_cons_zero]
                refine WG.call rfl (fun w' _ => cry w') (fun w => by first | rfl | (go_simp; done) | (simp [execOp, go_sem]; done)) ?_
                simp only [Act.put, List.setIfInBounds_toArray, List.set_cons_succ, List.set_cons_zero]
                refine WG.put rfl (v := (.bool false)) (fun w => by first | rfl | (go_simp; done) | (simp [execOp, go_sem]; done)) ?_
                simp only [Act.put, List.setIfInBounds_toArray, List.set_cons_succ, List.set_cons_zero]
                refine WG.put rfl (v := (.bool false)) (fun w => by first | rfl | (go_simp; done) | (simp [execOp, go_sem]; done)) ?_
                simp only [Act.put, List.setIfInBounds_toArray, List.set_cons_succ, List.set_cons_zero]
                refine WG.put rfl (v := (.bool false)) (fun w => by first | rfl | (go_simp; done) | (simp [execOp, go_sem]; done)) ?_
                simp only [Act.put, List.setIfInBounds_toArray, List.set_cons_succ, List.set_cons_zero]
                refine WG.nil (fun w7 hw7 => ?_)
                go_wp2
                go_meet
                exact ⟨by rw [HV.out]; simp, Below.then BB hw7, QX.grown hw7, QY.grown hw7⟩
              · refine grow_region ?_
                refine WG.row rfl 46 _ rfl rfl QX (evL x) rfl _ Tryd.underlying46 rfl infoEv ?_
                simp only [Act.put, List.setIfInBounds_toArray, List.set_cons_succ, List.set_cons_zero]
                refine WG.call rfl (fun w' _ => cwx w') (fun w => by first | rfl | (go_simp; done) | (simp [execOp, go_sem]; done)) ?_
                simp only [Act.put, List.setIfInBounds_toArray, List.set_cons_succ, List.set_cons_zero]
                refine WG.put rfl (v := (.bool false)) (fun w => by first | rfl | (go_simp; done) | (simp [execOp, go_sem]; done)) ?_
                simp only [Act.put, List.setIfInBounds_toArray, List.set_cons_succ, List.set_cons_zero]
                refine WG.row rfl 46 _ rfl rfl QX (evL x) rfl _ Tryd.underlying46 rfl infoEv ?_
                simp only [Act.put, List.setIfInBounds_toArray, List.set_cons_succ, List.set_cons_zero]
                refine WG.call rfl (fun w' _ => crx w') (fun w => by first | rfl | (go_simp; done) | (simp [execOp, go_sem]; done)) ?_
                simp only [Act.put, List.setIfInBounds_toArray, List.set_cons_succ, List.set_cons_zero]
                refine WG.put rfl (v := (.bool true)) (fun w => by first | rfl | (go_simp; done) | (simp [execOp, go_sem]; done)) ?_
                simp only [Act.put, List.setIfInBounds_toArray, List.set_cons_succ, List.set_cons_zero]
                refine WG.put rfl (v := (.bool true)) (fun w => by first | rfl | (go_simp; done) | (simp [execOp, go_sem]; done)) ?_
                simp only [Act.put, List.setIfInBounds_toArray, List.set_cons_succ, List.set_cons_zero]
                refine WG.row rfl 46 _ rfl rfl QY (evL y) rfl _ Tryd.underlying46 rfl infoEv ?_
                simp only [Act.put, List.setIfInBounds_toArray, List.set_cons_succ, List.set_cons_zero]
                refine WG.call rfl (fun w' _ => cwy w') (fun w => by first | rfl | (go_simp; done) | (simp [execOp, go_sem]; done)) ?_
                simp only [Act.put, List.setIfInBounds_toArray, List.set_cons_succ, List.set_cons_zero]
                refine WG.put rfl (v := (.bool false)) (fun w => by first | rfl | (go_simp; done) | (simp [execOp, go_sem]; done)) ?_
                simp only [Act.put, List.setIfInBounds_toArray, List.set_cons_succ, List.set_cons_zero]
                refine WG.row rfl 46 _ rfl rfl QY (evL y) rfl _ Tryd.underlying46 rfl infoEv ?_
                simp only [Act.put, List.setIfInBounds_toArray, List.set_cons_succ, List.set_cons_zero]
                refine WG.call rfl (fun w' _ => cry w') (fun w => by first | rfl | (go_simp; done) | (simp [execOp, go_sem]; done)) ?_
                simp only [Act.put, List.setIfInBounds_toArray, List.set_cons_succ, List.set_cons_zero]
                refine WG.put rfl (v := (.bool true)) (fun w => by first | rfl | (go_simp; done) | (simp [execOp, go_sem]; done)) ?_
                simp only [Act.put, List.setIfInBounds_toArray, List.set_cons_succ, List.set_cons_zero]
                refine WG.put rfl (v := (.bool true)) (fun w => by first | rfl | (go_simp; done) | (simp [execOp, go_sem]; done)) ?_
                simp only [Act.put, List.setIfInBounds_toArray, List.set_cons_succ, List.set_cons_zero]
                refine WG.put rfl (v := (.bool true)) (fun w => by first | rfl | (go_simp; done) | (simp [execOp, go_sem]; done)) ?_
                simp only [Act.put, List.setIfInBounds_toArray, List.set_cons_succ, List.set_cons_zero]
                refine WG.nil (fun w7 hw7 => ?_)
                go_wp2
                go_meet
                exact ⟨by rw [HV.out]; simp, Below.then BB hw7, QX.grown hw7, QY.grown hw7⟩
            · refine grow_region ?_
              refine WG.row rfl 46 _ rfl rfl QX (evL x) rfl _ Tryd.underlying46 rfl infoEv ?_
              simp only [Act.put, List.setIfInBounds_toArray, List.set_cons_succ, List.set_cons_zero]
              refine WG.call rfl (fun w' _ => cwx w') (fun w => by first | rfl | (go_simp; done) | (simp [execOp, go_sem]; done)) ?_
              simp only [Act.put, List.setIfInBounds_toArray, List.set_cons_succ, List.set_cons_zero]
              refine WG.put rfl (v := (.bool false)) (fun w => by first | rfl | (go_simp; done) | (simp [execOp, go_sem]; done)) ?_
              simp only [Act.put, List.setIfInBounds_toArray, List.set_cons_succ, List.set_cons_zero]
              refine WG.row rfl 46 _ rfl rfl QX (evL x) rfl _ Tryd.underlying46 rfl infoEv ?_
              simp only [Act.put, List.setIfInBounds_toArray, List.set_cons_succ, List.set_cons_zero]
              refine WG.call rfl (fun w' _ => crx w') (fun w => by first | rfl | (go_simp; done) | (simp [execOp, go_sem]; done)) ?_
              simp only [Act.put, List.setIfInBounds_toArray, List.set_cons_succ, List.set_cons_zero]
              refine WG.put rfl (v := (.bool true)) (fun w => by first | rfl | (go_simp; done) | (simp [execOp, go_sem]; done)) ?_
              simp only [Act.put, List.setIfInBounds_toArray, List.set_cons_succ, List.set_cons_zero]
              refine WG.put rfl (v := (.bool true)) (fun w => by first | rfl | (go_simp; done) | (simp [execOp, go_sem]; done)) ?_
              simp only [Act.put, List.setIfInBounds_toArray, List.set_cons_succ, List.set_cons_zero]
              refine WG.row rfl 46 _ rfl rfl QY (evL y) rfl _ Tryd.underlying46 rfl infoEv ?_
              simp only [Act.put, List.setIfInBounds_toArray, List.set_cons_succ, List.set_cons_zero]
              refine WG.call rfl (fun w' _ => cwy w') (fun w => by first | rfl | (go_simp; done) | (simp [execOp, go_sem]; done)) ?_
              simp only [Act.put, List.setIfInBounds_toArray, List.set_cons_succ, List.set_cons_zero]
              refine WG.put rfl (v := (.bool true)) (fun w => by first | rfl | (go_simp; done) | (simp [execOp, go_sem]; done)) ?_
              simp only [Act.put, List.setIfInBounds_toArray, List.set_cons_succ, List.set_cons_zero]
              refine WG.skip rfl ?_
              simp only [Act.put, List.setIfInBounds_toArray, List.set_cons_succ, List.set_cons_zero]
              refine WG.skip rfl ?_
              simp only [Act.put, List.setIfInBounds_toArray, List.set_cons_succ, List.set_cons_zero]
              refine WG.put rfl (v := (.bool true)) (fun w => by first | rfl | (go_simp; done) | (simp [execOp, go_sem]; done)) ?_
              simp only [Act.put, List.setIfInBounds_toArray, List.set_cons_succ, List.set_cons_zero]
              refine WG.put rfl (v := (.bool true)) (fun w => by first | rfl | (go_simp; done) | (simp [execOp, go_sem]; done)) ?_
              simp only [Act.put, List.setIfInBounds_toArray, List.set_cons_succ, List.set_cons_zero]
              refine WG.put rfl (v := (.bool true)) (fun w => by first | rfl | (go_simp; done) | (simp [execOp, go_sem]; done)) ?_
              simp only [Act.put, List.setIfInBounds_toArray, List.set_cons_succ, List.set_cons_zero]
              refine WG.nil (fun w7 hw7 => ?_)
              go_wp2
              go_meet
              exact ⟨by rw [HV.out]; simp, Below.then BB hw7, QX.grown hw7, QY.grown hw7⟩
        · cases v3
          · cases v4
            · refine grow_region ?_
              refine WG.row rfl 46 _ rfl rfl QX (evL x) rfl _ Tryd.underlying46 rfl infoEv ?_
              simp only [Act.put, List.setIfInBounds_toArray, List.set_cons_succ, List.set_cons_zero]
              refine WG.call rfl (fun w' _ => cwx w') (fun w => by first | rfl | (go_simp; done) | (simp [execOp, go_sem]; done)) ?_
              simp only [Act.put, List.setIfInBounds_toArray, List.set_cons_succ, List.set_cons_zero]
              refine WG.put rfl (v := (.bool true)) (fun w => by first | rfl | (go_simp; done) | (simp [execOp, go_sem]; done)) ?_
              simp only [Act.put, List.setIfInBounds_toArray, List.set_cons_succ, List.set_cons_zero]
              refine WG.skip rfl ?_
              simp only [Act.put, List.setIfInBounds_toArray, List.set_cons_succ, List.set_cons_zero]
              refine WG.skip rfl ?_
              simp only [Act.put, List.setIfInBounds_toArray, List.set_cons_succ, List.set_cons_zero]
              refine WG.put rfl (v := (.bool true)) (fun w => by first | rfl | (go_simp; done) | (simp [execOp, go_sem]; done)) ?_
              simp only [Act.put, List.setIfInBounds_toArray, List.set_cons_succ, List.set_cons_zero]
              refine WG.put rfl (v := (.bool true)) (fun w => by first | rfl | (go_simp; done) | (simp [execOp, go_sem]; done)) ?_
              simp only [Act.put, List.setIfInBounds_toArray, List.set_cons_succ, List.set_cons_zero]
              refine WG.row rfl 46 _ rfl rfl QY (evL y) rfl _ Tryd.underlying46 rfl infoEv ?_
              simp only [Act.put, List.setIfInBounds_toArray, List.set_cons_succ, List.set_cons_zero]
              refine WG.call rfl (fun w' _ => cwy w') (fun w => by first | rfl | (go_simp; done) | (simp [execOp, go_sem]; done)) ?_
              simp only [Act.put, List.setIfInBounds_toArray, List.set_cons_succ, List.set_cons_zero]
              refine WG.put rfl (v := (.bool false)) (fun w => by first | rfl | (go_simp; done) | (simp [execOp, go_sem]; done)) ?_
              simp only [Act.put, List.setIfInBounds_toArray, List.set_cons_succ, List.set_cons_zero]
              refine WG.row rfl 46 _ rfl rfl QY (evL y) rfl _ Tryd.underlying46 rfl infoEv ?_
              simp only [Act.put, List.setIfInBounds_toArray, List.set_cons_succ, List.set_cons_zero]
              refine WG.call rfl (fun w' _ => cry w') (fun w => by first | rfl | (go_simp; done) | (simp [execOp, go_sem]; done)) ?_
              simp only [Act.put, List.setIfInBounds_toArray, List.set_cons_succ, List.set_cons_zero]
              refine WG.put rfl (v := (.bool false)) (fun w => by first | rfl | (go_simp; done) | (simp [execOp, go_sem]; done)) ?_
              simp only [Act.put, List.setIfInBounds_toArray, List.set_cons_succ, List.set_cons_zero]
              refine WG.put rfl (v := (.bool false)) (fun w => by first | rfl | (go_simp; done) | (simp [execOp, go_sem]; done)) ?_
              simp only [Act.put, List.setIfInBounds_toArray, List.set_cons_succ, List.set_cons_zero]
              refine WG.put rfl (v := (.bool false)) (fun w => by first | rfl | (go_simp; done) | (simp [execOp, go_sem]; done)) ?_
              simp only [Act.put, List.setIfInBounds_toArray, List.set_cons_succ, List.set_cons_zero]
              refine WG.nil (fun w7 hw7 => ?_)
              go_wp2
              go_meet
              exact ⟨by rw [HV.out]; simp, Below.then BB hw7, QX.grown hw7, QY.grown hw7⟩
            · refine grow_region ?_
              refine WG.row rfl 46 _ rfl rfl QX (evL x) rfl _ Tryd.underlying46 rfl infoEv ?_
              simp only [Act.put, List.setIfInBounds_toArray, List.set_cons_succ, List.set_cons_zero]
              refine WG.call rfl (fun w' _ => cwx w') (fun w => by first | rfl | (go_simp; done) | (simp [execOp, go_sem]; done)) ?_
              simp only [Act.put, List.setIfInBounds_toArray, List.set_cons_succ, List.set_cons_zero]
              refine WG.put rfl (v := (.bool true)) (fun w => by first | rfl | (go_simp; done) | (simp [execOp, go_sem]; done)) ?_
              simp only [Act.put, List.setIfInBounds_toArray, List.set_cons_succ, List.set_cons_zero]
              refine WG.skip rfl ?_
              simp only [Act.put, List.setIfInBounds_toArray, List.set_cons_succ, List.set_cons_zero]
              refine WG.skip rfl ?_
              simp only [Act.put, List.setIfInBounds_toArray, List.set_cons_succ, List.set_cons_zero]
              refine WG.put rfl (v := (.bool true)) (fun w => by first | rfl | (go_simp; done) | (simp [execOp, go_sem]; done)) ?_
              simp only [Act.put, List.setIfInBounds_toArray, List.set_cons_succ, List.set_cons_zero]
              refine WG.put rfl (v := (.bool true)) (fun w => by first | rfl | (go_simp; done) | (simp [execOp, go_sem]; done)) ?_
              simp only [Act.put, List.setIfInBounds_toArray, List.set_cons_succ, List.set_cons_zero]
              refine WG.row rfl 46 _ rfl rfl QY (evL y) rfl _ Tryd.underlying46 rfl infoEv ?_
              simp only [Act.put, List.setIfInBounds_toArray, List.set_cons_succ, List.set_cons_zero]
              refine WG.call rfl (fun w' _ => cwy w') (fun w => by first | rfl | (go_simp; done) | (simp [execOp, go_sem]; done)) ?_
              simp only [Act.put, List.setIfInBounds_toArray, List.set_cons_succ, List.set_cons_zero]
              refine WG.put rfl (v := (.bool false)) (fun w => by first | rfl | (go_simp; done) | (simp [execOp, go_sem]; done)) ?_
              simp only [Act.put, List.setIfInBounds_toArray, List.set_cons_succ, List.set_cons_zero]
              refine WG.row rfl 46 _ rfl rfl QY (evL y) rfl _ Tryd.underlying46 rfl infoEv ?_
              simp only [Act.put, List.setIfInBounds_toArray, List.set_cons_succ, List.set_cons_zero]
              refine WG.call rfl (fun w' _ => cry w') (fun w => by first | rfl | (go_simp; done) | (simp [execOp, go_sem]; done)) ?_
              simp only [Act.put, List.setIfInBounds_toArray, List.set_cons_succ, List.set_cons_zero]
              refine WG.put rfl (v := (.bool true)) (fun w => by first | rfl | (go_simp; done) | (simp [execOp, go_sem]; done)) ?_
              simp only [Act.put, List.setIfInBounds_toArray, List.set_cons_succ, List.set_cons_zero]
              refine WG.put rfl (v := (.bool true)) (fun w => by first | rfl | (go_simp; done) | (simp [execOp, go_sem]; done)) ?_
              simp only [Act.put, List.setIfInBounds_toArray, List.set_cons_succ, List.set_cons_zero]
              refine WG.put rfl (v := (.bool true)) (fun w => by first | rfl | (go_simp; done) | (simp [execOp, go_sem]; done)) ?_
              simp only [Act.put, List.setIfInBounds_toArray, List.set_cons_succ, List.set_cons_zero]
              refine WG.nil (fun w7 hw7 => ?_)
              go_wp2
              go_meet
              exact ⟨by rw [HV.out]; simp, Below.then BB hw7, QX.grown hw7, QY.grown hw7⟩
          · refine grow_region ?_
            refine WG.row rfl 46 _ rfl rfl QX (evL x) rfl _ Tryd.underlying46 rfl infoEv ?_
            simp only [Act.put, List.setIfInBounds_toArray, List.set_cons_succ, List.set_cons_zero]
            refine WG.call rfl (fun w' _ => cwx w') (fun w => by first | rfl | (go_simp; done) | (simp [execOp, go_sem]; done)) ?_
            simp only [Act.put, List.setIfInBounds_toArray, List.set_cons_succ, List.set_cons_zero]
            refine WG.put rfl (v := (.bool true)) (fun w => by first | rfl | (go_simp; done) | (simp [execOp, go_sem]; done)) ?_
            simp only [Act.put, List.setIfInBounds_toArray, List.set_cons_succ, List.set_cons_zero]
            refine WG.skip rfl ?_
            simp only [Act.put, List.setIfInBounds_toArray, List.set_cons_succ, List.set_cons_zero]
            refine WG.skip rfl ?_
            simp only [Act.put, List.setIfInBounds_toArray, List.set_cons_succ, List.set_cons_zero]
            refine WG.put rfl (v := (.bool true)) (fun w => by first | rfl | (go_simp; done) | (simp [execOp, go_sem]; done)) ?_
            simp only [Act.put, List.setIfInBounds_toArray, List.set_cons_succ, List.set_cons_zero]
            refine WG.put rfl (v := (.bool true)) (fun w => by first | rfl | (go_simp; done) | (simp [execOp, go_sem]; done)) ?_
            simp only [Act.put, List.setIfInBounds_toArray, List.set_cons_succ, List.set_cons_zero]
            refine WG.row rfl 46 _ rfl rfl QY (evL y) rfl _ Tryd.underlying46 rfl infoEv ?_
            simp only [Act.put, List.setIfInBounds_toArray, List.set_cons_succ, List.set_cons_zero]
            refine WG.call rfl (fun w' _ => cwy w') (fun w => by first | rfl | (go_simp; done) | (simp [execOp, go_sem]; done)) ?_
            simp only [Act.put, List.setIfInBounds_toArray, List.set_cons_succ, List.set_cons_zero]
            refine WG.put rfl (v := (.bool true)) (fun w => by first | rfl | (go_simp; done) | (simp [execOp, go_sem]; done)) ?_
            simp only [Act.put, List.setIfInBounds_toArray, List.set_cons_succ, List.set_cons_zero]
            refine WG.skip rfl ?_
            simp only [Act.put, List.setIfInBounds_toArray, List.set_cons_succ, List.set_cons_zero]
            refine WG.skip rfl ?_
            simp only [Act.put, List.setIfInBounds_toArray, List.set_cons_succ, List.set_cons_zero]
            refine WG.put rfl (v := (.bool true)) (fun w => by first | rfl | (go_simp; done) | (simp [execOp, go_sem]; done)) ?_
            simp only [Act.put, List.setIfInBounds_toArray, List.set_cons_succ, List.set_cons_zero]
            refine WG.put rfl (v := (.bool true)) (fun w => by first | rfl | (go_simp; done) | (simp [execOp, go_sem]; done)) ?_
            simp only [Act.put, List.setIfInBounds_toArray, List.set_cons_succ, List.set_cons_zero]
            refine WG.put rfl (v := (.bool true)) (fun w => by first | rfl | (go_simp; done) | (simp [execOp, go_sem]; done)) ?_
            simp only [Act.put, List.setIfInBounds_toArray, List.set_cons_succ, List.set_cons_zero]
            refine WG.nil (fun w7 hw7 => ?_)
            go_wp2
            go_meet
            exact ⟨by rw [HV.out]; simp, Below.then BB hw7, QX.grown hw7, QY.grown hw7⟩
      case rest =>
        obtain ⟨rfl, HB7, HQ7⟩ := hcut
        obtain ⟨QX, QY⟩ := HQ7.out
        have BB := HB7.out
        have ld3 : ∀ {b o : Nat} {v : Int} (w : World), w.cell? ⟨b, o, none⟩ = some (.int .i64 v) → (Instr.loadAt 3 (.pointer (some ⟨b, o, none⟩))).run Tryd.prog w = .ok (.int .i64 v) w := fun w h => by go_simp
        have ld4 : ∀ {b o : Nat} {v : Bool} (w : World), w.cell? ⟨b, o, none⟩ = some (.bool v) → (Instr.loadAt 4 (.pointer (some ⟨b, o, none⟩))).run Tryd.prog w = .ok (.bool v) w := fun w h => by go_simp
        clear HQ HB6 HX HY HBL HQ7 HB7
        rcases hr with rfl | rfl | rfl | rfl | rfl
        · have HV : Hid (stV 1 x y p q = (oneB x y && decide (p < q))) := rfl
          generalize oneB x y = v1 at *
          cases v1
          · go_wp2
            go_ret
            exact ⟨ret_bool (by rw [HV.out]; simp), BB⟩
          · by_cases hpq : p < q
            · have hpqi : (p : Int) < q := by omega
              go_wp2
              go_ret
              exact ⟨ret_bool (by rw [HV.out]; simp [hpq]), BB⟩
            · have hpqi : ¬ (p : Int) < q := by omega
              go_wp2
              go_ret
              exact ⟨ret_bool (by rw [HV.out]; simp [hpq]), BB⟩
        · have HV : Hid (stV 2 x y p q = ((mmB x && mmB y) && decide (x.loc = y.loc))) := rfl
          have cxl : wc.cell? ⟨b9, 3, none⟩ = some (.int .i64 x.loc) := QX.cell 3
          have cyl : wc.cell? ⟨b10, 3, none⟩ = some (.int .i64 y.loc) := QY.cell 3
          generalize (mmB x && mmB y) = v1 at *
          cases v1
          · go_wp2
            go_ret
            exact ⟨ret_bool (by rw [HV.out]; simp), BB⟩
          · by_cases hpq : x.loc = y.loc
            all_goals
              go_wp2
              go_ret
              exact ⟨ret_bool (by rw [HV.out]; simp [hpq]), BB⟩
        · have HV : Hid (stV 3 x y p q = oneB x y) := rfl
          generalize oneB x y = v1 at *
          go_wp2
          all_goals
            go_ret
            exact ⟨ret_bool (by rw [HV.out]), BB⟩
        · have HV : Hid (stV 4 x y p q = !oneB x y) := rfl
          generalize oneB x y = v1 at *
          cases v1
          all_goals
            go_wp2
            go_ret
            exact ⟨ret_bool (by rw [HV.out]; rfl), BB⟩
        · have HV : Hid (stV 5 x y p q = ((((((oneB x y && decide (x.idx = y.idx)) && rdB x) && wrB y) && x.lck) && y.lck) && decide (p < q))) := rfl
          have cxi : wc.cell? ⟨b9, 2, none⟩ = some (.int .i64 x.idx) := QX.cell 2
          have cyi : wc.cell? ⟨b10, 2, none⟩ = some (.int .i64 y.idx) := QY.cell 2
          have cxl : wc.cell? ⟨b9, 4, none⟩ = some (.bool x.lck) := QX.cell 4
          have cyl : wc.cell? ⟨b10, 4, none⟩ = some (.bool y.lck) := QY.cell 4
          have crx := fun W => read_any x W
          have cwy := fun W => write_any y W
          have hkx : (x.idx == y.idx) = decide (x.idx = y.idx) := rfl
          have hpq2 : decide ((p : Int) < q) = decide (p < q) := by simp
          generalize oneB x y = v1 at *
          generalize rdB x = v3 at *
          generalize wrB y = v4 at *
          go_upto_region 13 with fail
          try simp only [Act.put]
          cases v1
          · refine grow_region ?_
            refine WG.put rfl (v := (.bool false)) (fun w => by first | rfl | (go_simp; done) | (simp [execOp, go_sem]; done)) ?_
            simp only [Act.put, List.setIfInBounds_toArray, List.set_cons_succ, List.set_cons_zero]
            refine WG.put rfl (v := (.bool false)) (fun w => by first | rfl | (go_simp; done) | (simp [execOp, go_sem]; done)) ?_
            simp only [Act.put, List.setIfInBounds_toArray, List.set_cons_succ, List.set_cons_zero]
            refine WG.skip rfl ?_
            simp only [Act.put, List.setIfInBounds_toArray, List.set_cons_succ, List.set_cons_zero]
            refine WG.skip rfl ?_
            simp only [Act.put, List.setIfInBounds_toArray, List.set_cons_succ, List.set_cons_zero]
            refine WG.skip rfl ?_
            simp only [Act.put, List.setIfInBounds_toArray, List.set_cons_succ, List.set_cons_zero]
            refine WG.skip rfl ?_
            simp only [Act.put, List.setIfInBounds_toArray, List.set_cons_succ, List.set_cons_zero]
            refine WG.skip rfl ?_
            simp only [Act.put, List.setIfInBounds_toArray, List.set_cons_succ, List.set_cons_zero]
            refine WG.put rfl (v := (.bool false)) (fun w => by first | rfl | (go_simp; done) | (simp [execOp, go_sem]; done)) ?_
            simp only [Act.put, List.setIfInBounds_toArray, List.set_cons_succ, List.set_cons_zero]
            refine WG.put rfl (v := (.bool false)) (fun w => by first | rfl | (go_simp; done) | (simp [execOp, go_sem]; done)) ?_
            simp only [Act.put, List.setIfInBounds_toArray, List.set_cons_succ, List.set_cons_zero]
            refine WG.skip rfl ?_
            simp only [Act.put, List.setIfInBounds_toArray, List.set_cons_succ, List.set_cons_zero]
            refine WG.skip rfl ?_
            simp only [Act.put, List.setIfInBounds_toArray, List.set_cons_succ, List.set_cons_zero]
            refine WG.put rfl (v := (.bool false)) (fun w => by first | rfl | (go_simp; done) | (simp [execOp, go_sem]; done)) ?_
            simp only [Act.put, List.setIfInBounds_toArray, List.set_cons_succ, List.set_cons_zero]
            refine WG.put rfl (v := (.bool false)) (fun w => by first | rfl | (go_simp; done) | (simp [execOp, go_sem]; done)) ?_
            simp only [Act.put, List.setIfInBounds_toArray, List.set_cons_succ, List.set_cons_zero]
            refine WG.skip rfl ?_
            simp only [Act.put, List.setIfInBounds_toArray, List.set_cons_succ, List.set_cons_zero]
            refine WG.skip rfl ?_
            simp only [Act.put, List.setIfInBounds_toArray, List.set_cons_succ, List.set_cons_zero]
            refine WG.put rfl (v := (.bool false)) (fun w => by first | rfl | (go_simp; done) | (simp [execOp, go_sem]; done)) ?_
            simp only [Act.put, List.setIfInBounds_toArray, List.set_cons_succ, List.set_cons_zero]
            refine WG.put rfl (v := (.bool false)) (fun w => by first | rfl | (go_simp; done) | (simp [execOp, go_sem]; done)) ?_
            simp only [Act.put, List.setIfInBounds_toArray, List.set_cons_succ, List.set_cons_zero]
            refine WG.skip rfl ?_
            simp only [Act.put, List.setIfInBounds_toArray, List.set_cons_succ, List.set_cons_zero]
            refine WG.skip rfl ?_
            simp only [Act.put, List.setIfInBounds_toArray, List.set_cons_succ, List.set_cons_zero]
            refine WG.put rfl (v := (.bool false)) (fun w => by first | rfl | (go_simp; done) | (simp [execOp, go_sem]; done)) ?_
            simp only [Act.put, List.setIfInBounds_toArray, List.set_cons_succ, List.set_cons_zero]
            refine WG.put rfl (v := (.bool false)) (fun w => by first | rfl | (go_simp; done) | (simp [execOp, go_sem]; done)) ?_
            simp only [Act.put, List.setIfInBounds_toArray, List.set_cons_succ, List.set_cons_zero]
            refine WG.skip rfl ?_
            simp only [Act.put, List.setIfInBounds_toArray, List.set_cons_succ, List.set_cons_zero]
            refine WG.skip rfl ?_
            simp only [Act.put, List.setIfInBounds_toArray, List.set_cons_succ, List.set_cons_zero]
            refine WG.put rfl (v := (.bool false)) (fun w => by first | rfl | (go_simp; done) | (simp [execOp, go_sem]; done)) ?_
            simp only [Act.put, List.setIfInBounds_toArray, List.set_cons_succ, List.set_cons_zero]
            refine WG.put rfl (v := (.bool false)) (fun w => by first | rfl | (go_simp; done) | (simp [execOp, go_sem]; done)) ?_
            simp only [Act.put, List.setIfInBounds_toArray, List.set_cons_succ, List.set_cons_zero]
            refine WG.skip rfl ?_
            simp only [Act.put, List.setIfInBounds_toArray, List.set_cons_succ, List.set_cons_zero]
            refine WG.skip rfl ?_
            simp only [Act.put, List.setIfInBounds_toArray, List.set_cons_succ, List.set_cons_zero]
            refine WG.skip rfl ?_
            simp only [Act.put, List.setIfInBounds_toArray, List.set_cons_succ, List.set_cons_zero]
            refine WG.put rfl (v := (.bool false)) (fun w => by first | rfl | (go_simp; done) | (simp [execOp, go_sem]; done)) ?_
            simp only [Act.put, List.setIfInBounds_toArray, List.set_cons_succ, List.set_cons_zero]
            refine WG.put rfl (v := (.bool false)) (fun w => by first | rfl | (go_simp; done) | (simp [execOp, go_sem]; done)) ?_
            simp only [Act.put, List.setIfInBounds_toArray, List.set_cons_succ, List.set_cons_zero]
            refine WG.nil (fun w8 hw8 => ?_)
            go_wp2
            go_ret
            exact ⟨ret_bool (by rw [HV.out]; simp), Below.then BB hw8⟩
          · by_cases h2 : x.idx = y.idx
            · cases v3
              · refine grow_region ?_
                refine WG.put rfl (v := (.bool true)) (fun w => by first | rfl | (go_simp; done) | (simp [execOp, go_sem]; done) | (simp [execOp, go_sem, h2]; done)) ?_
                simp only [Act.put, List.setIfInBounds_toArray, List.set_cons_succ, List.set_cons_zero]
                refine WG.put rfl (v := (.bool true)) (fun w => by first | rfl | (go_simp; done) | (simp [execOp, go_sem]; done) | (simp [execOp, go_sem, h2]; done)) ?_
                simp only [Act.put, List.setIfInBounds_toArray, List.set_cons_succ, List.set_cons_zero]
                refine WG.put rfl (v := (.pointer (some ⟨b9, 2, none⟩))) (fun w => by first | rfl | (go_simp; done) | (simp [execOp, go_sem]; done) | (simp [execOp, go_sem, h2]; done)) ?_
                simp only [Act.put, List.setIfInBounds_toArray, List.set_cons_succ, List.set_cons_zero]
                refine WG.cell rfl 3 _ rfl rfl cxi ld3 ?_
                simp only [Act.put, List.setIfInBounds_toArray, List.set_cons_succ, List.set_cons_zero]
                refine WG.put rfl (v := (.pointer (some ⟨b10, 2, none⟩))) (fun w => by first | rfl | (go_simp; done) | (simp [execOp, go_sem]; done) | (simp [execOp, go_sem, h2]; done)) ?_
                simp only [Act.put, List.setIfInBounds_toArray, List.set_cons_succ, List.set_cons_zero]
                refine WG.cell rfl 3 _ rfl rfl cyi ld3 ?_
                simp only [Act.put, List.setIfInBounds_toArray, List.set_cons_succ, List.set_cons_zero]
                refine WG.put rfl (v := (.bool true)) (fun w => by first | rfl | (go_simp; done) | (simp [execOp, go_sem]; done) | (simp [execOp, go_sem, h2]; done)) ?_
                simp only [Act.put, List.setIfInBounds_toArray, List.set_cons_succ, List.set_cons_zero]
                refine WG.put rfl (v := (.bool true)) (fun w => by first | rfl | (go_simp; done) | (simp [execOp, go_sem]; done) | (simp [execOp, go_sem, h2]; done)) ?_
                simp only [Act.put, List.setIfInBounds_toArray, List.set_cons_succ, List.set_cons_zero]
                refine WG.put rfl (v := (.bool true)) (fun w => by first | rfl | (go_simp; done) | (simp [execOp, go_sem]; done) | (simp [execOp, go_sem, h2]; done)) ?_
                simp only [Act.put, List.setIfInBounds_toArray, List.set_cons_succ, List.set_cons_zero]
                refine WG.row rfl 46 _ rfl rfl QX (evL x) rfl _ Tryd.underlying46 rfl infoEv ?_
                simp only [Act.put, List.setIfInBounds_toArray, List.set_cons_succ, List.set_cons_zero]
                refine WG.call rfl (fun w' _ => crx w') (fun w => by first | rfl | (go_simp; done) | (simp [execOp, go_sem]; done)) ?_
                simp only [Act.put, List.setIfInBounds_toArray, List.set_cons_succ, List.set_cons_zero]
                refine WG.put rfl (v := (.bool false)) (fun w => by first | rfl | (go_simp; done) | (simp [execOp, go_sem]; done) | (simp [execOp, go_sem, h2]; done)) ?_
                simp only [Act.put, List.setIfInBounds_toArray, List.set_cons_succ, List.set_cons_zero]
                refine WG.put rfl (v := (.bool false)) (fun w => by first | rfl | (go_simp; done) | (simp [execOp, go_sem]; done) | (simp [execOp, go_sem, h2]; done)) ?_
                simp only [Act.put, List.setIfInBounds_toArray, List.set_cons_succ, List.set_cons_zero]
                refine WG.skip rfl ?_
                simp only [Act.put, List.setIfInBounds_toArray, List.set_cons_succ, List.set_cons_zero]
                refine WG.skip rfl ?_
                simp only [Act.put, List.setIfInBounds_toArray, List.set_cons_succ, List.set_cons_zero]
                refine WG.put rfl (v := (.bool false)) (fun w => by first | rfl | (go_simp; done) | (simp [execOp, go_sem]; done) | (simp [execOp, go_sem, h2]; done)) ?_
                simp only [Act.put, List.setIfInBounds_toArray, List.set_cons_succ, List.set_cons_zero]
                refine WG.put rfl (v := (.bool false)) (fun w => by first | rfl | (go_simp; done) | (simp [execOp, go_sem]; done) | (simp [execOp, go_sem, h2]; done)) ?_
                simp only [Act.put, List.setIfInBounds_toArray, List.set_cons_succ, List.set_cons_zero]
                refine WG.skip rfl ?_
                simp only [Act.put, List.setIfInBounds_toArray, List.set_cons_succ, List.set_cons_zero]
                refine WG.skip rfl ?_
                simp only [Act.put, List.setIfInBounds_toArray, List.set_cons_succ, List.set_cons_zero]
                refine WG.put rfl (v := (.bool false)) (fun w => by first | rfl | (go_simp; done) | (simp [execOp, go_sem]; done) | (simp [execOp, go_sem, h2]; done)) ?_
                simp only [Act.put, List.setIfInBounds_toArray, List.set_cons_succ, List.set_cons_zero]
                refine WG.put rfl (v := (.bool false)) (fun w => by first | rfl | (go_simp; done) | (simp [execOp, go_sem]; done) | (simp [execOp, go_sem, h2]; done)) ?_
                simp only [Act.put, List.setIfInBounds_toArray, List.set_cons_succ, List.set_cons_zero]
                refine WG.skip rfl ?_
                simp only [Act.put, List.setIfInBounds_toArray, List.set_cons_succ, List.set_cons_zero]
                refine WG.skip rfl ?_
                simp only [Act.put, List.setIfInBounds_toArray, List.set_cons_succ, List.set_cons_zero]
                refine WG.put rfl (v := (.bool false)) (fun w => by first | rfl | (go_simp; done) | (simp [execOp, go_sem]; done) | (simp [execOp, go_sem, h2]; done)) ?_
                simp only [Act.put, List.setIfInBounds_toArray, List.set_cons_succ, List.set_cons_zero]
                refine WG.put rfl (v := (.bool false)) (fun w => by first | rfl | (go_simp; done) | (simp [execOp, go_sem]; done) | (simp [execOp, go_sem, h2]; done)) ?_
                simp only [Act.put, List.setIfInBounds_toArray, List.set_cons_succ, List.set_cons_zero]
                refine WG.skip rfl ?_
                simp only [Act.put, List.setIfInBounds_toArray, List.set_cons_succ, List.set_cons_zero]
                refine WG.skip rfl ?_
                simp only [Act.put, List.setIfInBounds_toArray, List.set_cons_succ, List.set_cons_zero]
                refine WG.skip rfl ?_
                simp only [Act.put, List.setIfInBounds_toArray, List.set_cons_succ, List.set_cons_zero]
                refine WG.put rfl (v := (.bool false)) (fun w => by first | rfl | (go_simp; done) | (simp [execOp, go_sem]; done) | (simp [execOp, go_sem, h2]; done)) ?_
                simp only [Act.put, List.setIfInBounds_toArray, List.set_cons_succ, List.set_cons_zero]
                refine WG.put rfl (v := (.bool false)) (fun w => by first | rfl | (go_simp; done) | (simp [execOp, go_sem]; done) | (simp [execOp, go_sem, h2]; done)) ?_
                simp only [Act.put, List.setIfInBounds_toArray, List.set_cons_succ, List.set_cons_zero]
                refine WG.nil (fun w8 hw8 => ?_)
                go_wp2
                go_ret
                exact ⟨ret_bool (by rw [HV.out]; simp [h2]), Below.then BB hw8⟩
              · cases v4
                · refine grow_region ?_
                  refine WG.put rfl (v := (.bool true)) (fun w => by first | rfl | (go_simp; done) | (simp [execOp, go_sem]; done) | (simp [execOp, go_sem, h2]; done)) ?_
                  simp only [Act.put, List.setIfInBounds_toArray, List.set_cons_succ, List.set_cons_zero]
                  refine WG.put rfl (v := (.bool true)) (fun w => by first | rfl | (go_simp; done) | (simp [execOp, go_sem]; done) | (simp [execOp, go_sem, h2]; done)) ?_
                  simp only [Act.put, List.setIfInBounds_toArray, List.set_cons_succ, List.set_cons_zero]
                  refine WG.put rfl (v := (.pointer (some ⟨b9, 2, none⟩))) (fun w => by first | rfl | (go_simp; done) | (simp [execOp, go_sem]; done) | (simp [execOp, go_sem, h2]; done)) ?_
                  simp only [Act.put, List.setIfInBounds_toArray, List.set_cons_succ, List.set_cons_zero]
                  refine WG.cell rfl 3 _ rfl rfl cxi ld3 ?_
                  simp only [Act.put, List.setIfInBounds_toArray, List.set_cons_succ, List.set_cons_zero]
                  refine WG.put rfl (v := (.pointer (some ⟨b10, 2, none⟩))) (fun w => by first | rfl | (go_simp; done) | (simp [execOp, go_sem]; done) | (simp [execOp, go_sem, h2]; done)) ?_
                  simp only [Act.put, List.setIfInBounds_toArray, List.set_cons_succ, List.set_cons_zero]
                  refine WG.cell rfl 3 _ rfl rfl cyi ld3 ?_
                  simp only [Act.put, List.setIfInBounds_toArray, List.set_cons_succ, List.set_cons_zero]
                  refine WG.put rfl (v := (.bool true)) (fun w => by first | rfl | (go_simp; done) | (simp [execOp, go_sem]; done) | (simp [execOp, go_sem, h2]; done)) ?_
                  simp only [Act.put, List.setIfInBounds_toArray, List.set_cons_succ, List.set_cons_zero]
                  refine WG.put rfl (v := (.bool true)) (fun w => by first | rfl | (go_simp; done) | (simp [execOp, go_sem]; done) | (simp [execOp, go_sem, h2]; done)) ?_
                  simp only [Act.put, List.setIfInBounds_toArray, List.set_cons_succ, List.set_cons_zero]
                  refine WG.put rfl (v := (.bool true)) (fun w => by first | rfl | (go_simp; done) | (simp [execOp, go_sem]; done) | (simp [execOp, go_sem, h2]; done)) ?_
                  simp only [Act.put, List.setIfInBounds_toArray, List.set_cons_succ, List.set_cons_zero]
                  refine WG.row rfl 46 _ rfl rfl QX (evL x) rfl _ Tryd.underlying46 rfl infoEv ?_
                  simp only [Act.put, List.setIfInBounds_toArray, List.set_cons_succ, List.set_cons_zero]
                  refine WG.call rfl (fun w' _ => crx w') (fun w => by first | rfl | (go_simp; done) | (simp [execOp, go_sem]; done)) ?_
                  simp only [Act.put, List.setIfInBounds_toArray, List.set_cons_succ, List.set_cons_zero]
                  refine WG.put rfl (v := (.bool true)) (fun w => by first | rfl | (go_simp; done) | (simp [execOp, go_sem]; done) | (simp [execOp, go_sem, h2]; done)) ?_
                  simp only [Act.put, List.setIfInBounds_toArray, List.set_cons_succ, List.set_cons_zero]
                  refine WG.put rfl (v := (.bool true)) (fun w => by first | rfl | (go_simp; done) | (simp [execOp, go_sem]; done) | (simp [execOp, go_sem, h2]; done)) ?_
                  simp only [Act.put, List.setIfInBounds_toArray, List.set_cons_succ, List.set_cons_zero]
                  refine WG.row rfl 46 _ rfl rfl QY (evL y) rfl _ Tryd.underlying46 rfl infoEv ?_
                  simp only [Act.put, List.setIfInBounds_toArray, List.set_cons_succ, List.set_cons_zero]
                  refine WG.call rfl (fun w' _ => cwy w') (fun w => by first | rfl | (go_simp; done) | (simp [execOp, go_sem]; done)) ?_
                  simp only [Act.put, List.setIfInBounds_toArray, List.set_cons_succ, List.set_cons_zero]
                  refine WG.put rfl (v := (.bool false)) (fun w => by first | rfl | (go_simp; done) | (simp [execOp, go_sem]; done) | (simp [execOp, go_sem, h2]; done)) ?_
                  simp only [Act.put, List.setIfInBounds_toArray, List.set_cons_succ, List.set_cons_zero]
                  refine WG.put rfl (v := (.bool false)) (fun w => by first | rfl | (go_simp; done) | (simp [execOp, go_sem]; done) | (simp [execOp, go_sem, h2]; done)) ?_
                  simp only [Act.put, List.setIfInBounds_toArray, List.set_cons_succ, List.set_cons_zero]
                  refine WG.skip rfl ?_
                  simp only [Act.put, List.setIfInBounds_toArray, List.set_cons_succ, List.set_cons_zero]
                  refine WG.skip rfl ?_
                  simp only [Act.put, List.setIfInBounds_toArray, List.set_cons_succ, List.set_cons_zero]
                  refine WG.put rfl (v := (.bool false)) (fun w => by first | rfl | (go_simp; done) | (simp [execOp, go_sem]; done) | (simp [execOp, go_sem, h2]; done)) ?_
                  simp only [Act.put, List.setIfInBounds_toArray, List.set_cons_succ, List.set_cons_zero]
                  refine WG.put rfl (v := (.bool false)) (fun w => by first | rfl | (go_simp; done) | (simp [execOp, go_sem]; done) | (simp [execOp, go_sem, h2]; done)) ?_
                  simp only [Act.put, List.setIfInBounds_toArray, List.set_cons_succ, List.set_cons_zero]
                  refine WG.skip rfl ?_
                  simp only [Act.put, List.setIfInBounds_toArray, List.set_cons_succ, List.set_cons_zero]
                  refine WG.skip rfl ?_
                  simp only [Act.put, List.setIfInBounds_toArray, List.set_cons_succ, List.set_cons_zero]
                  refine WG.put rfl (v := (.bool false)) (fun w => by first | rfl | (go_simp; done) | (simp [execOp, go_sem]; done) | (simp [execOp, go_sem, h2]; done)) ?_
                  simp only [Act.put, List.setIfInBounds_toArray, List.set_cons_succ, List.set_cons_zero]
                  refine WG.put rfl (v := (.bool false)) (fun w => by first | rfl | (go_simp; done) | (simp [execOp, go_sem]; done) | (simp [execOp, go_sem, h2]; done)) ?_
                  simp only [Act.put, List.setIfInBounds_toArray, List.set_cons_succ, List.set_cons_zero]
                  refine WG.skip rfl ?_
                  simp only [Act.put, List.setIfInBounds_toArray, List.set_cons_succ, List.set_cons_zero]
                  refine WG.skip rfl ?_
                  simp only [Act.put, List.setIfInBounds_toArray, List.set_cons_succ, List.set_cons_zero]
                  refine WG.skip rfl ?_
                  simp only [Act.put, List.setIfInBounds_toArray, List.set_cons_succ, List.set_cons_zero]
                  refine WG.put rfl (v := (.bool false)) (fun w => by first | rfl | (go_simp; done) | (simp [execOp, go_sem]; done) | (simp [execOp, go_sem, h2]; done)) ?_
                  simp only [Act.put, List.setIfInBounds_toArray, List.set_cons_succ, List.set_cons_zero]
                  refine WG.put rfl (v := (.bool false)) (fun w => by first | rfl | (go_simp; done) | (simp [execOp, go_sem]; done) | (simp [execOp, go_sem, h2]; done)) ?_
                  simp only [Act.put, List.setIfInBounds_toArray, List.set_cons_succ, List.set_cons_zero]
                  refine WG.nil (fun w8 hw8 => ?_)
                  go_wp2
                  go_ret
                  exact ⟨ret_bool (by rw [HV.out]; simp [h2]), Below.then BB hw8⟩
                · cases hlx : x.lck
                  · rw [hlx] at cxl
                    refine grow_region ?_
                    refine WG.put rfl (v := (.bool true)) (fun w => by first | rfl | (go_simp; done) | (simp [execOp, go_sem]; done) | (simp [execOp, go_sem, h2]; done) | (simp [execOp, go_sem, hlx]; done)) ?_
                    simp only [Act.put, List.setIfInBounds_toArray, List.set_cons_succ, List.set_cons_zero]
                    refine WG.put rfl (v := (.bool true)) (fun w => by first | rfl | (go_simp; done) | (simp [execOp, go_sem]; done) | (simp [execOp, go_sem, h2]; done) | (simp [execOp, go_sem, hlx]; done)) ?_
                    simp only [Act.put, List.setIfInBounds_toArray, List.set_cons_succ, List.set_cons_zero]
                    refine WG.put rfl (v := (.pointer (some ⟨b9, 2, none⟩))) (fun w => by first | rfl | (go_simp; done) | (simp [execOp, go_sem]; done) | (simp [execOp, go_sem, h2]; done) | (simp [execOp, go_sem, hlx]; done)) ?_
                    simp only [Act.put, List.setIfInBounds_toArray, List.set_cons_succ, List.set_cons_zero]
                    refine WG.cell rfl 3 _ rfl rfl cxi ld3 ?_
                    simp only [Act.put, List.setIfInBounds_toArray, List.set_cons_succ, List.set_cons_zero]
                    refine WG.put rfl (v := (.pointer (some ⟨b10, 2, none⟩))) (fun w => by first | rfl | (go_simp; done) | (simp [execOp, go_sem]; done) | (simp [execOp, go_sem, h2]; done) | (simp [execOp, go_sem, hlx]; done)) ?_
                    simp only [Act.put, List.setIfInBounds_toArray, List.set_cons_succ, List.set_cons_zero]
                    refine WG.cell rfl 3 _ rfl rfl cyi ld3 ?_
                    simp only [Act.put, List.setIfInBounds_toArray, List.set_cons_succ, List.set_cons_zero]
                    refine WG.put rfl (v := (.bool true)) (fun w => by first | rfl | (go_simp; done) | (simp [execOp, go_sem]; done) | (simp [execOp, go_sem, h2]; done) | (simp [execOp, go_sem, hlx]; done)) ?_
                    simp only [Act.put, List.setIfInBounds_toArray, List.set_cons_succ, List.set_cons_zero]
                    refine WG.put rfl (v := (.bool true)) (fun w => by first | rfl | (go_simp; done) | (simp [execOp, go_sem]; done) | (simp [execOp, go_sem, h2]; done) | (simp [execOp, go_sem, hlx]; done)) ?_
                    simp only [Act.put, List.setIfInBounds_toArray, List.set_cons_succ, List.set_cons_zero]
                    refine WG.put rfl (v := (.bool true)) (fun w => by first | rfl | (go_simp; done) | (simp [execOp, go_sem]; done) | (simp [execOp, go_sem, h2]; done) | (simp [execOp, go_sem, hlx]; done)) ?_
                    simp only [Act.put, List.setIfInBounds_toArray, List.set_cons_succ, List.set_cons_zero]
                    refine WG.row rfl 46 _ rfl rfl QX (evL x) rfl _ Tryd.underlying46 rfl infoEv ?_
                    simp only [Act.put, List.setIfInBounds_toArray, List.set_cons_succ, List.set_cons_zero]
                    refine WG.call rfl (fun w' _ => crx w') (fun w => by first | rfl | (go_simp; done) | (simp [execOp, go_sem]; done)) ?_
                    simp only [Act.put, List.setIfInBounds_toArray, List.set_cons_succ, List.set_cons_zero]
                    refine WG.put rfl (v := (.bool true)) (fun w => by first | rfl | (go_simp; done) | (simp [execOp, go_sem]; done) | (simp [execOp, go_sem, h2]; done) | (simp [execOp, go_sem, hlx]; done)) ?_
                    simp only [Act.put, List.setIfInBounds_toArray, List.set_cons_succ, List.set_cons_zero]
                    refine WG.put rfl (v := (.bool true)) (fun w => by first | rfl | (go_simp; done) | (simp [execOp, go_sem]; done) | (simp [execOp, go_sem, h2]; done) | (simp [execOp, go_sem, hlx]; done)) ?_
                    simp only [Act.put, List.setIfInBounds_toArray, List.set_cons_succ, List.set_cons_zero]
                    refine WG.row rfl 46 _ rfl rfl QY (evL y) rfl _ Tryd.underlying46 rfl infoEv ?_
                    simp only [Act.put, List.setIfInBounds_toArray, List.set_cons_succ, List.set_cons_zero]
                    refine WG.call rfl (fun w' _ => cwy w') (fun w => by first | rfl | (go_simp; done) | (simp [execOp, go_sem]; done)) ?_
                    simp only [Act.put, List.setIfInBounds_toArray, List.set_cons_succ, List.set_cons_zero]
                    refine WG.put rfl (v := (.bool true)) (fun w => by first | rfl | (go_simp; done) | (simp [execOp, go_sem]; done) | (simp [execOp, go_sem, h2]; done) | (simp [execOp, go_sem, hlx]; done)) ?_
                    simp only [Act.put, List.setIfInBounds_toArray, List.set_cons_succ, List.set_cons_zero]
                    refine WG.put rfl (v := (.bool true)) (fun w => by first | rfl | (go_simp; done) | (simp [execOp, go_sem]; done) | (simp [execOp, go_sem, h2]; done) | (simp [execOp, go_sem, hlx]; done)) ?_
                    simp only [Act.put, List.setIfInBounds_toArray, List.set_cons_succ, List.set_cons_zero]
                    refine WG.put rfl (v := (.pointer (some ⟨b9, 4, none⟩))) (fun w => by first | rfl | (go_simp; done) | (simp [execOp, go_sem]; done) | (simp [execOp, go_sem, h2]; done) | (simp [execOp, go_sem, hlx]; done)) ?_
                    simp only [Act.put, List.setIfInBounds_toArray, List.set_cons_succ, List.set_cons_zero]
                    refine WG.cell rfl 4 _ rfl rfl cxl ld4 ?_
                    simp only [Act.put, List.setIfInBounds_toArray, List.set_cons_succ, List.set_cons_zero]
                    refine WG.put rfl (v := (.bool false)) (fun w => by first | rfl | (go_simp; done) | (simp [execOp, go_sem]; done) | (simp [execOp, go_sem, h2]; done) | (simp [execOp, go_sem, hlx]; done)) ?_
                    simp only [Act.put, List.setIfInBounds_toArray, List.set_cons_succ, List.set_cons_zero]
                    refine WG.put rfl (v := (.bool false)) (fun w => by first | rfl | (go_simp; done) | (simp [execOp, go_sem]; done) | (simp [execOp, go_sem, h2]; done) | (simp [execOp, go_sem, hlx]; done)) ?_
                    simp only [Act.put, List.setIfInBounds_toArray, List.set_cons_succ, List.set_cons_zero]
                    refine WG.skip rfl ?_
                    simp only [Act.put, List.setIfInBounds_toArray, List.set_cons_succ, List.set_cons_zero]
                    refine WG.skip rfl ?_
                    simp only [Act.put, List.setIfInBounds_toArray, List.set_cons_succ, List.set_cons_zero]
                    refine WG.put rfl (v := (.bool false)) (fun w => by first | rfl | (go_simp; done) | (simp [execOp, go_sem]; done) | (simp [execOp, go_sem, h2]; done) | (simp [execOp, go_sem, hlx]; done)) ?_
                    simp only [Act.put, List.setIfInBounds_toArray, List.set_cons_succ, List.set_cons_zero]
                    refine WG.put rfl (v := (.bool false)) (fun w => by first | rfl | (go_simp; done) | (simp [execOp, go_sem]; done) | (simp [execOp, go_sem, h2]; done) | (simp [execOp, go_sem, hlx]; done)) ?_
                    simp only [Act.put, List.setIfInBounds_toArray, List.set_cons_succ, List.set_cons_zero]
                    refine WG.skip rfl ?_
                    simp only [Act.put, List.setIfInBounds_toArray, List.set_cons_succ, List.set_cons_zero]
                    refine WG.skip rfl ?_
                    simp only [Act.put, List.setIfInBounds_toArray, List.set_cons_succ, List.set_cons_zero]
                    refine WG.skip rfl ?_
                    simp only [Act.put, List.setIfInBounds_toArray, List.set_cons_succ, List.set_cons_zero]
                    refine WG.put rfl (v := (.bool false)) (fun w => by first | rfl | (go_simp; done) | (simp [execOp, go_sem]; done) | (simp [execOp, go_sem, h2]; done) | (simp [execOp, go_sem, hlx]; done)) ?_
                    simp only [Act.put, List.setIfInBounds_toArray, List.set_cons_succ, List.set_cons_zero]
                    refine WG.put rfl (v := (.bool false)) (fun w => by first | rfl | (go_simp; done) | (simp [execOp, go_sem]; done) | (simp [execOp, go_sem, h2]; done) | (simp [execOp, go_sem, hlx]; done)) ?_
                    simp only [Act.put, List.setIfInBounds_toArray, List.set_cons_succ, List.set_cons_zero]
                    refine WG.nil (fun w8 hw8 => ?_)
                    go_wp2
                    go_ret
                    exact ⟨ret_bool (by rw [HV.out]; simp [h2, hlx]), Below.then BB hw8⟩
                  · rw [hlx] at cxl
                    cases hly : y.lck
                    · rw [hly] at cyl
                      refine grow_region ?_
                      refine WG.put rfl (v := (.bool true)) (fun w => by first | rfl | (go_simp; done) | (simp [execOp, go_sem]; done) | (simp [execOp, go_sem, h2]; done) | (simp [execOp, go_sem, hlx]; done) | (simp [execOp, go_sem, hly]; done)) ?_
                      simp only [Act.put, List.setIfInBounds_toArray, List.set_cons_succ, List.set_cons_zero]
                      refine WG.put rfl (v := (.bool true)) (fun w => by first | rfl | (go_simp; done) | (simp [execOp, go_sem]; done) | (simp [execOp, go_sem, h2]; done) | (simp [execOp, go_sem, hlx]; done) | (simp [execOp, go_sem, hly]; done)) ?_
                      simp only [Act.put, List.setIfInBounds_toArray, List.set_cons_succ, List.set_cons_zero]
                      refine WG.put rfl (v := (.pointer (some ⟨b9, 2, none⟩))) (fun w => by first | rfl | (go_simp; done) | (simp [execOp, go_sem]; done) | (simp [execOp, go_sem, h2]; done) | (simp [execOp, go_sem, hlx]; done) | (simp [execOp, go_sem, hly]; done)) ?_
                      simp only [Act.put, List.setIfInBounds_toArray, List.set_cons_succ, List.set_cons_zero]
                      refine WG.cell rfl 3 _ rfl rfl cxi ld3 ?_
                      simp only [Act.put, List.setIfInBounds_toArray, List.set_cons_succ, List.set_cons_zero]
                      refine WG.put rfl (v := (.pointer (some ⟨b10, 2, none⟩))) (fun w => by first | rfl | (go_simp; done) | (simp [execOp, go_sem]; done) | (simp [execOp, go_sem, h2]; done) | (simp [execOp, go_sem, hlx]; done) | (simp [execOp, go_sem, hly]; done)) ?_
                      simp only [Act.put, List.setIfInBounds_toArray, List.set_cons_succ, List.set_cons_zero]
                      refine WG.cell rfl 3 _ rfl rfl cyi ld3 ?_
                      simp only [Act.put, List.setIfInBounds_toArray, List.set_cons_succ, List.set_cons_zero]
                      refine WG.put rfl (v := (.bool true)) (fun w => by first | rfl | (go_simp; done) | (simp [execOp, go_sem]; done) | (simp [execOp, go_sem, h2]; done) | (simp [execOp, go_sem, hlx]; done) | (simp [execOp, go_sem, hly]; done)) ?_
                      simp only [Act.put, List.setIfInBounds_toArray, List.set_cons_succ, List.set_cons_zero]
                      refine WG.put rfl (v := (.bool true)) (fun w => by first | rfl | (go_simp; done) | (simp [execOp, go_sem]; done) | (simp [execOp, go_sem, h2]; done) | (simp [execOp, go_sem, hlx]; done) | (simp [execOp, go_sem, hly]; done)) ?_
                      simp only [Act.put, List.setIfInBounds_toArray, List.set_cons_succ, List.set_cons_zero]
                      refine WG.put rfl (v := (.bool true)) (fun w => by first | rfl | (go_simp; done) | (simp [execOp, go_sem]; done) | (simp [execOp, go_sem, h2]; done) | (simp [execOp, go_sem, hlx]; done) | (simp [execOp, go_sem, hly]; done)) ?_
                      simp only [Act.put, List.setIfInBounds_toArray, List.set_cons_succ, List.set_cons_zero]
                      refine WG.row rfl 46 _ rfl rfl QX (evL x) rfl _ Tryd.underlying46 rfl infoEv ?_
                      simp only [Act.put, List.setIfInBounds_toArray, List.set_cons_succ, List.set_cons_zero]
                      refine WG.call rfl (fun w' _ => crx w') (fun w => by first | rfl | (go_simp; done) | (simp [execOp, go_sem]; done)) ?_
                      simp only [Act.put, List.setIfInBounds_toArray, List.set_cons_succ, List.set_cons_zero]
                      refine WG.put rfl (v := (.bool true)) (fun w => by first | rfl | (go_simp; done) | (simp [execOp, go_sem]; done) | (simp [execOp, go_sem, h2]; done) | (simp [execOp, go_sem, hlx]; done) | (simp [execOp, go_sem, hly]; done)) ?_
                      simp only [Act.put, List.setIfInBounds_toArray, List.set_cons_succ, List.set_cons_zero]
                      refine WG.put rfl (v := (.bool true)) (fun w => by first | rfl | (go_simp; done) | (simp [execOp, go_sem]; done) | (simp [execOp, go_sem, h2]; done) | (simp [execOp, go_sem, hlx]; done) | (simp [execOp, go_sem, hly]; done)) ?_
                      simp only [Act.put, List.setIfInBounds_toArray, List.set_cons_succ, List.set_cons_zero]
                      refine WG.row rfl 46 _ rfl rfl QY (evL y) rfl _ Tryd.underlying46 rfl infoEv ?_
                      simp only [Act.put, List.setIfInBounds_toArray, List.set_cons_succ, List.set_cons_zero]
                      refine WG.call rfl (fun w' _ => cwy w') (fun w => by first | rfl | (go_simp; done) | (simp [execOp, go_sem]; done)) ?_
                      simp only [Act.put, List.setIfInBounds_toArray, List.set_cons_succ, List.set_cons_zero]
                      refine WG.put rfl (v := (.bool true)) (fun w => by first | rfl | (go_simp; done) | (simp [execOp, go_sem]; done) | (simp [execOp, go_sem, h2]; done) | (simp [execOp, go_sem, hlx]; done) | (simp [execOp, go_sem, hly]; done)) ?_
                      simp only [Act.put, List.setIfInBounds_toArray, List.set_cons_succ, List.set_cons_zero]
                      refine WG.put rfl (v := (.bool true)) (fun w => by first | rfl | (go_simp; done) | (simp [execOp, go_sem]; done) | (simp [execOp, go_sem, h2]; done) | (simp [execOp, go_sem, hlx]; done) | (simp [execOp, go_sem, hly]; done)) ?_
                      simp only [Act.put, List.setIfInBounds_toArray, List.set_cons_succ, List.set_cons_zero]
                      refine WG.put rfl (v := (.pointer (some ⟨b9, 4, none⟩))) (fun w => by first | rfl | (go_simp; done) | (simp [execOp, go_sem]; done) | (simp [execOp, go_sem, h2]; done) | (simp [execOp, go_sem, hlx]; done) | (simp [execOp, go_sem, hly]; done)) ?_
                      simp only [Act.put, List.setIfInBounds_toArray, List.set_cons_succ, List.set_cons_zero]
                      refine WG.cell rfl 4 _ rfl rfl cxl ld4 ?_
                      simp only [Act.put, List.setIfInBounds_toArray, List.set_cons_succ, List.set_cons_zero]
                      refine WG.put rfl (v := (.bool true)) (fun w => by first | rfl | (go_simp; done) | (simp [execOp, go_sem]; done) | (simp [execOp, go_sem, h2]; done) | (simp [execOp, go_sem, hlx]; done) | (simp [execOp, go_sem, hly]; done)) ?_
                      simp only [Act.put, List.setIfInBounds_toArray, List.set_cons_succ, List.set_cons_zero]
                      refine WG.put rfl (v := (.bool true)) (fun w => by first | rfl | (go_simp; done) | (simp [execOp, go_sem]; done) | (simp [execOp, go_sem, h2]; done) | (simp [execOp, go_sem, hlx]; done) | (simp [execOp, go_sem, hly]; done)) ?_
                      simp only [Act.put, List.setIfInBounds_toArray, List.set_cons_succ, List.set_cons_zero]
                      refine WG.put rfl (v := (.pointer (some ⟨b10, 4, none⟩))) (fun w => by first | rfl | (go_simp; done) | (simp [execOp, go_sem]; done) | (simp [execOp, go_sem, h2]; done) | (simp [execOp, go_sem, hlx]; done) | (simp [execOp, go_sem, hly]; done)) ?_
                      simp only [Act.put, List.setIfInBounds_toArray, List.set_cons_succ, List.set_cons_zero]
                      refine WG.cell rfl 4 _ rfl rfl cyl ld4 ?_
                      simp only [Act.put, List.setIfInBounds_toArray, List.set_cons_succ, List.set_cons_zero]
                      refine WG.put rfl (v := (.bool false)) (fun w => by first | rfl | (go_simp; done) | (simp [execOp, go_sem]; done) | (simp [execOp, go_sem, h2]; done) | (simp [execOp, go_sem, hlx]; done) | (simp [execOp, go_sem, hly]; done)) ?_
                      simp only [Act.put, List.setIfInBounds_toArray, List.set_cons_succ, List.set_cons_zero]
                      refine WG.put rfl (v := (.bool false)) (fun w => by first | rfl | (go_simp; done) | (simp [execOp, go_sem]; done) | (simp [execOp, go_sem, h2]; done) | (simp [execOp, go_sem, hlx]; done) | (simp [execOp, go_sem, hly]; done)) ?_
                      simp only [Act.put, List.setIfInBounds_toArray, List.set_cons_succ, List.set_cons_zero]
                      refine WG.skip rfl ?_
                      simp only [Act.put, List.setIfInBounds_toArray, List.set_cons_succ, List.set_cons_zero]
                      refine WG.skip rfl ?_
                      simp only [Act.put, List.setIfInBounds_toArray, List.set_cons_succ, List.set_cons_zero]
                      refine WG.skip rfl ?_
                      simp only [Act.put, List.setIfInBounds_toArray, List.set_cons_succ, List.set_cons_zero]
                      refine WG.put rfl (v := (.bool false)) (fun w => by first | rfl | (go_simp; done) | (simp [execOp, go_sem]; done) | (simp [execOp, go_sem, h2]; done) | (simp [execOp, go_sem, hlx]; done) | (simp [execOp, go_sem, hly]; done)) ?_
                      simp only [Act.put, List.setIfInBounds_toArray, List.set_cons_succ, List.set_cons_zero]
                      refine WG.put rfl (v := (.bool false)) (fun w => by first | rfl | (go_simp; done) | (simp [execOp, go_sem]; done) | (simp [execOp, go_sem, h2]; done) | (simp [execOp, go_sem, hlx]; done) | (simp [execOp, go_sem, hly]; done)) ?_
                      simp only [Act.put, List.setIfInBounds_toArray, List.set_cons_succ, List.set_cons_zero]
                      refine WG.nil (fun w8 hw8 => ?_)
                      go_wp2
                      go_ret
                      exact ⟨ret_bool (by rw [HV.out]; simp [h2, hlx, hly]), Below.then BB hw8⟩
                    · rw [hly] at cyl
                      by_cases h7 : p < q
                      · refine grow_region ?_
                        refine WG.put rfl (v := (.bool true)) (fun w => by first | rfl | (go_simp; done) | (simp [execOp, go_sem]; done) | (simp [execOp, go_sem, h2]; done) | (simp [execOp, go_sem, hlx]; done) | (simp [execOp, go_sem, hly]; done) | (simp [execOp, go_sem, h7]; done)) ?_
                        simp only [Act.put, List.setIfInBounds_toArray, List.set_cons_succ, List.set_cons_zero]
                        refine WG.put rfl (v := (.bool true)) (fun w => by first | rfl | (go_simp; done) | (simp [execOp, go_sem]; done) | (simp [execOp, go_sem, h2]; done) | (simp [execOp, go_sem, hlx]; done) | (simp [execOp, go_sem, hly]; done) | (simp [execOp, go_sem, h7]; done)) ?_
                        simp only [Act.put, List.setIfInBounds_toArray, List.set_cons_succ, List.set_cons_zero]
                        refine WG.put rfl (v := (.pointer (some ⟨b9, 2, none⟩))) (fun w => by first | rfl | (go_simp; done) | (simp [execOp, go_sem]; done) | (simp [execOp, go_sem, h2]; done) | (simp [execOp, go_sem, hlx]; done) | (simp [execOp, go_sem, hly]; done) | (simp [execOp, go_sem, h7]; done)) ?_
                        simp only [Act.put, List.setIfInBounds_toArray, List.set_cons_succ, List.set_cons_zero]
                        refine WG.cell rfl 3 _ rfl rfl cxi ld3 ?_
                        simp only [Act.put, List.setIfInBounds_toArray, List.set_cons_succ, List.set_cons_zero]
                        refine WG.put rfl (v := (.pointer (some ⟨b10, 2, none⟩))) (fun w => by first | rfl | (go_simp; done) | (simp [execOp, go_sem]; done) | (simp [execOp, go_sem, h2]; done) | (simp [execOp, go_sem, hlx]; done) | (simp [execOp, go_sem, hly]; done) | (simp [execOp, go_sem, h7]; done)) ?_
                        simp only [Act.put, List.setIfInBounds_toArray, List.set_cons_succ, List.set_cons_zero]
                        refine WG.cell rfl 3 _ rfl rfl cyi ld3 ?_
                        simp only [Act.put, List.setIfInBounds_toArray, List.set_cons_succ, List.set_cons_zero]
                        refine WG.put rfl (v := (.bool true)) (fun w => by first | rfl | (go_simp; done) | (simp [execOp, go_sem]; done) | (simp [execOp, go_sem, h2]; done) | (simp [execOp, go_sem, hlx]; done) | (simp [execOp, go_sem, hly]; done) | (simp [execOp, go_sem, h7]; done)) ?_
                        simp only [Act.put, List.setIfInBounds_toArray, List.set_cons_succ, List.set_cons_zero]
                        refine WG.put rfl (v := (.bool true)) (fun w => by first | rfl | (go_simp; done) | (simp [execOp, go_sem]; done) | (simp [execOp, go_sem, h2]; done) | (simp [execOp, go_sem, hlx]; done) | (simp [execOp, go_sem, hly]; done) | (simp [execOp, go_sem, h7]; done)) ?_
                        simp only [Act.put, List.setIfInBounds_toArray, List.set_cons_succ, List.set_cons_zero]
                        refine WG.put rfl (v := (.bool true)) (fun w => by first | rfl | (go_simp; done) | (simp [execOp, go_sem]; done) | (simp [execOp, go_sem, h2]; done) | (simp [execOp, go_sem, hlx]; done) | (simp [execOp, go_sem, hly]; done) | (simp [execOp, go_sem, h7]; done)) ?_
                        simp only [Act.put, List.setIfInBounds_toArray, List.set_cons_succ, List.set_cons_zero]
                        refine WG.row rfl 46 _ rfl rfl QX (evL x) rfl _ Tryd.underlying46 rfl infoEv ?_
                        simp only [Act.put, List.setIfInBounds_toArray, List.set_cons_succ, List.set_cons_zero]
                        refine WG.call rfl (fun w' _ => crx w') (fun w => by first | rfl | (go_simp; done) | (simp [execOp, go_sem]; done)) ?_
                        simp only [Act.put, List.setIfInBounds_toArray, List.set_cons_succ, List.set_cons_zero]
                        refine WG.put rfl (v := (.bool true)) (fun w => by first | rfl | (go_simp; done) | (simp [execOp, go_sem]; done) | (simp [execOp, go_sem, h2]; done) | (simp [execOp, go_sem, hlx]; done) | (simp [execOp, go_sem, hly]; done) | (simp [execOp, go_sem, h7]; done)) ?_
                        simp only [Act.put, List.setIfInBounds_toArray, List.set_cons_succ, List.set_cons_zero]
                        refine WG.put rfl (v := (.bool true)) (fun w => by first | rfl | (go_simp; done) | (simp [execOp, go_sem]; done) | (simp [execOp, go_sem, h2]; done) | (simp [execOp, go_sem, hlx]; done) | (simp [execOp, go_sem, hly]; done) | (simp [execOp, go_sem, h7]; done)) ?_
                        simp only [Act.put, List.setIfInBounds_toArray, List.set_cons_succ, List.set_cons_zero]
                        refine WG.row rfl 46 _ rfl rfl QY (evL y) rfl _ Tryd.underlying46 rfl infoEv ?_
                        simp only [Act.put, List.setIfInBounds_toArray, List.set_cons_succ, List.set_cons_zero]
                        refine WG.call rfl (fun w' _ => cwy w') (fun w => by first | rfl | (go_simp; done) | (simp [execOp, go_sem]; done)) ?_
                        simp only [Act.put, List.setIfInBounds_toArray, List.set_cons_succ, List.set_cons_zero]
                        refine WG.put rfl (v := (.bool true)) (fun w => by first | rfl | (go_simp; done) | (simp [execOp, go_sem]; done) | (simp [execOp, go_sem, h2]; done) | (simp [execOp, go_sem, hlx]; done) | (simp [execOp, go_sem, hly]; done) | (simp [execOp, go_sem, h7]; done)) ?_
                        simp only [Act.put, List.setIfInBounds_toArray, List.set_cons_succ, List.set_cons_zero]
                        refine WG.put rfl (v := (.bool true)) (fun w => by first | rfl | (go_simp; done) | (simp [execOp, go_sem]; done) | (simp [execOp, go_sem, h2]; done) | (simp [execOp, go_sem, hlx]; done) | (simp [execOp, go_sem, hly]; done) | (simp [execOp, go_sem, h7]; done)) ?_
                        simp only [Act.put, List.setIfInBounds_toArray, List.set_cons_succ, List.set_cons_zero]
                        refine WG.put rfl (v := (.pointer (some ⟨b9, 4, none⟩))) (fun w => by first | rfl | (go_simp; done) | (simp [execOp, go_sem]; done) | (simp [execOp, go_sem, h2]; done) | (simp [execOp, go_sem, hlx]; done) | (simp [execOp, go_sem, hly]; done) | (simp [execOp, go_sem, h7]; done)) ?_
                        simp only [Act.put, List.setIfInBounds_toArray, List.set_cons_succ, List.set_cons_zero]
                        refine WG.cell rfl 4 _ rfl rfl cxl ld4 ?_
                        simp only [Act.put, List.setIfInBounds_toArray, List.set_cons_succ, List.set_cons_zero]
                        refine WG.put rfl (v := (.bool true)) (fun w => by first | rfl | (go_simp; done) | (simp [execOp, go_sem]; done) | (simp [execOp, go_sem, h2]; done) | (simp [execOp, go_sem, hlx]; done) | (simp [execOp, go_sem, hly]; done) | (simp [execOp, go_sem, h7]; done)) ?_
                        simp only [Act.put, List.setIfInBounds_toArray, List.set_cons_succ, List.set_cons_zero]
                        refine WG.put rfl (v := (.bool true)) (fun w => by first | rfl | (go_simp; done) | (simp [execOp, go_sem]; done) | (simp [execOp, go_sem, h2]; done) | (simp [execOp, go_sem, hlx]; done) | (simp [execOp, go_sem, hly]; done) | (simp [execOp, go_sem, h7]; done)) ?_
                        simp only [Act.put, List.setIfInBounds_toArray, List.set_cons_succ, List.set_cons_zero]
                        refine WG.put rfl (v := (.pointer (some ⟨b10, 4, none⟩))) (fun w => by first | rfl | (go_simp; done) | (simp [execOp, go_sem]; done) | (simp [execOp, go_sem, h2]; done) | (simp [execOp, go_sem, hlx]; done) | (simp [execOp, go_sem, hly]; done) | (simp [execOp, go_sem, h7]; done)) ?_
                        simp only [Act.put, List.setIfInBounds_toArray, List.set_cons_succ, List.set_cons_zero]
                        refine WG.cell rfl 4 _ rfl rfl cyl ld4 ?_
                        simp only [Act.put, List.setIfInBounds_toArray, List.set_cons_succ, List.set_cons_zero]
                        refine WG.put rfl (v := (.bool true)) (fun w => by first | rfl | (go_simp; done) | (simp [execOp, go_sem]; done) | (simp [execOp, go_sem, h2]; done) | (simp [execOp, go_sem, hlx]; done) | (simp [execOp, go_sem, hly]; done) | (simp [execOp, go_sem, h7]; done)) ?_
                        simp only [Act.put, List.setIfInBounds_toArray, List.set_cons_succ, List.set_cons_zero]
                        refine WG.put rfl (v := (.bool true)) (fun w => by first | rfl | (go_simp; done) | (simp [execOp, go_sem]; done) | (simp [execOp, go_sem, h2]; done) | (simp [execOp, go_sem, hlx]; done) | (simp [execOp, go_sem, hly]; done) | (simp [execOp, go_sem, h7]; done)) ?_
                        simp only [Act.put, List.setIfInBounds_toArray, List.set_cons_succ, List.set_cons_zero]
                        refine WG.put rfl (v := (.int .i64 (p : Int))) (fun w => by first | rfl | (go_simp; done) | (simp [execOp, go_sem]; done) | (simp [execOp, go_sem, h2]; done) | (simp [execOp, go_sem, hlx]; done) | (simp [execOp, go_sem, hly]; done) | (simp [execOp, go_sem, h7]; done)) ?_
                        simp only [Act.put, List.setIfInBounds_toArray, List.set_cons_succ, List.set_cons_zero]
                        refine WG.put rfl (v := (.int .i64 (q : Int))) (fun w => by first | rfl | (go_simp; done) | (simp [execOp, go_sem]; done) | (simp [execOp, go_sem, h2]; done) | (simp [execOp, go_sem, hlx]; done) | (simp [execOp, go_sem, hly]; done) | (simp [execOp, go_sem, h7]; done)) ?_
                        simp only [Act.put, List.setIfInBounds_toArray, List.set_cons_succ, List.set_cons_zero]
                        refine WG.put rfl (v := (.bool true)) (fun w => by first | rfl | (go_simp; done) | (simp [execOp, go_sem]; done) | (simp [execOp, go_sem, h2]; done) | (simp [execOp, go_sem, hlx]; done) | (simp [execOp, go_sem, hly]; done) | (simp [execOp, go_sem, h7]; done)) ?_
                        simp only [Act.put, List.setIfInBounds_toArray, List.set_cons_succ, List.set_cons_zero]
                        refine WG.put rfl (v := (.bool true)) (fun w => by first | rfl | (go_simp; done) | (simp [execOp, go_sem]; done) | (simp [execOp, go_sem, h2]; done) | (simp [execOp, go_sem, hlx]; done) | (simp [execOp, go_sem, hly]; done) | (simp [execOp, go_sem, h7]; done)) ?_
                        simp only [Act.put, List.setIfInBounds_toArray, List.set_cons_succ, List.set_cons_zero]
                        refine WG.put rfl (v := (.bool true)) (fun w => by first | rfl | (go_simp; done) | (simp [execOp, go_sem]; done) | (simp [execOp, go_sem, h2]; done) | (simp [execOp, go_sem, hlx]; done) | (simp [execOp, go_sem, hly]; done) | (simp [execOp, go_sem, h7]; done)) ?_
                        simp only [Act.put, List.setIfInBounds_toArray, List.set_cons_succ, List.set_cons_zero]
                        refine WG.nil (fun w8 hw8 => ?_)
                        go_wp2
                        go_ret
                        exact ⟨ret_bool (by rw [HV.out]; simp [h2, hlx, hly, h7]), Below.then BB hw8⟩
                      · refine grow_region ?_
                        refine WG.put rfl (v := (.bool true)) (fun w => by first | rfl | (go_simp; done) | (simp [execOp, go_sem]; done) | (simp [execOp, go_sem, h2]; done) | (simp [execOp, go_sem, hlx]; done) | (simp [execOp, go_sem, hly]; done) | (simp [execOp, go_sem, h7]; done)) ?_
                        simp only [Act.put, List.setIfInBounds_toArray, List.set_cons_succ, List.set_cons_zero]
                        refine WG.put rfl (v := (.bool true)) (fun w => by first | rfl | (go_simp; done) | (simp [execOp, go_sem]; done) | (simp [execOp, go_sem, h2]; done) | (simp [execOp, go_sem, hlx]; done) | (simp [execOp, go_sem, hly]; done) | (simp [execOp, go_sem, h7]; done)) ?_
                        simp only [Act.put, List.setIfInBounds_toArray, List.set_cons_succ, List.set_cons_zero]
                        refine WG.put rfl (v := (.pointer (some ⟨b9, 2, none⟩))) (fun w => by first | rfl | (go_simp; done) | (simp [execOp, go_sem]; done) | (simp [execOp, go_sem, h2]; done) | (simp [execOp, go_sem, hlx]; done) | (simp [execOp, go_sem, hly]; done) | (simp [execOp, go_sem, h7]; done)) ?_
                        simp only [Act.put, List.setIfInBounds_toArray, List.set_cons_succ, List.set_cons_zero]
                        refine WG.cell rfl 3 _ rfl rfl cxi ld3 ?_
                        simp only [Act.put, List.setIfInBounds_toArray, List.set_cons_succ, List.set_cons_zero]
                        refine WG.put rfl (v := (.pointer (some ⟨b10, 2, none⟩))) (fun w => by first | rfl | (go_simp; done) | (simp [execOp, go_sem]; done) | (simp [execOp, go_sem, h2]; done) | (simp [execOp, go_sem, hlx]; done) | (simp [execOp, go_sem, hly]; done) | (simp [execOp, go_sem, h7]; done)) ?_
                        simp only [Act.put, List.setIfInBounds_toArray, List.set_cons_succ, List.set_cons_zero]
                        refine WG.cell rfl 3 _ rfl rfl cyi ld3 ?_
                        simp only [Act.put, List.setIfInBounds_toArray, List.set_cons_succ, List.set_cons_zero]
                        refine WG.put rfl (v := (.bool true)) (fun w => by first | rfl | (go_simp; done) | (simp [execOp, go_sem]; done) | (simp [execOp, go_sem, h2]; done) | (simp [execOp, go_sem, hlx]; done) | (simp [execOp, go_sem, hly]; done) | (simp [execOp, go_sem, h7]; done)) ?_
                        simp only [Act.put, List.setIfInBounds_toArray, List.set_cons_succ, List.set_cons_zero]
                        refine WG.put rfl (v := (.bool true)) (fun w => by first | rfl | (go_simp; done) | (simp [execOp, go_sem]; done) | (simp [execOp, go_sem, h2]; done) | (simp [execOp, go_sem, hlx]; done) | (simp [execOp, go_sem, hly]; done) | (simp [execOp, go_sem, h7]; done)) ?_
                        simp only [Act.put, List.setIfInBounds_toArray, List.set_cons_succ, List.set_cons_zero]
                        refine WG.put rfl (v := (.bool true)) (fun w => by first | rfl | (go_simp; done) | (simp [execOp, go_sem]; done) | (simp [execOp, go_sem, h2]; done) | (simp [execOp, go_sem, hlx]; done) | (simp [execOp, go_sem, hly]; done) | (simp [execOp, go_sem, h7]; done)) ?_
                        simp only [Act.put, List.setIfInBounds_toArray, List.set_cons_succ, List.set_cons_zero]
                        refine WG.row rfl 46 _ rfl rfl QX (evL x) rfl _ Tryd.underlying46 rfl infoEv ?_
                        simp only [Act.put, List.setIfInBounds_toArray, List.set_cons_succ, List.set_cons_zero]
                        refine WG.call rfl (fun w' _ => crx w') (fun w => by first | rfl | (go_simp; done) | (simp [execOp, go_sem]; done)) ?_
                        simp only [Act.put, List.setIfInBounds_toArray, List.set_cons_succ, List.set_cons_zero]
                        refine WG.put rfl (v := (.bool true)) (fun w => by first | rfl | (go_simp; done) | (simp [execOp, go_sem]; done) | (simp [execOp, go_sem, h2]; done) | (simp [execOp, go_sem, hlx]; done) | (simp [execOp, go_sem, hly]; done) | (simp [execOp, go_sem, h7]; done)) ?_
                        simp only [Act.put, List.setIfInBounds_toArray, List.set_cons_succ, List.set_cons_zero]
                        refine WG.put rfl (v := (.bool true)) (fun w => by first | rfl | (go_simp; done) | (simp [execOp, go_sem]; done) | (simp [execOp, go_sem, h2]; done) | (simp [execOp, go_sem, hlx]; done) | (simp [execOp, go_sem, hly]; done) | (simp [execOp, go_sem, h7]; done)) ?_
                        simp only [Act.put, List.setIfInBounds_toArray, List.set_cons_succ, List.set_cons_zero]
                        refine WG.row rfl 46 _ rfl rfl QY (evL y) rfl _ Tryd.underlying46 rfl infoEv ?_
                        simp only [Act.put, List.setIfInBounds_toArray, List.set_cons_succ, List.set_cons_zero]
                        refine WG.call rfl (fun w' _ => cwy w') (fun w => by first | rfl | (go_simp; done) | (simp [execOp, go_sem]; done)) ?_
                        simp only [Act.put, List.setIfInBounds_toArray, List.set_cons_succ, List.set_cons_zero]
                        refine WG.put rfl (v := (.bool true)) (fun w => by first | rfl | (go_simp; done) | (simp [execOp, go_sem]; done) | (simp [execOp, go_sem, h2]; done) | (simp [execOp, go_sem, hlx]; done) | (simp [execOp, go_sem, hly]; done) | (simp [execOp, go_sem, h7]; done)) ?_
                        simp only [Act.put, List.setIfInBounds_toArray, List.set_cons_succ, List.set_cons_zero]
                        refine WG.put rfl (v := (.bool true)) (fun w => by first | rfl | (go_simp; done) | (simp [execOp, go_sem]; done) | (simp [execOp, go_sem, h2]; done) | (simp [execOp, go_sem, hlx]; done) | (simp [execOp, go_sem, hly]; done) | (simp [execOp, go_sem, h7]; done)) ?_
                        simp only [Act.put, List.setIfInBounds_toArray, List.set_cons_succ, List.set_cons_zero]
                        refine WG.put rfl (v := (.pointer (some ⟨b9, 4, none⟩))) (fun w => by first | rfl | (go_simp; done) | (simp [execOp, go_sem]; done) | (simp [execOp, go_sem, h2]; done) | (simp [execOp, go_sem, hlx]; done) | (simp [execOp, go_sem, hly]; done) | (simp [execOp, go_sem, h7]; done)) ?_
                        simp only [Act.put, List.setIfInBounds_toArray, List.set_cons_succ, List.set_cons_zero]
                        refine WG.cell rfl 4 _ rfl rfl cxl ld4 ?_
                        simp only [Act.put, List.setIfInBounds_toArray, List.set_cons_succ, List.set_cons_zero]
                        refine WG.put rfl (v := (.bool true)) (fun w => by first | rfl | (go_simp; done) | (simp [execOp, go_sem]; done) | (simp [execOp, go_sem, h2]; done) | (simp [execOp, go_sem, hlx]; done) | (simp [execOp, go_sem, hly]; done) | (simp [execOp, go_sem, h7]; done)) ?_
                        simp only [Act.put, List.setIfInBounds_toArray, List.set_cons_succ, List.set_cons_zero]
                        refine WG.put rfl (v := (.bool true)) (fun w => by first | rfl | (go_simp; done) | (simp [execOp, go_sem]; done) | (simp [execOp, go_sem, h2]; done) | (simp [execOp, go_sem, hlx]; done) | (simp [execOp, go_sem, hly]; done) | (simp [execOp, go_sem, h7]; done)) ?_
                        simp only [Act.put, List.setIfInBounds_toArray, List.set_cons_succ, List.set_cons_zero]
                        refine WG.put rfl (v := (.pointer (some ⟨b10, 4, none⟩))) (fun w => by first | rfl | (go_simp; done) | (simp [execOp, go_sem]; done) | (simp [execOp, go_sem, h2]; done) | (simp [execOp, go_sem, hlx]; done) | (simp [execOp, go_sem, hly]; done) | (simp [execOp, go_sem, h7]; done)) ?_
                        simp only [Act.put, List.setIfInBounds_toArray, List.set_cons_succ, List.set_cons_zero]
                        refine WG.cell rfl 4 _ rfl rfl cyl ld4 ?_
                        simp only [Act.put, List.setIfInBounds_toArray, List.set_cons_succ, List.set_cons_zero]
                        refine WG.put rfl (v := (.bool true)) (fun w => by first | rfl | (go_simp; done) | (simp [execOp, go_sem]; done) | (simp [execOp, go_sem, h2]; done) | (simp [execOp, go_sem, hlx]; done) | (simp [execOp, go_sem, hly]; done) | (simp [execOp, go_sem, h7]; done)) ?_
                        simp only [Act.put, List.setIfInBounds_toArray, List.set_cons_succ, List.set_cons_zero]
                        refine WG.put rfl (v := (.bool true)) (fun w => by first | rfl | (go_simp; done) | (simp [execOp, go_sem]; done) | (simp [execOp, go_sem, h2]; done) | (simp [execOp, go_sem, hlx]; done) | (simp [execOp, go_sem, hly]; done) | (simp [execOp, go_sem, h7]; done)) ?_
                        simp only [Act.put, List.setIfInBounds_toArray, List.set_cons_succ, List.set_cons_zero]
                        refine WG.put rfl (v := (.int .i64 (p : Int))) (fun w => by first | rfl | (go_simp; done) | (simp [execOp, go_sem]; done) | (simp [execOp, go_sem, h2]; done) | (simp [execOp, go_sem, hlx]; done) | (simp [execOp, go_sem, hly]; done) | (simp [execOp, go_sem, h7]; done)) ?_
                        simp only [Act.put, List.setIfInBounds_toArray, List.set_cons_succ, List.set_cons_zero]
                        refine WG.put rfl (v := (.int .i64 (q : Int))) (fun w => by first | rfl | (go_simp; done) | (simp [execOp, go_sem]; done) | (simp [execOp, go_sem, h2]; done) | (simp [execOp, go_sem, hlx]; done) | (simp [execOp, go_sem, hly]; done) | (simp [execOp, go_sem, h7]; done)) ?_
                        simp only [Act.put, List.setIfInBounds_toArray, List.set_cons_succ, List.set_cons_zero]
                        refine WG.put rfl (v := (.bool false)) (fun w => by first | rfl | (go_simp; done) | (simp [execOp, go_sem]; done) | (simp [execOp, go_sem, h2]; done) | (simp [execOp, go_sem, hlx]; done) | (simp [execOp, go_sem, hly]; done) | (simp [execOp, go_sem, h7]; done)) ?_
                        simp only [Act.put, List.setIfInBounds_toArray, List.set_cons_succ, List.set_cons_zero]
                        refine WG.put rfl (v := (.bool false)) (fun w => by first | rfl | (go_simp; done) | (simp [execOp, go_sem]; done) | (simp [execOp, go_sem, h2]; done) | (simp [execOp, go_sem, hlx]; done) | (simp [execOp, go_sem, hly]; done) | (simp [execOp, go_sem, h7]; done)) ?_
                        simp only [Act.put, List.setIfInBounds_toArray, List.set_cons_succ, List.set_cons_zero]
                        refine WG.put rfl (v := (.bool false)) (fun w => by first | rfl | (go_simp; done) | (simp [execOp, go_sem]; done) | (simp [execOp, go_sem, h2]; done) | (simp [execOp, go_sem, hlx]; done) | (simp [execOp, go_sem, hly]; done) | (simp [execOp, go_sem, h7]; done)) ?_
                        simp only [Act.put, List.setIfInBounds_toArray, List.set_cons_succ, List.set_cons_zero]
                        refine WG.nil (fun w8 hw8 => ?_)
                        go_wp2
                        go_ret
                        exact ⟨ret_bool (by rw [HV.out]; simp [h2, hlx, hly, h7]), Below.then BB hw8⟩
            · refine grow_region ?_
              refine WG.put rfl (v := (.bool true)) (fun w => by first | rfl | (go_simp; done) | (simp [execOp, go_sem]; done) | (simp [execOp, go_sem, h2]; done)) ?_
              simp only [Act.put, List.setIfInBounds_toArray, List.set_cons_succ, List.set_cons_zero]
              refine WG.put rfl (v := (.bool true)) (fun w => by first | rfl | (go_simp; done) | (simp [execOp, go_sem]; done) | (simp [execOp, go_sem, h2]; done)) ?_
              simp only [Act.put, List.setIfInBounds_toArray, List.set_cons_succ, List.set_cons_zero]
              refine WG.put rfl (v := (.pointer (some ⟨b9, 2, none⟩))) (fun w => by first | rfl | (go_simp; done) | (simp [execOp, go_sem]; done) | (simp [execOp, go_sem, h2]; done)) ?_
              simp only [Act.put, List.setIfInBounds_toArray, List.set_cons_succ, List.set_cons_zero]
              refine WG.cell rfl 3 _ rfl rfl cxi ld3 ?_
              simp only [Act.put, List.setIfInBounds_toArray, List.set_cons_succ, List.set_cons_zero]
              refine WG.put rfl (v := (.pointer (some ⟨b10, 2, none⟩))) (fun w => by first | rfl | (go_simp; done) | (simp [execOp, go_sem]; done) | (simp [execOp, go_sem, h2]; done)) ?_
              simp only [Act.put, List.setIfInBounds_toArray, List.set_cons_succ, List.set_cons_zero]
              refine WG.cell rfl 3 _ rfl rfl cyi ld3 ?_
              simp only [Act.put, List.setIfInBounds_toArray, List.set_cons_succ, List.set_cons_zero]
              refine WG.put rfl (v := (.bool false)) (fun w => by first | rfl | (go_simp; done) | (simp [execOp, go_sem]; done) | (simp [execOp, go_sem, h2]; done)) ?_
              simp only [Act.put, List.setIfInBounds_toArray, List.set_cons_succ, List.set_cons_zero]
              refine WG.put rfl (v := (.bool false)) (fun w => by first | rfl | (go_simp; done) | (simp [execOp, go_sem]; done) | (simp [execOp, go_sem, h2]; done)) ?_
              simp only [Act.put, List.setIfInBounds_toArray, List.set_cons_succ, List.set_cons_zero]
              refine WG.put rfl (v := (.bool false)) (fun w => by first | rfl | (go_simp; done) | (simp [execOp, go_sem]; done) | (simp [execOp, go_sem, h2]; done)) ?_
              simp only [Act.put, List.setIfInBounds_toArray, List.set_cons_succ, List.set_cons_zero]
              refine WG.skip rfl ?_
              simp only [Act.put, List.setIfInBounds_toArray, List.set_cons_succ, List.set_cons_zero]
              refine WG.skip rfl ?_
              simp only [Act.put, List.setIfInBounds_toArray, List.set_cons_succ, List.set_cons_zero]
              refine WG.put rfl (v := (.bool false)) (fun w => by first | rfl | (go_simp; done) | (simp [execOp, go_sem]; done) | (simp [execOp, go_sem, h2]; done)) ?_
              simp only [Act.put, List.setIfInBounds_toArray, List.set_cons_succ, List.set_cons_zero]
              refine WG.put rfl (v := (.bool false)) (fun w => by first | rfl | (go_simp; done) | (simp [execOp, go_sem]; done) | (simp [execOp, go_sem, h2]; done)) ?_
              simp only [Act.put, List.setIfInBounds_toArray, List.set_cons_succ, List.set_cons_zero]
              refine WG.skip rfl ?_
              simp only [Act.put, List.setIfInBounds_toArray, List.set_cons_succ, List.set_cons_zero]
              refine WG.skip rfl ?_
              simp only [Act.put, List.setIfInBounds_toArray, List.set_cons_succ, List.set_cons_zero]
              refine WG.put rfl (v := (.bool false)) (fun w => by first | rfl | (go_simp; done) | (simp [execOp, go_sem]; done) | (simp [execOp, go_sem, h2]; done)) ?_
              simp only [Act.put, List.setIfInBounds_toArray, List.set_cons_succ, List.set_cons_zero]
              refine WG.put rfl (v := (.bool false)) (fun w => by first | rfl | (go_simp; done) | (simp [execOp, go_sem]; done) | (simp [execOp, go_sem, h2]; done)) ?_
              simp only [Act.put, List.setIfInBounds_toArray, List.set_cons_succ, List.set_cons_zero]
              refine WG.skip rfl ?_
              simp only [Act.put, List.setIfInBounds_toArray, List.set_cons_succ, List.set_cons_zero]
              refine WG.skip rfl ?_
              simp only [Act.put, List.setIfInBounds_toArray, List.set_cons_succ, List.set_cons_zero]
              refine WG.put rfl (v := (.bool false)) (fun w => by first | rfl | (go_simp; done) | (simp [execOp, go_sem]; done) | (simp [execOp, go_sem, h2]; done)) ?_
              simp only [Act.put, List.setIfInBounds_toArray, List.set_cons_succ, List.set_cons_zero]
              refine WG.put rfl (v := (.bool false)) (fun w => by first | rfl | (go_simp; done) | (simp [execOp, go_sem]; done) | (simp [execOp, go_sem, h2]; done)) ?_
              simp only [Act.put, List.setIfInBounds_toArray, List.set_cons_succ, List.set_cons_zero]
              refine WG.skip rfl ?_
              simp only [Act.put, List.setIfInBounds_toArray, List.set_cons_succ, List.set_cons_zero]
              refine WG.skip rfl ?_
              simp only [Act.put, List.setIfInBounds_toArray, List.set_cons_succ, List.set_cons_zero]
              refine WG.put rfl (v := (.bool false)) (fun w => by first | rfl | (go_simp; done) | (simp [execOp, go_sem]; done) | (simp [execOp, go_sem, h2]; done)) ?_
              simp only [Act.put, List.setIfInBounds_toArray, List.set_cons_succ, List.set_cons_zero]
              refine WG.put rfl (v := (.bool false)) (fun w => by first | rfl | (go_simp; done) | (simp [execOp, go_sem]; done) | (simp [execOp, go_sem, h2]; done)) ?_
              simp only [Act.put, List.setIfInBounds_toArray, List.set_cons_succ, List.set_cons_zero]
              refine WG.skip rfl ?_
              simp only [Act.put, List.setIfInBounds_toArray, List.set_cons_succ, List.set_cons_zero]
              refine WG.skip rfl ?_
              simp only [Act.put, List.setIfInBounds_toArray, List.set_cons_succ, List.set_cons_zero]
              refine WG.skip rfl ?_
              simp only [Act.put, List.setIfInBounds_toArray, List.set_cons_succ, List.set_cons_zero]
              refine WG.put rfl (v := (.bool false)) (fun w => by first | rfl | (go_simp; done) | (simp [execOp, go_sem]; done) | (simp [execOp, go_sem, h2]; done)) ?_
              simp only [Act.put, List.setIfInBounds_toArray, List.set_cons_succ, List.set_cons_zero]
              refine WG.put rfl (v := (.bool false)) (fun w => by first | rfl | (go_simp; done) | (simp [execOp, go_sem]; done) | (simp [execOp, go_sem, h2]; done)) ?_
              simp only [Act.put, List.setIfInBounds_toArray, List.set_cons_succ, List.set_cons_zero]
              refine WG.nil (fun w8 hw8 => ?_)
              go_wp2
              go_ret
              exact ⟨ret_bool (by rw [HV.out]; simp [h2]), Below.then BB hw8⟩
end Go.Proofs.YtdjlfpkemdiadaaDoor
/- Rel of the reference; SameEvents. -/
namespace Go.Proofs.YtdjlfpkemdiadaaDoor
open Go.RowKit M
set_option linter.unusedSimpArgs false
set_option linter.unusedVariables false

theorem stQ_V (r : Int) (L : List EV) (p q : Nat) : stQ r L p q = stV r (evA L p) (evA L q) p q := rfl
set_option maxRecDepth 100000 in
set_option maxHeartbeats 8000000 in
theorem rrel_x {w : World} {l : List EV} {a : Option Addr} {c : Nat} (r : Int) (hr : r = 1 ∨ r = 2 ∨ r = 3 ∨ r = 4 ∨ r = 5) (hl : l.length ≤ 9223372036854775807) (hS : Seg w a (l.flatMap evL)) :
    Calls Tryd.prog 55 #[.slice a l.length c, .int .i64 r] w fun e w' => e = .returned (relv (shL l).length (prF (shL l).length (stQ r (shL l)))) ∧ Below w.heap.size w w' := by
  have hkn := fun W => short_any a l.length c W hl
  obtain ⟨a', c', ek, sk⟩ := kn_seg hS c
  rw [ek] at hkn
  have hn64 := shL_le l
  clear ek hS
  generalize shL l = L at *
  obtain ⟨n, hn⟩ : ∃ n, L.length = n := ⟨_, rfl⟩
  rw [hn] at hkn hn64 ⊢
  have HN : Hid (L.length = n) := hn
  have HS : Hid (Seg w a' (L.flatMap evL)) := sk
  have HR : Hid (r = 1 ∨ r = 2 ∨ r = 3 ∨ r = 4 ∨ r = 5) := hr
  clear hn sk hl hr
  have t1 : True := trivial
  go_enter Tryd.func55, Tryd.ntmps55
  go_wp2_with (first
    | (clear t1; refine wpList_allocR rfl rfl ?_; intro W2 b4 F2 r4; have B1 := F_b F2; have hb4 : w.heap.size ≤ b4 := Nat.le_of_eq F2.at'.symm; clear F2)
    | (go_at_call 51; refine (hkn _).mono ?_; rintro e w' ⟨rfl, hw'⟩; replace hw' := hw'.symm; subst hw')
    | (refine wpList_buildRN rfl _ rfl rfl ?_)
    | (refine wpList_allocR rfl rfl ?_; intro W4 b5 F4 r5; replace B1 := Below.then B1 (F_b F4); have hb5 : b4 < b5 := (by rw [F4.at']; exact r4.lt); replace r4 := r4.fresh F4; clear F4)
    | (refine wpList_storeR rfl _ _ rfl rfl rfl r5 ?_; intro W5 U5 q5; replace B1 := U5.trans B1 (by omega); replace r4 := r4.upd U5 (by omega); clear U5 r5))
  clear hkn
  go_loopw [6] (fun iv wr => ∃ i : Nat, i ≤ n ∧ iv = .int .i64 (i : Int) ∧ IsR wr b5 n (parF n (stQ r L) i 0) ∧ IsR wr b4 0 void ∧ Hid (Below w.heap.size w wr)) (fun iv _ => n - (intOf iv).toNat)
  case atStart => exact ⟨0, by omega, rfl, q5.congr (fun j _ => (parF_start n _ j).symm), r4, B1⟩
  case round =>
    clear q5 r4 B1
    obtain ⟨i, hi, rfl, q5, q4, HB⟩ := hrel
    by_cases hlt : i < n
    · have hki : (i : Int) < n := by omega
      have hk64 : (i : Int) < 64 := by omega
      obtain ⟨e1, he1⟩ : ∃ q, L[i]? = some q := ⟨_, List.getElem?_eq_getElem (by rw [HN.out]; exact hlt)⟩
      obtain ⟨bl, ol, ea, hbl0, rg0⟩ := ev_range HS.out he1
      subst ea
      have HE1 : Hid (evA L i = e1 ∧ w.rangeAt bl (ol + i * 5) (evL e1) ∧ bl < w.heap.size) := ⟨evA_some he1, rg0, hbl0⟩
      clear rg0 he1 hbl0
      go_wp2
      go_loopw [7] (fun jv wr => ∃ k : Nat, k ≤ n ∧ jv = .int .i64 (k : Int) ∧ IsR wr b5 n (parF n (stQ r L) i k) ∧ IsR wr b4 0 void ∧ Hid (Below w.heap.size w wr)) (fun jv _ => n - (intOf jv).toNat)
      case atStart => exact ⟨0, by omega, rfl, q5, q4, HB⟩
      case round =>
        clear q5 q4 HB
        obtain ⟨k, hk, rfl, q5, q4, HB⟩ := hrel
        by_cases hlk : k < n
        · have hkki : (k : Int) < n := by omega
          have hkk64 : (k : Int) < 64 := by omega
          obtain ⟨e2, he2⟩ : ∃ q, L[k]? = some q := ⟨_, List.getElem?_eq_getElem (by rw [HN.out]; exact hlk)⟩
          obtain ⟨bl2, ol2, ea, hbl2, rg0⟩ := ev_range HS.out he2
          cases ea
          have HQq : Hid (stQ r L i k = stV r e1 e2 i k) := by show _ = _; rw [stQ_V, HE1.out.1, evA_some he2]
          have hC2 := stands_any r HR.out e1 e2 i k n bl ol c' wr hlt hlk hn64 (Nat.lt_of_lt_of_le hbl2 HB.out.size) (range_grow HE1.out.2.1 hbl2 HB.out) (range_grow rg0 hbl2 HB.out)
          clear rg0 he2
          cases hb : stV r e1 e2 i k with
          | true =>
            rw [hb] at hC2 HQq
            clear hb
            have t9 : True := trivial
            go_upto_region 10 with (first
              | (go_at_call 79; refine hC2.mono ?_; rintro e W6 ⟨rfl, B6⟩; have R6 := Below.then HB.out B6; replace q5 := q5.grown B6; replace q4 := q4.grown B6; clear B6 hC2))
            have hrow := q5.row i (by omega)
            rw [parF_at] at hrow
            have hfz := q5.frozen (1 + i)
            have hml := maskN_lt64 (stQ r L i) (n := k) (by omega)
            have hw := wrap_pow k (by omega)
            have hor := or_pow (maskN k (stQ r L i)) k hml (by omega)
            have U := Upd.setCell W6 b5 (1 + i) (.int .u64 ((maskN k (stQ r L i) ||| 2 ^ k : Nat) : Int))
            have HQ : Hid (IsR (W6.setCell ⟨b5, 1 + i, none⟩ (.int .u64 ((maskN k (stQ r L i) ||| 2 ^ k : Nat) : Int))) b5 n (parF n (stQ r L) i (k + 1)) ∧ IsR (W6.setCell ⟨b5, 1 + i, none⟩ (.int .u64 ((maskN k (stQ r L i) ||| 2 ^ k : Nat) : Int))) b4 0 void ∧ Below w.heap.size w (W6.setCell ⟨b5, 1 + i, none⟩ (.int .u64 ((maskN k (stQ r L i) ||| 2 ^ k : Nat) : Int)))) :=
              ⟨(q5.set i _ (by omega)).congr (fun j _ => by have := parF_yes n (stQ r L) i k j HQq.out; rw [parF_at] at this; exact this), q4.upd U (by omega), U.trans R6 (by omega)⟩
            clear U q5 q4 R6 HB hml HQq
            generalize maskN k (stQ r L i) ||| 2 ^ k = z at *
            generalize maskN k (stQ r L i) = z0 at *
            go_wp2
            go_roundw
            case rel => exact ⟨k + 1, by omega, by simp, HQ.out.1, HQ.out.2.1, HQ.out.2.2⟩
            case measure => simp [intOf]; omega
          | false =>
            rw [hb] at hC2 HQq
            clear hb
            go_wp2_with (first
              | (go_at_call 79; refine hC2.mono ?_; rintro e W6 ⟨rfl, B6⟩; have R6 := Below.then HB.out B6; replace q5 := q5.grown B6; replace q4 := q4.grown B6; clear B6 hC2))
            have HQ : Hid (IsR W6 b5 n (parF n (stQ r L) i (k + 1))) := q5.congr (fun j _ => parF_no n (stQ r L) i k j HQq.out)
            clear q5 HQq HB
            go_roundw
            case rel => exact ⟨k + 1, by omega, by simp, HQ.out, q4, R6⟩
            case measure => simp [intOf]; omega
        · obtain rfl : k = n := by omega
          have HQ : Hid (IsR wr b5 k (parF k (stQ r L) (i + 1) 0)) := q5.congr (fun j _ => parF_next k _ i j)
          clear q5
          go_wp2
          go_roundw
          case rel => exact ⟨i + 1, by omega, by simp, HQ.out, q4, HB⟩
          case measure => simp [intOf]; omega
    · obtain rfl : i = n := by omega
      have HQ := q5.congr (fun j _ => parF_end i (stQ r L) j)
      clear q5
      go_wp2_with (first
        | (refine wpList_loadR rfl _ rfl rfl HQ ?_)
        | (refine wpList_storeR rfl _ _ rfl rfl rfl q4 ?_; intro W4 U4 r4))
      refine ret_R rfl rfl rfl r4 ⟨rfl, U4.trans HB.out (by omega)⟩
end Go.Proofs.YtdjlfpkemdiadaaDoor

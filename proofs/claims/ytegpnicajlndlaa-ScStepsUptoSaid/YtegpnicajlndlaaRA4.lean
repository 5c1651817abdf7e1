/- RA4 -/
import Derived.Test.YtegpnicajlndlaaQau
namespace Go.Proofs.Ytegpnicajlndlaa
open Go.RowKit M
set_option linter.unusedSimpArgs false
set_option linter.unusedVariables false
set_option maxRecDepth 100000 in
set_option maxHeartbeats 2000000 in
theorem rplain_any (n : Nat) (hn : n ≤ 1048576) (ap ah ab : Option Addr) (cp ch cb : Nat) (vrg vmm : Value) (w : World) (hH : RowV w (.slice ah n ch) n ((List.replicate n (0 : Int)).flatMap intE)) (hB : RowsV w (.slice ab n cb) wrE (List.replicate n ([] : List (Int × Int)))) :
    Calls Try.prog 101 #[.agg #[.slice ap n cp, .slice ah n ch, vrg, vmm, .slice ab n cb, .int .i64 (-1)]] w fun e w' => e = .returned (.bool true) ∧ Below w.heap.size w w' := by
 have HB : Hid (RowsV w (.slice ab n cb) wrE (List.replicate n ([] : List (Int × Int)))) := hB
 have hS : Seg w ah ((List.replicate n (0 : Int)).flatMap intE) := by obtain ⟨a, c, e, hs, _⟩ := hH; injection e with e1 e2 e3; rw [e1]; exact hs
 have HH : Hid (Seg w ah ((List.replicate n (0 : Int)).flatMap intE)) := hS
 have hnI : (n : Int) ≤ 1048576 := by omega
 clear hH hB hS
 have t1 : True := trivial
 go_enter Try.func101, Try.ntmps101
 go_wp2_with (first
  | (clear t1; refine wpList_boxS rfl 32 _ rfl [.slice ap n cp, .slice ah n ch, vrg, vmm, .slice ab n cb, .int .i64 (-1)] rfl ?_; intro W1 b1 F1 C1; have B1 := F_b F1; obtain ⟨y0, y1, y2, y3, y4, y5⟩ := st6 C1; clear F1 y2 y3))
 go_loopw [3] (fun i wr => ∃ k : Nat, k ≤ n ∧ i = .int .i64 (k : Int) ∧ wr = W1) (fun i _ => n - (intOf i).toNat)
 case atStart => exact ⟨0, Nat.zero_le _, rfl, rfl⟩
 case round =>
  obtain ⟨k, hk, rfl, rfl⟩ := hrel
  by_cases hlt : k < n
  · have hki : (k : Int) < n := by omega
    obtain ⟨bh, oh, rfl, hbh, yh⟩ := (HH.out.below B1).int (j := k) (g := 0) (by simp [hlt])
    obtain ⟨bb, ob, aq, cq, rfl, hbb, yb, _, _⟩ := (HB.out.below B1).at k [] (by simp [hlt])
    simp only [List.length_nil] at yb
    go_wp2
    go_roundw
    case rel => exact ⟨k + 1, by omega, by go_num, trivial⟩
    case measure => simp [intOf]; omega
  · have ek : k = n := by omega
    subst ek
    have hki : ¬ ((k : Int) < k) := by omega
    go_wp2
    go_ret
    exact ⟨rfl, B1⟩
def LeI (ths : List (List Op5)) (pc : List Int) : Prop := ∀ (i : Nat) x th, pc[i]? = some x → ths[i]? = some th → x ≤ (th.length : Int)
theorem le_step {p : PG} {pc : List Int} {regs : List (List Int)} {mem : List Int} {i : Int} {t : List Int × List (List Int) × List Int} (hv : Vld p) (hI : Inv p pc regs mem) (hL : LeI p.threads pc) (h : stepS p.threads pc regs mem i = some t) : LeI p.threads t.1 := by
 obtain ⟨j, qn, th, o, rj, rfl, hth, hpc, ho, hrj, hoi, rfl⟩ := step_some hv hI h
 intro i x th' hx hth'
 rw [List.getElem?_set] at hx
 split at hx
 · rename_i e
   subst e
   split at hx
   · cases hx
     rw [hth] at hth'
     cases hth'
     have := (List.getElem?_eq_some_iff.1 ho).1
     omega
   · cases hx
 · exact hL i x th' hx hth'
set_option maxRecDepth 100000 in
set_option maxHeartbeats 2000000 in
theorem rdone_any (ths : List (List Op5)) (pc : List Int) (n ct cp : Nat) (at0 ap : Option Addr) (vr vl vi vj vph vrg vmm vbf vlk : Value) (w : World) (hnt : ths.length = n) (hnp : pc.length = n) (hn : n ≤ 1048576) (htt : ths.flatten.length ≤ 1048576) (hL : LeI ths pc) (hT : RowsV w (.slice at0 n ct) op5L ths) (hP : Seg w ap (pc.flatMap intE)) :
    Calls Try.prog 77 #[.agg #[.slice at0 n ct, vr, vl, vi, vj], .agg #[.slice ap n cp, vph, vrg, vmm, vbf, vlk]] w fun e w' => e = .returned (.bool (doneB ths pc)) ∧ Below w.heap.size w w' := by
 have HT : Hid (RowsV w (.slice at0 n ct) op5L ths) := hT
 have HP : Hid (Seg w ap (pc.flatMap intE)) := hP
 have HNT : Hid (ths.length = n) := hnt
 have HNP : Hid (pc.length = n) := hnp
 have HTT : Hid (ths.flatten.length ≤ 1048576) := htt
 have hnI : (n : Int) ≤ 1048576 := by omega
 have HLe : Hid (LeI ths pc) := hL
 clear hT hP hnt hnp htt hL
 have t1 : True := trivial
 have t2 : True := trivial
 go_enter Try.func77, Try.ntmps77
 go_wp2_with (first
  | (clear t1; refine wpList_boxS rfl 28 _ rfl [.slice at0 n ct, vr, vl, vi, vj] rfl ?_; intro W0 b2 F0 C0; have B0 := F_b F0; clear F0)
  | (clear t2; refine wpList_boxS rfl 32 _ rfl [.slice ap n cp, vph, vrg, vmm, vbf, vlk] rfl ?_; intro W1 b3 F1 C1; have B1 := F1.trans B0 B0.size; have P1 := C0.fresh F1; have z0 : W1.cell? ⟨b2, 0, none⟩ = some (.slice at0 n ct) := P1.cell 0; obtain ⟨y0, y1, y2, y3, y4, y5⟩ := st6 C1; clear F1 C0 y1 y2 y3 y4 y5))
 go_loopw [5] (fun i wr => ∃ k : Nat, k ≤ n ∧ i = .int .i64 (k : Int) ∧ Hid (∀ j, j < k → ¬ pc.getD j 0 < ((ths.getD j []).length : Int)) ∧ Hid (Below W1.heap.size W1 wr)) (fun i _ => n - (intOf i).toNat)
 case atStart => exact ⟨0, Nat.zero_le _, rfl, fun j hj => absurd hj (Nat.not_lt_zero _), Below.refl _ _⟩
 case round =>
  obtain ⟨k, hk, rfl, HJ, HB⟩ := hrel
  have BX := Below.then B1 HB.out
  have C2 := C1.grown HB.out
  have P2 := P1.grown HB.out
  obtain ⟨y0', y1, y2, y3, y4, y5⟩ := st6 C2
  have z0' : wr.cell? ⟨b2, 0, none⟩ = some (.slice at0 n ct) := P2.cell 0
  clear y0 z0 y1 y2 y3 y4 y5
  have y0 := y0'
  have z0 := z0'
  clear y0' z0'
  by_cases hlt : k < n
  · have hki : (k : Int) < n := by omega
    obtain ⟨th, hth⟩ : ∃ q, ths[k]? = some q := ⟨_, List.getElem?_eq_getElem (by rw [HNT.out]; exact hlt)⟩
    obtain ⟨bt, ot, al, cl, rfl, hbt, yt, _, _⟩ := (HT.out.below BX).at k th hth
    obtain ⟨q, hq⟩ : ∃ q, pc[k]? = some q := ⟨_, List.getElem?_eq_getElem (by rw [HNP.out]; exact hlt)⟩
    obtain ⟨gp, op, rfl, hbp, yp⟩ := (HP.out.below BX).int hq
    have hql : th.length ≤ 1048576 := row_few hth HTT.out
    have e1 : Hid (pc.getD k 0 = q) := by show _ = _; simp [hq]
    have e2 : Hid (ths.getD k [] = th) := by show _ = _; simp [hth]
    obtain ⟨ln, hln⟩ : ∃ n, th.length = n := ⟨_, rfl⟩
    have HLN : Hid (th.length = ln) := hln
    rw [hln] at yt hql
    have hlI : (ln : Int) ≤ 1048576 := by omega
    have HLq : Hid (q ≤ (ln : Int)) := by rw [← HLN.out]; exact HLe.out k q th hq hth
    clear hq hth hln
    by_cases hd0 : q = (ln : Int)
    · have hd : (q != (ln : Int)) = false := by simp [hd0]
      have HN : Hid (¬ pc.getD k 0 < ((ths.getD k []).length : Int)) := by show ¬ _; rw [e1.out, e2.out, HLN.out]; omega
      clear hd0
      go_wp2
      refine grow_allW (by kernel_rfl) (by kernel_rfl) ?_
      refine WG.put rfl (v := .pointer (some ⟨b3, 0, none⟩)) (fun w => by first | rfl | (go_simp; done) | (simp [go_sem]; done)) ?_; simp only [sP]
      refine WG.cell rfl 29 _ rfl rfl y0 (fun w h => ldcIs w h) ?_; simp only [sP]
      refine WG.put rfl (v := .int .i64 (k : Int)) (fun w => by first | rfl | (go_simp; done) | (simp [go_sem]; done)) ?_; simp only [sP]
      refine WG.put rfl (v := .pointer (some ⟨gp, op + k, none⟩)) (fun w => by first | rfl | (go_simp; done) | (simp [go_sem, hki]; done)) ?_; simp only [sP]
      refine WG.cell rfl 3 _ rfl rfl yp (fun w h => ldcI w h) ?_; simp only [sP]
      refine WG.put rfl (v := .pointer (some ⟨b2, 0, none⟩)) (fun w => by first | rfl | (go_simp; done) | (simp [go_sem]; done)) ?_; simp only [sP]
      refine WG.cell rfl 22 _ rfl rfl z0 (fun w h => ldcTt w h) ?_; simp only [sP]
      refine WG.put rfl (v := .int .i64 (k : Int)) (fun w => by first | rfl | (go_simp; done) | (simp [go_sem]; done)) ?_; simp only [sP]
      refine WG.put rfl (v := .pointer (some ⟨bt, ot + k, none⟩)) (fun w => by first | rfl | (go_simp; done) | (simp [go_sem, hki]; done)) ?_; simp only [sP]
      refine WG.cell rfl 61 _ rfl rfl yt (fun w h => ldcOps w h) ?_; simp only [sP]
      refine WG.put rfl (v := .int .i64 (ln : Int)) (fun w => by first | rfl | (go_simp; done) | (simp [go_sem]; done)) ?_; simp only [sP]
      refine WG.put rfl (v := .bool false) (fun w => by first | rfl | (go_simp; done) | (simp [go_sem, hd]; done)) ?_; simp only [sP]
      refine WG.nil ?_
      intro W5 B5
      clear y0 z0 yp yt
      go_wp2
      go_roundw
      case rel =>
       refine ⟨k + 1, by omega, by go_num, fun j hj => ?_, Below.then HB.out B5⟩
       rcases Nat.lt_succ_iff_lt_or_eq.1 hj with h | h
       · have := HJ.out j h; omega
       · subst h; have := HN.out; omega
      case measure => simp [intOf]; omega
    · have hd : (q != (ln : Int)) = true := by simpa using hd0
      have HD : Hid (doneB ths pc = false) := doneB_no (by rw [HNT.out]; exact hlt) (by rw [e1.out, e2.out, HLN.out]; have := HLq.out; omega)
      clear hd0
      go_wp2
      refine grow_allW (by kernel_rfl) (by kernel_rfl) ?_
      refine WG.put rfl (v := .pointer (some ⟨b3, 0, none⟩)) (fun w => by first | rfl | (go_simp; done) | (simp [go_sem]; done)) ?_; simp only [sP]
      refine WG.cell rfl 29 _ rfl rfl y0 (fun w h => ldcIs w h) ?_; simp only [sP]
      refine WG.put rfl (v := .int .i64 (k : Int)) (fun w => by first | rfl | (go_simp; done) | (simp [go_sem]; done)) ?_; simp only [sP]
      refine WG.put rfl (v := .pointer (some ⟨gp, op + k, none⟩)) (fun w => by first | rfl | (go_simp; done) | (simp [go_sem, hki]; done)) ?_; simp only [sP]
      refine WG.cell rfl 3 _ rfl rfl yp (fun w h => ldcI w h) ?_; simp only [sP]
      refine WG.put rfl (v := .pointer (some ⟨b2, 0, none⟩)) (fun w => by first | rfl | (go_simp; done) | (simp [go_sem]; done)) ?_; simp only [sP]
      refine WG.cell rfl 22 _ rfl rfl z0 (fun w h => ldcTt w h) ?_; simp only [sP]
      refine WG.put rfl (v := .int .i64 (k : Int)) (fun w => by first | rfl | (go_simp; done) | (simp [go_sem]; done)) ?_; simp only [sP]
      refine WG.put rfl (v := .pointer (some ⟨bt, ot + k, none⟩)) (fun w => by first | rfl | (go_simp; done) | (simp [go_sem, hki]; done)) ?_; simp only [sP]
      refine WG.cell rfl 61 _ rfl rfl yt (fun w h => ldcOps w h) ?_; simp only [sP]
      refine WG.put rfl (v := .int .i64 (ln : Int)) (fun w => by first | rfl | (go_simp; done) | (simp [go_sem]; done)) ?_; simp only [sP]
      refine WG.put rfl (v := .bool true) (fun w => by first | rfl | (go_simp; done) | (simp [go_sem, hd]; done)) ?_; simp only [sP]
      refine WG.nil ?_
      intro W5 B5
      clear y0 z0 yp yt
      go_wp2
      go_ret
      exact ⟨by rw [HD.out]; rfl, Below.then BX B5⟩
  · have ek : k = n := by omega
    subst ek
    have hki : ¬ ((k : Int) < k) := by omega
    have HD : Hid (doneB ths pc = true) := doneB_yes (by rw [HNT.out]; exact HJ.out)
    go_wp2
    go_ret
    exact ⟨by rw [HD.out]; rfl, BX⟩
def pksL (ths : List (List Op5)) (pc : List Int) (k : Nat) : List Nat := (List.range k).filter fun j => decide (pc.getD j 0 < ((ths.getD j []).length : Int))
theorem own_isS' {w : World} {B t t' s n g : Nat} {v : Value} {xs cs : List Value} (ho : w.ownsRow B t s v n xs) (I : IsS w g t' cs) (ht : t ≠ t') : v.ownBlock ≠ some g := by
 intro hk
 rcases ho.2 with ⟨rfl, _⟩ | ⟨g', cap', cur', rfl, _, hh', _⟩
 · cases hk
 · simp [Value.ownBlock] at hk
   subst hk
   unfold IsS at I
   rw [I] at hh'
   simp at hh'
   exact ht hh'.2.symm
def pkE (j : Nat) : List Value := [.int .i64 (j : Int), .int .i64 1, .int .i64 0]
theorem pks_next (ths : List (List Op5)) (pc : List Int) (k : Nat) : pksL ths pc (k + 1) = if pc.getD k 0 < ((ths.getD k []).length : Int) then pksL ths pc k ++ [k] else pksL ths pc k := by
 unfold pksL
 rw [List.range_succ, List.filter_append]
 by_cases h : pc.getD k 0 < ((ths.getD k []).length : Int)
 · rw [if_pos h]; simp only [List.filter_cons, List.filter_nil, decide_eq_true h, if_true]
 · rw [if_neg h]; simp only [List.filter_cons, List.filter_nil, decide_eq_false h, Bool.false_eq_true, if_false, List.append_nil]
theorem pks_len (ths : List (List Op5)) (pc : List Int) (k : Nat) : (pksL ths pc k).length ≤ k := by
 unfold pksL
 exact Nat.le_trans (List.length_filter_le _ _) (by simp)
theorem pk_len (l : List Nat) : (l.flatMap pkE).length = l.length * 3 := by
 induction l with
 | nil => rfl
 | cons r l ih => rw [List.flatMap_cons, List.length_append, ih, List.length_cons]; simp [pkE]; omega
theorem ePk : Elt 68 52 3 (.agg #[.int .i64 0, .int .i64 0, .int .i64 0]) 24 := ⟨Try.underlying52, info_parts (by kernel_rfl), rfl, by decide, by decide⟩
section
variable {w : World} {ops : Array Oper} {rest : List Oper} {op : Oper} {a : Act} {Q : Exit → Act → World → Prop}
theorem exec_bPk (x : Operand) (ho : op.op = .buildSlice 52 1 #[(0, x)]) (j : Nat) (hx : a.eval x = .agg #[.int .i64 (j : Int), .int .i64 1, .int .i64 0]) : (execOp a.eval op).run Try.prog w = .ok (.value (.slice (some ⟨w.heap.size, 0, none⟩) 1 1)) (w.alloc (.cells (pkE j).toArray 68)) := by
 obtain ⟨i, hi, hz, hk, _⟩ := ePk.info
 generalize a.eval = ev at hx ⊢
 unfold execOp
 simp only [ho, hx]
 simp [Instr.buildSlice, Instr.fill, run_underlying ePk.und, sizeOf, typeInfo, zeroValue, hi, hk, hz, hx, newRow, Value.cells, pkE, show Array.range 3 = #[0, 1, 2] from rfl]
theorem wpList_bPk (hgd : op.guard = none) (x : Operand) (ho : op.op = .buildSlice 52 1 #[(0, x)]) (j : Nat) (hx : a.eval x = .agg #[.int .i64 (j : Int), .int .i64 1, .int .i64 0])
    (h : ∀ W b, Fresh w W b → IsS W b 68 (pkE j) → wpList Try.prog ops Q rest (a.put op.dst (.slice (some ⟨b, 0, none⟩) 1 1)) W) : wpList Try.prog ops Q (op :: rest) a w := by
 refine wpList_plain hgd fun K hK => ?_
 unfold Oper.wp
 rw [exec_bPk x ho j hx]
 exact hK _ _ (h _ _ (Fresh.alloc w _) (IsS.new w _ _))
end
set_option maxRecDepth 100000 in
set_option maxHeartbeats 4000000 in
theorem rpicks_any (ths : List (List Op5)) (pc : List Int) (n ct cp ch cb : Nat) (at0 ap ah ab : Option Addr) (vr vl vi vj vrg vmm : Value) (w : World) (hrg1 : vrg.oneCell' = true) (hmm1 : vmm.oneCell' = true) (hnt : ths.length = n) (hnp : pc.length = n) (hn : n ≤ 1048576) (htt : ths.flatten.length ≤ 1048576) (hT : RowsV w (.slice at0 n ct) op5L ths) (hP : Seg w ap (pc.flatMap intE)) (hH : RowV w (.slice ah n ch) n ((List.replicate n (0 : Int)).flatMap intE)) (hB : RowsV w (.slice ab n cb) wrE (List.replicate n ([] : List (Int × Int)))) :
    Calls Try.prog 59 #[.agg #[.slice at0 n ct, vr, vl, vi, vj], .agg #[.slice ap n cp, .slice ah n ch, vrg, vmm, .slice ab n cb, .int .i64 (-1)]] w fun e w' => ∃ v, e = .returned v ∧ w'.ownsRow w.heap.size 68 3 v (pksL ths pc n).length ((pksL ths pc n).flatMap pkE) ∧ Below w.heap.size w w' := by
 have HT : Hid (RowsV w (.slice at0 n ct) op5L ths) := hT
 have HP : Hid (Seg w ap (pc.flatMap intE)) := hP
 have HNT : Hid (ths.length = n) := hnt
 have HNP : Hid (pc.length = n) := hnp
 have HTT : Hid (ths.flatten.length ≤ 1048576) := htt
 have hnI : (n : Int) ≤ 1048576 := by omega
 have hPl := fun W (h : Below w.heap.size w W) => rplain_any n hn ap ah ab cp ch cb vrg vmm W (hH.below h) (hB.below h)
 clear hT hP hnt hnp htt hH hB
 have t1 : True := trivial
 have t2 : True := trivial
 have t3 : True := trivial
 go_enter Try.func59, Try.ntmps59
 go_wp2_with (first
  | (clear t1; refine wpList_boxS rfl 28 _ rfl [.slice at0 n ct, vr, vl, vi, vj] rfl ?_; intro W0 b2 F0 C0; have B0 := F_b F0; clear F0)
  | (clear t2; refine wpList_boxS rfl 32 _ rfl [.slice ap n cp, .slice ah n ch, vrg, vmm, .slice ab n cb, .int .i64 (-1)] rfl ?_; intro W1 b3 F1 C1; have B1 := F1.trans B0 B0.size; have P1 := C0.fresh F1; have z0 : W1.cell? ⟨b2, 0, none⟩ = some (.slice at0 n ct) := P1.cell 0; obtain ⟨y0, y1, y2, y3, y4, y5⟩ := st6 C1; clear F1 C0 y1 y2 y3 y4 y5)
  | (clear t3; refine wpList_loadW rfl 32 _ rfl rfl C1 _ Try.underlying32 rfl infoSt ?_)
  | (go_at_call 101; refine (hPl _ B1).mono ?_; rintro e W2 ⟨rfl, B2⟩; clear hPl y0 z0))
 have B02 := Below.then B1 B2
 have C2 := C1.grown B2
 have P2 := P1.grown B2
 have HC2 : Hid (IsS W2 b3 32 [.slice ap n cp, .slice ah n ch, vrg, vmm, .slice ab n cb, .int .i64 (-1)]) := C2
 have HP2 : Hid (IsS W2 b2 28 [.slice at0 n ct, vr, vl, vi, vj]) := P2
 clear C1 P1 C2 P2
 go_loopw [5, 6] (fun v i wr => ∃ k : Nat, k ≤ n ∧ i = .int .i64 (k : Int) ∧ Hid (wr.ownsRow w.heap.size 68 3 v (pksL ths pc k).length ((pksL ths pc k).flatMap pkE)) ∧ Hid (Below w.heap.size w wr) ∧ Hid (IsS wr b3 32 [.slice ap n cp, .slice ah n ch, vrg, vmm, .slice ab n cb, .int .i64 (-1)]) ∧ Hid (IsS wr b2 28 [.slice at0 n ct, vr, vl, vi, vj])) (fun _ i _ => n - (intOf i).toNat)
 case atStart => exact ⟨0, Nat.zero_le _, rfl, own_nil _ _ _ _, B02, HC2, HP2⟩
 case round =>
  clear HC2 HP2
  obtain ⟨k, hk, rfl, HO, HBw, HC, HPg⟩ := hrel
  have BX := HBw.out
  obtain ⟨y0, y1, y2, y3, y4, y5⟩ := st6 HC.out
  have z0 : wr.cell? ⟨b2, 0, none⟩ = some (.slice at0 n ct) := HPg.out.cell 0
  clear y1 y2 y3 y4 y5
  by_cases hlt : k < n
  · have hki : (k : Int) < n := by omega
    obtain ⟨th, hth⟩ : ∃ q, ths[k]? = some q := ⟨_, List.getElem?_eq_getElem (by rw [HNT.out]; exact hlt)⟩
    obtain ⟨bt, ot, al, cl, rfl, hbt, yt, _, _⟩ := (HT.out.below BX).at k th hth
    obtain ⟨q, hq⟩ : ∃ q, pc[k]? = some q := ⟨_, List.getElem?_eq_getElem (by rw [HNP.out]; exact hlt)⟩
    obtain ⟨gp, op, rfl, hbp, yp⟩ := (HP.out.below BX).int hq
    have hql : th.length ≤ 1048576 := row_few hth HTT.out
    have e1 : Hid (pc.getD k 0 = q) := by show _ = _; simp [hq]
    have e2 : Hid (ths.getD k [] = th) := by show _ = _; simp [hth]
    obtain ⟨ln, hln⟩ : ∃ n, th.length = n := ⟨_, rfl⟩
    have HLN : Hid (th.length = ln) := hln
    rw [hln] at yt hql
    have hlI : (ln : Int) ≤ 1048576 := by omega
    have HNX := pks_next ths pc k
    rw [e1.out, e2.out, HLN.out] at HNX
    have hpl := pks_len ths pc k
    obtain ⟨L', hL'⟩ : ∃ l, pksL ths pc (k + 1) = l := ⟨_, rfl⟩
    rw [hL'] at HNX
    have HL' : Hid (pksL ths pc (k + 1) = L') := hL'
    clear hL'
    generalize pksL ths pc k = L at *
    obtain ⟨av, cv, hv⟩ := own_form HO.out
    subst hv
    obtain ⟨ll, hll⟩ : ∃ l, L.length = l := ⟨_, rfl⟩
    rw [hll] at HO hpl ⊢
    have HLL : Hid (L.length = ll) := hll
    clear hq hth hln hll
    by_cases hd : q < (ln : Int)
    · rw [if_pos hd] at HNX
      have HNX' : Hid (L' = L ++ [k]) := HNX
      clear HNX
      go_wp2
      refine grow_allW (by kernel_rfl) (by kernel_rfl) ?_
      refine WG.put rfl (v := .pointer (some ⟨b3, 0, none⟩)) (fun w => by first | rfl | (go_simp; done) | (simp [go_sem]; done)) ?_; simp only [sP]
      refine WG.cell rfl 29 _ rfl rfl y0 (fun w h => ldcIs w h) ?_; simp only [sP]
      refine WG.put rfl (v := .int .i64 (k : Int)) (fun w => by first | rfl | (go_simp; done) | (simp [go_sem]; done)) ?_; simp only [sP]
      refine WG.put rfl (v := .pointer (some ⟨gp, op + k, none⟩)) (fun w => by first | rfl | (go_simp; done) | (simp [go_sem, hki]; done)) ?_; simp only [sP]
      refine WG.cell rfl 3 _ rfl rfl yp (fun w h => ldcI w h) ?_; simp only [sP]
      refine WG.put rfl (v := .pointer (some ⟨b2, 0, none⟩)) (fun w => by first | rfl | (go_simp; done) | (simp [go_sem]; done)) ?_; simp only [sP]
      refine WG.cell rfl 22 _ rfl rfl z0 (fun w h => ldcTt w h) ?_; simp only [sP]
      refine WG.put rfl (v := .int .i64 (k : Int)) (fun w => by first | rfl | (go_simp; done) | (simp [go_sem]; done)) ?_; simp only [sP]
      refine WG.put rfl (v := .pointer (some ⟨bt, ot + k, none⟩)) (fun w => by first | rfl | (go_simp; done) | (simp [go_sem, hki]; done)) ?_; simp only [sP]
      refine WG.cell rfl 61 _ rfl rfl yt (fun w h => ldcOps w h) ?_; simp only [sP]
      refine WG.put rfl (v := .int .i64 (ln : Int)) (fun w => by first | rfl | (go_simp; done) | (simp [go_sem]; done)) ?_; simp only [sP]
      refine WG.put rfl (v := .bool true) (fun w => by first | rfl | (go_simp; done) | (simp [go_sem, hd]; done)) ?_; simp only [sP]
      refine WG.nil ?_
      intro W5 B5
      have O5 := own_below HO.out B5
      have BX5 := Below.then BX B5
      have C5 := HC.out.grown B5
      have P5 := HPg.out.grown B5
      clear y0 z0 yp yt HO
      have t5 : True := trivial
      go_wp2_with (first
       | (clear t5; refine wpList_bPk rfl _ rfl k rfl ?_; intro W6 b6 F6 I6; have B6 := F_b F6; have O6 := own_below O5 B6; have BX6 := Below.then BX5 B6; have C6 := C5.grown B6; have P6 := P5.grown B6)
       | (at_builtin; refine wpList_appM ePk rfl _ _ rfl w.heap.size (.slice av ll cv) ll (L.flatMap pkE) rfl O6 (.slice (some ⟨b6, 0, none⟩) 1 1) 1 (pkE k) rfl (row_isS I6) rfl (by simp [pkE, Value.oneCell']) (by omega) BX6.size ?_; intro v7 W7 O7 G7; have B7 := grown_below BX6 BX6.size O6 G7; have C7 := (G7.block b3 C6.lt (fun e => own_isS' O6 C6 (by decide) e.symm)).trans C6; have P7 := (G7.block b2 P6.lt (fun e => own_isS' O6 P6 (by decide) e.symm)).trans P6))
      go_roundw
      case rel => exact ⟨k + 1, by omega, by go_num, by show World.ownsRow _ _ _ _ _ _ _; rw [HL'.out, HNX'.out, List.length_append, List.flatMap_append, HLL.out]; simpa using O7, B7, C7, P7⟩
      case measure => simp [intOf]; omega
    · rw [if_neg hd] at HNX
      have HNX' : Hid (L' = L) := HNX
      clear HNX
      go_wp2
      refine grow_allW (by kernel_rfl) (by kernel_rfl) ?_
      refine WG.put rfl (v := .pointer (some ⟨b3, 0, none⟩)) (fun w => by first | rfl | (go_simp; done) | (simp [go_sem]; done)) ?_; simp only [sP]
      refine WG.cell rfl 29 _ rfl rfl y0 (fun w h => ldcIs w h) ?_; simp only [sP]
      refine WG.put rfl (v := .int .i64 (k : Int)) (fun w => by first | rfl | (go_simp; done) | (simp [go_sem]; done)) ?_; simp only [sP]
      refine WG.put rfl (v := .pointer (some ⟨gp, op + k, none⟩)) (fun w => by first | rfl | (go_simp; done) | (simp [go_sem, hki]; done)) ?_; simp only [sP]
      refine WG.cell rfl 3 _ rfl rfl yp (fun w h => ldcI w h) ?_; simp only [sP]
      refine WG.put rfl (v := .pointer (some ⟨b2, 0, none⟩)) (fun w => by first | rfl | (go_simp; done) | (simp [go_sem]; done)) ?_; simp only [sP]
      refine WG.cell rfl 22 _ rfl rfl z0 (fun w h => ldcTt w h) ?_; simp only [sP]
      refine WG.put rfl (v := .int .i64 (k : Int)) (fun w => by first | rfl | (go_simp; done) | (simp [go_sem]; done)) ?_; simp only [sP]
      refine WG.put rfl (v := .pointer (some ⟨bt, ot + k, none⟩)) (fun w => by first | rfl | (go_simp; done) | (simp [go_sem, hki]; done)) ?_; simp only [sP]
      refine WG.cell rfl 61 _ rfl rfl yt (fun w h => ldcOps w h) ?_; simp only [sP]
      refine WG.put rfl (v := .int .i64 (ln : Int)) (fun w => by first | rfl | (go_simp; done) | (simp [go_sem]; done)) ?_; simp only [sP]
      refine WG.put rfl (v := .bool false) (fun w => by first | rfl | (go_simp; done) | (simp [go_sem, hd]; done)) ?_; simp only [sP]
      refine WG.nil ?_
      intro W5 B5
      have O5 := own_below HO.out B5
      have BX5 := Below.then BX B5
      have C5 := HC.out.grown B5
      have P5 := HPg.out.grown B5
      clear y0 z0 yp yt HO
      go_wp2
      go_roundw
      case rel => exact ⟨k + 1, by omega, by go_num, by show World.ownsRow _ _ _ _ _ _ _; rw [HL'.out, HNX'.out, HLL.out]; exact O5, BX5, C5, P5⟩
      case measure => simp [intOf]; omega
  · have ek : k = n := by omega
    subst ek
    have hki : ¬ ((k : Int) < k) := by omega
    go_wp2
    go_ret
    exact ⟨_, rfl, HO.out, BX⟩
end Go.Proofs.Ytegpnicajlndlaa

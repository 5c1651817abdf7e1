/- Several texts in one: RA4, RA5, RA6, RAL. -/
import Derived.Test.YtegpnicajlndlaaRA2
import Derived.Test.YtegpnicajlndlaaRA3
/- The reference's Plain, Picks and Done. -/
namespace Go.Proofs.Ytegpnicajlndlaa
open Go.RowKit M
set_option linter.unusedSimpArgs false
set_option linter.unusedVariables false

set_option maxRecDepth 100000 in
set_option maxHeartbeats 2000000 in
theorem rplain_any (n : Nat) (hn : n ≤ 1048576) (ap ah ab : Option Addr) (cp ch cb : Nat) (vrg vmm : Value) (w : World) (hH : RowV w (.slice ah n ch) n ((List.replicate n (0 : Int)).flatMap intE)) (hB : RowsV w (.slice ab n cb) wrE (List.replicate n ([] : List (Int × Int)))) :
    Calls Try.prog 101 #[.agg #[.slice ap n cp, .slice ah n ch, vrg, vmm, .slice ab n cb, .int .i64 (-1)]] w fun e w' => e = .returned (.bool true) ∧ Below w.heap.size w w' := by
  have HB : Hid (RowsV w (.slice ab n cb) wrE (List.replicate n ([] : List (Int × Int)))) := hB
  have hS : Seg w ah ((List.replicate n (0 : Int)).flatMap intE) := by obtain ⟨a, c, e, hs, _⟩ := hH; injection e with e1 e2 e3; rw [e1]; exact hs
  have HH : Hid (Seg w ah ((List.replicate n (0 : Int)).flatMap intE)) := hS
  have hnI : (n : Int) ≤ 1048576 := by omega
  clear hH hB hS
  have t1 : True := trivial
  go_enter Try.func101, Try.ntmps101
  go_wp2_with (first
    | (clear t1; refine wpList_boxS rfl 32 _ rfl [.slice ap n cp, .slice ah n ch, vrg, vmm, .slice ab n cb, .int .i64 (-1)] rfl ?_; intro W1 b1 F1 C1; have B1 := F_b F1; obtain ⟨y0, y1, y2, y3, y4, y5⟩ := st6 C1; clear F1 y2 y3))
  go_loopw [3] (fun i wr => ∃ k : Nat, k ≤ n ∧ i = .int .i64 (k : Int) ∧ wr = W1) (fun i _ => n - (intOf i).toNat)
  case atStart => exact ⟨0, Nat.zero_le _, rfl, rfl⟩
  case round =>
    obtain ⟨k, hk, rfl, rfl⟩ := hrel
    by_cases hlt : k < n
    · have hki : (k : Int) < n := by omega
      obtain ⟨bh, oh, rfl, hbh, yh⟩ := (HH.out.below B1).int (j := k) (g := 0) (by simp [hlt])
      obtain ⟨bb, ob, aq, cq, rfl, hbb, yb, _, _⟩ := (HB.out.below B1).at k [] (by simp [hlt])
      simp only [List.length_nil] at yb
      go_wp2
      go_roundw
      case rel => exact ⟨k + 1, by omega, by go_num, trivial⟩
      case measure => simp [intOf]; omega
    · have ek : k = n := by omega
      subst ek
      have hki : ¬ ((k : Int) < k) := by omega
      go_wp2
      go_ret
      exact ⟨rfl, B1⟩
/-- No thread is beyond its end. -/
def LeI (ths : List (List Op5)) (pc : List Int) : Prop := ∀ (i : Nat) x th, pc[i]? = some x → ths[i]? = some th → x ≤ (th.length : Int)
theorem le_start (ths : List (List Op5)) (n : Nat) : LeI ths (List.replicate n 0) := fun i x th hx _ => by
  rw [List.getElem?_replicate] at hx
  split at hx
  · cases hx; omega
  · cases hx
theorem le_step {p : PG} {pc : List Int} {regs : List (List Int)} {mem : List Int} {i : Int} {t : List Int × List (List Int) × List Int} (hv : Vld p) (hI : Inv p pc regs mem) (hL : LeI p.threads pc) (h : stepS p.threads pc regs mem i = some t) : LeI p.threads t.1 := by
  obtain ⟨j, qn, th, o, rj, rfl, hth, hpc, ho, hrj, hoi, rfl⟩ := step_some hv hI h
  intro i x th' hx hth'
  rw [List.getElem?_set] at hx
  split at hx
  · rename_i e
    subst e
    split at hx
    · cases hx
      rw [hth] at hth'
      cases hth'
      have := (List.getElem?_eq_some_iff.1 ho).1
      omega
    · cases hx
  · exact hL i x th' hx hth'
set_option maxRecDepth 100000 in
set_option maxHeartbeats 2000000 in
theorem rdone_any (ths : List (List Op5)) (pc : List Int) (n ct cp : Nat) (at0 ap : Option Addr) (vr vl vi vj vph vrg vmm vbf vlk : Value) (w : World) (hnt : ths.length = n) (hnp : pc.length = n) (hn : n ≤ 1048576) (htt : ths.flatten.length ≤ 1048576) (hL : LeI ths pc) (hT : RowsV w (.slice at0 n ct) op5L ths) (hP : Seg w ap (pc.flatMap intE)) :
    Calls Try.prog 77 #[.agg #[.slice at0 n ct, vr, vl, vi, vj], .agg #[.slice ap n cp, vph, vrg, vmm, vbf, vlk]] w fun e w' => e = .returned (.bool (doneB ths pc)) ∧ Below w.heap.size w w' := by
  have HT : Hid (RowsV w (.slice at0 n ct) op5L ths) := hT
  have HP : Hid (Seg w ap (pc.flatMap intE)) := hP
  have HNT : Hid (ths.length = n) := hnt
  have HNP : Hid (pc.length = n) := hnp
  have HTT : Hid (ths.flatten.length ≤ 1048576) := htt
  have hnI : (n : Int) ≤ 1048576 := by omega
  have HLe : Hid (LeI ths pc) := hL
  clear hT hP hnt hnp htt hL
  have t1 : True := trivial
  have t2 : True := trivial
  go_enter Try.func77, Try.ntmps77
  go_wp2_with (first
    | (clear t1; refine wpList_boxS rfl 28 _ rfl [.slice at0 n ct, vr, vl, vi, vj] rfl ?_; intro W0 b2 F0 C0; have B0 := F_b F0; clear F0)
    | (clear t2; refine wpList_boxS rfl 32 _ rfl [.slice ap n cp, vph, vrg, vmm, vbf, vlk] rfl ?_; intro W1 b3 F1 C1; have B1 := F1.trans B0 B0.size; have P1 := C0.fresh F1; have z0 : W1.cell? ⟨b2, 0, none⟩ = some (.slice at0 n ct) := P1.cell 0; obtain ⟨y0, y1, y2, y3, y4, y5⟩ := st6 C1; clear F1 C0 y1 y2 y3 y4 y5))
  go_loopw [5] (fun i wr => ∃ k : Nat, k ≤ n ∧ i = .int .i64 (k : Int) ∧ Hid (∀ j, j < k → ¬ pc.getD j 0 < ((ths.getD j []).length : Int)) ∧ Hid (Below W1.heap.size W1 wr)) (fun i _ => n - (intOf i).toNat)
  case atStart => exact ⟨0, Nat.zero_le _, rfl, fun j hj => absurd hj (Nat.not_lt_zero _), Below.refl _ _⟩
  case round =>
    obtain ⟨k, hk, rfl, HJ, HB⟩ := hrel
    have BX := Below.then B1 HB.out
    have C2 := C1.grown HB.out
    have P2 := P1.grown HB.out
    obtain ⟨y0', y1, y2, y3, y4, y5⟩ := st6 C2
    have z0' : wr.cell? ⟨b2, 0, none⟩ = some (.slice at0 n ct) := P2.cell 0
    clear y0 z0 y1 y2 y3 y4 y5
    have y0 := y0'
    have z0 := z0'
    clear y0' z0'
    by_cases hlt : k < n
    · have hki : (k : Int) < n := by omega
      obtain ⟨th, hth⟩ : ∃ q, ths[k]? = some q := ⟨_, List.getElem?_eq_getElem (by rw [HNT.out]; exact hlt)⟩
      obtain ⟨bt, ot, al, cl, rfl, hbt, yt, _, _⟩ := (HT.out.below BX).at k th hth
      obtain ⟨q, hq⟩ : ∃ q, pc[k]? = some q := ⟨_, List.getElem?_eq_getElem (by rw [HNP.out]; exact hlt)⟩
      obtain ⟨gp, op, rfl, hbp, yp⟩ := (HP.out.below BX).int hq
      have hql : th.length ≤ 1048576 := row_few hth HTT.out
      have e1 : Hid (pc.getD k 0 = q) := by show _ = _; simp [hq]
      have e2 : Hid (ths.getD k [] = th) := by show _ = _; simp [hth]
      obtain ⟨ln, hln⟩ : ∃ n, th.length = n := ⟨_, rfl⟩
      have HLN : Hid (th.length = ln) := hln
      rw [hln] at yt hql
      have hlI : (ln : Int) ≤ 1048576 := by omega
      have HLq : Hid (q ≤ (ln : Int)) := by rw [← HLN.out]; exact HLe.out k q th hq hth
      clear hq hth hln
      by_cases hd0 : q = (ln : Int)
      · have hd : (q != (ln : Int)) = false := by simp [hd0]
        have HN : Hid (¬ pc.getD k 0 < ((ths.getD k []).length : Int)) := by show ¬ _; rw [e1.out, e2.out, HLN.out]; omega
        clear hd0
        go_wp2
        refine grow_allW (by kernel_rfl) (by kernel_rfl) ?_
        refine WG.put rfl (v := .pointer (some ⟨b3, 0, none⟩)) (fun w => by first | rfl | (go_simp; done) | (simp [go_sem]; done)) ?_
        simp only [Act.put, List.setIfInBounds_toArray, List.set_cons_succ, List.set_cons_zero]
        refine WG.cell rfl 29 _ rfl rfl y0 (fun w h => ldcIs w h) ?_
        simp only [Act.put, List.setIfInBounds_toArray, List.set_cons_succ, List.set_cons_zero]
        refine WG.put rfl (v := .int .i64 (k : Int)) (fun w => by first | rfl | (go_simp; done) | (simp [go_sem]; done)) ?_
        simp only [Act.put, List.setIfInBounds_toArray, List.set_cons_succ, List.set_cons_zero]
        refine WG.put rfl (v := .pointer (some ⟨gp, op + k, none⟩)) (fun w => by first | rfl | (go_simp; done) | (simp [go_sem, hki]; done)) ?_
        simp only [Act.put, List.setIfInBounds_toArray, List.set_cons_succ, List.set_cons_zero]
        refine WG.cell rfl 3 _ rfl rfl yp (fun w h => ldcI w h) ?_
        simp only [Act.put, List.setIfInBounds_toArray, List.set_cons_succ, List.set_cons_zero]
        refine WG.put rfl (v := .pointer (some ⟨b2, 0, none⟩)) (fun w => by first | rfl | (go_simp; done) | (simp [go_sem]; done)) ?_
        simp only [Act.put, List.setIfInBounds_toArray, List.set_cons_succ, List.set_cons_zero]
        refine WG.cell rfl 22 _ rfl rfl z0 (fun w h => ldcTt w h) ?_
        simp only [Act.put, List.setIfInBounds_toArray, List.set_cons_succ, List.set_cons_zero]
        refine WG.put rfl (v := .int .i64 (k : Int)) (fun w => by first | rfl | (go_simp; done) | (simp [go_sem]; done)) ?_
        simp only [Act.put, List.setIfInBounds_toArray, List.set_cons_succ, List.set_cons_zero]
        refine WG.put rfl (v := .pointer (some ⟨bt, ot + k, none⟩)) (fun w => by first | rfl | (go_simp; done) | (simp [go_sem, hki]; done)) ?_
        simp only [Act.put, List.setIfInBounds_toArray, List.set_cons_succ, List.set_cons_zero]
        refine WG.cell rfl 61 _ rfl rfl yt (fun w h => ldcOps w h) ?_
        simp only [Act.put, List.setIfInBounds_toArray, List.set_cons_succ, List.set_cons_zero]
        refine WG.put rfl (v := .int .i64 (ln : Int)) (fun w => by first | rfl | (go_simp; done) | (simp [go_sem]; done)) ?_
        simp only [Act.put, List.setIfInBounds_toArray, List.set_cons_succ, List.set_cons_zero]
        refine WG.put rfl (v := .bool false) (fun w => by first | rfl | (go_simp; done) | (simp [go_sem, hd]; done)) ?_
        simp only [Act.put, List.setIfInBounds_toArray, List.set_cons_succ, List.set_cons_zero]
        refine WG.nil ?_
        intro W5 B5
        clear y0 z0 yp yt
        go_wp2
        go_roundw
        case rel =>
          refine ⟨k + 1, by omega, by go_num, fun j hj => ?_, Below.then HB.out B5⟩
          rcases Nat.lt_succ_iff_lt_or_eq.1 hj with h | h
          · have := HJ.out j h; omega
          · subst h; have := HN.out; omega
        case measure => simp [intOf]; omega
      · have hd : (q != (ln : Int)) = true := by simpa using hd0
        have HD : Hid (doneB ths pc = false) := doneB_no (by rw [HNT.out]; exact hlt) (by rw [e1.out, e2.out, HLN.out]; have := HLq.out; omega)
        clear hd0
        go_wp2
        refine grow_allW (by kernel_rfl) (by kernel_rfl) ?_
        refine WG.put rfl (v := .pointer (some ⟨b3, 0, none⟩)) (fun w => by first | rfl | (go_simp; done) | (simp [go_sem]; done)) ?_
        simp only [Act.put, List.setIfInBounds_toArray, List.set_cons_succ, List.set_cons_zero]
        refine WG.cell rfl 29 _ rfl rfl y0 (fun w h => ldcIs w h) ?_
        simp only [Act.put, List.setIfInBounds_toArray, List.set_cons_succ, List.set_cons_zero]
        refine WG.put rfl (v := .int .i64 (k : Int)) (fun w => by first | rfl | (go_simp; done) | (simp [go_sem]; done)) ?_
        simp only [Act.put, List.setIfInBounds_toArray, List.set_cons_succ, List.set_cons_zero]
        refine WG.put rfl (v := .pointer (some ⟨gp, op + k, none⟩)) (fun w => by first | rfl | (go_simp; done) | (simp [go_sem, hki]; done)) ?_
        simp only [Act.put, List.setIfInBounds_toArray, List.set_cons_succ, List.set_cons_zero]
        refine WG.cell rfl 3 _ rfl rfl yp (fun w h => ldcI w h) ?_
        simp only [Act.put, List.setIfInBounds_toArray, List.set_cons_succ, List.set_cons_zero]
        refine WG.put rfl (v := .pointer (some ⟨b2, 0, none⟩)) (fun w => by first | rfl | (go_simp; done) | (simp [go_sem]; done)) ?_
        simp only [Act.put, List.setIfInBounds_toArray, List.set_cons_succ, List.set_cons_zero]
        refine WG.cell rfl 22 _ rfl rfl z0 (fun w h => ldcTt w h) ?_
        simp only [Act.put, List.setIfInBounds_toArray, List.set_cons_succ, List.set_cons_zero]
        refine WG.put rfl (v := .int .i64 (k : Int)) (fun w => by first | rfl | (go_simp; done) | (simp [go_sem]; done)) ?_
        simp only [Act.put, List.setIfInBounds_toArray, List.set_cons_succ, List.set_cons_zero]
        refine WG.put rfl (v := .pointer (some ⟨bt, ot + k, none⟩)) (fun w => by first | rfl | (go_simp; done) | (simp [go_sem, hki]; done)) ?_
        simp only [Act.put, List.setIfInBounds_toArray, List.set_cons_succ, List.set_cons_zero]
        refine WG.cell rfl 61 _ rfl rfl yt (fun w h => ldcOps w h) ?_
        simp only [Act.put, List.setIfInBounds_toArray, List.set_cons_succ, List.set_cons_zero]
        refine WG.put rfl (v := .int .i64 (ln : Int)) (fun w => by first | rfl | (go_simp; done) | (simp [go_sem]; done)) ?_
        simp only [Act.put, List.setIfInBounds_toArray, List.set_cons_succ, List.set_cons_zero]
        refine WG.put rfl (v := .bool true) (fun w => by first | rfl | (go_simp; done) | (simp [go_sem, hd]; done)) ?_
        simp only [Act.put, List.setIfInBounds_toArray, List.set_cons_succ, List.set_cons_zero]
        refine WG.nil ?_
        intro W5 B5
        clear y0 z0 yp yt
        go_wp2
        go_ret
        exact ⟨by rw [HD.out]; rfl, Below.then BX B5⟩
    · have ek : k = n := by omega
      subst ek
      have hki : ¬ ((k : Int) < k) := by omega
      have HD : Hid (doneB ths pc = true) := doneB_yes (by rw [HNT.out]; exact HJ.out)
      go_wp2
      go_ret
      exact ⟨by rw [HD.out]; rfl, BX⟩
/-- The threads that can go, below a number. -/
def pksL (ths : List (List Op5)) (pc : List Int) (k : Nat) : List Nat := (List.range k).filter fun j => decide (pc.getD j 0 < ((ths.getD j []).length : Int))
theorem own_isS' {w : World} {B t t' s n g : Nat} {v : Value} {xs cs : List Value} (ho : w.ownsRow B t s v n xs) (I : IsS w g t' cs) (ht : t ≠ t') : v.ownBlock ≠ some g := by
  intro hk
  rcases ho.2 with ⟨rfl, _⟩ | ⟨g', cap', cur', rfl, _, hh', _⟩
  · cases hk
  · simp [Value.ownBlock] at hk
    subst hk
    unfold IsS at I
    rw [I] at hh'
    simp at hh'
    exact ht hh'.2.symm
def pkE (j : Nat) : List Value := [.int .i64 (j : Int), .int .i64 1, .int .i64 0]
theorem pks_next (ths : List (List Op5)) (pc : List Int) (k : Nat) : pksL ths pc (k + 1) = if pc.getD k 0 < ((ths.getD k []).length : Int) then pksL ths pc k ++ [k] else pksL ths pc k := by
  unfold pksL
  rw [List.range_succ, List.filter_append]
  by_cases h : pc.getD k 0 < ((ths.getD k []).length : Int)
  · rw [if_pos h]; simp only [List.filter_cons, List.filter_nil, decide_eq_true h, if_true]
  · rw [if_neg h]; simp only [List.filter_cons, List.filter_nil, decide_eq_false h, Bool.false_eq_true, if_false, List.append_nil]
theorem pks_len (ths : List (List Op5)) (pc : List Int) (k : Nat) : (pksL ths pc k).length ≤ k := by
  unfold pksL
  exact Nat.le_trans (List.length_filter_le _ _) (by simp)
theorem pk_len (l : List Nat) : (l.flatMap pkE).length = l.length * 3 := by
  induction l with
  | nil => rfl
  | cons r l ih => rw [List.flatMap_cons, List.length_append, ih, List.length_cons]; simp [pkE]; omega
theorem ePk : Elt 68 52 3 (.agg #[.int .i64 0, .int .i64 0, .int .i64 0]) 24 := ⟨Try.underlying52, info_parts (by kernel_rfl), rfl, by decide, by decide⟩
section
variable {w : World} {ops : Array Oper} {rest : List Oper} {op : Oper} {a : Act} {Q : Exit → Act → World → Prop}
theorem exec_bPk (x : Operand) (ho : op.op = .buildSlice 52 1 #[(0, x)]) (j : Nat) (hx : a.eval x = .agg #[.int .i64 (j : Int), .int .i64 1, .int .i64 0]) : (execOp a.eval op).run Try.prog w = .ok (.value (.slice (some ⟨w.heap.size, 0, none⟩) 1 1)) (w.alloc (.cells (pkE j).toArray 68)) := by
  obtain ⟨i, hi, hz, hk, _⟩ := ePk.info
  generalize a.eval = ev at hx ⊢
  unfold execOp
  simp only [ho, hx]
  simp [Instr.buildSlice, Instr.fill, run_underlying ePk.und, sizeOf, typeInfo, zeroValue, hi, hk, hz, hx, newRow, Value.cells, pkE, show Array.range 3 = #[0, 1, 2] from rfl]
theorem wpList_bPk (hgd : op.guard = none) (x : Operand) (ho : op.op = .buildSlice 52 1 #[(0, x)]) (j : Nat) (hx : a.eval x = .agg #[.int .i64 (j : Int), .int .i64 1, .int .i64 0])
    (h : ∀ W b, Fresh w W b → IsS W b 68 (pkE j) → wpList Try.prog ops Q rest (a.put op.dst (.slice (some ⟨b, 0, none⟩) 1 1)) W) : wpList Try.prog ops Q (op :: rest) a w := by
  refine wpList_plain hgd fun K hK => ?_
  unfold Oper.wp
  rw [exec_bPk x ho j hx]
  exact hK _ _ (h _ _ (Fresh.alloc w _) (IsS.new w _ _))
end
set_option maxRecDepth 100000 in
set_option maxHeartbeats 4000000 in
theorem rpicks_any (ths : List (List Op5)) (pc : List Int) (n ct cp ch cb : Nat) (at0 ap ah ab : Option Addr) (vr vl vi vj vrg vmm : Value) (w : World) (hrg1 : vrg.oneCell' = true) (hmm1 : vmm.oneCell' = true) (hnt : ths.length = n) (hnp : pc.length = n) (hn : n ≤ 1048576) (htt : ths.flatten.length ≤ 1048576) (hT : RowsV w (.slice at0 n ct) op5L ths) (hP : Seg w ap (pc.flatMap intE)) (hH : RowV w (.slice ah n ch) n ((List.replicate n (0 : Int)).flatMap intE)) (hB : RowsV w (.slice ab n cb) wrE (List.replicate n ([] : List (Int × Int)))) :
    Calls Try.prog 59 #[.agg #[.slice at0 n ct, vr, vl, vi, vj], .agg #[.slice ap n cp, .slice ah n ch, vrg, vmm, .slice ab n cb, .int .i64 (-1)]] w fun e w' => ∃ v, e = .returned v ∧ w'.ownsRow w.heap.size 68 3 v (pksL ths pc n).length ((pksL ths pc n).flatMap pkE) ∧ Below w.heap.size w w' := by
  have HT : Hid (RowsV w (.slice at0 n ct) op5L ths) := hT
  have HP : Hid (Seg w ap (pc.flatMap intE)) := hP
  have HNT : Hid (ths.length = n) := hnt
  have HNP : Hid (pc.length = n) := hnp
  have HTT : Hid (ths.flatten.length ≤ 1048576) := htt
  have hnI : (n : Int) ≤ 1048576 := by omega
  have hPl := fun W (h : Below w.heap.size w W) => rplain_any n hn ap ah ab cp ch cb vrg vmm W (hH.below h) (hB.below h)
  clear hT hP hnt hnp htt hH hB
  have t1 : True := trivial
  have t2 : True := trivial
  have t3 : True := trivial
  go_enter Try.func59, Try.ntmps59
  go_wp2_with (first
    | (clear t1; refine wpList_boxS rfl 28 _ rfl [.slice at0 n ct, vr, vl, vi, vj] rfl ?_; intro W0 b2 F0 C0; have B0 := F_b F0; clear F0)
    | (clear t2; refine wpList_boxS rfl 32 _ rfl [.slice ap n cp, .slice ah n ch, vrg, vmm, .slice ab n cb, .int .i64 (-1)] rfl ?_; intro W1 b3 F1 C1; have B1 := F1.trans B0 B0.size; have P1 := C0.fresh F1; have z0 : W1.cell? ⟨b2, 0, none⟩ = some (.slice at0 n ct) := P1.cell 0; obtain ⟨y0, y1, y2, y3, y4, y5⟩ := st6 C1; clear F1 C0 y1 y2 y3 y4 y5)
    | (clear t3; refine wpList_loadW rfl 32 _ rfl rfl C1 _ Try.underlying32 rfl infoSt ?_)
    | (go_at_call 101; refine (hPl _ B1).mono ?_; rintro e W2 ⟨rfl, B2⟩; clear hPl y0 z0))
  have B02 := Below.then B1 B2
  have C2 := C1.grown B2
  have P2 := P1.grown B2
  have HC2 : Hid (IsS W2 b3 32 [.slice ap n cp, .slice ah n ch, vrg, vmm, .slice ab n cb, .int .i64 (-1)]) := C2
  have HP2 : Hid (IsS W2 b2 28 [.slice at0 n ct, vr, vl, vi, vj]) := P2
  clear C1 P1 C2 P2
  go_loopw [5, 6] (fun v i wr => ∃ k : Nat, k ≤ n ∧ i = .int .i64 (k : Int) ∧ Hid (wr.ownsRow w.heap.size 68 3 v (pksL ths pc k).length ((pksL ths pc k).flatMap pkE)) ∧ Hid (Below w.heap.size w wr) ∧ Hid (IsS wr b3 32 [.slice ap n cp, .slice ah n ch, vrg, vmm, .slice ab n cb, .int .i64 (-1)]) ∧ Hid (IsS wr b2 28 [.slice at0 n ct, vr, vl, vi, vj])) (fun _ i _ => n - (intOf i).toNat)
  case atStart => exact ⟨0, Nat.zero_le _, rfl, own_nil _ _ _ _, B02, HC2, HP2⟩
  case round =>
    clear HC2 HP2
    obtain ⟨k, hk, rfl, HO, HBw, HC, HPg⟩ := hrel
    have BX := HBw.out
    obtain ⟨y0, y1, y2, y3, y4, y5⟩ := st6 HC.out
    have z0 : wr.cell? ⟨b2, 0, none⟩ = some (.slice at0 n ct) := HPg.out.cell 0
    clear y1 y2 y3 y4 y5
    by_cases hlt : k < n
    · have hki : (k : Int) < n := by omega
      obtain ⟨th, hth⟩ : ∃ q, ths[k]? = some q := ⟨_, List.getElem?_eq_getElem (by rw [HNT.out]; exact hlt)⟩
      obtain ⟨bt, ot, al, cl, rfl, hbt, yt, _, _⟩ := (HT.out.below BX).at k th hth
      obtain ⟨q, hq⟩ : ∃ q, pc[k]? = some q := ⟨_, List.getElem?_eq_getElem (by rw [HNP.out]; exact hlt)⟩
      obtain ⟨gp, op, rfl, hbp, yp⟩ := (HP.out.below BX).int hq
      have hql : th.length ≤ 1048576 := row_few hth HTT.out
      have e1 : Hid (pc.getD k 0 = q) := by show _ = _; simp [hq]
      have e2 : Hid (ths.getD k [] = th) := by show _ = _; simp [hth]
      obtain ⟨ln, hln⟩ : ∃ n, th.length = n := ⟨_, rfl⟩
      have HLN : Hid (th.length = ln) := hln
      rw [hln] at yt hql
      have hlI : (ln : Int) ≤ 1048576 := by omega
      have HNX := pks_next ths pc k
      rw [e1.out, e2.out, HLN.out] at HNX
      have hpl := pks_len ths pc k
      obtain ⟨L', hL'⟩ : ∃ l, pksL ths pc (k + 1) = l := ⟨_, rfl⟩
      rw [hL'] at HNX
      have HL' : Hid (pksL ths pc (k + 1) = L') := hL'
      clear hL'
      generalize pksL ths pc k = L at *
      obtain ⟨av, cv, hv⟩ := own_form HO.out
      subst hv
      obtain ⟨ll, hll⟩ : ∃ l, L.length = l := ⟨_, rfl⟩
      rw [hll] at HO hpl ⊢
      have HLL : Hid (L.length = ll) := hll
      clear hq hth hln hll
      by_cases hd : q < (ln : Int)
      · rw [if_pos hd] at HNX
        have HNX' : Hid (L' = L ++ [k]) := HNX
        clear HNX
        go_wp2
        refine grow_allW (by kernel_rfl) (by kernel_rfl) ?_
        refine WG.put rfl (v := .pointer (some ⟨b3, 0, none⟩)) (fun w => by first | rfl | (go_simp; done) | (simp [go_sem]; done)) ?_
        simp only [Act.put, List.setIfInBounds_toArray, List.set_cons_succ, List.set_cons_zero]
        refine WG.cell rfl 29 _ rfl rfl y0 (fun w h => ldcIs w h) ?_
        simp only [Act.put, List.setIfInBounds_toArray, List.set_cons_succ, List.set_cons_zero]
        refine WG.put rfl (v := .int .i64 (k : Int)) (fun w => by first | rfl | (go_simp; done) | (simp [go_sem]; done)) ?_
        simp only [Act.put, List.setIfInBounds_toArray, List.set_cons_succ, List.set_cons_zero]
        refine WG.put rfl (v := .pointer (some ⟨gp, op + k, none⟩)) (fun w => by first | rfl | (go_simp; done) | (simp [go_sem, hki]; done)) ?_
        simp only [Act.put, List.setIfInBounds_toArray, List.set_cons_succ, List.set_cons_zero]
        refine WG.cell rfl 3 _ rfl rfl yp (fun w h => ldcI w h) ?_
        simp only [Act.put, List.setIfInBounds_toArray, List.set_cons_succ, List.set_cons_zero]
        refine WG.put rfl (v := .pointer (some ⟨b2, 0, none⟩)) (fun w => by first | rfl | (go_simp; done) | (simp [go_sem]; done)) ?_
        simp only [Act.put, List.setIfInBounds_toArray, List.set_cons_succ, List.set_cons_zero]
        refine WG.cell rfl 22 _ rfl rfl z0 (fun w h => ldcTt w h) ?_
        simp only [Act.put, List.setIfInBounds_toArray, List.set_cons_succ, List.set_cons_zero]
        refine WG.put rfl (v := .int .i64 (k : Int)) (fun w => by first | rfl | (go_simp; done) | (simp [go_sem]; done)) ?_
        simp only [Act.put, List.setIfInBounds_toArray, List.set_cons_succ, List.set_cons_zero]
        refine WG.put rfl (v := .pointer (some ⟨bt, ot + k, none⟩)) (fun w => by first | rfl | (go_simp; done) | (simp [go_sem, hki]; done)) ?_
        simp only [Act.put, List.setIfInBounds_toArray, List.set_cons_succ, List.set_cons_zero]
        refine WG.cell rfl 61 _ rfl rfl yt (fun w h => ldcOps w h) ?_
        simp only [Act.put, List.setIfInBounds_toArray, List.set_cons_succ, List.set_cons_zero]
        refine WG.put rfl (v := .int .i64 (ln : Int)) (fun w => by first | rfl | (go_simp; done) | (simp [go_sem]; done)) ?_
        simp only [Act.put, List.setIfInBounds_toArray, List.set_cons_succ, List.set_cons_zero]
        refine WG.put rfl (v := .bool true) (fun w => by first | rfl | (go_simp; done) | (simp [go_sem, hd]; done)) ?_
        simp only [Act.put, List.setIfInBounds_toArray, List.set_cons_succ, List.set_cons_zero]
        refine WG.nil ?_
        intro W5 B5
        have O5 := own_below HO.out B5
        have BX5 := Below.then BX B5
        have C5 := HC.out.grown B5
        have P5 := HPg.out.grown B5
        clear y0 z0 yp yt HO
        have t5 : True := trivial
        go_wp2_with (first
          | (clear t5; refine wpList_bPk rfl _ rfl k rfl ?_; intro W6 b6 F6 I6; have B6 := F_b F6; have O6 := own_below O5 B6; have BX6 := Below.then BX5 B6; have C6 := C5.grown B6; have P6 := P5.grown B6)
          | (at_builtin; refine wpList_appM ePk rfl _ _ rfl w.heap.size (.slice av ll cv) ll (L.flatMap pkE) rfl O6 (.slice (some ⟨b6, 0, none⟩) 1 1) 1 (pkE k) rfl (row_isS I6) rfl (by simp [pkE, Value.oneCell']) (by omega) BX6.size ?_; intro v7 W7 O7 G7; have B7 := grown_below BX6 BX6.size O6 G7; have C7 := (G7.block b3 C6.lt (fun e => own_isS' O6 C6 (by decide) e.symm)).trans C6; have P7 := (G7.block b2 P6.lt (fun e => own_isS' O6 P6 (by decide) e.symm)).trans P6))
        go_roundw
        case rel => exact ⟨k + 1, by omega, by go_num, by show World.ownsRow _ _ _ _ _ _ _; rw [HL'.out, HNX'.out, List.length_append, List.flatMap_append, HLL.out]; simpa using O7, B7, C7, P7⟩
        case measure => simp [intOf]; omega
      · rw [if_neg hd] at HNX
        have HNX' : Hid (L' = L) := HNX
        clear HNX
        go_wp2
        refine grow_allW (by kernel_rfl) (by kernel_rfl) ?_
        refine WG.put rfl (v := .pointer (some ⟨b3, 0, none⟩)) (fun w => by first | rfl | (go_simp; done) | (simp [go_sem]; done)) ?_
        simp only [Act.put, List.setIfInBounds_toArray, List.set_cons_succ, List.set_cons_zero]
        refine WG.cell rfl 29 _ rfl rfl y0 (fun w h => ldcIs w h) ?_
        simp only [Act.put, List.setIfInBounds_toArray, List.set_cons_succ, List.set_cons_zero]
        refine WG.put rfl (v := .int .i64 (k : Int)) (fun w => by first | rfl | (go_simp; done) | (simp [go_sem]; done)) ?_
        simp only [Act.put, List.setIfInBounds_toArray, List.set_cons_succ, List.set_cons_zero]
        refine WG.put rfl (v := .pointer (some ⟨gp, op + k, none⟩)) (fun w => by first | rfl | (go_simp; done) | (simp [go_sem, hki]; done)) ?_
        simp only [Act.put, List.setIfInBounds_toArray, List.set_cons_succ, List.set_cons_zero]
        refine WG.cell rfl 3 _ rfl rfl yp (fun w h => ldcI w h) ?_
        simp only [Act.put, List.setIfInBounds_toArray, List.set_cons_succ, List.set_cons_zero]
        refine WG.put rfl (v := .pointer (some ⟨b2, 0, none⟩)) (fun w => by first | rfl | (go_simp; done) | (simp [go_sem]; done)) ?_
        simp only [Act.put, List.setIfInBounds_toArray, List.set_cons_succ, List.set_cons_zero]
        refine WG.cell rfl 22 _ rfl rfl z0 (fun w h => ldcTt w h) ?_
        simp only [Act.put, List.setIfInBounds_toArray, List.set_cons_succ, List.set_cons_zero]
        refine WG.put rfl (v := .int .i64 (k : Int)) (fun w => by first | rfl | (go_simp; done) | (simp [go_sem]; done)) ?_
        simp only [Act.put, List.setIfInBounds_toArray, List.set_cons_succ, List.set_cons_zero]
        refine WG.put rfl (v := .pointer (some ⟨bt, ot + k, none⟩)) (fun w => by first | rfl | (go_simp; done) | (simp [go_sem, hki]; done)) ?_
        simp only [Act.put, List.setIfInBounds_toArray, List.set_cons_succ, List.set_cons_zero]
        refine WG.cell rfl 61 _ rfl rfl yt (fun w h => ldcOps w h) ?_
        simp only [Act.put, List.setIfInBounds_toArray, List.set_cons_succ, List.set_cons_zero]
        refine WG.put rfl (v := .int .i64 (ln : Int)) (fun w => by first | rfl | (go_simp; done) | (simp [go_sem]; done)) ?_
        simp only [Act.put, List.setIfInBounds_toArray, List.set_cons_succ, List.set_cons_zero]
        refine WG.put rfl (v := .bool false) (fun w => by first | rfl | (go_simp; done) | (simp [go_sem, hd]; done)) ?_
        simp only [Act.put, List.setIfInBounds_toArray, List.set_cons_succ, List.set_cons_zero]
        refine WG.nil ?_
        intro W5 B5
        have O5 := own_below HO.out B5
        have BX5 := Below.then BX B5
        have C5 := HC.out.grown B5
        have P5 := HPg.out.grown B5
        clear y0 z0 yp yt HO
        go_wp2
        go_roundw
        case rel => exact ⟨k + 1, by omega, by go_num, by show World.ownsRow _ _ _ _ _ _ _; rw [HL'.out, HNX'.out, HLL.out]; exact O5, BX5, C5, P5⟩
        case measure => simp [intOf]; omega
    · have ek : k = n := by omega
      subst ek
      have hki : ¬ ((k : Int) < k) := by omega
      go_wp2
      go_ret
      exact ⟨_, rfl, HO.out, BX⟩
end Go.Proofs.Ytegpnicajlndlaa
/- Picks against picks; which threads can go. -/
namespace Go.Proofs.Ytegpnicajlndlaa
open Go.RowKit M
set_option linter.unusedSimpArgs false
set_option linter.unusedVariables false

theorem exec_neqPk {w : World} {op : Oper} {a : Act} {x y : Operand} {i j : Int} (ho : op.op = .binOp .neq 68 x y 68) (hx : a.eval x = .agg #[.int .i64 i, .int .i64 1, .int .i64 0]) (hy : a.eval y = .agg #[.int .i64 j, .int .i64 1, .int .i64 0]) (b : Bool) (hb : (i != j) = b) : (execOp a.eval op).run Try.prog w = .ok (.value (.bool b)) w := by
  generalize a.eval = ev at hx hy ⊢
  unfold execOp
  subst hb
  simp [ho, hx, hy, go_sem]
  by_cases h : i = j <;> simp [h]
theorem mem_pks {ths : List (List Op5)} {pc : List Int} {n j : Nat} : j ∈ pksL ths pc n ↔ j < n ∧ pc.getD j 0 < ((ths.getD j []).length : Int) := by
  unfold pksL
  rw [List.mem_filter, List.mem_range, decide_eq_true_eq]
theorem pk_at : ∀ (l : List Nat) (i : Nat) (j : Nat), l[i]? = some j → ∀ (e : Nat) (v : Value), (pkE j)[e]? = some v → (l.flatMap pkE)[i * 3 + e]? = some v
  | [], i, j, h, e, v, hv => by simp at h
  | x :: l, 0, j, h, e, v, hv => by
    simp at h; subst h
    have he : e < (pkE x).length := (List.getElem?_eq_some_iff.1 hv).1
    show (pkE x ++ l.flatMap pkE)[0 * 3 + e]? = some v
    rw [Nat.zero_mul, Nat.zero_add, List.getElem?_append_left he]; exact hv
  | x :: l, i + 1, j, h, e, v, hv => by
    have := pk_at l i j (by simpa using h) e v hv
    show (pkE x ++ l.flatMap pkE)[(i + 1) * 3 + e]? = some v
    have e1 : (pkE x).length = 3 := rfl
    rw [List.getElem?_append_right (by omega), e1, show (i + 1) * 3 + e - 3 = i * 3 + e by omega]
    exact this
theorem pk_range {w : World} {a : Option Addr} {l : List Nat} (h : Seg w a (l.flatMap pkE)) {i j : Nat} (hj : l[i]? = some j) : ∃ b o, a = some ⟨b, o, none⟩ ∧ b < w.heap.size ∧ w.rangeAt b (o + i * 3) (pkE j) := by
  obtain ⟨b, o, e, hb, _⟩ := h (i * 3 + 0) _ (pk_at l i j hj 0 _ rfl)
  refine ⟨b, o, e, hb, fun k v hv => ?_⟩
  obtain ⟨b', o', e', _, hc⟩ := h (i * 3 + k) v (pk_at l i j hj k v hv)
  rw [e] at e'; cases e'
  rw [Nat.add_assoc]; exact hc
/-- A step goes just if its thread is among the picks. -/
theorem step_mem {p : PG} {pc : List Int} {regs : List (List Int)} {mem : List Int} {i : Int} {t : List Int × List (List Int) × List Int} (hv : Vld p) (hI : Inv p pc regs mem) (h : stepS p.threads pc regs mem i = some t) : ∃ j : Nat, i = (j : Int) ∧ j ∈ pksL p.threads pc p.threads.length := by
  obtain ⟨j, qn, th, o, rj, rfl, hth, hpc, ho, hrj, hoi, rfl⟩ := step_some hv hI h
  have hq := (List.getElem?_eq_some_iff.1 ho).1
  refine ⟨j, rfl, mem_pks.2 ⟨(List.getElem?_eq_some_iff.1 hth).1, ?_⟩⟩
  have e1 : pc.getD j 0 = (qn : Int) := by simp [hpc]
  have e2 : p.threads.getD j [] = th := by simp [hth]
  rw [e1, e2]; omega
theorem step_not {p : PG} {pc : List Int} {regs : List (List Int)} {mem : List Int} {i : Int} (hI : Inv p pc regs mem) (h : stepS p.threads pc regs mem i = none) : ∀ j ∈ pksL p.threads pc p.threads.length, (j : Int) ≠ i := by
  intro j hj e
  obtain ⟨h1, h2⟩ := mem_pks.1 hj
  rcases step_none hI h with h0 | ⟨_, h0⟩ | ⟨j', th, q, e', hth, hjp, hq, hle⟩
  · omega
  · omega
  · have : j = j' := by omega
    subst this
    have e1 : pc.getD j 0 = q := by simp [hq]
    have e2 : p.threads.getD j [] = th := by simp [hth]
    rw [e1, e2] at h2
    omega
theorem infoPk : (Try.prog.info? 68).map (·.size) = some 3 := by kernel_rfl
theorem infoPkE (j : Nat) : (Try.prog.info? 68).map (·.size) = some (pkE j).length := infoPk
end Go.Proofs.Ytegpnicajlndlaa
/- The reference's Step. -/
namespace Go.Proofs.Ytegpnicajlndlaa
open Go.RowKit M
set_option linter.unusedSimpArgs false
set_option linter.unusedVariables false

theorem row_seg {w : World} {a : Option Addr} {n m c : Nat} {xs : List Value} (h : RowV w (.slice a n c) m xs) : Seg w a xs := by
  obtain ⟨a', c', e, hs, _⟩ := h
  injection e with e1 e2 e3
  rw [e1]; exact hs
theorem own_segI3 {w : World} {B t s n m c : Nat} {a : Option Addr} {xs : List Value} (h : w.ownsRow B t s (.slice a n c) m xs) : Seg w a xs := row_seg (own_row h)
theorem build0St {w : World} {op : Oper} {a : Act} (ho : op.op = .build 32 #[]) : (execOp a.eval op).run Try.prog w = .ok (.value (.agg [.slice none 0 0, .slice none 0 0, .slice none 0 0, .slice none 0 0, .slice none 0 0, .int .i64 0].toArray)) w := by
  unfold execOp
  simp [ho, go_sem]
theorem wpList_b0St {w : World} {ops : Array Oper} {rest : List Oper} {op : Oper} {a : Act} {Q : Exit → Act → World → Prop} (hgd : op.guard = none) (ho : op.op = .build 32 #[]) (h : wpList Try.prog ops Q rest (a.put op.dst (.agg [.slice none 0 0, .slice none 0 0, .slice none 0 0, .slice none 0 0, .slice none 0 0, .int .i64 0].toArray)) w) : wpList Try.prog ops Q (op :: rest) a w := by
  refine wpList_plain hgd fun K hK => ?_
  unfold Oper.wp
  rw [build0St ho]
  exact hK _ _ h
set_option maxRecDepth 100000 in
set_option maxHeartbeats 4000000 in
theorem rstep_none (p : PG) (hv : Vld p) (hf : p.Few) (pc : List Int) (regs : List (List Int)) (mem : List Int) (hI : Inv p pc regs mem) (i : Int) (n nm ct cp ch cr cm cb : Nat) (at0 ap ah ar am ab : Option Addr) (vr vl vi vj : Value) (w : World) (hn0 : p.threads.length = n) (hnm : mem.length = nm)
    (hT : RowsV w (.slice at0 n ct) op5L p.threads) (hS : RS w (.slice ap n cp) (.slice ah n ch) (.slice ar n cr) (.slice am nm cm) (.slice ab n cb) n pc regs mem) (hst : stepS p.threads pc regs mem i = none) :
    Calls Try.prog 23 #[.agg #[.slice at0 n ct, vr, vl, vi, vj], .agg #[.slice ap n cp, .slice ah n ch, .slice ar n cr, .slice am nm cm, .slice ab n cb, .int .i64 (-1)], .agg #[.int .i64 i, .int .i64 1, .int .i64 0]] w fun e w' => e = .returned (.tuple #[.agg [.slice none 0 0, .slice none 0 0, .slice none 0 0, .slice none 0 0, .slice none 0 0, .int .i64 0].toArray, .bool false]) ∧ Below w.heap.size w w' := by
  have hf' := hf
  obtain ⟨ni, hni⟩ : ∃ k, p.threads.length = k := ⟨_, rfl⟩
  have HT : Hid (RowsV w (.slice at0 n ct) op5L p.threads) := hT
  have HS : Hid (RS w (.slice ap n cp) (.slice ah n ch) (.slice ar n cr) (.slice am nm cm) (.slice ab n cb) n pc regs mem) := hS
  have hseg := fun W (h : RS W (.slice ap n cp) (.slice ah n ch) (.slice ar n cr) (.slice am nm cm) (.slice ab n cb) n pc regs mem) => (row_seg h.pc)
  have hpk := fun W (hB : Below w.heap.size w W) => rpicks_any p.threads pc n ct cp ch cb at0 ap ah ab vr vl vi vj (.slice ar n cr) (.slice am nm cm) W rfl rfl hn0 (hI.pl.trans hn0) (by rw [← hn0]; exact hf.t) hf.tt (hT.below hB) (row_seg (hS.below hB).pc) (hS.below hB).ph (hS.below hB).bf
  obtain ⟨L, hL⟩ : ∃ l, pksL p.threads pc n = l := ⟨_, rfl⟩
  have HLl : Hid (pksL p.threads pc n = L) := hL
  have hll0 := pks_len p.threads pc n
  rw [hL] at hpk hll0
  obtain ⟨ll, hll⟩ : ∃ l, L.length = l := ⟨_, rfl⟩
  have HLL : Hid (L.length = ll) := hll
  rw [hll] at hpk hll0
  have hnle : n ≤ 1048576 := by rw [← hn0]; exact hf.t
  have hllI : (ll : Int) ≤ 1048576 := by omega
  have HNo : Hid (∀ j ∈ L, (j : Int) ≠ i) := by have := step_not hI hst; rw [hn0, hL] at this; exact this
  clear hT hS hL hll hseg hni hI hst hf hf' hv
  have t1 : True := trivial
  have t2 : True := trivial
  have t3 : True := trivial
  have t4 : True := trivial
  have t5 : True := trivial
  have t6 : True := trivial
  go_enter Try.func23, Try.ntmps23
  go_wp2_with (first
    | (clear t1; refine wpList_boxS rfl 28 _ rfl [.slice at0 n ct, vr, vl, vi, vj] rfl ?_; intro V0 b3 F0 P0; have A0 := F_b F0; clear F0)
    | (clear t2; refine wpList_boxS rfl 32 _ rfl [.slice ap n cp, .slice ah n ch, .slice ar n cr, .slice am nm cm, .slice ab n cb, .int .i64 (-1)] rfl ?_; intro V1 b4 F1 S1; have A1 := F1.trans A0 A0.size; have P1 := P0.fresh F1; clear F1 P0)
    | (clear t3; refine wpList_boxS rfl 68 _ rfl [.int .i64 i, .int .i64 1, .int .i64 0] rfl ?_; intro V2 b5 F2 K2; have A2 := F2.trans A1 A1.size; have P2 := P1.fresh F2; have S2 := S1.fresh F2; clear F2 P1 S1)
    | (clear t4; refine wpList_allocS rfl 32 rfl [.slice none 0 0, .slice none 0 0, .slice none 0 0, .slice none 0 0, .slice none 0 0, .int .i64 0] zeroSt ?_; intro V3 b6 F3 R3; have A3 := F3.trans A2 A2.size; have P3 := P2.fresh F3; have S3 := S2.fresh F3; have K3 := K2.fresh F3; have hb6 : w.heap.size ≤ b6 := Nat.le_trans A2.size (Nat.le_of_eq F3.at'.symm); clear F3 P2 S2 K2)
    | (clear t5; refine wpList_loadW rfl 28 _ rfl rfl P3 _ Try.underlying28 rfl infoPg ?_)
    | (clear t6; refine wpList_loadW rfl 32 _ rfl rfl S3 _ Try.underlying32 rfl infoSt ?_)
    | (go_at_call 59; refine (hpk _ A3).mono ?_; rintro e V4 ⟨vL, rfl, OL, B4⟩; have A4 := Below.then A3 B4; have P4 := P3.grown B4; have S4 := S3.grown B4; have K4 := K3.grown B4; have R4 := R3.grown B4; clear hpk P3 S3 K3 R3))
  obtain ⟨aL, cl0, hvL⟩ := own_form OL
  subst hvL
  have SL4 := own_segI3 OL
  have HSL : Hid (Seg V4 aL (L.flatMap pkE)) := SL4
  have HP4 : Hid (IsS V4 b3 28 [.slice at0 n ct, vr, vl, vi, vj]) := P4
  have HS4 : Hid (IsS V4 b4 32 [.slice ap n cp, .slice ah n ch, .slice ar n cr, .slice am nm cm, .slice ab n cb, .int .i64 (-1)]) := S4
  have HK4 : Hid (IsS V4 b5 68 [.int .i64 i, .int .i64 1, .int .i64 0]) := K4
  have HR4 : Hid (IsS V4 b6 32 [.slice none 0 0, .slice none 0 0, .slice none 0 0, .slice none 0 0, .slice none 0 0, .int .i64 0]) := R4
  clear OL SL4 P4 S4 K4 R4
  go_loopw [9] (fun x wr => ∃ k : Nat, k ≤ ll ∧ x = .int .i64 (k : Int) ∧ Hid (Below V4.heap.size V4 wr)) (fun x _ => ll - (intOf x).toNat)
  case atStart => exact ⟨0, Nat.zero_le _, rfl, Below.refl _ _⟩
  case round =>
    obtain ⟨k, hk, rfl, HB⟩ := hrel
    by_cases hlt : k < ll
    · have hki : (k : Int) < ll := by omega
      obtain ⟨jk, hjk⟩ : ∃ j, L[k]? = some j := ⟨_, List.getElem?_eq_getElem (by rw [HLL.out]; exact hlt)⟩
      obtain ⟨bl, ol, rfl, hbl, hrg⟩ := pk_range (HSL.out.below HB.out) hjk
      have hne : ((jk : Int) != i) = true := by have := HNo.out jk (List.mem_of_getElem? hjk); simpa using this
      have K5 := HK4.out.grown HB.out
      clear hjk
      go_wp2
      refine grow_allW (by kernel_rfl) (by kernel_rfl) ?_
      refine WG.put rfl (v := .slice (some ⟨bl, ol, none⟩) ll cl0) (fun w => by first | rfl | (go_simp; done) | (simp [go_sem]; done)) ?_
      simp only [Act.put, List.setIfInBounds_toArray, List.set_cons_succ, List.set_cons_zero]
      refine WG.put rfl (v := .int .i64 (k : Int)) (fun w => by first | rfl | (go_simp; done) | (simp [go_sem]; done)) ?_
      simp only [Act.put, List.setIfInBounds_toArray, List.set_cons_succ, List.set_cons_zero]
      refine WG.put rfl (v := .pointer (some ⟨bl, ol + k * 3, none⟩)) (fun w => by first | rfl | (go_simp; done) | (simp [go_sem, hki]; done)) ?_
      simp only [Act.put, List.setIfInBounds_toArray, List.set_cons_succ, List.set_cons_zero]
      refine WG.range rfl 68 _ rfl rfl (pkE jk) hbl hrg _ Try.underlying68 rfl (infoPkE jk) ?_
      simp only [Act.put, List.setIfInBounds_toArray, List.set_cons_succ, List.set_cons_zero]
      refine WG.row rfl 68 _ rfl rfl K5 [.int .i64 i, .int .i64 1, .int .i64 0] rfl _ Try.underlying68 rfl infoPk ?_
      simp only [Act.put, List.setIfInBounds_toArray, List.set_cons_succ, List.set_cons_zero]
      refine WG.put rfl (v := .bool true) (fun w => exec_neqPk rfl rfl rfl true hne) ?_
      simp only [Act.put, List.setIfInBounds_toArray, List.set_cons_succ, List.set_cons_zero]
      refine WG.nil ?_
      intro W5 B5
      clear K5 hrg
      go_wp2
      go_roundw
      case rel => exact ⟨k + 1, by omega, by go_num, Below.then HB.out B5⟩
      case measure => simp [intOf]; omega
    · have ek : k = ll := by omega
      subst ek
      have hki : ¬ ((k : Int) < k) := by omega
      have R5 := HR4.out.grown HB.out
      have B05 := Below.then A4 HB.out
      have ta : True := trivial
      go_wp2_with (first
        | (clear ta; refine wpList_b0St rfl rfl ?_)
        | (refine wpList_storeW rfl 32 _ _ rfl rfl [.slice none 0 0, .slice none 0 0, .slice none 0 0, .slice none 0 0, .slice none 0 0, .int .i64 0] rfl R5 rfl infoSt (by simp [Value.oneCell']) ?_; intro W8 U8 D8; have B08 := U8.trans B05 hb6; clear R5 U8))
      exact ret_ST rfl rfl rfl D8 _ Try.underlying32 rfl infoSt _ rfl ⟨rfl, B08⟩
end Go.Proofs.Ytegpnicajlndlaa
/- What Step leaves: the new state, read off the rows that were written. -/
namespace Go.Proofs.Ytegpnicajlndlaa
open Go.RowKit M
set_option linter.unusedSimpArgs false
set_option linter.unusedVariables false

/-- One row is written anew; the others lie as they lay. -/
theorem OwnA.setRow {w W : World} {B j : Nat} {v u : Value} {vs us : List Value} {regs : List (List Int)} {rj r' : List Int} (h : OwnA w B v vs regs) (F : Fr w W us) (hu : vs[j]? = some u) (hr : regs[j]? = some rj) (hl : r'.length = rj.length) (hO : W.ownsRow B 2 1 u rj.length (r'.flatMap intE))
    (hus : ∀ x ∈ us, x = u ∨ ((∀ k, v.ownBlock = some k → x.ownBlock ≠ some k) ∧ ∀ (i : Nat) y k, vs[i]? = some y → y.ownBlock = some k → x.ownBlock ≠ some k)) : OwnA W B v vs (regs.set j r') := by
  have hout := F.own h.out fun k hk x hx => by
    rcases hus x hx with rfl | h1
    · exact own_diff h.out (h.row j x rj hu hr) (by decide) hk
    · exact h1.1 k hk
  refine ⟨(by rw [List.length_set]; exact h.len), (by rw [List.length_set]; exact hout), fun i y xs hy hx => ?_, h.apart⟩
  · rw [List.getElem?_set] at hx
    split at hx
    · rename_i e
      subst e
      split at hx
      · cases hx
        rw [hu] at hy
        cases hy
        rw [hl]; exact hO
      · cases hx
    · rename_i e
      refine F.own (h.row i y xs hy hx) fun k hk x hx' => ?_
      rcases hus x hx' with rfl | h1
      · exact h.apart i j y x k (fun e' => e e'.symm) hy hu hk
      · exact h1.2 i y k hy hk
/-- A state that no block of a State's own holds: whoever keeps the other blocks keeps it. -/
def RSk (Z : World) (vpc vph vrg vmm vbf : Value) (n : Nat) (pc : List Int) (regs : List (List Int)) (mem : List Int) : Prop := ∀ W : World, (∀ k, (∀ cs, ¬ IsS Z k 32 cs) → k < Z.heap.size → W.heap[k]? = Z.heap[k]?) → RS W vpc vph vrg vmm vbf n pc regs mem
theorem RSk.below {Z Z' : World} {vpc vph vrg vmm vbf : Value} {n : Nat} {pc : List Int} {regs : List (List Int)} {mem : List Int} (h : RSk Z vpc vph vrg vmm vbf n pc regs mem) (hB : Below Z.heap.size Z Z') : RSk Z' vpc vph vrg vmm vbf n pc regs mem := fun W hW => h W fun k hk hl => (hW k (fun cs I => hk cs ((hB.block k hl).symm.trans I)) (Nat.lt_of_lt_of_le hl hB.size)).trans (hB.block k hl)
/-- The state behind a step: its rows of one's own, the thread's number one more, the struct handed out. -/
theorem rs_fin {X Y Z : World} {B gp c1 n b6 j nm : Nat} {ps zs : List Value} {pc : List Int} {x : Int} {vph vrg vmm vbf : Value} {vs bs : List Value} {regs : List (List Int)} {mem : List Int}
    (hg : B ≤ gp) (I : IsS X gp 3 ps) (ht : ps.take n = pc.flatMap intE) (hc : n ≤ c1) (hm : c1 ≤ maxLen) (hs : ps.length = c1)
    (Oph : X.ownsRow B 3 1 vph n ((List.replicate n (0 : Int)).flatMap intE)) (hap : vph.ownBlock ≠ some gp) (Org : OwnA X B vrg vs regs) (Omm : X.ownsRow B 2 1 vmm nm (mem.flatMap intE)) (hml : mem.length = nm) (Obf : X.ownsRow B 48 1 vbf bs.length bs) (hbs : bs.length = n) (hbe : ∀ u ∈ bs, ∃ a c, u = .slice a 0 c ∧ (a = none → c = 0))
    (U : Upd X Y gp) (IY : IsS Y gp 3 (ps.set j (.int .i64 x))) (J : IsS Y b6 32 zs) (V : Upd Y Z b6) : RSk Z (.slice (some ⟨gp, 0, none⟩) n c1) vph vrg vmm vbf n (pc.set j x) regs mem := by
  intro W hW
  have keep : ∀ (t s m : Nat) (v : Value) (xs : List Value), X.ownsRow B t s v m xs → v.ownBlock ≠ some gp → t ≠ 32 → W.ownsRow B t s v m xs := fun t s m v xs ho h1 h2 => by
    have hY : Y.ownsRow B t s v m xs := own_same ho fun k hk => U.block k (fun e => h1 (by rw [hk, e]))
    have hZ : Z.ownsRow B t s v m xs := own_same hY fun k hk => V.block k (own_isS hY J h2 hk)
    exact own_same hZ fun k hk => hW k (fun cs I => own_isS hZ I h2 hk rfl) (own_lt hZ hk).2
  have hp : Y.ownsRow B 3 1 (.slice (some ⟨gp, 0, none⟩) n c1) n ((pc.set j x).flatMap intE) := put_own hg (show IsS Y gp 3 (ps.set (0 + j) (.int .i64 x)) by rw [Nat.zero_add]; exact IY) ht hc hm hs
  have hpZ := own_same hp fun k hk => V.block k (own_isS hp J (by decide) hk)
  have hr : ∀ (i : Nat) u xs, vs[i]? = some u → regs[i]? = some xs → W.ownsRow B 2 1 u xs.length (xs.flatMap intE) := fun i u xs hu hx => keep _ _ _ _ _ (Org.row i u xs hu hx) (own_isS' (Org.row i u xs hu hx) I (by decide)) (by decide)
  refine ⟨own_row (own_same hpZ fun k hk => hW k (fun cs I => own_isS hpZ I (by decide) hk rfl) (own_lt hpZ hk).2), own_row (keep _ _ _ _ _ Oph hap (by decide)), ⟨vs, Org.len, own_row (keep _ _ _ _ _ Org.out (own_isS' Org.out I (by decide)) (by decide)), fun i u xs hu hx => own_row (hr i u xs hu hx)⟩, by rw [hml]; exact own_row (keep _ _ _ _ _ Omm (own_isS' Omm I (by decide)) (by decide)), ?_⟩
  refine ⟨bs, by rw [hbs, List.length_replicate], by rw [List.length_replicate, ← hbs]; exact own_row (keep _ _ _ _ _ Obf (own_isS' Obf I (by decide)) (by decide)), fun i u xs hu hx => ?_⟩
  rw [List.getElem?_replicate] at hx
  split at hx
  · cases hx
    obtain ⟨a, c, rfl, hz⟩ := hbe u (List.mem_of_getElem? hu)
    exact ⟨a, c, rfl, Seg.nil _ _, hz⟩
  · cases hx
end Go.Proofs.Ytegpnicajlndlaa

/- SC5, SC6 -/
import Derived.Test.YtegpnicajlndlaaQar
import Derived.Laws.AppendOwn
namespace Go.Proofs.Ytegpnicajlndlaa
open Go.RowKit M
set_option linter.unusedSimpArgs false
set_option linter.unusedVariables false
theorem zeros_size (z : Value) (n : Nat) : (Builtin.zeroCells #[z] n).size = n := by simp [Builtin.zeroCells]
theorem wpList_app0 {w : World} {ops : Array Oper} {rest : List Oper} {op : Oper} {a : Act} {Q : Exit → Act → World → Prop} (hgd : op.guard = none) (s x : Operand) (ho : op.op = .call { callee := .builtin .append, args := #[s, x], argTypes := #[26, 3] }) (n : Nat) (h0 : 0 < n) (hn : n ≤ 1048576) (hs : a.eval s = .slice none 0 0) (hx : a.eval x = .int .i64 (n : Int))
    (h : ∀ W b c, Below w.heap.size w W → w.heap.size ≤ b → n ≤ c → c ≤ maxLen → (∃ cs, IsS W b 2 cs ∧ cs.length = c) → wpList Try.prog ops Q rest (a.put op.dst (.slice (some ⟨b, 0, none⟩) n c)) W) : wpList Try.prog ops Q (op :: rest) a w := by
 obtain ⟨i0, hi, hz, hsz, hby⟩ := eInt.info
 refine wpList_plain hgd fun K hK => ?_
 have hr := run_append_zero (P := Try.prog) (w := w) 26 3 op.type 2 i0 (.int .i64 0) .i64 Try.underlying26 Try.underlying3 hi hz hsz hby rfl n h0 hn
 have hge := grownCap_ge w n 0 2
 unfold Oper.wp
 have he : (execOp a.eval op).run Try.prog w = .ok (.value (.slice (some ⟨w.heap.size, 0, none⟩) n (grownCap w n 0 2))) (w.drew.alloc (.cells (Builtin.zeroCells #[.int .i64 0] n ++ Builtin.zeroCells #[.int .i64 0] (grownCap w n 0 2 - n)) 2)) := by
  unfold execOp
  simp only [ho, resolve, invoke, builtin, Sem.run_bind, Sem.run_pure, Result.andThen_ok, List.map_toArray, List.map_cons, List.map_nil, hs, hx, hr]
 rw [he]
 have hsz2 : (Builtin.zeroCells #[Value.int .i64 0] n ++ Builtin.zeroCells #[Value.int .i64 0] (grownCap w n 0 2 - n)).size = grownCap w n 0 2 := by rw [Array.size_append, zeros_size, zeros_size]; omega
 generalize (Builtin.zeroCells #[Value.int .i64 0] n ++ Builtin.zeroCells #[Value.int .i64 0] (grownCap w n 0 2 - n)) = A at *
 refine hK _ _ (h _ _ _ ?_ (Nat.le_refl _) hge (grownCap_le_maxLen w n 0 2 (by unfold maxLen; omega)) ⟨A.toList, ?_, ?_⟩)
 · exact (Fresh.alloc w.drew _).trans (below_drew (Below.refl _ w)) (Nat.le_refl _)
 · have := IsS.new w.drew 2 A.toList
   rw [Array.toArray_toList] at this
   exact this
 · rw [Array.length_toList]; exact hsz2
set_option maxRecDepth 100000 in
set_option maxHeartbeats 2000000 in
theorem grow_nil (n : Nat) (hn : n ≤ 1048576) (w : World) : Calls Try.prog 119 #[.slice none 0 0, .int .i64 (n : Int)] w fun e w' => ∃ v, e = .returned v ∧ w'.ownsRow w.heap.size 2 1 v 0 [] ∧ Below w.heap.size w w' := by
 have hneg : ¬ ((n : Int) < 0) := by omega
 have hnI : (n : Int) ≤ 1048576 := by omega
 by_cases h0 : 0 < n
 · have hpos : (0 : Int) < (n : Int) := by omega
   go_enter Try.func119, Try.ntmps119
   go_wp2_with (first
    | (at_builtin; refine wpList_app0 rfl _ _ rfl n h0 hn rfl rfl ?_; intro W b c B1 hb hc hm hI))
   go_ret
   obtain ⟨cs, hcs, hl⟩ := hI
   exact ⟨_, rfl, own_cls hb hcs rfl (Nat.zero_le _) hm hl, B1⟩
 · have e : n = 0 := by omega
   subst e
   go_enter Try.func119, Try.ntmps119
   go_wp2
   go_ret
   exact ⟨_, rfl, own_nil _ _ _ _, Below.refl _ _⟩
set_option maxRecDepth 100000 in
set_option maxHeartbeats 4000000 in
theorem concat_any (xss : List (List Int)) (n c : Nat) (a : Option Addr) (hl : xss.length = n) (hn : n ≤ 1048576) (hf : xss.flatten.length ≤ 1048576) (w : World) (hR : RowsV w (.slice a n c) intE xss) :
    Calls Try.prog 103 #[.slice a n c] w fun e w' => ∃ v, e = .returned v ∧ w'.ownsRow w.heap.size 2 1 v xss.flatten.length (xss.flatten.flatMap intE) ∧ Below w.heap.size w w' := by
 have HR : Hid (RowsV w (.slice a n c) intE xss) := hR
 have HL : Hid (xss.length = n) := hl
 have HF : Hid (xss.flatten.length ≤ 1048576) := hf
 clear hR hl
 have hfl : ∀ (k : Nat) (q : List Int), xss[k]? = some q → ((xss.take k).flatten.length + q.length ≤ 1048576 ∧ (xss.take (k + 1)).flatten = (xss.take k).flatten ++ q) := fun k q h => by
  have := flat_at h (Nat.le_refl _)
  rw [List.take_length, List.length_append] at this
  exact ⟨by have := HF.out; omega, flat_take h⟩
 have HFL : Hid (∀ (k : Nat) (q : List Int), xss[k]? = some q → ((xss.take k).flatten.length + q.length ≤ 1048576 ∧ (xss.take (k + 1)).flatten = (xss.take k).flatten ++ q)) := hfl
 clear hfl
 go_enter Try.func103, Try.ntmps103
 go_wp2
 go_loopw [3, 11] (fun z i wr => ∃ k m : Nat, k ≤ n ∧ m ≤ 1048576 ∧ i = .int .i64 (k : Int) ∧ z = .int .i64 (m : Int) ∧ Hid ((xss.take k).flatten.length = m) ∧ wr = w) (fun _ i _ => n - (intOf i).toNat)
 case atStart => exact ⟨0, 0, Nat.zero_le _, Nat.zero_le _, rfl, rfl, rfl, rfl⟩
 case round =>
  obtain ⟨k, m, hk, hm, rfl, rfl, HM, rfl⟩ := hrel
  by_cases hlt : k < n
  · have hki : (k : Int) < n := by omega
    obtain ⟨q, hq⟩ : ∃ q, xss[k]? = some q := ⟨_, List.getElem?_eq_getElem (by rw [HL.out]; exact hlt)⟩
    obtain ⟨b, o, a', c', rfl, hb, hc, hseg, hnil⟩ := HR.out.at k q hq
    obtain ⟨h1, h2⟩ := HFL.out k q hq
    obtain ⟨ql, hql⟩ : ∃ l, q.length = l := ⟨_, rfl⟩
    rw [HM.out, hql] at h1
    have HM2 : Hid ((xss.take (k + 1)).flatten.length = m + ql) := by show _ = _; rw [h2, List.length_append, HM.out, hql]
    rw [hql] at hc
    have hi1 : (m : Int) + (ql : Int) ≤ 1048576 := by omega
    have hi2 : ¬ ((m : Int) + (ql : Int) < 0) := by omega
    clear hq hseg hnil h2 hql
    go_wp2
    go_roundw
    case rel => exact ⟨k + 1, m + ql, by omega, h1, by go_num, by go_num, HM2, trivial⟩
    case measure => simp [intOf]; omega
  · have ek : k = n := by omega
    subst ek
    have hki : ¬ ((k : Int) < k) := by omega
    have hgr := grow_nil m hm wr
    clear HM
    go_wp2_with (first
     | (go_at_call 119; refine hgr.mono ?_; rintro e W1 ⟨v1, rfl, O1, B1⟩; clear hgr))
    have HO1 : Hid (W1.ownsRow wr.heap.size 2 1 v1 0 []) := O1
    obtain ⟨WR, eW⟩ : ∃ W, W = wr := ⟨_, rfl⟩
    subst eW
    clear O1
    go_loopw [6, 27] (fun v i wr => ∃ j : Nat, j ≤ k ∧ i = .int .i64 (j : Int) ∧ Hid (wr.ownsRow WR.heap.size 2 1 v (xss.take j).flatten.length ((xss.take j).flatten.flatMap intE)) ∧ Below WR.heap.size WR wr) (fun _ i _ => k - (intOf i).toNat)
    case atStart => exact ⟨0, Nat.zero_le _, rfl, by show World.ownsRow _ _ _ _ _ _ _; rw [List.take_zero]; exact HO1.out, B1⟩
    case round =>
     obtain ⟨j, hj, rfl, HO, BR⟩ := hrel
     by_cases hlj : j < k
     · have hji : (j : Int) < k := by omega
       obtain ⟨q, hq⟩ : ∃ q, xss[j]? = some q := ⟨_, List.getElem?_eq_getElem (by rw [HL.out]; exact hlj)⟩
       obtain ⟨b, o, a', c', rfl, hb, hc, hseg, hnil⟩ := (HR.out.below BR).at j q hq
       obtain ⟨h1, h2⟩ := HFL.out j q hq
       have HRV : Hid (RowV wr (.slice a' q.length c') q.length (q.flatMap intE)) := ⟨a', c', rfl, hseg, hnil⟩
       have HQ : Hid ((xss.take (j + 1)).flatten = (xss.take j).flatten ++ q) := h2
       generalize (xss.take j).flatten = acc at *
       obtain ⟨av, cv, hv⟩ := own_form HO.out
       subst hv
       obtain ⟨ql, hql⟩ : ∃ l, q.length = l := ⟨_, rfl⟩
       obtain ⟨al, hal⟩ : ∃ l, acc.length = l := ⟨_, rfl⟩
       rw [hql] at hc h1 HRV
       rw [hal] at h1 HO ⊢
       have HQL : Hid (q.length = ql) := hql
       have HAL : Hid (acc.length = al) := hal
       clear hq hseg hnil h2 hql hal
       have hsz := BR.size
       go_wp2_with (first
        | (at_builtin; refine wpList_appM eInt rfl _ _ rfl WR.heap.size (.slice av al cv) al (acc.flatMap intE) rfl HO.out (.slice a' ql c') ql (q.flatMap intE) rfl HRV.out (by rw [int_len, HQL.out]) (int_one q) (by omega) hsz ?_; intro v2 W2 O2 G2; have B2 := grown_below BR hsz HO.out G2))
       go_roundw
       case rel => exact ⟨j + 1, by omega, by go_num, by show World.ownsRow _ _ _ _ _ _ _; rw [HQ.out, List.length_append, HAL.out, HQL.out, List.flatMap_append]; exact O2, B2⟩
       case measure => simp [intOf]; omega
     · have ej : j = k := by omega
       subst ej
       have hji : ¬ ((j : Int) < j) := by omega
       rw [List.take_of_length_le (by rw [HL.out]; exact Nat.le_refl _)] at HO
       have hO := HO.out
       rw [List.length_flatten] at hO
       have HO' : Hid (wr.ownsRow WR.heap.size 2 1 _ (xss.map List.length).sum (xss.flatten.flatMap intE)) := hO
       clear HO hO
       go_wp2
       go_ret
       exact ⟨_, rfl, HO'.out, BR⟩
theorem fin_put (vals : List Int) (n : Nat) (hv : vals.length = n) (hn : n ≤ 48) : putL ((finL []).set 0 (.int .i64 (n : Int))) (1 + 0) ((vals.take 48).map (.int .i64)) = finL vals := by
 have hl : ((finL []).set 0 (Value.int .i64 (n : Int))).length = 49 := by rw [List.length_set]; exact finL_len (by simp)
 have hm : ((vals.take 48).map (Value.int .i64)).length = n := by rw [List.length_map, List.length_take]; omega
 refine List.ext_getElem? fun j => ?_
 rw [putL_get _ _ _ _ (by rw [hl, hm]; omega), hm]
 cases j with
 | zero =>
  rw [if_neg (by omega), List.getElem?_set_self (by rw [finL_len (by simp)]; omega)]
  unfold finL
  rw [hv]; rfl
 | succ j =>
  by_cases h48 : j < 48
  · rw [finL_get vals (by omega) j h48]
    by_cases hj : j < n
    · rw [if_pos (by omega), show j + 1 - (1 + 0) = j by omega, List.getElem?_map, List.getElem?_take, if_pos h48, List.getElem?_eq_getElem (by omega)]
      simp [hv, hj]
    · rw [if_neg (by omega), List.getElem?_set_ne (by omega), finL_get [] (by simp) j h48]
      simp [hv, hj]
  · rw [if_neg (by omega), List.getElem?_eq_none (by rw [hl]; omega), List.getElem?_eq_none (by rw [finL_len (by omega)]; omega)]
theorem F_b {w W : World} {b : Nat} (F : Fresh w W b) : Below w.heap.size w W := F.trans (Below.refl _ w) (Nat.le_refl _)
section
variable {w : World} {ops : Array Oper} {rest : List Oper} {op : Oper} {a : Act} {Q : Exit → Act → World → Prop} {t T k by' : Nat} {z : Value}
theorem exec_build2v (E : Elt t T 1 z by') (x y : Operand) (ho : op.op = .buildSlice T 2 #[(0, x), (1, y)]) (u v : Value) (hx : a.eval x = u) (hy : a.eval y = v) (hc : u.oneCell' = true) (hd : v.oneCell' = true) : (execOp a.eval op).run Try.prog w = .ok (.value (.slice (some ⟨w.heap.size, 0, none⟩) 2 2)) (w.alloc (.cells #[u, v] t)) := by
 obtain ⟨i, hi, hz, hk, _⟩ := E.info
 have hcu := one_cells hc
 have hcv := one_cells hd
 generalize a.eval = ev at hx hy ⊢
 unfold execOp
 simp only [ho, hx]
 simp [Instr.buildSlice, Instr.fill, run_underlying E.und, sizeOf, typeInfo, zeroValue, hi, hk, hz, hx, hy, hcu, hcv, newRow, show Array.range 2 = #[0, 1] from rfl]
theorem run_buildN {x : Operand} {n : Int} (ho : op.op = .build 80 #[(0, x)]) (hx : a.eval x = .int .i64 n) : (execOp a.eval op).run Try.prog w = .ok (.value (.agg ((finL []).set 0 (.int .i64 n)).toArray)) w := by
 have h : Try.t80.zero = some (.agg (finL []).toArray) := by kernel_rfl
 generalize a.eval = ev at hx ⊢
 unfold execOp
 have e1 : ¬ (finL [] = []) := by intro e; have := finL_len (vs := []) (by simp); rw [e] at this; simp at this
 simp [ho, hx, go_sem, zeroValue, h, e1]
theorem wpList_buildN (hgd : op.guard = none) (y : Operand) (ho : op.op = .build 80 #[(0, y)]) (n : Int) (hy : a.eval y = .int .i64 n) (h : wpList Try.prog ops Q rest (a.put op.dst (.agg ((finL []).set 0 (.int .i64 n)).toArray)) w) : wpList Try.prog ops Q (op :: rest) a w := by
 refine wpList_plain hgd fun K hK => ?_
 unfold Oper.wp
 rw [run_buildN ho hy]
 exact hK _ _ h
end
theorem rows_two (w : World) (u v : Value) (xs ys : List Int) (hu : RowV w u xs.length (xs.flatMap intE)) (hv : RowV w v ys.length (ys.flatMap intE)) : RowsV (w.alloc (.cells #[u, v] 26)) (.slice (some ⟨w.heap.size, 0, none⟩) 2 2) intE [xs, ys] := by
 have hB := F_b (Fresh.alloc w (.cells #[u, v] 26))
 refine ⟨[u, v], rfl, row_isS (IsS.new w 26 [u, v]), fun j u' zs hj hz => ?_⟩
 match j with
 | 0 => simp at hj hz; subst hj hz; exact hu.below hB
 | 1 => simp at hj hz; subst hj hz; exact hv.below hB
 | j + 2 => simp at hj
theorem finN_one {n : Int} : ∀ v ∈ (finL []).set 0 (.int .i64 n), v.oneCell' = true := fun v hv => by
 rcases List.mem_or_eq_of_mem_set hv with h | h
 · exact finL_one _ v h
 · subst h; rfl
theorem own_seg64 {w : World} {B n c : Nat} {a : Option Addr} {xs : List Value} (h : w.ownsRow B 2 1 (.slice a n c) n xs) : Seg w a xs := by
 obtain ⟨a', c', e, hs, _⟩ := own_row h
 injection e with e1 e2 e3
 rw [e1]; exact hs
set_option maxRecDepth 100000 in
set_option maxHeartbeats 4000000 in
theorem finalOf_any (regs : List (List Int)) (mem : List Int) (vpc vph vbf vlk : Value) (ar am : Option Addr) (nr cr nm cm N : Nat) (w : World) (hnr : regs.length = nr) (hnm : mem.length = nm) (hnr2 : nr ≤ 1048576) (hN : (regs.flatten ++ mem).length = N) (h48 : N ≤ 48) (hR : RowsV w (.slice ar nr cr) intE regs) (hM : RowV w (.slice am nm cm) mem.length (mem.flatMap intE)) :
    Calls Try.prog 69 #[.agg #[vpc, vph, .slice ar nr cr, .slice am nm cm, vbf, vlk]] w fun e w' => e = .returned (.agg (finL (regs.flatten ++ mem)).toArray) ∧ Below w.heap.size w w' := by
 obtain ⟨N1, hN1⟩ : ∃ n, regs.flatten.length = n := ⟨_, rfl⟩
 have hle : N1 ≤ 48 := by rw [List.length_append] at hN; omega
 have hC1 := fun W (h : RowsV W (.slice ar nr cr) intE regs) => concat_any regs nr cr ar hnr hnr2 (by omega) W h
 have hC2 := fun W b (h : RowsV W (.slice (some ⟨b, 0, none⟩) 2 2) intE [regs.flatten, mem]) => concat_any [regs.flatten, mem] 2 2 (some ⟨b, 0, none⟩) rfl (by omega) (by simp only [List.flatten_cons, List.flatten_nil, List.append_nil]; omega) W h
 simp only [hN1] at hC1
 simp only [List.flatten_cons, List.flatten_nil, List.append_nil, hN] at hC2
 have HRR : Hid (RowsV w (.slice ar nr cr) intE regs) := hR
 have HMM : Hid (RowV w (.slice am nm cm) mem.length (mem.flatMap intE)) := hM
 have HN1 : Hid (regs.flatten.length = N1) := hN1
 have HNN : Hid ((regs.flatten ++ mem).length = N) := hN
 have hNI : (N : Int) ≤ 48 := by omega
 clear hR hM hN1 hN hnr hnm
 have t1 : True := trivial
 have t2 : True := trivial
 have t3 : True := trivial
 have t4 : True := trivial
 have t5 : True := trivial
 go_enter Try.func69, Try.ntmps69
 go_wp2_with (first
  | (clear t1; refine wpList_boxS rfl 32 _ rfl [vpc, vph, .slice ar nr cr, .slice am nm cm, vbf, vlk] rfl ?_; intro W0 b1 F0 C0; have B0 := F_b F0)
  | (clear t2; refine wpList_allocS rfl 80 rfl (finL []) zeroFin ?_; intro W1 b2 F1 D1; have C1 := C0.fresh F1; have B1 := F1.trans B0 B0.size; have hb2 : w.heap.size ≤ b2 := Nat.le_trans B0.size (Nat.le_of_eq F1.at'.symm); have n12 : b1 ≠ b2 := (by have := C0.lt; have := F1.at'; omega); clear F0 F1 C0))
 refine region_invA 6 (fun a0 listed a' w' => ∃ x5 x6 x7 x8 x9 x10 : Value, a' = ((((((a0.put (some 5) x5).put (some 6) x6).put (some 7) x7).put (some 8) x8).put (some 9) x9).put (some 10) x10) ∧ Hid (Below W1.heap.size W1 w') ∧ (listed.getD 0 false = true → x5 = (.pointer (some ⟨b1, 2, none⟩))) ∧ (listed.getD 1 false = true → x6 = (.slice ar nr cr)) ∧ (listed.getD 2 false = true → w'.ownsRow W1.heap.size 2 1 x7 N1 (regs.flatten.flatMap intE)) ∧ (listed.getD 3 false = true → x8 = (.pointer (some ⟨b1, 3, none⟩))) ∧ (listed.getD 4 false = true → x9 = (.slice am nm cm)) ∧ (listed.getD 5 false = true → ∃ b7, x10 = .slice (some ⟨b7, 0, none⟩) 2 2 ∧ RowsV w' (.slice (some ⟨b7, 0, none⟩) 2 2) intE [regs.flatten, mem])) (by kernel_rfl) (by kernel_rfl) ?i0 ?istep ?iend
 case i0 => exact ⟨_, _, _, _, _, _, by (try simp only [sP]) <;> rfl, below_drew bR, fun h => (not_rep h).elim, fun h => (not_rep h).elim, fun h => (not_rep h).elim, fun h => (not_rep h).elim, fun h => (not_rep h).elim, fun h => (not_rep h).elim⟩
 case istep =>
  rintro i listed a' w' hi hr ⟨x5, x6, x7, x8, x9, x10, rfl, HBw, d0, d1, d2, d3, d4, d5⟩
  obtain ⟨hun, oj, hoj, hwt⟩ := mem_ready.1 hr
  simp only [sP]
  have hcase : i = 0 ∨ i = 1 ∨ i = 2 ∨ i = 3 ∨ i = 4 ∨ i = 5 := by omega
  rcases hcase with rfl | rfl | rfl | rfl | rfl | rfl
  · have hoj2 := hoj
    obtain rfl := oI hoj
    refine wpOp_value hoj2 rfl (v := (.pointer (some ⟨b1, 2, none⟩))) (w' := w') (by first | rfl | (go_simp; done) | (simp [go_sem]; done) | (simp [execOp, go_sem]; done)) ?_
    exact ⟨(.pointer (some ⟨b1, 2, none⟩)), x6, x7, x8, x9, x10, by (try simp only [sP]) <;> rfl, Below.then HBw.out bR, fun _ => rfl, d1 ∘ kq, fun h => (own_below (d2 (kp h)) bR), d3 ∘ kq, d4 ∘ kq, fun h => (eE (d5 (kp h)) fun b7 h => ⟨b7, h.1, h.2.below bR⟩)⟩
  · have hoj2 := hoj
    obtain rfl := oI hoj
    have e0 := d0 (hwt ⟨0, .data⟩ (by simp) rfl)
    subst e0
    refine wpOp_cell hoj2 rfl 25 _ rfl rfl (v := (.slice ar nr cr)) (ldcRr w' ((IsS.cell (C1.grown HBw.out) 2).trans rfl)) ?_
    exact ⟨(.pointer (some ⟨b1, 2, none⟩)), (.slice ar nr cr), x7, x8, x9, x10, by (try simp only [sP]) <;> rfl, Below.then HBw.out bR, d0 ∘ kq, fun _ => rfl, fun h => (own_below (d2 (kp h)) bR), d3 ∘ kq, d4 ∘ kq, fun h => (eE (d5 (kp h)) fun b7 h => ⟨b7, h.1, h.2.below bR⟩)⟩
  · have hoj2 := hoj
    obtain rfl := oI hoj
    have e1 := d1 (hwt ⟨1, .data⟩ (by simp) rfl)
    subst e1
    refine wpOp_call hoj2 rfl (f := 103) (args := #[.slice ar nr cr]) (by first | rfl | (go_simp; done) | (simp [go_sem]; done) | (simp [execOp, go_sem]; done)) ?_
    refine (hC1 w' (HRR.out.below (Below.then B1 HBw.out))).mono ?_
    rintro e w4 ⟨v7, rfl, O7, B4⟩
    refine ⟨_, rfl, ?_⟩
    exact ⟨x5, (.slice ar nr cr), v7, x8, x9, x10, by (try simp only [sP]) <;> rfl, Below.then HBw.out B4, d0 ∘ kq, d1 ∘ kq, fun _ => (own_raise O7 HBw.out.size), d3 ∘ kq, d4 ∘ kq, fun h => (eE (d5 (kp h)) fun b7 h => ⟨b7, h.1, h.2.below B4⟩)⟩
  · have hoj2 := hoj
    obtain rfl := oI hoj
    refine wpOp_value hoj2 rfl (v := (.pointer (some ⟨b1, 3, none⟩))) (w' := w') (by first | rfl | (go_simp; done) | (simp [go_sem]; done) | (simp [execOp, go_sem]; done)) ?_
    exact ⟨x5, x6, x7, (.pointer (some ⟨b1, 3, none⟩)), x9, x10, by (try simp only [sP]) <;> rfl, Below.then HBw.out bR, d0 ∘ kq, d1 ∘ kq, fun h => (own_below (d2 (kp h)) bR), fun _ => rfl, d4 ∘ kq, fun h => (eE (d5 (kp h)) fun b7 h => ⟨b7, h.1, h.2.below bR⟩)⟩
  · have hoj2 := hoj
    obtain rfl := oI hoj
    have e3 := d3 (hwt ⟨3, .data⟩ (by simp) rfl)
    subst e3
    refine wpOp_cell hoj2 rfl 26 _ rfl rfl (v := (.slice am nm cm)) (ldcR w' ((IsS.cell (C1.grown HBw.out) 3).trans rfl)) ?_
    exact ⟨x5, x6, x7, (.pointer (some ⟨b1, 3, none⟩)), (.slice am nm cm), x10, by (try simp only [sP]) <;> rfl, Below.then HBw.out bR, d0 ∘ kq, d1 ∘ kq, fun h => (own_below (d2 (kp h)) bR), d3 ∘ kq, fun _ => rfl, fun h => (eE (d5 (kp h)) fun b7 h => ⟨b7, h.1, h.2.below bR⟩)⟩
  · have hoj2 := hoj
    obtain rfl := oI hoj
    have e2 := d2 (hwt ⟨2, .data⟩ (by simp) rfl)
    have e4 := d4 (hwt ⟨4, .data⟩ (by simp) rfl)
    subst e4
    refine wpOp_value hoj2 rfl (exec_build2v eInts _ _ rfl x7 (.slice am nm cm) rfl rfl (own_cell e2) rfl) ?_
    have B9 := F_b (Fresh.alloc w' (.cells #[x7, .slice am nm cm] 26))
    have hrw := rows_two w' x7 (.slice am nm cm) regs.flatten mem (by have h := own_row e2; rw [← HN1.out] at h; exact h) (HMM.out.below (Below.then B1 HBw.out))
    exact ⟨x5, x6, x7, x8, (.slice am nm cm), _, by (try simp only [sP]) <;> rfl, Below.then HBw.out B9, d0 ∘ kq, d1 ∘ kq, fun h => (own_below (d2 (kp h)) B9), d3 ∘ kq, d4 ∘ kq, fun _ => ⟨_, rfl, hrw⟩⟩
 case iend =>
  rintro a' w' ⟨x5, x6, x7, x8, x9, x10, rfl, HBw, d0, d1, d2, d3, d4, d5⟩
  replace d0 := d0 rfl
  replace d1 := d1 rfl
  replace d2 := d2 rfl
  replace d3 := d3 rfl
  replace d4 := d4 rfl
  replace d5 := d5 rfl
  simp only [sP]
  simp only [List.drop_succ_cons, List.drop_zero]
  obtain ⟨b7, e10, R10⟩ := d5
  subst e10 d0 d1 d3 d4
  have B03 := Below.then B1 HBw.out
  have D3 := D1.grown HBw.out
  clear HBw d2
  go_wp2_with (first
   | (go_at_call 103; refine (hC2 _ b7 R10).mono ?_; rintro e W5 ⟨v5, rfl, O5, B5⟩; have B05 := Below.then B03 B5; have D5 := D3.grown B5; obtain ⟨a5, c5, hv5⟩ := own_form O5; subst hv5; have S5 := own_seg64 O5; clear hC1 hC2 R10 D3 O5)
   | (clear t3; refine wpList_buildN rfl _ rfl (N : Int) rfl ?_)
   | (clear t4; refine wpList_allocS rfl 80 rfl (finL []) zeroFin ?_; intro W6 b6 F6 I6; have B56 := F_b F6; have B06 := F6.trans B05 B05.size; have D6 := D5.fresh F6; have n26 : b2 ≠ b6 := (by have := D5.lt; have := F6.at'; omega); have hb56 : W5.heap.size ≤ b6 := Nat.le_of_eq F6.at'.symm; have hb6 : w.heap.size ≤ b6 := Nat.le_trans B05.size hb56; clear F6 D5)
   | (clear t5; refine wpList_storeW rfl 80 _ _ rfl rfl ((finL []).set 0 (.int .i64 (N : Int))) rfl I6 (by rw [List.length_set]) (by rw [List.length_set, finL_len (by simp)]; exact infoFin) (fun v hv => finN_one v hv) ?_; intro W7 U7 I7; have B07 := U7.trans B06 hb6; have D7 := D6.upd U7 n26; have S7 := S5.below (U7.trans B56 hb56); obtain ⟨cv, W8, hcp, U8, I8⟩ := run_cp W7 3 b6 _ 0 48 N c5 _ (regs.flatten ++ mem) (by omega) HNN.out a5 I7 (by rw [List.length_set, finL_len (by simp)]) S7; rw [fin_put _ N HNN.out h48] at I8; have hcp2 : (Builtin.copy_ #[26, 26] 3 #[.slice (some ⟨b6, 1, none⟩) 48 48, .slice a5 N c5]).run Try.prog W7 = .ok cv W8 := hcp; have B08 := U8.trans B07 hb6; have D8 := D7.upd U8 n26; clear S5 S7 U7 I6 D6 hcp I7 U8; have t6 : True := trivial; have t7 : True := trivial)
   | (clear t6; refine wpList_loadW rfl 80 _ rfl rfl I8 _ Try.underlying80 rfl (by rw [finL_len (by rw [HNN.out]; exact h48)]; exact infoFin) ?_)
   | (clear t7; refine wpList_storeW rfl 80 _ _ rfl rfl (finL (regs.flatten ++ mem)) rfl D8 (by rw [finL_len (by rw [HNN.out]; exact h48), finL_len (by simp)]) (by rw [finL_len (by rw [HNN.out]; exact h48)]; exact infoFin) (finL_one _) ?_; intro W9 U9 D9; have B09 := U9.trans B08 hb2; clear U9 D8))
  exact ret_S (cs := finL (regs.flatten ++ mem)) rfl rfl rfl D9 _ Try.underlying80 rfl (by rw [finL_len (by rw [HNN.out]; exact h48)]; exact infoFin) ⟨rfl, B09⟩
end Go.Proofs.Ytegpnicajlndlaa

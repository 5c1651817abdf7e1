/- FP, LO, SDX -/
import Derived.Test.YtegpnicajlndlaaQak
import Derived.Test.YtegpnicajlndlaaQD
import Derived.Test.YtegpnicajlndlaaQah
namespace Go.Proofs.Ytegpnicajlndlaa
open Go.RowKit M
set_option linter.unusedSimpArgs false
set_option linter.unusedVariables false
theorem grow_tailV {id : Nat} {Q : Exit → Act → World → Prop} {a : Act} {W : World} {l : List Oper} (n : Nat) (hm : Try.prog.follows .mixedOrders = true) (hB : Region.lexTailB .any l.toArray n = true)
    (h : WG l.toArray W (fun a' => ∀ w', Below W.heap.size W w' → wpList Try.prog l.toArray Q (l.drop n) a' w') (l.take n) a) : (Code.region id l.toArray true).wp Try.prog Q a W := grow_tail n hm hB h.out
theorem fin_snoc {vs : List Int} (h : vs.length < 48) (x : Int) : ((finL vs).set (1 + vs.length) (.int .i64 x)).set 0 (.int .i64 ((vs.length : Int) + 1)) = finL (vs ++ [x]) := put_fin vs [x] 1 (by omega)
theorem fin_snoc0 {vs : List Int} (h : vs.length < 48) : (finL vs).set 0 (.int .i64 ((vs.length : Int) + 1)) = finL (vs ++ [0]) := put_fin vs [] 1 (by omega)
theorem take_in {L : List Int} (h : (L.take 48).length < 48) (x : Int) : (L ++ [x]).take 48 = L.take 48 ++ [x] := by
 rw [List.length_take] at h
 rw [List.take_append, List.take_of_length_le (l := [x]) (by simp; omega)]
theorem take_out {L : List Int} (h : ¬ (L.take 48).length < 48) (x : Int) : (L ++ [x]).take 48 = L.take 48 := by
 rw [List.length_take] at h
 rw [List.take_append, show 48 - L.length = 0 by omega]; simp
theorem pad_at {m : Nat} {q : List Int} {j : Nat} (h : j < m) : (padTo m q).take (j + 1) = (padTo m q).take j ++ [q.getD j 0] := by
 rw [take_at (x := q.getD j 0)]
 unfold padTo
 rw [List.getElem?_map, List.getElem?_range h]; rfl
theorem ld3' {b o : Nat} {v : Value} (w : World) (h : w.cell? ⟨b, o, none⟩ = some v) : (Instr.loadAt 3 (.pointer (some ⟨b, o, none⟩))).run Try.prog w = .ok v w := by simp [go_sem, h]
theorem cell0 {w : World} {b t : Nat} {vs : List Int} (h : IsS w b t (finL vs)) : w.cell? ⟨b, 0, none⟩ = some (.int .i64 (vs.length : Int)) := h.cell 0
set_option maxRecDepth 100000 in
set_option maxHeartbeats 8000000 in
theorem end_any (rs : List (List ByteArray)) (ls : List ByteArray) (ri : List (List Int)) (lj : List Int) (hfr : rs.length ≤ 1048576) (hrr : rs.flatten.length ≤ 1048576) (hfl : ls.length ≤ 1048576) (hfi : ri.length ≤ 1048576) (hii : ri.flatten.length ≤ 1048576) (hfj : lj.length ≤ 1048576)
    (vt vi' vj' : Value) (ar : Option Addr) (cr : Nat) (al : Option Addr) (cl : Nat) (ai : Option Addr) (ci : Nat) (aj : Option Addr) (cj : Nat) (w : World)
    (hR : RowsV w (.slice ar rs.length cr) strE rs) (hI : RowsV w (.slice ai ri.length ci) intE ri) (hJ : Seg w aj (lj.flatMap intE)) :
    Calls Try.prog 30 #[.agg #[vt, .slice ar rs.length cr, .slice al ls.length cl, vi', vj'], .slice ai ri.length ci, .slice aj lj.length cj] w fun en w' => en = .returned (.agg (finL ((allR rs ri rs.length ++ padTo ls.length lj).take 48)).toArray) ∧ Below w.heap.size w w' := by
 have HR : Hid (RowsV w (.slice ar rs.length cr) strE rs) := hR
 have HI : Hid (RowsV w (.slice ai ri.length ci) intE ri) := hI
 have HJ : Hid (Seg w aj (lj.flatMap intE)) := hJ
 have HRR : Hid (rs.flatten.length ≤ 1048576) := hrr
 have HII : Hid (ri.flatten.length ≤ 1048576) := hii
 clear hR hI hJ hrr hii
 obtain ⟨nr, hnr⟩ : ∃ n, rs.length = n := ⟨_, rfl⟩
 obtain ⟨ni, hni⟩ : ∃ n, ri.length = n := ⟨_, rfl⟩
 obtain ⟨nl, hnl⟩ : ∃ n, ls.length = n := ⟨_, rfl⟩
 obtain ⟨nj, hnj⟩ : ∃ n, lj.length = n := ⟨_, rfl⟩
 have HNR : Hid (rs.length = nr) := hnr
 have HNI : Hid (ri.length = ni) := hni
 have HNJ : Hid (lj.length = nj) := hnj
 rw [hnr] at HR hfr ⊢
 rw [hni] at HI hfi ⊢
 rw [hnl] at hfl ⊢
 rw [hnj] at hfj ⊢
 clear hnr hni hnl hnj
 have t1 : True := trivial
 have t2 : True := trivial
 have t3 : True := trivial
 go_enter Try.func30, Try.ntmps30
 go_wp2_with (first
  | (clear t1; refine wpList_boxS rfl 28 _ rfl [vt, .slice ar nr cr, .slice al nl cl, vi', vj'] rfl ?_; intro W1 b1 F1 C1; have B1 : Below w.heap.size w W1 := F1.trans (Below.refl _ w) (Nat.le_refl _); clear F1)
  | (clear t2; refine wpList_allocS rfl 80 rfl (finL []) zeroFin ?_; intro W2 b6 F2 D2; have C2 := C1.fresh F2; have B2 := F2.trans B1 B1.size; have hb6 : w.heap.size ≤ b6 := Nat.le_trans B1.size (Nat.le_of_eq F2.at'.symm); clear F2 C1)
  | (clear t3; refine wpList_allocS rfl 80 rfl (finL []) zeroFin ?_; intro W3 b7 F3 E3; have C3 := C2.fresh F3; have D3 := D2.fresh F3; have B3 := F3.trans B2 B2.size; have hb7 : w.heap.size ≤ b7 := Nat.le_trans B2.size (Nat.le_of_eq F3.at'.symm); have l1 : b1 < b7 := (by have := C2.lt; have := F3.at'; omega); have l6 : b6 < b7 := (by have := D2.lt; have := F3.at'; omega); obtain ⟨k0, k1, k2, k3, k4⟩ := five C3; clear F3 C2 D2))
 go_loopw [8] (fun i wr => ∃ k : Nat, k ≤ nr ∧ i = .int .i64 k ∧ Hid (IsS wr b7 80 (finL ((allR rs ri k).take 48))) ∧ Hid (Below b7 W3 wr)) (fun i _ => nr - (intOf i).toNat)
 case atStart => exact ⟨0, Nat.zero_le _, rfl, E3, Below.refl _ _⟩
 case round =>
  obtain ⟨k, hk, rfl, HE, HB⟩ := hrel
  obtain ⟨WR, eWR⟩ : ∃ W, W = wr := ⟨_, rfl⟩
  subst eWR
  have Bw : Hid (Below w.heap.size w WR) := B3.trans (HB.out.mono hb7)
  obtain ⟨q0, q1, q2, q3, q4⟩ := five (C3.below HB.out l1)
  by_cases hlt : k < nr
  · have hki : (k : Int) < nr := by omega
    obtain ⟨r, hr⟩ : ∃ r, rs[k]? = some r := ⟨_, List.getElem?_eq_getElem (by rw [HNR.out]; exact hlt)⟩
    obtain ⟨br, or', ar', cr', rfl, hbr, hcr, hsegr, _⟩ := HR.out.at k r hr
    have hrl : r.length ≤ 1048576 := Nat.le_trans (by have := flat_at hr (Nat.le_refl _); rw [List.take_length, List.length_append] at this; omega) HRR.out
    have hrd : rs.getD k [] = r := by rw [List.getD_eq_getElem?_getD, hr]; rfl
    obtain ⟨rn, hrn⟩ : ∃ n, r.length = n := ⟨_, rfl⟩
    have HNX : Hid (∀ q, ri.getD k [] = q → allR rs ri (k + 1) = allR rs ri k ++ padTo rn q) := fun q hq => (by rw [allR_next, hrd, hq, hrn])
    rw [hrn] at hcr hrl
    clear hr hsegr hrd hrn
    obtain ⟨q, hqd⟩ : ∃ q, ri.getD k [] = q := ⟨_, rfl⟩
    have HNX2 : Hid (allR rs ri (k + 1) = allR rs ri k ++ padTo rn q) := HNX.out q hqd
    have HQD : Hid (ri.getD k [] = q) := hqd
    clear HNX hqd
    go_wp2_with fail
    go_loopw [9] (fun i wr => ∃ j : Nat, j ≤ rn ∧ i = .int .i64 j ∧ Hid (IsS wr b7 80 (finL ((allR rs ri k ++ (padTo rn q).take j).take 48))) ∧ Hid (Below b7 W3 wr)) (fun i _ => rn - (intOf i).toNat)
    case atStart => exact ⟨0, Nat.zero_le _, rfl, by show IsS _ _ _ _; rw [List.take_zero, List.append_nil]; exact HE.out, HB⟩
    case round =>
     obtain ⟨j, hj, rfl, HE', HB'⟩ := hrel
     have Bw' : Hid (Below w.heap.size w wr) := B3.trans (HB'.out.mono hb7)
     obtain ⟨q0, q1, q2, q3, q4⟩ := five (C3.below HB'.out l1)
     have hcr' : wr.cell? ⟨br, or' + k, none⟩ = some (.slice ar' rn cr') := by rw [Bw'.out.cell (p := ⟨br, or' + k, none⟩) hbr]; exact hcr
     by_cases hjt : j < rn
     · have hji : (j : Int) < rn := by omega
       obtain ⟨xv, hxv⟩ : ∃ x, q.getD j 0 = x := ⟨_, rfl⟩
       have HXV : Hid (q.getD j 0 = xv) := hxv
       have HNEXT : Hid (allR rs ri k ++ (padTo rn q).take (j + 1) = (allR rs ri k ++ (padTo rn q).take j) ++ [xv]) := (by show _ = _; rw [pad_at hjt, hxv, List.append_assoc])
       obtain ⟨L, hL⟩ : ∃ L, allR rs ri k ++ (padTo rn q).take j = L := ⟨_, rfl⟩
       rw [hL] at HNEXT HE'
       obtain ⟨vs, hvs⟩ : ∃ vs, L.take 48 = vs := ⟨_, rfl⟩
       have HVS : Hid (L.take 48 = vs) := hvs
       rw [hvs] at HE'
       have HV : Hid (IsS wr b7 80 (finL vs)) := HE'
       have hv48 : vs.length ≤ 48 := by rw [← hvs]; exact take48 _
       obtain ⟨N, hN⟩ : ∃ n, vs.length = n := ⟨_, rfl⟩
       have HN : Hid (vs.length = N) := hN
       have c0 : wr.cell? ⟨b7, 0, none⟩ = some (.int .i64 (N : Int)) := by rw [cell0 HV.out, hN]
       clear hL hvs hxv HE'
       have t5 : True := trivial
       have t6 : True := trivial
       by_cases hN8 : N < 48
       · have hNi : (N : Int) < 48 := by omega
         have hv8 : vs.length < 48 := by omega
         clear hN
         have HFIN : Hid (finL ((allR rs ri k ++ (padTo rn q).take (j + 1)).take 48) = finL (vs ++ [xv])) := (by show _ = _; rw [HNEXT.out, take_in (by rw [HVS.out]; exact hv8), HVS.out])
         by_cases hin : k < ni
         · have hini : (k : Int) < ni := by omega
           obtain ⟨q', hq'⟩ : ∃ q, ri[k]? = some q := ⟨_, List.getElem?_eq_getElem (by rw [HNI.out]; exact hin)⟩
           have hqq : q = q' := by rw [← HQD.out, List.getD_eq_getElem?_getD, hq']; rfl
           subst hqq
           obtain ⟨bi, oi, ai', ci', rfl, hbi, hci, hsegi, _⟩ := (HI.out.below Bw'.out).at k q hq'
           obtain ⟨qn, hqn⟩ : ∃ n, q.length = n := ⟨_, rfl⟩
           have hql : q.length ≤ 1048576 := Nat.le_trans (by have := flat_at hq' (Nat.le_refl _); rw [List.take_length, List.length_append] at this; omega) HII.out
           have HQN : Hid (q.length = qn) := hqn
           have hci' : wr.cell? ⟨bi, oi + k, none⟩ = some (.slice ai' qn ci') := by rw [← hqn]; exact hci
           have HSG : Hid (Seg wr ai' (q.flatMap intE)) := hsegi
           rw [hqn] at hql
           clear hq' hqn hci hsegi
           by_cases hjq : j < qn
           · have hjqi : (j : Int) < qn := by omega
             obtain ⟨x', hx'⟩ : ∃ x, q[j]? = some x := ⟨_, List.getElem?_eq_getElem (by rw [HQN.out]; exact hjq)⟩
             have hxx : x' = xv := by rw [← HXV.out, List.getD_eq_getElem?_getD, hx']; rfl
             subst hxx
             obtain ⟨bx, ox, rfl, hbx, hcx⟩ := HSG.out.int hx'
             clear hx'
             go_wp2_with fail
             refine grow_tailV 11 (by kernel_rfl) (by kernel_rfl) ?_
             refine WG.pu rfl (v := .pointer (some ⟨b7, 0, none⟩)) ?_; simp only [sP]
             refine WG.cell rfl 3 _ rfl rfl c0 (fun w h => ld3' w h) ?_; simp only [sP]
             refine WG.pu rfl (v := .slice (some ⟨bi, oi, none⟩) ni ci) ?_; simp only [sP]
             refine WG.pu rfl (v := .int .i64 (k : Int)) ?_; simp only [sP]
             refine WG.pu rfl (v := .pointer (some ⟨bi, oi + k, none⟩)) ?_; simp only [sP]
             refine WG.cell rfl 26 _ rfl rfl hci' (fun w h => ld45 w h) ?_; simp only [sP]
             refine WG.pu rfl (v := .int .i64 (j : Int)) ?_; simp only [sP]
             refine WG.pu rfl (v := .pointer (some ⟨bx, ox + j, none⟩)) ?_; simp only [sP]
             refine WG.cell rfl 2 _ rfl rfl hcx (fun w h => ld2 w h) ?_; simp only [sP]
             refine WG.pu rfl (v := .pointer (some ⟨b7, 1, none⟩)) ?_; simp only [sP]
             refine WG.pu rfl (v := .pointer (some ⟨b7, 1 + N, none⟩)) ?_; simp only [sP]
             refine WG.nil ?_
             intro W4 B4x
             have E4 := IsS.grown HV.out B4x
             have B4 : Below b7 W3 W4 := HB'.out.trans (B4x.mono (Nat.le_of_lt HV.out.lt))
             clear B4x
             simp only [List.drop_succ_cons, List.drop_zero]
             go_wp2_with (first
              | (clear t5; refine wpList_store1 rfl 2 _ _ rfl rfl (.int .i64 x') rfl E4 (by rw [finL_len hv48]; omega) infoI2 rfl ?_; intro W5 U5 E5; have B5 := U5.trans B4 (Nat.le_refl _); have c5 : W5.cell? ⟨b7, 0, none⟩ = some (.int .i64 (N : Int)) := (by rw [E5.cell 0, List.getElem?_set_ne (by omega), ← HN.out]; rfl); clear U5 E4)
              | (clear t6; refine wpList_store1 rfl 3 _ _ rfl rfl (.int .i64 ((N : Int) + 1)) rfl E5 (by rw [List.length_set, finL_len hv48]; omega) info3' rfl ?_; intro W6 U6 E6x; have B6 := U6.trans B5 (Nat.le_refl _); have E6 : IsS W6 b7 80 (finL (vs ++ [x'])) := (by rw [← fin_snoc hv8 x', HN.out]; exact E6x); clear U6 E5 E6x))
             go_roundw
             case rel => exact ⟨j + 1, by omega, by go_num, by show IsS _ _ _ _; rw [HFIN.out]; exact E6, B6⟩
             case measure => simp [intOf]; omega
           · have hjqi : ¬ (j : Int) < qn := by omega
             have HX0 : Hid (xv = 0) := (by show _ = _; rw [← HXV.out, List.getD_eq_getElem?_getD, List.getElem?_eq_none (by rw [HQN.out]; omega)]; rfl)
             go_wp2_with (clear t6; refine wpList_store1 rfl 3 _ _ rfl rfl (.int .i64 ((N : Int) + 1)) rfl HV.out (by rw [finL_len hv48]; omega) info3' rfl ?_; intro W6 U6 E6x; have B6 := U6.trans HB'.out (Nat.le_refl _); have E6 : IsS W6 b7 80 (finL (vs ++ [xv])) := (by rw [HX0.out, ← fin_snoc0 hv8, HN.out]; exact E6x); clear U6 E6x)
             go_roundw
             case rel => exact ⟨j + 1, by omega, by go_num, by show IsS _ _ _ _; rw [HFIN.out]; exact E6, B6⟩
             case measure => simp [intOf]; omega
         · have hini : ¬ (k : Int) < ni := by omega
           have HX0 : Hid (xv = 0) := (by
            have hq0 : q = [] := by rw [← HQD.out, List.getD_eq_getElem?_getD, List.getElem?_eq_none (by rw [HNI.out]; omega)]; rfl
            show _ = _; rw [← HXV.out, hq0]; rfl)
           go_wp2_with (clear t6; refine wpList_store1 rfl 3 _ _ rfl rfl (.int .i64 ((N : Int) + 1)) rfl HV.out (by rw [finL_len hv48]; omega) info3' rfl ?_; intro W6 U6 E6x; have B6 := U6.trans HB'.out (Nat.le_refl _); have E6 : IsS W6 b7 80 (finL (vs ++ [xv])) := (by rw [HX0.out, ← fin_snoc0 hv8, HN.out]; exact E6x); clear U6 E6x)
           go_roundw
           case rel => exact ⟨j + 1, by omega, by go_num, by show IsS _ _ _ _; rw [HFIN.out]; exact E6, B6⟩
           case measure => simp [intOf]; omega
       · have hNi : ¬ (N : Int) < 48 := by omega
         have HFIN : Hid (finL ((allR rs ri k ++ (padTo rn q).take (j + 1)).take 48) = finL vs) := (by show _ = _; rw [HNEXT.out, take_out (by rw [HVS.out]; omega), HVS.out])
         clear hN
         go_wp2_with fail
         go_roundw
         case rel => exact ⟨j + 1, by omega, by go_num, by show IsS _ _ _ _; rw [HFIN.out]; exact HV.out, HB'⟩
         case measure => simp [intOf]; omega
     · have hji : ¬ (j : Int) < rn := by omega
       have HEN : Hid (IsS wr b7 80 (finL ((allR rs ri (k + 1)).take 48))) := (by have := HE'.out; rw [show j = (padTo rn q).length by rw [padTo_len]; omega, List.take_length] at this; rw [HNX2.out]; exact this)
       go_wp2_with fail
       go_roundw
       case rel => exact ⟨k + 1, by omega, by go_num, HEN, HB'⟩
       case measure => simp [intOf]; omega
  · have hki : ¬ (k : Int) < nr := by omega
    have HE0 : Hid (IsS WR b7 80 (finL ((allR rs ri nr).take 48))) := (by have := HE.out; rw [show k = nr by omega] at this; exact this)
    go_wp2_with fail
    go_loopw [10] (fun i wr => ∃ j : Nat, j ≤ nl ∧ i = .int .i64 j ∧ Hid (IsS wr b7 80 (finL ((allR rs ri nr ++ (padTo nl lj).take j).take 48))) ∧ Hid (Below b7 W3 wr)) (fun i _ => nl - (intOf i).toNat)
    case atStart => exact ⟨0, Nat.zero_le _, rfl, by show IsS _ _ _ _; rw [List.take_zero, List.append_nil]; exact HE0.out, HB⟩
    case round =>
     obtain ⟨j, hj, rfl, HE', HB'⟩ := hrel
     have Bw' : Hid (Below w.heap.size w wr) := B3.trans (HB'.out.mono hb7)
     obtain ⟨q0, q1, q2, q3, q4⟩ := five (C3.below HB'.out l1)
     by_cases hjt : j < nl
     · have hji : (j : Int) < nl := by omega
       obtain ⟨xv, hxv⟩ : ∃ x, lj.getD j 0 = x := ⟨_, rfl⟩
       have HXV : Hid (lj.getD j 0 = xv) := hxv
       have HNEXT : Hid (allR rs ri nr ++ (padTo nl lj).take (j + 1) = (allR rs ri nr ++ (padTo nl lj).take j) ++ [xv]) := (by show _ = _; rw [pad_at hjt, hxv, List.append_assoc])
       obtain ⟨L, hL⟩ : ∃ L, allR rs ri nr ++ (padTo nl lj).take j = L := ⟨_, rfl⟩
       rw [hL] at HNEXT HE'
       obtain ⟨vs, hvs⟩ : ∃ vs, L.take 48 = vs := ⟨_, rfl⟩
       have HVS : Hid (L.take 48 = vs) := hvs
       rw [hvs] at HE'
       have HV : Hid (IsS wr b7 80 (finL vs)) := HE'
       have hv48 : vs.length ≤ 48 := by rw [← hvs]; exact take48 _
       obtain ⟨N, hN⟩ : ∃ n, vs.length = n := ⟨_, rfl⟩
       have HN : Hid (vs.length = N) := hN
       have c0 : wr.cell? ⟨b7, 0, none⟩ = some (.int .i64 (N : Int)) := by rw [cell0 HV.out, hN]
       clear hL hvs hxv HE'
       have t5 : True := trivial
       have t6 : True := trivial
       by_cases hN8 : N < 48
       · have hNi : (N : Int) < 48 := by omega
         have hv8 : vs.length < 48 := by omega
         clear hN
         have HFIN : Hid (finL ((allR rs ri nr ++ (padTo nl lj).take (j + 1)).take 48) = finL (vs ++ [xv])) := (by show _ = _; rw [HNEXT.out, take_in (by rw [HVS.out]; exact hv8), HVS.out])
         by_cases hjq : j < nj
         · have hjqi : (j : Int) < nj := by omega
           obtain ⟨x', hx'⟩ : ∃ x, lj[j]? = some x := ⟨_, List.getElem?_eq_getElem (by rw [HNJ.out]; exact hjq)⟩
           have hxx : x' = xv := by rw [← HXV.out, List.getD_eq_getElem?_getD, hx']; rfl
           subst hxx
           obtain ⟨bx, ox, rfl, hbx, hcx⟩ := (HJ.out.below Bw'.out).int hx'
           clear hx'
           go_wp2_with fail
           refine grow_tailV 8 (by kernel_rfl) (by kernel_rfl) ?_
           refine WG.pu rfl (v := .pointer (some ⟨b7, 0, none⟩)) ?_; simp only [sP]
           refine WG.cell rfl 3 _ rfl rfl c0 (fun w h => ld3' w h) ?_; simp only [sP]
           refine WG.pu rfl (v := .slice (some ⟨bx, ox, none⟩) nj cj) ?_; simp only [sP]
           refine WG.pu rfl (v := .int .i64 (j : Int)) ?_; simp only [sP]
           refine WG.pu rfl (v := .pointer (some ⟨bx, ox + j, none⟩)) ?_; simp only [sP]
           refine WG.cell rfl 2 _ rfl rfl hcx (fun w h => ld2 w h) ?_; simp only [sP]
           refine WG.pu rfl (v := .pointer (some ⟨b7, 1, none⟩)) ?_; simp only [sP]
           refine WG.pu rfl (v := .pointer (some ⟨b7, 1 + N, none⟩)) ?_; simp only [sP]
           refine WG.nil ?_
           intro W4 B4x
           have E4 := IsS.grown HV.out B4x
           have B4 : Below b7 W3 W4 := HB'.out.trans (B4x.mono (Nat.le_of_lt HV.out.lt))
           clear B4x
           simp only [List.drop_succ_cons, List.drop_zero]
           go_wp2_with (first
            | (clear t5; refine wpList_store1 rfl 2 _ _ rfl rfl (.int .i64 x') rfl E4 (by rw [finL_len hv48]; omega) infoI2 rfl ?_; intro W5 U5 E5; have B5 := U5.trans B4 (Nat.le_refl _); have c5 : W5.cell? ⟨b7, 0, none⟩ = some (.int .i64 (N : Int)) := (by rw [E5.cell 0, List.getElem?_set_ne (by omega), ← HN.out]; rfl); clear U5 E4)
            | (clear t6; refine wpList_store1 rfl 3 _ _ rfl rfl (.int .i64 ((N : Int) + 1)) rfl E5 (by rw [List.length_set, finL_len hv48]; omega) info3' rfl ?_; intro W6 U6 E6x; have B6 := U6.trans B5 (Nat.le_refl _); have E6 : IsS W6 b7 80 (finL (vs ++ [x'])) := (by rw [← fin_snoc hv8 x', HN.out]; exact E6x); clear U6 E5 E6x))
           go_roundw
           case rel => exact ⟨j + 1, by omega, by go_num, by show IsS _ _ _ _; rw [HFIN.out]; exact E6, B6⟩
           case measure => simp [intOf]; omega
         · have hjqi : ¬ (j : Int) < nj := by omega
           have HX0 : Hid (xv = 0) := (by show _ = _; rw [← HXV.out, List.getD_eq_getElem?_getD, List.getElem?_eq_none (by rw [HNJ.out]; omega)]; rfl)
           go_wp2_with (clear t6; refine wpList_store1 rfl 3 _ _ rfl rfl (.int .i64 ((N : Int) + 1)) rfl HV.out (by rw [finL_len hv48]; omega) info3' rfl ?_; intro W6 U6 E6x; have B6 := U6.trans HB'.out (Nat.le_refl _); have E6 : IsS W6 b7 80 (finL (vs ++ [xv])) := (by rw [HX0.out, ← fin_snoc0 hv8, HN.out]; exact E6x); clear U6 E6x)
           go_roundw
           case rel => exact ⟨j + 1, by omega, by go_num, by show IsS _ _ _ _; rw [HFIN.out]; exact E6, B6⟩
           case measure => simp [intOf]; omega
       · have hNi : ¬ (N : Int) < 48 := by omega
         have HFIN : Hid (finL ((allR rs ri nr ++ (padTo nl lj).take (j + 1)).take 48) = finL vs) := (by show _ = _; rw [HNEXT.out, take_out (by rw [HVS.out]; omega), HVS.out])
         clear hN
         go_wp2_with fail
         go_roundw
         case rel => exact ⟨j + 1, by omega, by go_num, by show IsS _ _ _ _; rw [HFIN.out]; exact HV.out, HB'⟩
         case measure => simp [intOf]; omega
     · have hji : ¬ (j : Int) < nl := by omega
       have HEN : Hid (IsS wr b7 80 (finL ((allR rs ri nr ++ padTo nl lj).take 48))) := (by have := HE'.out; rw [show j = (padTo nl lj).length by rw [padTo_len]; omega, List.take_length] at this; exact this)
       have d1 := D3.below HB'.out l6
       have t4 : True := trivial
       have t5 : True := trivial
       go_wp2_with (first
        | (clear t4; refine wpList_loadW rfl 80 _ rfl rfl HEN.out _ Try.underlying80 rfl fin48 ?_)
        | (clear t5; refine wpList_storeW rfl 80 _ _ rfl rfl (finL ((allR rs ri nr ++ padTo nl lj).take 48)) rfl d1 (by rw [finL_len (take48 _), finL_len (by simp)]) fin48 (finL_one _) ?_; intro W6 U6 E6; have B6 := U6.trans Bw'.out hb6; clear U6 d1))
       exact ret_S (cs := finL ((allR rs ri nr ++ padTo nl lj).take 48)) rfl rfl rfl E6 _ Try.underlying80 rfl fin48 ⟨rfl, B6⟩
structure One (w W : World) (b : Nat) : Prop where
 os : W.os = w.os
 tape : W.tape = w.tape
 output : W.output = w.output
 size : w.heap.size ≤ W.heap.size
 block : ∀ k, k < w.heap.size → k ≠ b → W.heap[k]? = w.heap[k]?
theorem One.of_below {w W : World} (h : Below w.heap.size w W) (b : Nat) : One w W b := ⟨h.os, h.tape, h.output, h.size, fun k hk _ => h.block k hk⟩
theorem One.of_upd {w W : World} {b : Nat} (h : Upd w W b) : One w W b := ⟨h.os, h.tape, h.output, by rw [h.size]; exact Nat.le_refl _, fun k _ hk => h.block k hk⟩
theorem One.trans {w W W' : World} {b : Nat} (h : One w W b) (h' : One W W' b) : One w W' b :=
 ⟨h'.os.trans h.os, h'.tape.trans h.tape, h'.output.trans h.output, Nat.le_trans h.size h'.size, fun k hk hb => (h'.block k (Nat.lt_of_lt_of_le hk h.size) hb).trans (h.block k hk hb)⟩
theorem info2' : (Try.prog.info? 2).map (·.size) = some 1 := by kernel_rfl
theorem keepG {listed : Array Bool} {i j : Nat} {c : Bool} (hij : i ≠ j) (h : (listed.setIfInBounds i true).getD j false = c) : listed.getD j false = c := by rw [getD_set_ne false hij] at h; exact h
theorem nowT {listed : Array Bool} {i : Nat} (h : i < listed.size) : (listed.setIfInBounds i true).getD i false = true := by simp [h]
theorem keepT {listed : Array Bool} {i j : Nat} (h : listed.getD j false = true) : (listed.setIfInBounds i true).getD j false = true := by
 by_cases hij : i = j
 · subst hij
   have hs : i < listed.size := by
    by_cases hs : i < listed.size
    · exact hs
    · simp [hs] at h
   exact nowT hs
 · rw [getD_set_ne false hij]; exact h
section
variable {ops : Array Oper} {Q : Exit → Act → World → Prop}
theorem wpOp_cell {i : Nat} {o : Oper} {K : Act → World → Prop} {a : Act} {w : World} {v : Value} {b k : Nat} (hi : ops[i]? = some o) (hg : o.guard = none) (ty : TypeId) (x : Operand) (ho : o.op = .load ty x) (hx : a.eval x = .pointer (some ⟨b, k, none⟩))
    (hl : (Instr.loadAt ty (.pointer (some ⟨b, k, none⟩))).run Try.prog w = .ok v w) (h : K (a.put o.dst v) w) : wpOp Try.prog ops Q i K a w := by
 refine wpOp_value hi hg (v := v) (w' := w) ?_ h
 unfold execOp
 simp only [ho, hx, Sem.run_bind, hl, Result.andThen_ok, Sem.run_pure]
end
end Go.Proofs.Ytegpnicajlndlaa

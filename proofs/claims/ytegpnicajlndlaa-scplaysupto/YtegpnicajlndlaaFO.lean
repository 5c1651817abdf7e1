/- First of a program: the program's side. -/
import Derived.Test.YtegpnicajlndlaaFN
import Derived.Test.YtegpnicajlndlaaPW
namespace Go.Proofs.Ytegpnicajlndlaa
open Go.RowKit M
set_option linter.unusedSimpArgs false
set_option linter.unusedVariables false

def allR (rs : List (List ByteArray)) (ri : List (List Int)) (k : Nat) : List Int := ((List.range k).map fun i => padTo (rs.getD i []).length (ri.getD i [])).flatten
theorem allR_next (rs : List (List ByteArray)) (ri : List (List Int)) (k : Nat) : allR rs ri (k + 1) = allR rs ri k ++ padTo (rs.getD k []).length (ri.getD k []) := by
  unfold allR; rw [List.range_succ, List.map_append, List.flatten_append]; simp
def firstL (p : PG) : List Int := (allR p.regs p.regInit p.regs.length ++ padTo p.locs.length p.locInit).take 48
theorem take_more (A B : List Int) : (A ++ B).take 48 = A.take 48 ++ B.take (48 - (A.take 48).length) := by
  rw [List.take_append, List.length_take]
  congr 2
  omega
theorem take48 (A : List Int) : (A.take 48).length ≤ 48 := by rw [List.length_take]; omega
theorem fin48 {A : List Int} : (Try.prog.info? 80).map (·.size) = some (finL (A.take 48)).length := by rw [finL_len (take48 A)]; exact infoFin
set_option maxRecDepth 100000 in
set_option maxHeartbeats 4000000 in
theorem first_any (p : PG) (hf : p.Few) (vt vr vl vi vj : Value) (w : World) (hp : PGV w vt vr vl vi vj p) :
    Calls Try.prog 87 #[.agg #[vt, vr, vl, vi, vj]] w fun en w' => en = .returned (.agg (finL (firstL p)).toArray) ∧ Below w.heap.size w w' := by
  obtain ⟨ar, cr, rfl⟩ := hp.r.form
  obtain ⟨ai, ci, rfl⟩ := hp.i.form
  obtain ⟨al, cl, rfl, _, _⟩ := hp.l
  obtain ⟨aj, cj, rfl, hsj, _⟩ := hp.j
  have HR : Hid (RowsV w (.slice ar p.regs.length cr) strE p.regs) := hp.r
  have HI : Hid (RowsV w (.slice ai p.regInit.length ci) intE p.regInit) := hp.i
  have HJ : Hid (Seg w aj (p.locInit.flatMap intE)) := hsj
  have HRR : Hid (p.regs.flatten.length ≤ 1048576) := hf.rr
  have HII : Hid (p.regInit.flatten.length ≤ 1048576) := hf.ii
  have hfr := hf.r
  have hfi := hf.i
  have hfl := hf.l
  have hfj := hf.j
  have HFL : Hid (firstL p = (allR p.regs p.regInit p.regs.length ++ padTo p.locs.length p.locInit).take 48) := rfl
  have cL := fun (W : World) (vs : List Int) (h : vs.length ≤ 48) (hs : Seg W aj (p.locInit.flatMap intE)) => grown_any vs p.locInit h p.locs.length hf.l hf.j aj cj W hs
  clear hp hsj hf
  obtain ⟨rs, ri, ls, lj, hE⟩ : ∃ a b c d, p.regs = a ∧ p.regInit = b ∧ p.locs = c ∧ p.locInit = d := ⟨_, _, _, _, rfl, rfl, rfl, rfl⟩
  obtain ⟨hE1, hE2, hE3, hE4⟩ := hE
  rw [hE1] at HR HRR hfr
  rw [hE2] at HI HII hfi
  rw [hE3] at hfl
  rw [hE4] at HJ hfj
  rw [hE1, hE2, hE3, hE4] at HFL
  rw [hE3, hE4] at cL
  rw [hE1, hE2, hE3, hE4]
  clear hE1 hE2 hE3 hE4
  obtain ⟨nr, hnr⟩ : ∃ n, rs.length = n := ⟨_, rfl⟩
  obtain ⟨ni, hni⟩ : ∃ n, ri.length = n := ⟨_, rfl⟩
  obtain ⟨nl, hnl⟩ : ∃ n, ls.length = n := ⟨_, rfl⟩
  obtain ⟨nj, hnj⟩ : ∃ n, lj.length = n := ⟨_, rfl⟩
  have HNR : Hid (rs.length = nr) := hnr
  have HNI : Hid (ri.length = ni) := hni
  rw [hnr] at HR hfr HFL
  rw [hni] at HI hfi
  rw [hnl] at hfl HFL
  rw [hnj] at hfj
  rw [hnl, hnj] at cL
  rw [hnr, hni, hnl, hnj]
  clear hnr hni hnl hnj
  have t1 : True := trivial
  have t2 : True := trivial
  have t3 : True := trivial
  go_enter Try.func87, Try.ntmps87
  go_wp2_with (first
    | (clear t1; refine wpList_boxS rfl 28 _ rfl [vt, .slice ar nr cr, .slice al nl cl, .slice ai ni ci, .slice aj nj cj] rfl ?_; intro W1 b1 F1 C1; have B1 : Below w.heap.size w W1 := F1.trans (Below.refl _ w) (Nat.le_refl _); clear F1)
    | (clear t2; refine wpList_allocS rfl 80 rfl (finL []) zeroFin ?_; intro W2 b2 F2 D2; have C2 := C1.fresh F2; have B2 := F2.trans B1 B1.size; have hb2 : w.heap.size ≤ b2 := Nat.le_trans B1.size (Nat.le_of_eq F2.at'.symm); clear F2 C1)
    | (clear t3; refine wpList_allocS rfl 80 rfl (finL []) zeroFin ?_; intro W3 b3 F3 E3; have C3 := C2.fresh F3; have D3 := D2.fresh F3; have B3 := F3.trans B2 B2.size; have hb3 : w.heap.size ≤ b3 := Nat.le_trans B2.size (Nat.le_of_eq F3.at'.symm); have l1 : b1 < b3 := (by have := C2.lt; have := F3.at'; omega); have l2 : b2 < b3 := (by have := D2.lt; have := F3.at'; omega); obtain ⟨k0, k1, k2, k3, k4⟩ := pg_cells C3 (Below.refl _ W3); clear F3 C2 D2))
  go_loopw [10] (fun i wr => ∃ k : Nat, k ≤ nr ∧ i = .int .i64 k ∧ Hid (IsS wr b3 80 (finL ((allR rs ri k).take 48))) ∧ Hid (Below b3 W3 wr)) (fun i _ => nr - (intOf i).toNat)
  case atStart => exact ⟨0, Nat.zero_le _, rfl, E3, Below.refl _ _⟩
  case round =>
    obtain ⟨k, hk, rfl, HE, HB⟩ := hrel
    have Bw : Hid (Below w.heap.size w wr) := B3.trans (HB.out.mono hb3)
    have c1 := C3.below HB.out l1
    obtain ⟨q0, q1, q2, q3, q4⟩ := five c1
    by_cases hlt : k < nr
    · have hki : (k : Int) < nr := by omega
      obtain ⟨r, hr⟩ : ∃ r, rs[k]? = some r := ⟨_, List.getElem?_eq_getElem (by rw [HNR.out]; exact hlt)⟩
      obtain ⟨br, or', ar', cr', rfl, hbr, hcr, hsegr, _⟩ := (HR.out.below Bw.out).at k r hr
      have hrl : r.length ≤ 1048576 := Nat.le_trans (by have := flat_at hr (Nat.le_refl _); rw [List.take_length, List.length_append] at this; omega) HRR.out
      have hrd : rs.getD k [] = r := by rw [List.getD_eq_getElem?_getD, hr]; rfl
      obtain ⟨rn, hrn⟩ : ∃ n, r.length = n := ⟨_, rfl⟩
      have t4 : True := trivial
      have t5 : True := trivial
      by_cases hin : k < ni
      · have hini : (k : Int) < ni := by omega
        obtain ⟨q, hq⟩ : ∃ q, ri[k]? = some q := ⟨_, List.getElem?_eq_getElem (by rw [HNI.out]; exact hin)⟩
        obtain ⟨bi, oi, ai', ci', rfl, hbi, hci, hsegi, _⟩ := (HI.out.below Bw.out).at k q hq
        have hql : q.length ≤ 1048576 := Nat.le_trans (by have := flat_at hq (Nat.le_refl _); rw [List.take_length, List.length_append] at this; omega) HII.out
        have hqd : ri.getD k [] = q := by rw [List.getD_eq_getElem?_getD, hq]; rfl
        have cG := grown_any ((allR rs ri k).take 48) q (take48 _) r.length hrl hql ai' ci' wr hsegi
        rw [← take_more, ← hrd, ← hqd, ← allR_next, hrd, hqd, hrn] at cG
        obtain ⟨qn, hqn⟩ : ∃ n, q.length = n := ⟨_, rfl⟩
        rw [hqn] at cG hci hql
        rw [hrn] at hcr hrl
        clear hr hq hsegr hsegi hrd hqd hrn hqn
        go_wp2_with (first
          | (clear t4; refine wpList_loadW rfl 80 _ rfl rfl HE.out _ Try.underlying80 rfl fin48 ?_)
          | (go_at_call 115; refine cG.mono ?_; rintro en W5 ⟨rfl, B5x⟩; have E5 := IsS.grown HE.out B5x; have B5 : Below b3 W3 W5 := HB.out.trans (B5x.mono (Nat.le_of_lt HE.out.lt)); clear cG B5x)
          | (clear t5; refine wpList_storeW rfl 80 _ _ rfl rfl (finL ((allR rs ri (k + 1)).take 48)) rfl E5 (by rw [finL_len (take48 _), finL_len (take48 _)]) fin48 (finL_one _) ?_; intro W6 U6 E6; have B6 := U6.trans B5 (Nat.le_refl _); clear U6 E5))
        go_roundw
        case rel => exact ⟨k + 1, by omega, by go_num, E6, B6⟩
        case measure => simp [intOf]; omega
      · have hini : ¬ (k : Int) < ni := by omega
        have hqd : ri.getD k [] = [] := by rw [List.getD_eq_getElem?_getD, List.getElem?_eq_none (by rw [HNI.out]; omega)]; rfl
        have cG := grown_any ((allR rs ri k).take 48) [] (take48 _) r.length hrl (by simp) none 0 wr (Seg.nil _ _)
        rw [← take_more, ← hrd, ← hqd, ← allR_next, hrd, hqd, hrn] at cG
        rw [hrn] at hcr hrl
        clear hr hsegr hrd hqd hrn
        go_wp2_with (first
          | (clear t4; refine wpList_loadW rfl 80 _ rfl rfl HE.out _ Try.underlying80 rfl fin48 ?_)
          | (go_at_call 115; refine cG.mono ?_; rintro en W5 ⟨rfl, B5x⟩; have E5 := IsS.grown HE.out B5x; have B5 : Below b3 W3 W5 := HB.out.trans (B5x.mono (Nat.le_of_lt HE.out.lt)); clear cG B5x)
          | (clear t5; refine wpList_storeW rfl 80 _ _ rfl rfl (finL ((allR rs ri (k + 1)).take 48)) rfl E5 (by rw [finL_len (take48 _), finL_len (take48 _)]) fin48 (finL_one _) ?_; intro W6 U6 E6; have B6 := U6.trans B5 (Nat.le_refl _); clear U6 E5))
        go_roundw
        case rel => exact ⟨k + 1, by omega, by go_num, E6, B6⟩
        case measure => simp [intOf]; omega
    · have hki : ¬ (k : Int) < nr := by omega
      have HE' : Hid (IsS wr b3 80 (finL ((allR rs ri nr).take 48))) := (by have := HE.out; rw [show k = nr by omega] at this; exact this)
      have cG := cL wr ((allR rs ri nr).take 48) (take48 _) (HJ.out.below Bw.out)
      rw [← take_more, ← HFL.out] at cG
      have d1 := D3.below HB.out l2
      have HF48 : Hid ((Try.prog.info? 80).map (·.size) = some (finL (firstL p)).length) := (by show _ = _; rw [HFL.out]; exact fin48)
      have HL48 : Hid ((finL (firstL p)).length = 49) := (by show _ = _; rw [HFL.out, finL_len (take48 _)])
      have t4 : True := trivial
      have t5 : True := trivial
      clear cL
      go_wp2_with (first
        | (clear t4; refine wpList_loadW rfl 80 _ rfl rfl HE'.out _ Try.underlying80 rfl fin48 ?_)
        | (go_at_call 115; refine cG.mono ?_; rintro en W5 ⟨rfl, B5x⟩; have d5 := IsS.grown d1 B5x; have B5 := Below.then Bw.out B5x; clear cG B5x)
        | (clear t5; refine wpList_storeW rfl 80 _ _ rfl rfl (finL (firstL p)) rfl d5 (by rw [HL48.out]; rfl) HF48.out (finL_one _) ?_; intro W6 U6 E6; have B6 := U6.trans B5 hb2; clear U6 d5))
      exact ret_S (cs := finL (firstL p)) rfl rfl rfl E6 _ Try.underlying80 rfl HF48.out ⟨rfl, B6⟩
end Go.Proofs.Ytegpnicajlndlaa

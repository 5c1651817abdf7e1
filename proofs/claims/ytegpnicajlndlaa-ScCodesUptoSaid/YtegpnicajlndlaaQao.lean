/- Several texts in one: FO, PR. -/
import Derived.Test.YtegpnicajlndlaaQai
import Derived.Test.YtegpnicajlndlaaQan
/- First of a program: the program's side. -/
namespace Go.Proofs.Ytegpnicajlndlaa
open Go.RowKit M
set_option linter.unusedSimpArgs false
set_option linter.unusedVariables false

def allR (rs : List (List ByteArray)) (ri : List (List Int)) (k : Nat) : List Int := ((List.range k).map fun i => padTo (rs.getD i []).length (ri.getD i [])).flatten
theorem allR_next (rs : List (List ByteArray)) (ri : List (List Int)) (k : Nat) : allR rs ri (k + 1) = allR rs ri k ++ padTo (rs.getD k []).length (ri.getD k []) := by
  unfold allR; rw [List.range_succ, List.map_append, List.flatten_append]; simp
def firstL (p : PG) : List Int := (allR p.regs p.regInit p.regs.length ++ padTo p.locs.length p.locInit).take 48
theorem take_more (A B : List Int) : (A ++ B).take 48 = A.take 48 ++ B.take (48 - (A.take 48).length) := by
  rw [List.take_append, List.length_take]
  congr 2
  omega
theorem take48 (A : List Int) : (A.take 48).length ≤ 48 := by rw [List.length_take]; omega
theorem fin48 {A : List Int} : (Try.prog.info? 80).map (·.size) = some (finL (A.take 48)).length := by rw [finL_len (take48 A)]; exact infoFin
set_option maxRecDepth 100000 in
set_option maxHeartbeats 4000000 in
theorem first_any (p : PG) (hf : p.Few) (vt vr vl vi vj : Value) (w : World) (hp : PGV w vt vr vl vi vj p) :
    Calls Try.prog 87 #[.agg #[vt, vr, vl, vi, vj]] w fun en w' => en = .returned (.agg (finL (firstL p)).toArray) ∧ Below w.heap.size w w' := by
  obtain ⟨ar, cr, rfl⟩ := hp.r.form
  obtain ⟨ai, ci, rfl⟩ := hp.i.form
  obtain ⟨al, cl, rfl, _, _⟩ := hp.l
  obtain ⟨aj, cj, rfl, hsj, _⟩ := hp.j
  have HR : Hid (RowsV w (.slice ar p.regs.length cr) strE p.regs) := hp.r
  have HI : Hid (RowsV w (.slice ai p.regInit.length ci) intE p.regInit) := hp.i
  have HJ : Hid (Seg w aj (p.locInit.flatMap intE)) := hsj
  have HRR : Hid (p.regs.flatten.length ≤ 1048576) := hf.rr
  have HII : Hid (p.regInit.flatten.length ≤ 1048576) := hf.ii
  have hfr := hf.r
  have hfi := hf.i
  have hfl := hf.l
  have hfj := hf.j
  have HFL : Hid (firstL p = (allR p.regs p.regInit p.regs.length ++ padTo p.locs.length p.locInit).take 48) := rfl
  have cL := fun (W : World) (vs : List Int) (h : vs.length ≤ 48) (hs : Seg W aj (p.locInit.flatMap intE)) => grown_any vs p.locInit h p.locs.length hf.l hf.j aj cj W hs
  clear hp hsj hf
  obtain ⟨rs, ri, ls, lj, hE⟩ : ∃ a b c d, p.regs = a ∧ p.regInit = b ∧ p.locs = c ∧ p.locInit = d := ⟨_, _, _, _, rfl, rfl, rfl, rfl⟩
  obtain ⟨hE1, hE2, hE3, hE4⟩ := hE
  rw [hE1] at HR HRR hfr
  rw [hE2] at HI HII hfi
  rw [hE3] at hfl
  rw [hE4] at HJ hfj
  rw [hE1, hE2, hE3, hE4] at HFL
  rw [hE3, hE4] at cL
  rw [hE1, hE2, hE3, hE4]
  clear hE1 hE2 hE3 hE4
  obtain ⟨nr, hnr⟩ : ∃ n, rs.length = n := ⟨_, rfl⟩
  obtain ⟨ni, hni⟩ : ∃ n, ri.length = n := ⟨_, rfl⟩
  obtain ⟨nl, hnl⟩ : ∃ n, ls.length = n := ⟨_, rfl⟩
  obtain ⟨nj, hnj⟩ : ∃ n, lj.length = n := ⟨_, rfl⟩
  have HNR : Hid (rs.length = nr) := hnr
  have HNI : Hid (ri.length = ni) := hni
  rw [hnr] at HR hfr HFL
  rw [hni] at HI hfi
  rw [hnl] at hfl HFL
  rw [hnj] at hfj
  rw [hnl, hnj] at cL
  rw [hnr, hni, hnl, hnj]
  clear hnr hni hnl hnj
  have t1 : True := trivial
  have t2 : True := trivial
  have t3 : True := trivial
  go_enter Try.func87, Try.ntmps87
  go_wp2_with (first
    | (clear t1; refine wpList_boxS rfl 28 _ rfl [vt, .slice ar nr cr, .slice al nl cl, .slice ai ni ci, .slice aj nj cj] rfl ?_; intro W1 b1 F1 C1; have B1 : Below w.heap.size w W1 := F1.trans (Below.refl _ w) (Nat.le_refl _); clear F1)
    | (clear t2; refine wpList_allocS rfl 80 rfl (finL []) zeroFin ?_; intro W2 b2 F2 D2; have C2 := C1.fresh F2; have B2 := F2.trans B1 B1.size; have hb2 : w.heap.size ≤ b2 := Nat.le_trans B1.size (Nat.le_of_eq F2.at'.symm); clear F2 C1)
    | (clear t3; refine wpList_allocS rfl 80 rfl (finL []) zeroFin ?_; intro W3 b3 F3 E3; have C3 := C2.fresh F3; have D3 := D2.fresh F3; have B3 := F3.trans B2 B2.size; have hb3 : w.heap.size ≤ b3 := Nat.le_trans B2.size (Nat.le_of_eq F3.at'.symm); have l1 : b1 < b3 := (by have := C2.lt; have := F3.at'; omega); have l2 : b2 < b3 := (by have := D2.lt; have := F3.at'; omega); obtain ⟨k0, k1, k2, k3, k4⟩ := pg_cells C3 (Below.refl _ W3); clear F3 C2 D2))
  go_loopw [10] (fun i wr => ∃ k : Nat, k ≤ nr ∧ i = .int .i64 k ∧ Hid (IsS wr b3 80 (finL ((allR rs ri k).take 48))) ∧ Hid (Below b3 W3 wr)) (fun i _ => nr - (intOf i).toNat)
  case atStart => exact ⟨0, Nat.zero_le _, rfl, E3, Below.refl _ _⟩
  case round =>
    obtain ⟨k, hk, rfl, HE, HB⟩ := hrel
    have Bw : Hid (Below w.heap.size w wr) := B3.trans (HB.out.mono hb3)
    have c1 := C3.below HB.out l1
    obtain ⟨q0, q1, q2, q3, q4⟩ := five c1
    by_cases hlt : k < nr
    · have hki : (k : Int) < nr := by omega
      obtain ⟨r, hr⟩ : ∃ r, rs[k]? = some r := ⟨_, List.getElem?_eq_getElem (by rw [HNR.out]; exact hlt)⟩
      obtain ⟨br, or', ar', cr', rfl, hbr, hcr, hsegr, _⟩ := (HR.out.below Bw.out).at k r hr
      have hrl : r.length ≤ 1048576 := Nat.le_trans (by have := flat_at hr (Nat.le_refl _); rw [List.take_length, List.length_append] at this; omega) HRR.out
      have hrd : rs.getD k [] = r := by rw [List.getD_eq_getElem?_getD, hr]; rfl
      obtain ⟨rn, hrn⟩ : ∃ n, r.length = n := ⟨_, rfl⟩
      have t4 : True := trivial
      have t5 : True := trivial
      by_cases hin : k < ni
      · have hini : (k : Int) < ni := by omega
        obtain ⟨q, hq⟩ : ∃ q, ri[k]? = some q := ⟨_, List.getElem?_eq_getElem (by rw [HNI.out]; exact hin)⟩
        obtain ⟨bi, oi, ai', ci', rfl, hbi, hci, hsegi, _⟩ := (HI.out.below Bw.out).at k q hq
        have hql : q.length ≤ 1048576 := Nat.le_trans (by have := flat_at hq (Nat.le_refl _); rw [List.take_length, List.length_append] at this; omega) HII.out
        have hqd : ri.getD k [] = q := by rw [List.getD_eq_getElem?_getD, hq]; rfl
        have cG := grown_any ((allR rs ri k).take 48) q (take48 _) r.length hrl hql ai' ci' wr hsegi
        rw [← take_more, ← hrd, ← hqd, ← allR_next, hrd, hqd, hrn] at cG
        obtain ⟨qn, hqn⟩ : ∃ n, q.length = n := ⟨_, rfl⟩
        rw [hqn] at cG hci hql
        rw [hrn] at hcr hrl
        clear hr hq hsegr hsegi hrd hqd hrn hqn
        go_wp2_with (first
          | (clear t4; refine wpList_loadW rfl 80 _ rfl rfl HE.out _ Try.underlying80 rfl fin48 ?_)
          | (go_at_call 115; refine cG.mono ?_; rintro en W5 ⟨rfl, B5x⟩; have E5 := IsS.grown HE.out B5x; have B5 : Below b3 W3 W5 := HB.out.trans (B5x.mono (Nat.le_of_lt HE.out.lt)); clear cG B5x)
          | (clear t5; refine wpList_storeW rfl 80 _ _ rfl rfl (finL ((allR rs ri (k + 1)).take 48)) rfl E5 (by rw [finL_len (take48 _), finL_len (take48 _)]) fin48 (finL_one _) ?_; intro W6 U6 E6; have B6 := U6.trans B5 (Nat.le_refl _); clear U6 E5))
        go_roundw
        case rel => exact ⟨k + 1, by omega, by go_num, E6, B6⟩
        case measure => simp [intOf]; omega
      · have hini : ¬ (k : Int) < ni := by omega
        have hqd : ri.getD k [] = [] := by rw [List.getD_eq_getElem?_getD, List.getElem?_eq_none (by rw [HNI.out]; omega)]; rfl
        have cG := grown_any ((allR rs ri k).take 48) [] (take48 _) r.length hrl (by simp) none 0 wr (Seg.nil _ _)
        rw [← take_more, ← hrd, ← hqd, ← allR_next, hrd, hqd, hrn] at cG
        rw [hrn] at hcr hrl
        clear hr hsegr hrd hqd hrn
        go_wp2_with (first
          | (clear t4; refine wpList_loadW rfl 80 _ rfl rfl HE.out _ Try.underlying80 rfl fin48 ?_)
          | (go_at_call 115; refine cG.mono ?_; rintro en W5 ⟨rfl, B5x⟩; have E5 := IsS.grown HE.out B5x; have B5 : Below b3 W3 W5 := HB.out.trans (B5x.mono (Nat.le_of_lt HE.out.lt)); clear cG B5x)
          | (clear t5; refine wpList_storeW rfl 80 _ _ rfl rfl (finL ((allR rs ri (k + 1)).take 48)) rfl E5 (by rw [finL_len (take48 _), finL_len (take48 _)]) fin48 (finL_one _) ?_; intro W6 U6 E6; have B6 := U6.trans B5 (Nat.le_refl _); clear U6 E5))
        go_roundw
        case rel => exact ⟨k + 1, by omega, by go_num, E6, B6⟩
        case measure => simp [intOf]; omega
    · have hki : ¬ (k : Int) < nr := by omega
      have HE' : Hid (IsS wr b3 80 (finL ((allR rs ri nr).take 48))) := (by have := HE.out; rw [show k = nr by omega] at this; exact this)
      have cG := cL wr ((allR rs ri nr).take 48) (take48 _) (HJ.out.below Bw.out)
      rw [← take_more, ← HFL.out] at cG
      have d1 := D3.below HB.out l2
      have HF48 : Hid ((Try.prog.info? 80).map (·.size) = some (finL (firstL p)).length) := (by show _ = _; rw [HFL.out]; exact fin48)
      have HL48 : Hid ((finL (firstL p)).length = 49) := (by show _ = _; rw [HFL.out, finL_len (take48 _)])
      have t4 : True := trivial
      have t5 : True := trivial
      clear cL
      go_wp2_with (first
        | (clear t4; refine wpList_loadW rfl 80 _ rfl rfl HE'.out _ Try.underlying80 rfl fin48 ?_)
        | (go_at_call 115; refine cG.mono ?_; rintro en W5 ⟨rfl, B5x⟩; have d5 := IsS.grown d1 B5x; have B5 := Below.then Bw.out B5x; clear cG B5x)
        | (clear t5; refine wpList_storeW rfl 80 _ _ rfl rfl (finL (firstL p)) rfl d5 (by rw [HL48.out]; rfl) HF48.out (finL_one _) ?_; intro W6 U6 E6; have B6 := U6.trans B5 hb2; clear U6 d5))
      exact ret_S (cs := finL (firstL p)) rfl rfl rfl E6 _ Try.underlying80 rfl HF48.out ⟨rfl, B6⟩
end Go.Proofs.Ytegpnicajlndlaa
/- rising: names that rise; the reference's rises. -/
namespace Go.Proofs.Ytegpnicajlndlaa
open Go.RowKit M
set_option linter.unusedSimpArgs false
set_option linter.unusedVariables false

def sLt (a b : ByteArray) : Bool := Op.bytesLess a.toList b.toList
/-- The names ahead of a number are of a kind, and rise. -/
def RisTo (kb : ByteArray → Bool) (l : List ByteArray) (j : Nat) : Prop := ∀ i s, i < j → l[i]? = some s → kb s = true ∧ ∀ s', 0 < i → l[i - 1]? = some s' → sLt s' s = true
noncomputable def risB (kb : ByteArray → Bool) (l : List ByteArray) : Bool := @decide (RisTo kb l l.length) (Classical.propDecidable _)
theorem ris_t {kb : ByteArray → Bool} {l : List ByteArray} (h : RisTo kb l l.length) : risB kb l = true := by unfold risB; exact @decide_eq_true _ (Classical.propDecidable _) h
theorem ris_f {kb : ByteArray → Bool} {l : List ByteArray} (h : ¬ RisTo kb l l.length) : risB kb l = false := by unfold risB; exact @decide_eq_false _ (Classical.propDecidable _) h
theorem ris_iff {kb : ByteArray → Bool} {l : List ByteArray} : risB kb l = true ↔ RisTo kb l l.length := by unfold risB; exact @decide_eq_true_iff _ (Classical.propDecidable _)
theorem ris_zero (kb : ByteArray → Bool) (l : List ByteArray) : RisTo kb l 0 := fun i s h => absurd h (by omega)
theorem ris_next {kb : ByteArray → Bool} {l : List ByteArray} {j : Nat} {g : ByteArray} (h : RisTo kb l j) (hg : l[j]? = some g) (hk : kb g = true) (hl : ∀ s', 0 < j → l[j - 1]? = some s' → sLt s' g = true) : RisTo kb l (j + 1) := fun i s hi hs => by
  rcases Nat.lt_or_ge i j with h' | h'
  · exact h i s h' hs
  · have : i = j := by omega
    subst this
    rw [hg] at hs; cases hs
    exact ⟨hk, hl⟩
theorem ris_not_k {kb : ByteArray → Bool} {l : List ByteArray} {j : Nat} {g : ByteArray} (hg : l[j]? = some g) (hk : kb g = false) : ¬ RisTo kb l l.length := fun h => by
  have := (h j g (List.getElem?_eq_some_iff.1 hg).1 hg).1
  rw [hk] at this; cases this
theorem ris_not_l {kb : ByteArray → Bool} {l : List ByteArray} {j : Nat} {g g' : ByteArray} (hg : l[j]? = some g) (h0 : 0 < j) (hg' : l[j - 1]? = some g') (hk : sLt g' g = false) : ¬ RisTo kb l l.length := fun h => by
  have := (h j g (List.getElem?_eq_some_iff.1 hg).1 hg).2 g' h0 hg'
  rw [hk] at this; cases this
/-- Kind and order apart. -/
theorem ris_parts (kb : ByteArray → Bool) (l : List ByteArray) : RisTo kb l l.length ↔ RisTo (fun _ => true) l l.length ∧ ∀ s ∈ l, kb s = true := by
  constructor
  · intro h
    refine ⟨fun i s hi hs => ⟨rfl, (h i s hi hs).2⟩, fun s hs => ?_⟩
    obtain ⟨i, hi⟩ := List.getElem?_of_mem hs
    exact (h i s (List.getElem?_eq_some_iff.1 hi).1 hi).1
  · rintro ⟨h1, h2⟩ i s hi hs
    exact ⟨h2 s (List.mem_of_getElem? hs), (h1 i s hi hs).2⟩
set_option maxRecDepth 100000 in
set_option maxHeartbeats 4000000 in
theorem rising_reg (l : List ByteArray) (hl : l.length ≤ 1048576) (a : Option Addr) (c : Nat) (w : World) (hs : Seg w a (l.flatMap strE)) :
    Calls Try.prog 79 #[.slice a l.length c, .func (.func 109) #[] #[]] w fun en w' => en = .returned (.bool (risB regB l)) ∧ w' = w := by
  obtain ⟨nn, hnn⟩ : ∃ n, l.length = n := ⟨_, rfl⟩
  have HN : Hid (l.length = nn) := hnn
  have HS : Hid (Seg w a (l.flatMap strE)) := hs
  rw [hnn] at hl ⊢
  clear hnn hs
  go_enter Try.func79, Try.ntmps79
  go_wp2_with fail
  go_loop [9] (fun i => ∃ j : Nat, j ≤ nn ∧ i = .int .i64 j ∧ Hid (RisTo regB l j)) (fun i => nn - (intOf i).toNat)
  case atStart => exact ⟨0, Nat.zero_le _, rfl, ris_zero _ _⟩
  case round =>
    obtain ⟨j, hj, rfl, HR⟩ := hrel
    by_cases hlt : j < nn
    · have hji : (j : Int) < nn := by omega
      obtain ⟨g, hg⟩ : ∃ g, l[j]? = some g := ⟨_, List.getElem?_eq_getElem (by rw [HN.out]; exact hlt)⟩
      have HG : Hid (l[j]? = some g) := hg
      obtain ⟨b, o, rfl, hb, hc⟩ := HS.out.str hg
      obtain ⟨kg, hkg⟩ : ∃ k, regB g = k := ⟨_, rfl⟩
      have cK : ∀ w, Calls Try.prog 109 #[.string g] w fun e w' => e = .returned (.bool (regB g)) ∧ w' = w := fun w => register_any g w
      have HK : Hid (regB g = kg) := hkg
      rw [show regB g = kg from hkg] at cK
      clear hg hkg
      cases kg with
      | false =>
        have HF : Hid (risB regB l = false) := ris_f (ris_not_k HG.out HK.out)
        go_wp2_with (go_at_call 109; refine (cK _).mono ?_; rintro en w' ⟨rfl, hw⟩; replace hw := hw.symm; subst hw)
        go_ret
        exact ⟨by rw [HF.out]; rfl, rfl⟩
      | true =>
        by_cases h0 : j = 0
        · have HX : Hid (RisTo regB l (j + 1)) := ris_next HR.out HG.out HK.out (fun _ h => absurd h (by omega))
          have hj0 : ¬ (0 : Int) < j := by omega
          clear h0
          go_wp2_with (go_at_call 109; refine (cK _).mono ?_; rintro en w' ⟨rfl, hw⟩; replace hw := hw.symm; subst hw)
          go_round
          case rel => exact ⟨j + 1, by omega, by go_num, HX⟩
          case measure => simp [intOf]; omega
        · have hj0 : (0 : Int) < j := by omega
          have hj1 : 0 < j := by omega
          obtain ⟨g', hg'⟩ : ∃ g, l[j - 1]? = some g := ⟨_, List.getElem?_eq_getElem (by rw [HN.out]; omega)⟩
          have HG' : Hid (l[j - 1]? = some g') := hg'
          obtain ⟨b', o', e', hb', hc'⟩ := HS.out.str hg'
          cases e'
          obtain ⟨q, hq⟩ : ∃ q, Op.bytesLess g'.toList g.toList = q := ⟨_, rfl⟩
          have HQ : Hid (sLt g' g = q) := hq
          clear hg'
          cases q with
          | false =>
            have HF : Hid (risB regB l = false) := ris_f (ris_not_l HG.out hj1 HG'.out HQ.out)
            go_wp2_with (go_at_call 109; refine (cK _).mono ?_; rintro en w' ⟨rfl, hw⟩; replace hw := hw.symm; subst hw)
            go_ret
            exact ⟨by rw [HF.out]; rfl, rfl⟩
          | true =>
            have HX : Hid (RisTo regB l (j + 1)) := ris_next HR.out HG.out HK.out (fun s' _ h => by rw [HG'.out] at h; cases h; exact HQ.out)
            go_wp2_with (go_at_call 109; refine (cK _).mono ?_; rintro en w' ⟨rfl, hw⟩; replace hw := hw.symm; subst hw)
            go_round
            case rel => exact ⟨j + 1, by omega, by go_num, HX⟩
            case measure => simp [intOf]; omega
    · have hji : ¬ (j : Int) < nn := by omega
      have HT : Hid (risB regB l = true) := (by
        refine ris_t ?_
        have := HR.out
        rw [show j = l.length by rw [HN.out]; omega] at this
        exact this)
      go_wp2_with fail
      go_ret
      exact ⟨by rw [HT.out]; rfl, rfl⟩
def nameK (s : ByteArray) : Bool := nameB s.data.toList
set_option maxRecDepth 100000 in
set_option maxHeartbeats 4000000 in
theorem rising_name (l : List ByteArray) (hl : l.length ≤ 1048576) (hz : ∀ s ∈ l, s.size ≤ maxLen) (a : Option Addr) (c : Nat) (w : World) (hs : Seg w a (l.flatMap strE)) :
    Calls Try.prog 79 #[.slice a l.length c, .func (.func 80) #[] #[]] w fun en w' => en = .returned (.bool (risB nameK l)) ∧ w' = w := by
  obtain ⟨nn, hnn⟩ : ∃ n, l.length = n := ⟨_, rfl⟩
  have HN : Hid (l.length = nn) := hnn
  have HZ : Hid (∀ s ∈ l, s.size ≤ maxLen) := hz
  have HS : Hid (Seg w a (l.flatMap strE)) := hs
  rw [hnn] at hl ⊢
  clear hnn hs hz
  go_enter Try.func79, Try.ntmps79
  go_wp2_with fail
  go_loop [9] (fun i => ∃ j : Nat, j ≤ nn ∧ i = .int .i64 j ∧ Hid (RisTo nameK l j)) (fun i => nn - (intOf i).toNat)
  case atStart => exact ⟨0, Nat.zero_le _, rfl, ris_zero _ _⟩
  case round =>
    obtain ⟨j, hj, rfl, HR⟩ := hrel
    by_cases hlt : j < nn
    · have hji : (j : Int) < nn := by omega
      obtain ⟨g, hg⟩ : ∃ g, l[j]? = some g := ⟨_, List.getElem?_eq_getElem (by rw [HN.out]; exact hlt)⟩
      have HG : Hid (l[j]? = some g) := hg
      obtain ⟨b, o, rfl, hb, hc⟩ := HS.out.str hg
      obtain ⟨kg, hkg⟩ : ∃ k, nameK g = k := ⟨_, rfl⟩
      have cK : ∀ w, Calls Try.prog 80 #[.string g] w fun e w' => e = .returned (.bool (nameK g)) ∧ w' = w := fun w => name_any g (HZ.out g (List.mem_of_getElem? HG.out)) w
      have HK : Hid (nameK g = kg) := hkg
      rw [show nameK g = kg from hkg] at cK
      clear hg hkg
      cases kg with
      | false =>
        have HF : Hid (risB nameK l = false) := ris_f (ris_not_k HG.out HK.out)
        go_wp2_with (go_at_call 80; refine (cK _).mono ?_; rintro en w' ⟨rfl, hw⟩; replace hw := hw.symm; subst hw)
        go_ret
        exact ⟨by rw [HF.out]; rfl, rfl⟩
      | true =>
        by_cases h0 : j = 0
        · have HX : Hid (RisTo nameK l (j + 1)) := ris_next HR.out HG.out HK.out (fun _ h => absurd h (by omega))
          have hj0 : ¬ (0 : Int) < j := by omega
          clear h0
          go_wp2_with (go_at_call 80; refine (cK _).mono ?_; rintro en w' ⟨rfl, hw⟩; replace hw := hw.symm; subst hw)
          go_round
          case rel => exact ⟨j + 1, by omega, by go_num, HX⟩
          case measure => simp [intOf]; omega
        · have hj0 : (0 : Int) < j := by omega
          have hj1 : 0 < j := by omega
          obtain ⟨g', hg'⟩ : ∃ g, l[j - 1]? = some g := ⟨_, List.getElem?_eq_getElem (by rw [HN.out]; omega)⟩
          have HG' : Hid (l[j - 1]? = some g') := hg'
          obtain ⟨b', o', e', hb', hc'⟩ := HS.out.str hg'
          cases e'
          obtain ⟨q, hq⟩ : ∃ q, Op.bytesLess g'.toList g.toList = q := ⟨_, rfl⟩
          have HQ : Hid (sLt g' g = q) := hq
          clear hg'
          cases q with
          | false =>
            have HF : Hid (risB nameK l = false) := ris_f (ris_not_l HG.out hj1 HG'.out HQ.out)
            go_wp2_with (go_at_call 80; refine (cK _).mono ?_; rintro en w' ⟨rfl, hw⟩; replace hw := hw.symm; subst hw)
            go_ret
            exact ⟨by rw [HF.out]; rfl, rfl⟩
          | true =>
            have HX : Hid (RisTo nameK l (j + 1)) := ris_next HR.out HG.out HK.out (fun s' _ h => by rw [HG'.out] at h; cases h; exact HQ.out)
            go_wp2_with (go_at_call 80; refine (cK _).mono ?_; rintro en w' ⟨rfl, hw⟩; replace hw := hw.symm; subst hw)
            go_round
            case rel => exact ⟨j + 1, by omega, by go_num, HX⟩
            case measure => simp [intOf]; omega
    · have hji : ¬ (j : Int) < nn := by omega
      have HT : Hid (risB nameK l = true) := (by
        refine ris_t ?_
        have := HR.out
        rw [show j = l.length by rw [HN.out]; omega] at this
        exact this)
      go_wp2_with fail
      go_ret
      exact ⟨by rw [HT.out]; rfl, rfl⟩
end Go.Proofs.Ytegpnicajlndlaa

/- Valid: the reference's side. -/
import Derived.Test.YtdneaaegllpnlaaDoorPgQE
namespace Go.Proofs.YtdneaaegllpnlaaDoor
open Go.RowKit M
set_option linter.unusedSimpArgs false
set_option linter.unusedVariables false

set_option maxRecDepth 100000 in
set_option maxHeartbeats 8000000 in
theorem rvalid_any (p : PG) (hf : p.Few) (vt vr vl vi vj : Value) (w : World) (hp : PGV w vt vr vl vi vj p) :
    Calls Tryd.prog 45 #[.agg #[vt, vr, vl, vi, vj]] w fun en w' => en = .returned (.int .i64 (validV p)) ∧ Below w.heap.size w w' := by
  obtain ⟨at', ct, rfl⟩ := hp.t.form
  obtain ⟨al, cl, rfl, hsl, _⟩ := hp.l
  obtain ⟨aj, cj, rfl, hsj, _⟩ := hp.j
  have HF : Hid p.Few := hf
  have HT : Hid (RowsV w (.slice at' p.threads.length ct) op5L p.threads) := hp.t
  obtain ⟨ar, cr, hvr⟩ := hp.r.form
  subst hvr
  have HR : Hid (RowsV w (.slice ar p.regs.length cr) strE p.regs) := hp.r
  have cV := fun W (h : PGV W (.slice at' p.threads.length ct) (.slice ar p.regs.length cr) (.slice al p.locs.length cl) vi (.slice aj p.locInit.length cj) p) => registers_any p hf _ _ _ _ _ W h
  have cR := fun W (h : Seg W al (p.locs.flatMap strE)) => rises_any p.locs hf.l al cl W h
  have cE := fun W (h : PGV W (.slice at' p.threads.length ct) (.slice ar p.regs.length cr) (.slice al p.locs.length cl) vi (.slice aj p.locInit.length cj) p) => revents_any p hf _ _ _ _ _ W h
  have HV : Hid (validV p = if p.threads.length = 0 ∨ 4 < p.threads.length then 95 else if regsErr p ≠ 0 then regsErr p else if p.locInit.length ≠ p.locs.length ∨ risB nameK p.locs = false then 52 else if 16 < p.locs.length then 97 else if opsB p = false then 93 else if 64 < eventsV p then 96 else 0) := (by show _ = _; unfold validV; congr)
  obtain ⟨nt, hnt⟩ : ∃ n, p.threads.length = n := ⟨_, rfl⟩
  obtain ⟨nl, hnl⟩ : ∃ n, p.locs.length = n := ⟨_, rfl⟩
  obtain ⟨nr, hnr⟩ : ∃ n, p.regs.length = n := ⟨_, rfl⟩
  have HNT : Hid (p.threads.length = nt) := hnt
  have HNL : Hid (p.locs.length = nl) := hnl
  have HNR : Hid (p.regs.length = nr) := hnr
  obtain ⟨nj, hnj⟩ : ∃ n, p.locInit.length = n := ⟨_, rfl⟩
  have hft := hf.t
  have hfl := hf.l
  have hfj := hf.j
  rw [hnt, hnl, hnj, hnr] at cV cE hp
  rw [hnt] at HT
  rw [hnr] at HR
  rw [hnt, hnl, hnj] at HV
  rw [hnl] at cR
  rw [hnt] at hft
  rw [hnl] at hfl
  rw [hnj] at hfj
  rw [hnt, hnl, hnj, hnr]
  clear hnt hnl hnj hf hnr
  have HSL : Hid (Seg w al (p.locs.flatMap strE)) := hsl
  clear hsl hsj
  obtain ⟨e, he⟩ : ∃ e, regsErr p = e := ⟨_, rfl⟩
  obtain ⟨x, hx⟩ : ∃ e, risB anyK p.locs = e := ⟨_, rfl⟩
  have HXX : Hid (risB anyK p.locs = x) := hx
  obtain ⟨z, hz⟩ : ∃ e, eventsV p = e := ⟨_, rfl⟩
  obtain ⟨V, hV⟩ : ∃ e, validV p = e := ⟨_, rfl⟩
  have HEE : Hid (regsErr p = e) := he
  rw [he] at cV HV
  rw [hx] at cR
  rw [hz] at cE HV
  rw [hV] at HV ⊢
  clear he hx hz hV
  have t1 : True := trivial
  have t2 : True := trivial
  have t3 : True := trivial
  have t4 : True := trivial
  by_cases hA : nt = 0 ∨ 4 < nt
  · have HX : Hid (V = 95) := (by have := HV.out; rw [if_pos hA] at this; exact this)
    clear cV cE cR
    rcases hA with hA | hA
    · subst hA
      go_enter Tryd.func45, Tryd.ntmps45
      go_wp2_with (clear t1; refine wpList_boxS rfl 28 _ rfl [.slice at' 0 ct, .slice ar nr cr, .slice al nl cl, vi, .slice aj nj cj] rfl ?_; intro W1 b1 F1 C1; have B1 : Below w.heap.size w W1 := F1.trans (Below.refl _ w) (Nat.le_refl _); obtain ⟨k0, k1, k2, k3, k4⟩ := pg_cells C1 (Below.refl _ W1); have P1 := hp.below B1; clear F1)
      go_ret
      exact ⟨by rw [HX.out]; rfl, B1⟩
    · have h0 : ((nt : Int) == 0) = false := by simp; omega
      have h4 : (4 : Int) < nt := by omega
      clear hA
      go_enter Tryd.func45, Tryd.ntmps45
      go_wp2_with (clear t1; refine wpList_boxS rfl 28 _ rfl [.slice at' nt ct, .slice ar nr cr, .slice al nl cl, vi, .slice aj nj cj] rfl ?_; intro W1 b1 F1 C1; have B1 : Below w.heap.size w W1 := F1.trans (Below.refl _ w) (Nat.le_refl _); obtain ⟨k0, k1, k2, k3, k4⟩ := pg_cells C1 (Below.refl _ W1); have P1 := hp.below B1; clear F1)
      go_ret
      exact ⟨by rw [HX.out]; rfl, B1⟩
  · have h0 : ((nt : Int) == 0) = false := by simp; omega
    have h4 : ¬ (4 : Int) < nt := by omega
    by_cases hE : e = 0
    · subst hE
      have HX : Hid (V = if nj ≠ nl ∨ risB nameK p.locs = false then 52 else if 16 < nl then 97 else if opsB p = false then 93 else if 64 < z then 96 else 0) := (by have := HV.out; rw [if_neg hA, if_neg (by simp)] at this; exact this)
      have HRT : Hid (RegsTo p.regs p.regInit p.regs.length) := (by
        have h := HEE.out
        unfold regsErr at h
        by_cases hc : p.regs.length ≠ p.threads.length ∨ p.regInit.length ≠ p.threads.length
        · rw [if_pos hc] at h; cases h
        · rw [if_neg hc] at h
          show RegsTo p.regs p.regInit p.regs.length
          exact Classical.byContradiction fun h' => by rw [if_pos h'] at h; cases h)
      have HLN : Hid (nr = nt ∧ p.regInit.length = nt) := (by have := regsErr_lens HEE.out; rw [HNT.out, HNR.out] at this; exact this)
      have hnrt : nr = nt := HLN.out.1
      subst hnrt
      clear hA HV
      obtain ⟨d, hd⟩ : ∃ d, ((nj : Int) != nl) = d := ⟨_, rfl⟩
      have HD : Hid (((nj : Int) != nl) = d) := hd
      cases d with
      | true =>
        have HY : Hid (V = 52) := (by have := HX.out; rw [if_pos (.inl (by have := HD.out; simp at this; omega))] at this; exact this)
        clear cR
        go_enter Tryd.func45, Tryd.ntmps45
        go_wp2_with (first
          | (clear t1; refine wpList_boxS rfl 28 _ rfl [.slice at' nr ct, .slice ar nr cr, .slice al nl cl, vi, .slice aj nj cj] rfl ?_; intro W1 b1 F1 C1; have B1 : Below w.heap.size w W1 := F1.trans (Below.refl _ w) (Nat.le_refl _); obtain ⟨k0, k1, k2, k3, k4⟩ := pg_cells C1 (Below.refl _ W1); have P1 := hp.below B1; clear F1)
          | (clear t2; refine wpList_loadS rfl 28 _ rfl rfl C1 5 _ Tryd.underlying28 rfl infoPg ?_)
          | (go_at_call 88; refine (cV _ P1).mono ?_; rintro en W2 ⟨rfl, B2x⟩; have B2 := Below.then B1 B2x; have C2 := C1.grown B2x; obtain ⟨k0, k1, k2, k3, k4⟩ := pg_cells C2 (Below.refl _ W2); clear B2x C1 P1 cV))
        go_ret
        exact ⟨by rw [HY.out]; rfl, B2⟩
      | false =>
        have HJL : Hid (¬ nj ≠ nl) := (by have := HD.out; simp at this; intro h; omega)
        cases x with
        | false =>
          have HY : Hid (V = 52) := (by have := HX.out; rw [if_pos (.inr (Bool.eq_false_iff.2 fun h => by have := ((name_parts _).1 h).1; rw [HXX.out] at this; cases this))] at this; exact this)
          go_enter Tryd.func45, Tryd.ntmps45
          go_wp2_with (first
            | (clear t1; refine wpList_boxS rfl 28 _ rfl [.slice at' nr ct, .slice ar nr cr, .slice al nl cl, vi, .slice aj nj cj] rfl ?_; intro W1 b1 F1 C1; have B1 : Below w.heap.size w W1 := F1.trans (Below.refl _ w) (Nat.le_refl _); obtain ⟨k0, k1, k2, k3, k4⟩ := pg_cells C1 (Below.refl _ W1); have P1 := hp.below B1; clear F1)
            | (clear t2; refine wpList_loadS rfl 28 _ rfl rfl C1 5 _ Tryd.underlying28 rfl infoPg ?_)
            | (go_at_call 88; refine (cV _ P1).mono ?_; rintro en W2 ⟨rfl, B2x⟩; have B2 := Below.then B1 B2x; have C2 := C1.grown B2x; have S2 := HSL.out.below B2; obtain ⟨k0, k1, k2, k3, k4⟩ := pg_cells C2 (Below.refl _ W2); clear B2x C1 P1 cV)
            | (go_at_call 89; refine (cR _ S2).mono ?_; rintro en W3 ⟨rfl, B3x⟩; have B3 := Below.then B2 B3x; clear B3x))
          go_ret
          exact ⟨by rw [HY.out]; rfl, B3⟩
        | true =>
          go_enter Tryd.func45, Tryd.ntmps45
          go_wp2_with (first
            | (clear t1; refine wpList_boxS rfl 28 _ rfl [.slice at' nr ct, .slice ar nr cr, .slice al nl cl, vi, .slice aj nj cj] rfl ?_; intro W1 b1 F1 C1; have B1 : Below w.heap.size w W1 := F1.trans (Below.refl _ w) (Nat.le_refl _); obtain ⟨k0, k1, k2, k3, k4⟩ := pg_cells C1 (Below.refl _ W1); have P1 := hp.below B1; clear F1)
            | (clear t2; refine wpList_loadS rfl 28 _ rfl rfl C1 5 _ Tryd.underlying28 rfl infoPg ?_)
            | (go_at_call 88; refine (cV _ P1).mono ?_; rintro en W2 ⟨rfl, B2x⟩; have B2 := Below.then B1 B2x; have C2 := C1.grown B2x; have S2 := HSL.out.below B2; have P2 := P1.below B2x; obtain ⟨k0, k1, k2, k3, k4⟩ := pg_cells C2 (Below.refl _ W2); clear B2x C1 P1 cV)
            | (go_at_call 89; refine (cR _ S2).mono ?_; rintro en W3 ⟨rfl, B3x⟩; have B3 := Below.then B2 B3x; have C3 := C2.grown B3x; have P3 := P2.below B3x; obtain ⟨k0, k1, k2, k3, k4⟩ := pg_cells C3 (Below.refl _ W3); clear B3x C2 P2 S2 cR))
          go_loop [4] (fun i => ∃ j : Nat, j ≤ nl ∧ i = .int .i64 j ∧ Hid (∀ i s, i < j → p.locs[i]? = some s → nameK s = true)) (fun i => nl - (intOf i).toNat)
          case atStart => exact ⟨0, Nat.zero_le _, rfl, fun i s h => absurd h (by omega)⟩
          case round =>
            obtain ⟨j, hj, rfl, HS'⟩ := hrel
            by_cases hjt : j < nl
            · have hji : (j : Int) < nl := by omega
              obtain ⟨g, hg⟩ : ∃ g, p.locs[j]? = some g := ⟨_, List.getElem?_eq_getElem (by rw [HNL.out]; exact hjt)⟩
              have HG : Hid (p.locs[j]? = some g) := hg
              obtain ⟨b', o', rfl, hb', hc'⟩ := (HSL.out.below B3).str hg
              obtain ⟨y, hy⟩ : ∃ y, nameK g = y := ⟨_, rfl⟩
              have HY : Hid (nameK g = y) := hy
              have cG : ∀ w, Calls Tryd.prog 90 #[.string g] w fun e w' => e = .returned (.bool (nameK g)) ∧ w' = w := fun w => rName_any g (HF.out.ls g (List.mem_of_getElem? hg)) w
              rw [hy] at cG
              clear hg hy
              cases y with
              | false =>
                have HZ : Hid (V = 52) := (by have := HX.out; rw [if_pos (.inr (Bool.eq_false_iff.2 fun h => by have := ((name_parts _).1 h).2 g (List.mem_of_getElem? HG.out); rw [HY.out] at this; cases this))] at this; exact this)
                go_wp2_with (go_at_call 90; refine (cG _).mono ?_; rintro en w' ⟨rfl, hw⟩; replace hw := hw.symm; subst hw)
                go_ret
                exact ⟨by rw [HZ.out]; rfl, B3⟩
              | true =>
                go_wp2_with (go_at_call 90; refine (cG _).mono ?_; rintro en w' ⟨rfl, hw⟩; replace hw := hw.symm; subst hw)
                go_round
                case rel => exact ⟨j + 1, by omega, by go_num, fun i s hi hs => by
                  rcases Nat.lt_or_ge i j with h | h
                  · exact HS'.out i s h hs
                  · have : i = j := by omega
                    subst this
                    rw [HG.out] at hs; cases hs; exact HY.out⟩
                case measure => simp [intOf]; omega
            · have hji : ¬ (j : Int) < nl := by omega
              have HNK : Hid (risB nameK p.locs = true) := (name_parts _).2 ⟨HXX.out, fun s hs => by
                obtain ⟨i, hi⟩ := List.getElem?_of_mem hs
                exact HS'.out i s (by have := (List.getElem?_eq_some_iff.1 hi).1; have := HNL.out; omega) hi⟩
              have HX2 : Hid (V = if 16 < nl then 97 else if opsB p = false then 93 else if 64 < z then 96 else 0) := (by have := HX.out; rw [if_neg (by rintro (h | h); exact HJL.out h; rw [HNK.out] at h; cases h)] at this; exact this)
              by_cases h16 : 16 < nl
              · have h16i : (16 : Int) < nl := by omega
                have HZ : Hid (V = 97) := (by have := HX2.out; rw [if_pos h16] at this; exact this)
                go_wp2_with fail
                go_ret
                exact ⟨by rw [HZ.out]; rfl, B3⟩
              · have h16i : ¬ (16 : Int) < nl := by omega
                have HX3 : Hid (V = if opsB p = false then 93 else if 64 < z then 96 else 0) := (by have := HX2.out; rw [if_neg h16] at this; exact this)
                go_wp2_with fail
                go_loopw [5] (fun i wr => ∃ k : Nat, k ≤ nr ∧ i = .int .i64 k ∧ Hid (OpsTo p.threads p.regs nl k) ∧ Hid (Below W3.heap.size W3 wr)) (fun i _ => nr - (intOf i).toNat)
                case atStart => exact ⟨0, Nat.zero_le _, rfl, fun i l r h => absurd h (by omega), Below.refl _ _⟩
                case round =>
                  obtain ⟨k, hk, rfl, HS, HB⟩ := hrel
                  obtain ⟨WR, eWR⟩ : ∃ W, W = wr := ⟨_, rfl⟩
                  subst eWR
                  obtain ⟨q0, q1, q2, q3, q4⟩ := pg_cells C3 HB.out
                  by_cases hlt : k < nr
                  · have hki : (k : Int) < nr := by omega
                    obtain ⟨l, hl⟩ : ∃ l, p.threads[k]? = some l := ⟨_, List.getElem?_eq_getElem (by rw [HNT.out]; exact hlt)⟩
                    obtain ⟨r, hr⟩ : ∃ r, p.regs[k]? = some r := ⟨_, List.getElem?_eq_getElem (by rw [HNR.out]; exact hlt)⟩
                    obtain ⟨qi, hqi⟩ : ∃ q, p.regInit[k]? = some q := ⟨_, List.getElem?_eq_getElem (by rw [HLN.out.2]; exact hlt)⟩
                    have hris : RisTo regB r r.length := (HRT.out k r qi (List.getElem?_eq_some_iff.1 hr).1 hr hqi).2
                    obtain ⟨b, o, a', c', rfl, hb, hc, hseg, _⟩ := (HT.out.below B3).at k l hl
                    obtain ⟨br, or', ar', cr', rfl, hbr, hcr, hsegr, _⟩ := (HR.out.below B3).at k r hr
                    have HRIS : Hid (RisTo regB r r.length) := hris
                    have HG : Hid (Seg W3 a' (l.flatMap op5L)) := hseg
                    have HGR : Hid (Seg W3 ar' (r.flatMap strE)) := hsegr
                    have HL : Hid (p.threads[k]? = some l) := hl
                    have HRk : Hid (p.regs[k]? = some r) := hr
                    have hll : l.length ≤ 1048576 := Nat.le_trans (by have := flat_at hl (Nat.le_refl _); rw [List.take_length, List.length_append] at this; omega) HF.out.tt
                    have HRL : Hid (r.length ≤ 1048576) := Nat.le_trans (by have := flat_at hr (Nat.le_refl _); rw [List.take_length, List.length_append] at this; omega) HF.out.rr
                    obtain ⟨nn, hnn⟩ : ∃ n, l.length = n := ⟨_, rfl⟩
                    have HNN : Hid (l.length = nn) := hnn
                    rw [hnn] at hc hll
                    clear hl hseg hnn hsegr hr hqi hris
                    go_wp2_with fail
                    go_loopw [6] (fun i wr' => ∃ j : Nat, j ≤ nn ∧ i = .int .i64 j ∧ Hid (∀ i o, i < j → l[i]? = some o → opOk o r nl = true) ∧ Hid (Below W3.heap.size W3 wr')) (fun i _ => nn - (intOf i).toNat)
                    case atStart => exact ⟨0, Nat.zero_le _, rfl, fun i o h => absurd h (by omega), HB⟩
                    case round =>
                      obtain ⟨j, hj, rfl, HS', HB'⟩ := hrel
                      obtain ⟨q0, q1, q2, q3, q4⟩ := pg_cells C3 HB'.out
                      have hcw : wr.cell? ⟨b, o + k, none⟩ = some (.slice a' nn c') := by rw [HB'.out.cell (p := ⟨b, o + k, none⟩) hb]; exact hc
                      by_cases hjt : j < nn
                      · have hji : (j : Int) < nn := by omega
                        obtain ⟨g, hg⟩ : ∃ g, l[j]? = some g := ⟨_, List.getElem?_eq_getElem (by rw [HNN.out]; exact hjt)⟩
                        have HGJ : Hid (l[j]? = some g) := hg
                        obtain ⟨b', o', rfl, hb', hr'⟩ := (HG.out.below HB'.out).op hg
                        clear hg
                        have hcrw : wr.cell? ⟨br, or' + k, none⟩ = some (.slice ar' r.length cr') := by rw [HB'.out.cell (p := ⟨br, or' + k, none⟩) hbr]; exact hcr
                        have KK := C3.grown HB'.out
                        obtain ⟨q, hq⟩ : ∃ q, opOk g r nl = q := ⟨_, rfl⟩
                        have HQ : Hid (opOk g r nl = q) := hq
                        have cV := fun W (hW : Below wr.heap.size wr W) => right_anyP g r HRL.out ar' cr' nl W (HGR.out.below (Below.then HB'.out hW))
                        rw [right_eq HRIS.out, hq] at cV
                        clear hq
                        go_wp2_with fail
                        refine grow_allW (by kernel_rfl) (by kernel_rfl) ?_
                        refine WG.put rfl (v := .pointer (some ⟨b1, 0, none⟩)) (fun w => by first | rfl | (go_simp; done) | (simp [go_sem]; done) | (simp [execOp, go_sem]; done)) ?_
                        simp only [Act.put, List.setIfInBounds_toArray, List.set_cons_succ, List.set_cons_zero]
                        refine WG.load1 rfl 22 _ rfl rfl KK (v := .slice (some ⟨b, o, none⟩) nr ct) rfl (fun w h => ld41 w h) ?_
                        simp only [Act.put, List.setIfInBounds_toArray, List.set_cons_succ, List.set_cons_zero]
                        refine WG.put rfl (v := .int .i64 (k : Int)) (fun w => by first | rfl | (go_simp; done) | (simp [go_sem]; done) | (simp [execOp, go_sem]; done)) ?_
                        simp only [Act.put, List.setIfInBounds_toArray, List.set_cons_succ, List.set_cons_zero]
                        refine WG.put rfl (v := .pointer (some ⟨b, o + k, none⟩)) (fun w => by first | rfl | (go_simp; done) | (simp [go_sem]; done) | (simp [execOp, go_sem]; done)) ?_
                        simp only [Act.put, List.setIfInBounds_toArray, List.set_cons_succ, List.set_cons_zero]
                        refine WG.cell rfl 73 _ rfl rfl hcw (fun w h => ld54 w h) ?_
                        simp only [Act.put, List.setIfInBounds_toArray, List.set_cons_succ, List.set_cons_zero]
                        refine WG.put rfl (v := .int .i64 (j : Int)) (fun w => by first | rfl | (go_simp; done) | (simp [go_sem]; done) | (simp [execOp, go_sem]; done)) ?_
                        simp only [Act.put, List.setIfInBounds_toArray, List.set_cons_succ, List.set_cons_zero]
                        refine WG.put rfl (v := .pointer (some ⟨b', o' + j * 5, none⟩)) (fun w => by first | rfl | (go_simp; done) | (simp [go_sem]; done) | (simp [execOp, go_sem]; done)) ?_
                        simp only [Act.put, List.setIfInBounds_toArray, List.set_cons_succ, List.set_cons_zero]
                        refine WG.range rfl 75 _ rfl rfl (op5L g) hb' hr' _ Tryd.underlying75 rfl infoOp ?_
                        simp only [Act.put, List.setIfInBounds_toArray, List.set_cons_succ, List.set_cons_zero]
                        refine WG.put rfl (v := .pointer (some ⟨b1, 1, none⟩)) (fun w => by first | rfl | (go_simp; done) | (simp [go_sem]; done) | (simp [execOp, go_sem]; done)) ?_
                        simp only [Act.put, List.setIfInBounds_toArray, List.set_cons_succ, List.set_cons_zero]
                        refine WG.load1 rfl 23 _ rfl rfl KK (v := .slice (some ⟨br, or', none⟩) nr cr) rfl (fun w h => ld42 w h) ?_
                        simp only [Act.put, List.setIfInBounds_toArray, List.set_cons_succ, List.set_cons_zero]
                        refine WG.put rfl (v := .int .i64 (k : Int)) (fun w => by first | rfl | (go_simp; done) | (simp [go_sem]; done) | (simp [execOp, go_sem]; done)) ?_
                        simp only [Act.put, List.setIfInBounds_toArray, List.set_cons_succ, List.set_cons_zero]
                        refine WG.put rfl (v := .pointer (some ⟨br, or' + k, none⟩)) (fun w => by first | rfl | (go_simp; done) | (simp [go_sem]; done) | (simp [execOp, go_sem]; done)) ?_
                        simp only [Act.put, List.setIfInBounds_toArray, List.set_cons_succ, List.set_cons_zero]
                        refine WG.cell rfl 24 _ rfl rfl hcrw (fun w h => ld43 w h) ?_
                        simp only [Act.put, List.setIfInBounds_toArray, List.set_cons_succ, List.set_cons_zero]
                        refine WG.put rfl (v := .pointer (some ⟨b1, 2, none⟩)) (fun w => by first | rfl | (go_simp; done) | (simp [go_sem]; done) | (simp [execOp, go_sem]; done)) ?_
                        simp only [Act.put, List.setIfInBounds_toArray, List.set_cons_succ, List.set_cons_zero]
                        refine WG.load1 rfl 24 _ rfl rfl KK (v := .slice al nl cl) rfl (fun w h => ld43 w h) ?_
                        simp only [Act.put, List.setIfInBounds_toArray, List.set_cons_succ, List.set_cons_zero]
                        refine WG.put rfl (v := .int .i64 (nl : Int)) (fun w => by first | rfl | (go_simp; done) | (simp [go_sem]; done) | (simp [execOp, go_sem]; done)) ?_
                        simp only [Act.put, List.setIfInBounds_toArray, List.set_cons_succ, List.set_cons_zero]
                        refine WG.call rfl (f := 91) (args := #[.agg (op5L g).toArray, .slice ar' r.length cr', .int .i64 (nl : Int)]) (v := .bool q) (fun W hW => cV W hW) (fun w => by first | rfl | (go_simp; done)) ?_
                        simp only [Act.put, List.setIfInBounds_toArray, List.set_cons_succ, List.set_cons_zero]
                        refine WG.put rfl (v := .bool (!q)) (fun w => by first | rfl | (go_simp; done) | (simp [go_sem]; done) | (simp [execOp, go_sem]; done)) ?_
                        simp only [Act.put, List.setIfInBounds_toArray, List.set_cons_succ, List.set_cons_zero]
                        refine WG.nil ?_
                        intro W5 B5x
                        have B5 := Below.then HB'.out B5x
                        clear cV hcrw KK B5x
                        cases q with
                        | false =>
                          have HZ : Hid (V = 93) := (by have := HX3.out; rw [if_pos (opsB_f (by rw [HNL.out]; exact ops_not HL.out HRk.out HGJ.out HQ.out))] at this; exact this)
                          go_wp2_with fail
                          go_ret
                          exact ⟨by rw [HZ.out]; rfl, Below.then B3 B5⟩
                        | true =>
                          go_wp2_with fail
                          go_roundw
                          case rel => exact ⟨j + 1, by omega, by go_num, fun i o hi ho => by
                            rcases Nat.lt_or_ge i j with h | h
                            · exact HS'.out i o h ho
                            · have : i = j := by omega
                              subst this
                              rw [HGJ.out] at ho; cases ho; exact HQ.out, B5⟩
                          case measure => simp [intOf]; omega
                      · have hji : ¬ (j : Int) < nn := by omega
                        have HXN : Hid (OpsTo p.threads p.regs nl (k + 1)) := ops_next HS.out HL.out HRk.out (fun i o hi ho => HS'.out i o (by have := HNN.out; omega) ho)
                        go_wp2_with fail
                        go_roundw
                        case rel => exact ⟨k + 1, by omega, by go_num, HXN, HB'⟩
                        case measure => simp [intOf]; omega
                  · have hki : ¬ (k : Int) < nr := by omega
                    have HOB : Hid (opsB p = true) := opsB_t (by rw [HNT.out, HNL.out]; have := HS.out; rw [show k = nr by omega] at this; exact this)
                    have HX4 : Hid (V = if 64 < z then 96 else 0) := (by have := HX3.out; rw [if_neg (by rw [HOB.out]; simp)] at this; exact this)
                    have C4 := C3.grown HB.out
                    have P4 := P3.below HB.out
                    have cE' := cE _ P4
                    by_cases h64 : 64 < z
                    · have HZ : Hid (V = 96) := (by have := HX4.out; rw [if_pos h64] at this; exact this)
                      go_wp2_with (first
                        | (clear t3; refine wpList_loadS rfl 28 _ rfl rfl C4 5 _ Tryd.underlying28 rfl infoPg ?_)
                        | (go_at_call 92; refine cE'.mono ?_; rintro en W6 ⟨rfl, B6x⟩; have B6 := Below.then (Below.then B3 HB.out) B6x; clear B6x))
                      go_ret
                      exact ⟨by rw [HZ.out]; rfl, B6⟩
                    · have HZ : Hid (V = 0) := (by have := HX4.out; rw [if_neg h64] at this; exact this)
                      go_wp2_with (first
                        | (clear t3; refine wpList_loadS rfl 28 _ rfl rfl C4 5 _ Tryd.underlying28 rfl infoPg ?_)
                        | (go_at_call 92; refine cE'.mono ?_; rintro en W6 ⟨rfl, B6x⟩; have B6 := Below.then (Below.then B3 HB.out) B6x; clear B6x))
                      go_ret
                      exact ⟨by rw [HZ.out]; rfl, B6⟩

    · have hE' : (e != 0) = true := by simpa using hE
      have HX : Hid (V = e) := (by have := HV.out; rw [if_neg hA, if_pos hE] at this; exact this)
      clear cE cR hA hE
      go_enter Tryd.func45, Tryd.ntmps45
      go_wp2_with (first
        | (clear t1; refine wpList_boxS rfl 28 _ rfl [.slice at' nt ct, .slice ar nr cr, .slice al nl cl, vi, .slice aj nj cj] rfl ?_; intro W1 b1 F1 C1; have B1 : Below w.heap.size w W1 := F1.trans (Below.refl _ w) (Nat.le_refl _); obtain ⟨k0, k1, k2, k3, k4⟩ := pg_cells C1 (Below.refl _ W1); have P1 := hp.below B1; clear F1)
        | (clear t2; refine wpList_loadS rfl 28 _ rfl rfl C1 5 _ Tryd.underlying28 rfl infoPg ?_)
        | (go_at_call 88; refine (cV _ P1).mono ?_; rintro en W2 ⟨rfl, B2x⟩; have B2 := Below.then B1 B2x; clear B2x))
      go_ret
      exact ⟨by rw [HX.out]; rfl, B2⟩
end Go.Proofs.YtdneaaegllpnlaaDoor

/- The law CondAsks. -/
import Derived.Test.YtcmkoffamolgmaaB9
import Derived.Test.YtcmkoffamolgmaaA5
import Derived.Deep.AppendLies
namespace Go.Proofs.Ytcmkoffamolgmaa
open Go Go.RowKit M
set_option linter.unusedSimpArgs false
set_option linter.unusedVariables false

theorem eV64 : Elt 2 25 1 (.int .i64 0) 8 := ⟨Try.underlying25, info_parts (by kernel_rfl), rfl, by decide, by decide⟩
theorem infoRefs : (Try.prog.info? 24).map (·.size) = some 1 := by kernel_rfl
theorem mkCap {W w : World} {bw bs bS n : Nat} {L : List NK} {aw ar av : Option Addr} {cw cr cv : Nat} {rs : List RK} {vs : List Int} {d : Int} (hL : L.length = n) (c : W.cell? ⟨bw, 0, none⟩ = some (.slice aw n cw)) (hw : Seg W aw (flatR L)) (s : IsS W bs 4 [.bool false]) (S : IsS W bS 27 (stL ar rs.length cr av vs.length cv d))
    (hR : Seg W ar (rs.flatMap rkL)) (hV : Seg W av (vs.flatMap fun x => [.int .i64 x])) (hR0 : Seg w ar (rs.flatMap rkL)) (hV0 : Seg w av (vs.flatMap fun x => [.int .i64 x])) (h1 : bw ≠ bs) (h2 : bS ≠ bs) (h3 : w.heap.size ≤ bs) (h4 : ∀ b o, aw = some ⟨b, o, none⟩ → b ≠ bs) : CapW W bw bs bS (L.map unN) aw cw rs vs d ar cr av cv :=
  ⟨by rw [List.length_map, hL]; exact c, by rw [← flatR_map]; exact hw, s, S, hR, hV, h1, h2, fun _ => h4, fun hne b o e => by have := seg_lt hR0 hne b o e; omega, fun hne b o e => by have := seg_lt hV0 hne b o e; omega⟩
set_option maxRecDepth 100000 in
set_option maxHeartbeats 16000000 in
theorem condAsks_any (ad : Option Addr) (cap : Nat) (ns : List Nd) (hs : ∀ n ∈ ns, n.nm.size ≤ maxLen) (hn : ns.length ≤ 1048576) (rs : List RK) (vs : List Int) (d : Int) (cr cv : Nat) (ar av : Option Addr) (hnr : rs.length ≤ 1048576) (hnv : vs.length ≤ 1048576) (w : World) (hT : Nds w ad ns) (hRs : Seg w ar (rs.flatMap rkL)) (hVs : Seg w av (vs.flatMap fun x => [.int .i64 x])) :
    Calls Try.prog 3 #[.slice ad ns.length cap, .agg (stL ar rs.length cr av vs.length cv d).toArray] w fun e w' => e = .returned (.bool true) ∧ Below w.heap.size w w' := by
  obtain ⟨n, hnL⟩ : ∃ n, (refsF ns).length = n := ⟨_, rfl⟩
  have hn1 : n ≤ 1024 := by rw [← hnL]; exact refsF_len ns
  have hLe := fun W h => lent_any ad cap ns (by omega) W h
  have hP := fun W (g c' : Nat) h => refs_any (some ⟨g, 0, none⟩) c' ns hs (by omega) W h
  have hR := fun W h => rrefs_any ad cap ns hs (by omega) W h
  have hSm := fun W a1 a2 c1 c2 h1 h2 => sameRefs_any (refsF ns) n c1 c2 a1 a2 hnL hn1 W h1 h2
  have hBk := fun W (g : Nat) h1 h2 => back_any g ad cap ns (by omega) W h1 h2
  have num := fun z W => num_any z W
  unfold OwnK at hP hR
  simp only [hnL] at hP hR
  have hwl : ((refsF ns).map unN).length = n := by rw [List.length_map]; exact hnL
  have hHo := fun W (bw bs bS g : Nat) (aw : Option Addr) (cw : Nat) h1 h2 h3 => holds_any (cap_val (bw := bw) (bs := bs) (bS := bS) (want := (refsF ns).map unN) (aw := aw) (cw := cw) (rs := rs) (vs := vs) (d := d) (ar := ar) (cr := cr) (av := av) (cv := cv) (by omega) hnr hnv) (some ⟨g, 0, none⟩) (ns.length + 1) ns hs (by omega) W h1 h2 h3 (fun hz t ht th nm v h => refs_ask hz t ht th nm v h)
  have hRH := fun W (cw c15 : Nat) (aw a15 : Option Addr) h1 h2 h3 => rholds_any ad cap ns hs (by omega) ((refsF ns).map unN) (((refsF ns).map unN).map (lkF rs vs d)) n cw n c15 aw a15 hwl (by rw [List.length_map]; exact hwl) (by omega) (by omega) W h1 h2 h3
  have hof := fun W (r : RK) h1 h2 => of_any rs vs d r rs.length cr vs.length cv ar av rfl rfl hnr hnv W h1 h2
  rw [hd_congr (v2 := lkF rs vs d) (fun r hr => lk_map (lkF rs vs d) 0 _ r hr)] at hRH
  have HT : Hid (Nds w ad ns) := hT
  have HRs : Hid (Seg w ar (rs.flatMap rkL)) := hRs
  have HVs : Hid (Seg w av (vs.flatMap fun x => [.int .i64 x])) := hVs
  have HN : Hid ((refsF ns).length = n) := hnL
  have hzz : (checkF nmB ns != checkF nmB ns) = false := by simp
  have hze : (checkF nmB ns == checkF nmB ns) = true := by simp
  have hgg : (hdB (lkF rs vs d) ns == hdB (lkF rs vs d) ns) = true := by simp
  clear hT hRs hVs hnL hwl hs hnr hnv
  obtain ⟨z, ez⟩ : ∃ z, checkF nmB ns = z := ⟨_, rfl⟩
  rw [ez] at hzz hze
  simp only [ez] at hP hR hHo hRH
  obtain ⟨got, eg⟩ : ∃ got, hdB (lkF rs vs d) ns = got := ⟨_, rfl⟩
  rw [eg] at hgg
  simp only [eg] at hHo hRH
  clear ez eg
  obtain ⟨st, est⟩ : ∃ st, stL ar rs.length cr av vs.length cv d = st := ⟨_, rfl⟩
  have HST : Hid (stL ar rs.length cr av vs.length cv d = st) := est
  rw [est] at hof ⊢
  clear est
  generalize refsF ns = L at *
  obtain ⟨f, hf⟩ : ∃ f, lkF rs vs d = f := ⟨_, rfl⟩
  simp only [hf] at hof hRH
  clear hf
  have t1 : True := trivial
  have t2 : True := trivial
  have t3 : True := trivial
  have t4 : True := trivial
  have t5 : True := trivial
  have t6 : True := trivial
  have t7 : True := trivial
  have t8 : True := trivial
  have t9 : True := trivial
  have t10 : True := trivial
  have t11 : True := trivial
  have t12 : True := trivial
  have t13 : True := trivial
  have t14 : True := trivial
  have t15 : True := trivial
  have t16 : True := trivial
  have t17 : True := trivial
  have t18 : True := trivial
  have t19 : True := trivial
  have t20 : True := trivial
  have t21 : True := trivial
  go_enter Try.func3, Try.ntmps3
  go_wp2_with (first
    | (clear t1; refine wpList_boxS rfl 27 _ rfl st rfl ?_; intro W0 bS F0 S0; have B0 := F_b F0; have hbS : Hid (bS = w.heap.size) := F0.at'; clear F0)
    | (clear t2; go_at_call 4; refine (hLe _ (HT.out.below B0)).mono ?_; rintro e W1 ⟨⟨g, rfl, hg1, G1⟩, B1⟩; have S1 := S0.grown B1; have hSlt := S0.lt; have hG1 := G1.lt; have B01 := Below.then B0 B1; clear hLe S0 B1)
    | (clear t3; go_at_call 5; refine (hP _ g _ (nds_of_isS (more := ndL n77) (by rw [← cellsL_snoc]; exact G1))).mono ?_; rintro e W2 ⟨va, rfl, OA2, B2⟩; obtain ⟨aa, ca, rfl⟩ := own_form OA2; have G2 := G1.grown B2; have S2 := S1.grown B2; have B02 := Below.then B01 B2; have hz12 := B2.size; have hA : Hid (∀ k, (Value.slice aa n ca).ownBlock = some k → W1.heap.size ≤ k ∧ k < W2.heap.size) := (fun k h => OA2.lt k h); clear B2 S1 G1)
    | (clear t4; go_at_call 5; refine (hP _ g _ (nds_of_isS (more := ndL n77) (by rw [← cellsL_snoc]; exact G2))).mono ?_; rintro e W3 ⟨vb, rfl, OB3, B3⟩; obtain ⟨ab, cb, rfl⟩ := own_form OB3; have G3 := G2.grown B3; have S3 := S2.grown B3; have OA3 := own_below OA2 B3; have B03 := Below.then B02 B3; have hz23 := B3.size; have hBb : Hid (∀ k, (Value.slice ab n cb).ownBlock = some k → W2.heap.size ≤ k ∧ k < W3.heap.size) := (fun k h => OB3.lt k h); clear B3 S2 G2 OA2 hP)
    | (clear t5; go_at_call 6; refine (hR _ (HT.out.below B03)).mono ?_; rintro e W4 ⟨vw, rfl, OW4, B4⟩; obtain ⟨aw, cw, rfl⟩ := own_form OW4; have G4 := G3.grown B4; have S4 := S3.grown B4; have OA4 := own_below OA3 B4; have OB4 := own_below OB3 B4; have B04 := Below.then B03 B4; have hz34 := B4.size; have hWw : Hid (∀ b o, aw = some ⟨b, o, none⟩ → W3.heap.size ≤ b ∧ b < W4.heap.size) := (fun b o h => OW4.lt b (by rw [h]; rfl)); clear B4 S3 G3 OA3 OB3 hR)
    | (clear t6; refine wpList_alloc1 rfl 24 rfl (.slice none 0 0) rfl Try.zeroValue24 ?_; intro W5 bw F5 I5; have B5 := F_b F5; have hbw : Hid (bw = W4.heap.size) := F5.at'; clear F5)
    | (clear t7; refine wpList_store1 rfl 24 _ _ rfl rfl (.slice aw n cw) rfl I5 (by simp) infoRefs rfl ?_; intro W6 U6 I6; have B6 : Below W4.heap.size W4 W6 := U6.trans B5 (by have := hbw.out; omega); have c6 : W6.cell? ⟨bw, 0, none⟩ = some (.slice aw n cw) := I6.cell 0; have G6 := G4.grown B6; have S6 := S4.grown B6; have OA6 := own_below OA4 B6; have OB6 := own_below OB4 B6; have OW6 := own_below OW4 B6; have B06 := Below.then B04 B6; have hl6 := I6.lt; clear B5 B6 U6 I5 G4 S4 OA4 OB4 OW4 I6)
    | (clear t8; go_at_call 7; refine (hSm _ aa aw ca cw (own_seg OA6) (own_seg OW6)).mono ?_; rintro e W7 ⟨rfl, B7⟩; have c7 := cell_grow c6 B7; have G7 := G6.grown B7; have S7 := S6.grown B7; have OA7 := own_below OA6 B7; have OB7 := own_below OB6 B7; have OW7 := own_below OW6 B7; have B07 := Below.then B06 B7; have hl7 := B7.size; clear B7 c6 G6 S6 OA6 OB6 OW6)
    | (clear t9; go_at_call 7; refine (hSm _ ab aw cb cw (own_seg OB7) (own_seg OW7)).mono ?_; rintro e W8 ⟨rfl, B8⟩; have c8 := cell_grow c7 B8; have G8 := G7.grown B8; have S8 := S7.grown B8; have OA8 := own_below OA7 B8; have OB8 := own_below OB7 B8; have OW8 := own_below OW7 B8; have B08 := Below.then B07 B8; have hl8 := B8.size; clear B8 c7 G7 S7 OA7 OB7 OW7)
    | (clear t10; go_at_call 8; refine (num _ _).mono ?_; rintro e' w' ⟨rfl, hw'⟩; replace hw' := hw'.symm; subst hw')
    | (clear t11; refine wpList_alloc1 rfl 4 rfl (.bool false) rfl Try.zeroValue4 ?_; intro W9 bs F9 I9; have B9 := F_b F9; have hbs : Hid (bs = W8.heap.size) := F9.at'; clear F9)
    | (clear t12; refine wpList_store1 rfl 4 _ _ rfl rfl (.bool false) rfl I9 (by simp) info4' rfl ?_; intro W10 U10 I10; have BX : Below W8.heap.size W8 W10 := U10.trans B9 (by have := hbs.out; omega); have I10s : IsS W10 bs 4 [.bool false] := I10; have c10 := cell_grow c8 BX; have G10 := G8.grown BX; have S10 := S8.grown BX; have OA10 := own_below OA8 BX; have OB10 := own_below OB8 BX; have OW10 := own_below OW8 BX; have B010 := Below.then B08 BX; obtain ⟨hApA, hApS⟩ := parts (va := .slice aa n ca) (vb := .slice ab n cb) (aw := aw) (bs := bs) hbS.out (by omega) hG1 hz12 hz23 hz34 hA.out hBb.out hWw.out (Nat.le_of_eq hbw.out.symm) (by have := hbs.out; omega); have HC10 := mkCap (HN.out) c10 (own_seg OW10) I10s (by rw [← HST.out] at S10; exact S10) (HRs.out.below B010) (HVs.out.below B010) HRs.out HVs.out (by have := hbs.out; omega) (by have := hbs.out; have := hbS.out; have := hbw.out; omega) (by have := B08.size; have := hbs.out; omega) (fun b o e => (hApS.a b o e)); clear BX U10 I9 I10 G8 S8 OA8 OB8 OW8 B9)
    | (clear t13; go_at_call 9; refine (hHo _ bw bs bS g aw cw (nds_of_isS (more := ndL n77) (by rw [← cellsL_snoc]; exact G10)) HC10 (fun b o e => by cases e; exact fun e2 => (hApS.g e2.symm))).mono ?_; rintro e W11 ⟨rfl, HC11, O11⟩; have HAW : Hid (AskW w W11 ns g bS bw bs (.slice ab n cb) aw cw n L st) := (AskW.by (W := W10) ⟨B010, G10, own_raise OB10 (by have := B02.size; omega), c10, own_seg OW10, S10, I10s⟩ (grown_of_one O11) (fun k e => by cases e; exact hApS) HC11.s); have HOA : Hid (W11.ownsRow w.heap.size 39 2 (.slice aa n ca) n (flatR L)) := own_raise (own_by OA10 (grown_of_one O11) (fun k e e2 => by cases e; exact (hApA _ e2).2 rfl)) (by have := B01.size; omega); clear hHo HC10 HC11 O11 c10 G10 S10 I10s OA10 OB10 OW10))
  have HApA : Hid (∀ k, (Value.slice aa n ca).ownBlock = some k → Apart w g bS bw (.slice ab n cb) aw k ∧ k ≠ bs) := hApA
  clear hApA hApS hA hBb hWw
  have hzs : w.heap.size ≤ W11.heap.size := HAW.out.B.size
  go_loopw [15, 16] (fun v i wr => ∃ k : Nat, k ≤ n ∧ i = .int .i64 (k : Int) ∧ Hid (wr.ownsRow W11.heap.size 2 1 v k ((((L.map unN).take k).map f).flatMap intE)) ∧ Hid (Below W11.heap.size W11 wr)) (fun _ i _ => n - (intOf i).toNat)
  case atStart => exact ⟨0, Nat.zero_le _, rfl, own_nil _ _ _ _, Below.refl _ _⟩
  case round =>
    obtain ⟨k, hk, rfl, HO, HB⟩ := hrel
    have HA1 : Hid (AskW w wr ns g bS bw bs (.slice ab n cb) aw cw n L st) := HAW.out.grown HB.out
    have c20 : wr.cell? ⟨bw, 0, none⟩ = some (.slice aw n cw) := HA1.out.w
    obtain ⟨a15, c15, hv15⟩ := own_form HO.out
    subst hv15
    by_cases hlt : k < n
    · have hki : (k : Int) < n := by omega
      obtain ⟨r, hr⟩ : ∃ r, L[k]? = some r := ⟨_, List.getElem?_eq_getElem (by rw [HN.out]; exact hlt)⟩
      have HTK : Hid (((L.map unN).take (k + 1)).map f = ((L.map unN).take k).map f ++ [f (unN r)]) := by
        have : (L.map unN)[k]? = some (unN r) := by rw [List.getElem?_map, hr]; rfl
        show _ = _
        rw [take_at this, List.map_append]; rfl
      obtain ⟨b1, o1, ea, hb1, HX⟩ := seg_nk HAW.out.ws hr
      rw [ea] at c20
      have c11 : W11.cell? ⟨bw, 0, none⟩ = some (.slice (some ⟨b1, o1, none⟩) n cw) := by rw [← ea]; exact HAW.out.w
      have HBS := HAW.out.S
      generalize ((L.map unN).take k).map f = l at *
      obtain ⟨x, hx⟩ : ∃ x, f (unN r) = x := ⟨_, rfl⟩
      rw [hx] at HTK
      have hofx := fun W h1 h2 => hof W (unN r) h1 h2
      rw [hx] at hofx
      clear hr hx
      go_wp2
      refine region_invA 9 (fun a0 listed a' w' => ∃ x66 x67 x68 x69 x70 x71 x72 x73 x74 : Value, a' = (((((((((a0.put (some 66) x66).put (some 67) x67).put (some 68) x68).put (some 69) x69).put (some 70) x70).put (some 71) x71).put (some 72) x72).put (some 73) x73).put (some 74) x74) ∧ Hid (Below W11.heap.size W11 w') ∧ (listed.getD 8 false = false → w'.ownsRow W11.heap.size 2 1 (.slice a15 k c15) k (l.flatMap intE)) ∧ (listed.getD 8 false = true → listed.getD 0 false = true) ∧ (listed.getD 8 false = true → listed.getD 7 false = true) ∧ (listed.getD 0 false = true → x66 = (.slice a15 k c15)) ∧ (listed.getD 1 false = true → x67 = .agg st.toArray) ∧ (listed.getD 2 false = true → x68 = .slice (some ⟨b1, o1, none⟩) n cw) ∧ (listed.getD 3 false = true → x69 = (.int .i64 (k : Int))) ∧ (listed.getD 4 false = true → x70 = (.pointer (some ⟨b1, o1 + k * 2, none⟩))) ∧ (listed.getD 5 false = true → x71 = .agg (rkL (unN r)).toArray) ∧ (listed.getD 6 false = true → x72 = .int .i64 x) ∧ (listed.getD 7 false = true → listed.getD 8 false = false → ∃ b, x73 = .slice (some ⟨b, 0, none⟩) 1 1 ∧ IsS w' b 2 [.int .i64 x]) ∧ (listed.getD 8 false = true → w'.ownsRow W11.heap.size 2 1 x74 (k + 1) (l.flatMap intE ++ [.int .i64 x]))) (by kernel_rfl) (by kernel_rfl) ?i0 ?istep ?iend
      case i0 => exact ⟨_, _, _, _, _, _, _, _, _, by first | (simp only [Act.put, List.setIfInBounds_toArray, List.set_cons_succ, List.set_cons_zero]; done) | (simp only [Act.put, List.setIfInBounds_toArray, List.set_cons_succ, List.set_cons_zero]; rfl) | rfl, below_drew HB.out, fun _ => own_below HO.out (below_drew (Below.refl _ _)), fun h => (not_rep h).elim, fun h => (not_rep h).elim, fun h => (not_rep h).elim, fun h => (not_rep h).elim, fun h => (not_rep h).elim, fun h => (not_rep h).elim, fun h => (not_rep h).elim, fun h => (not_rep h).elim, fun h => (not_rep h).elim, fun h => (not_rep h).elim, fun h => (not_rep h).elim⟩
      case istep =>
        rintro i listed a' w' hi hr ⟨x66, x67, x68, x69, x70, x71, x72, x73, x74, rfl, HBw, p0, m8_0, m8_7, d0, d1, d2, d3, d4, d5, d6, d7, d8⟩
        obtain ⟨hun, oj, hoj, hwt⟩ := mem_ready.1 hr
        simp only [Act.put, List.setIfInBounds_toArray, List.set_cons_succ, List.set_cons_zero]
        have hcase : i = 0 ∨ i = 1 ∨ i = 2 ∨ i = 3 ∨ i = 4 ∨ i = 5 ∨ i = 6 ∨ i = 7 ∨ i = 8 := by omega
        rcases hcase with rfl | rfl | rfl | rfl | rfl | rfl | rfl | rfl | rfl
        · have hoj2 := hoj
          obtain rfl := Option.some.inj hoj
          have q0 := p0 (by cases hq : listed.getD 8 false with | false => rfl | true => exact absurd (m8_0 hq) (by rw [getD_both hun]; simp))
          refine wpOp_value hoj2 rfl (v := (.slice a15 k c15)) (w' := w') (by first | rfl | (go_simp; done) | (simp [go_sem]; done) | (simp [execOp, go_sem]; done)) ?_
          exact ⟨(.slice a15 k c15), x67, x68, x69, x70, x71, x72, x73, x74, by first | (simp only [Act.put, List.setIfInBounds_toArray, List.set_cons_succ, List.set_cons_zero]; done) | (simp only [Act.put, List.setIfInBounds_toArray, List.set_cons_succ, List.set_cons_zero]; rfl) | rfl, HBw, fun h => (p0 (keepG (by decide) h)), fun h => keepT (m8_0 (keep (by decide) h)), fun h => keepT (m8_7 (keep (by decide) h)), fun _ => rfl, fun h => (d1 (keep (by decide) h)), fun h => (d2 (keep (by decide) h)), fun h => (d3 (keep (by decide) h)), fun h => (d4 (keep (by decide) h)), fun h => (d5 (keep (by decide) h)), fun h => (d6 (keep (by decide) h)), fun h h2 => (d7 (keep (by decide) h) (keepG (by decide) h2)), fun h => absurd (m8_0 (keep (by decide) h)) (by rw [getD_both hun]; simp)⟩
        · have hoj2 := hoj
          obtain rfl := Option.some.inj hoj
          refine wpOp_value hoj2 rfl (v := .agg st.toArray) (w' := w') (exec_loadR rfl rfl (fun j u hu => by rw [Nat.zero_add]; exact ((HBS.grown HBw.out).cell j).trans hu) Try.underlying27 rfl (by rw [← HST.out]; exact info27)) ?_
          exact ⟨x66, (.agg st.toArray), x68, x69, x70, x71, x72, x73, x74, by first | (simp only [Act.put, List.setIfInBounds_toArray, List.set_cons_succ, List.set_cons_zero]; done) | (simp only [Act.put, List.setIfInBounds_toArray, List.set_cons_succ, List.set_cons_zero]; rfl) | rfl, HBw, fun h => (p0 (keepG (by decide) h)), fun h => keepT (m8_0 (keep (by decide) h)), fun h => keepT (m8_7 (keep (by decide) h)), fun h => (d0 (keep (by decide) h)), fun _ => rfl, fun h => (d2 (keep (by decide) h)), fun h => (d3 (keep (by decide) h)), fun h => (d4 (keep (by decide) h)), fun h => (d5 (keep (by decide) h)), fun h => (d6 (keep (by decide) h)), fun h h2 => (d7 (keep (by decide) h) (keepG (by decide) h2)), fun h => (d8 (keep (by decide) h))⟩
        · have hoj2 := hoj
          obtain rfl := Option.some.inj hoj
          refine wpOp_cell hoj2 rfl 24 _ rfl rfl (v := .slice (some ⟨b1, o1, none⟩) n cw) (ld_refs w' (cell_grow c11 HBw.out)) ?_
          exact ⟨x66, x67, (.slice (some ⟨b1, o1, none⟩) n cw), x69, x70, x71, x72, x73, x74, by first | (simp only [Act.put, List.setIfInBounds_toArray, List.set_cons_succ, List.set_cons_zero]; done) | (simp only [Act.put, List.setIfInBounds_toArray, List.set_cons_succ, List.set_cons_zero]; rfl) | rfl, HBw, fun h => (p0 (keepG (by decide) h)), fun h => keepT (m8_0 (keep (by decide) h)), fun h => keepT (m8_7 (keep (by decide) h)), fun h => (d0 (keep (by decide) h)), fun h => (d1 (keep (by decide) h)), fun _ => rfl, fun h => (d3 (keep (by decide) h)), fun h => (d4 (keep (by decide) h)), fun h => (d5 (keep (by decide) h)), fun h => (d6 (keep (by decide) h)), fun h h2 => (d7 (keep (by decide) h) (keepG (by decide) h2)), fun h => (d8 (keep (by decide) h))⟩
        · have hoj2 := hoj
          obtain rfl := Option.some.inj hoj
          refine wpOp_value hoj2 rfl (v := (.int .i64 (k : Int))) (w' := w') (by first | rfl | (go_simp; done) | (simp [go_sem]; done) | (simp [execOp, go_sem]; done)) ?_
          exact ⟨x66, x67, x68, (.int .i64 (k : Int)), x70, x71, x72, x73, x74, by first | (simp only [Act.put, List.setIfInBounds_toArray, List.set_cons_succ, List.set_cons_zero]; done) | (simp only [Act.put, List.setIfInBounds_toArray, List.set_cons_succ, List.set_cons_zero]; rfl) | rfl, HBw, fun h => (p0 (keepG (by decide) h)), fun h => keepT (m8_0 (keep (by decide) h)), fun h => keepT (m8_7 (keep (by decide) h)), fun h => (d0 (keep (by decide) h)), fun h => (d1 (keep (by decide) h)), fun h => (d2 (keep (by decide) h)), fun _ => rfl, fun h => (d4 (keep (by decide) h)), fun h => (d5 (keep (by decide) h)), fun h => (d6 (keep (by decide) h)), fun h h2 => (d7 (keep (by decide) h) (keepG (by decide) h2)), fun h => (d8 (keep (by decide) h))⟩
        · have hoj2 := hoj
          obtain rfl := Option.some.inj hoj
          have e2 := d2 (hwt ⟨2, .data⟩ (by simp) rfl)
          have e3 := d3 (hwt ⟨3, .data⟩ (by simp) rfl)
          subst e2 e3
          refine wpOp_value hoj2 rfl (v := (.pointer (some ⟨b1, o1 + k * 2, none⟩))) (w' := w') (by first | (go_simp; done) | (simp [execOp, go_sem, hki]; done)) ?_
          exact ⟨x66, x67, _, _, (.pointer (some ⟨b1, o1 + k * 2, none⟩)), x71, x72, x73, x74, by first | (simp only [Act.put, List.setIfInBounds_toArray, List.set_cons_succ, List.set_cons_zero]; done) | (simp only [Act.put, List.setIfInBounds_toArray, List.set_cons_succ, List.set_cons_zero]; rfl) | rfl, HBw, fun h => (p0 (keepG (by decide) h)), fun h => keepT (m8_0 (keep (by decide) h)), fun h => keepT (m8_7 (keep (by decide) h)), fun h => (d0 (keep (by decide) h)), fun h => (d1 (keep (by decide) h)), fun h => (d2 (keep (by decide) h)), fun h => (d3 (keep (by decide) h)), fun _ => rfl, fun h => (d5 (keep (by decide) h)), fun h => (d6 (keep (by decide) h)), fun h h2 => (d7 (keep (by decide) h) (keepG (by decide) h2)), fun h => (d8 (keep (by decide) h))⟩
        · have hoj2 := hoj
          obtain rfl := Option.some.inj hoj
          have e4 := d4 (hwt ⟨4, .data⟩ (by simp) rfl)
          subst e4
          refine wpOp_value hoj2 rfl (v := .agg (rkL (unN r)).toArray) (w' := w') (exec_loadR rfl rfl (fun j u hu => cell_grow (HX j u hu) HBw.out) Try.underlying39 rfl infoRk) ?_
          exact ⟨x66, x67, x68, x69, _, (.agg (rkL (unN r)).toArray), x72, x73, x74, by first | (simp only [Act.put, List.setIfInBounds_toArray, List.set_cons_succ, List.set_cons_zero]; done) | (simp only [Act.put, List.setIfInBounds_toArray, List.set_cons_succ, List.set_cons_zero]; rfl) | rfl, HBw, fun h => (p0 (keepG (by decide) h)), fun h => keepT (m8_0 (keep (by decide) h)), fun h => keepT (m8_7 (keep (by decide) h)), fun h => (d0 (keep (by decide) h)), fun h => (d1 (keep (by decide) h)), fun h => (d2 (keep (by decide) h)), fun h => (d3 (keep (by decide) h)), fun h => (d4 (keep (by decide) h)), fun _ => rfl, fun h => (d6 (keep (by decide) h)), fun h h2 => (d7 (keep (by decide) h) (keepG (by decide) h2)), fun h => (d8 (keep (by decide) h))⟩
        · have hoj2 := hoj
          obtain rfl := Option.some.inj hoj
          have e1 := d1 (hwt ⟨1, .data⟩ (by simp) rfl)
          have e5 := d5 (hwt ⟨5, .data⟩ (by simp) rfl)
          subst e1 e5
          refine wpOp_call hoj2 rfl (f := 11) (args := #[.agg st.toArray, .agg (rkL (unN r)).toArray]) (by first | rfl | (go_simp; done) | (simp [go_sem]; done) | (simp [execOp, go_sem]; done)) ?_
          have BB := Below.then HAW.out.B HBw.out
          refine (hofx w' (HRs.out.below BB) (HVs.out.below BB)).mono ?_
          rintro e' w4 ⟨rfl, B9⟩
          refine ⟨_, rfl, ?_⟩
          exact ⟨x66, _, x68, x69, x70, _, _, x73, x74, by first | (simp only [Act.put, List.setIfInBounds_toArray, List.set_cons_succ, List.set_cons_zero]; done) | (simp only [Act.put, List.setIfInBounds_toArray, List.set_cons_succ, List.set_cons_zero]; rfl) | rfl, hb_then HBw B9, fun h => (own_below (p0 (keepG (by decide) h)) B9), fun h => keepT (m8_0 (keep (by decide) h)), fun h => keepT (m8_7 (keep (by decide) h)), fun h => (d0 (keep (by decide) h)), fun h => (d1 (keep (by decide) h)), fun h => (d2 (keep (by decide) h)), fun h => (d3 (keep (by decide) h)), fun h => (d4 (keep (by decide) h)), fun h => (d5 (keep (by decide) h)), fun _ => rfl, fun h h2 => (Exists.elim (d7 (keep (by decide) h) (keepG (by decide) h2)) fun b h => ⟨b, h.1, h.2.grown B9⟩), fun h => (own_below (d8 (keep (by decide) h)) B9)⟩
        · have hoj2 := hoj
          obtain rfl := Option.some.inj hoj
          have e6 := d6 (hwt ⟨6, .data⟩ (by simp) rfl)
          have q0 := p0 (by cases hq : listed.getD 8 false with | false => rfl | true => exact absurd (m8_7 hq) (by rw [getD_both hun]; simp))
          subst e6
          refine wpOp_value hoj2 rfl (exec_build1 eV64 _ rfl (.int .i64 x) rfl rfl) ?_
          have B9 := F_b (Fresh.alloc w' (.cells #[.int .i64 x] 2))
          exact ⟨x66, x67, x68, x69, x70, x71, _, _, x74, by first | (simp only [Act.put, List.setIfInBounds_toArray, List.set_cons_succ, List.set_cons_zero]; done) | (simp only [Act.put, List.setIfInBounds_toArray, List.set_cons_succ, List.set_cons_zero]; rfl) | rfl, hb_then HBw B9, fun h => (own_below (p0 (keepG (by decide) h)) B9), fun h => keepT (m8_0 (keep (by decide) h)), fun h => keepT (m8_7 (keep (by decide) h)), fun h => (d0 (keep (by decide) h)), fun h => (d1 (keep (by decide) h)), fun h => (d2 (keep (by decide) h)), fun h => (d3 (keep (by decide) h)), fun h => (d4 (keep (by decide) h)), fun h => (d5 (keep (by decide) h)), fun h => (d6 (keep (by decide) h)), fun _ _ => ⟨_, rfl, IsS.new w' _ _⟩, fun h => absurd (m8_7 (keep (by decide) h)) (by rw [getD_both hun]; simp)⟩
        · have hoj2 := hoj
          obtain rfl := Option.some.inj hoj
          have e0 := d0 (hwt ⟨0, .data⟩ (by simp) rfl)
          have e7 := d7 (hwt ⟨7, .data⟩ (by simp) rfl) (getD_both hun)
          have q0 := p0 (getD_both hun)
          subst e0
          obtain ⟨b73, rfl, I73⟩ := e7
          obtain ⟨v9, w9, hr9, O9, G9⟩ := run_appM eV64 W11.heap.size _ k _ q0 _ 1 [.int .i64 x] (row_isS I73) rfl (by simp [Value.oneCell']) (by omega) HBw.out.size _
          refine wpOp_value hoj2 rfl (exec_app _ _ rfl rfl rfl hr9) ?_
          have HBa : Hid (Below W11.heap.size W11 w9) := grown_below HBw.out HBw.out.size q0 G9
          exact ⟨_, x67, x68, x69, x70, x71, x72, _, _, by first | (simp only [Act.put, List.setIfInBounds_toArray, List.set_cons_succ, List.set_cons_zero]; done) | (simp only [Act.put, List.setIfInBounds_toArray, List.set_cons_succ, List.set_cons_zero]; rfl) | rfl, HBa, fun h => absurd h (by rw [nowU hun]; simp), fun _ => keepT (hwt ⟨0, .data⟩ (by simp) rfl), fun _ => keepT (hwt ⟨7, .data⟩ (by simp) rfl), fun h => (d0 (keep (by decide) h)), fun h => (d1 (keep (by decide) h)), fun h => (d2 (keep (by decide) h)), fun h => (d3 (keep (by decide) h)), fun h => (d4 (keep (by decide) h)), fun h => (d5 (keep (by decide) h)), fun h => (d6 (keep (by decide) h)), fun _ h => absurd h (by rw [nowU hun]; simp), fun _ => O9⟩
      case iend =>
        rintro a' w' ⟨x66, x67, x68, x69, x70, x71, x72, x73, x74, rfl, HBw, p0, m8_0, m8_7, d0, d1, d2, d3, d4, d5, d6, d7, d8⟩
        replace d0 := d0 rfl
        replace d1 := d1 rfl
        replace d2 := d2 rfl
        replace d3 := d3 rfl
        replace d4 := d4 rfl
        replace d5 := d5 rfl
        replace d6 := d6 rfl
        replace d8 := d8 rfl
        clear m8_0 m8_7 d7 p0
        simp only [Act.put, List.setIfInBounds_toArray, List.set_cons_succ, List.set_cons_zero]
        simp only [List.drop_succ_cons, List.drop_zero]
        have HOF : Hid (w'.ownsRow W11.heap.size 2 1 x74 (k + 1) ((((L.map unN).take (k + 1)).map f).flatMap intE)) := by
          show World.ownsRow _ _ _ _ _ _ _
          rw [HTK.out, List.flatMap_append]; exact d8
        obtain ⟨x5a, x5c, ev5⟩ := own_form HOF.out
        subst ev5
        clear d0 d1 d2 d3 d4 d5 d6 d8
        go_wp2_with fail
        go_roundw
        case rel => exact ⟨k + 1, by omega, by go_num, HOF.out, HBw.out⟩
        case measure => simp [intOf]; omega
    · have e : k = n := by omega
      subst e
      have hki : ¬ ((k : Int) < k) := by omega
      have HV9 : Hid (wr.ownsRow W11.heap.size 2 1 (.slice a15 k c15) k (((L.map unN).map f).flatMap intE)) := by
        have := HO.out
        rwa [List.take_of_length_le (l := L.map unN) (by rw [List.length_map, HN.out]; exact Nat.le_refl _)] at this
      clear HO hlt
      go_wp2_with (first
        | (clear t14; go_at_call 12; refine (hRH _ cw c15 aw a15 (HT.out.below HA1.out.B) (by rw [← flatR_map]; exact HA1.out.ws) (own_seg HV9.out)).mono ?_; rintro e W12 ⟨rfl, B12⟩))
      have HA2 : Hid (AskW w W12 ns g bS bw bs (.slice ab k cb) aw cw k L st) := HA1.out.grown B12
      have HOA2 : Hid (W12.ownsRow w.heap.size 39 2 (.slice aa k ca) k (flatR L)) := own_below (own_below HOA.out HB.out) B12
      clear HOA HA1 HAW HB B12 HV9 hRH c20
      go_loopw [19] (fun i wr => ∃ (j : Nat) (ys : List Value), j ≤ k ∧ i = .int .i64 (j : Int) ∧ Hid (wr.ownsRow w.heap.size 39 2 (.slice aa k ca) k ys) ∧ Hid (W12.grownBy wr (Value.slice aa k ca).ownBlock)) (fun i _ => k - (intOf i).toNat)
      case atStart => exact ⟨0, _, Nat.zero_le _, rfl, HOA2.out, grown_refl _ _⟩
      case round =>
        obtain ⟨j, ys, hj, rfl, HO, HG⟩ := hrel
        by_cases hlt : j < k
        · obtain ⟨ga, c2, cs, hv, hg, I, hc, hm, hsl⟩ := own_opn2 HO.out (by omega)
          cases hv
          have hkb : j * 2 + 2 ≤ cs.length := by rw [hsl]; have : (j + 1) * 2 ≤ ca * 2 := Nat.mul_le_mul_right _ (by omega); omega
          have hji : (j : Int) < (k : Int) := by omega
          clear HO
          go_wp2_with (first
            | (clear t15; refine wpList_storeS rfl 39 _ _ rfl rfl (rkL (-9, ⟨#[]⟩)) rfl I hkb infoRk (rk_one _) ?_; intro w3 U3 I3))
          have O3 := own_cls2 (n := k) hg I3 hc hm (by rw [putL_len']; exact hsl)
          go_roundw
          case rel => exact ⟨j + 1, _, by omega, by go_num, O3, grown_comp HG.out (grown_of_upd U3) (.inl rfl)⟩
          case measure => simp [intOf]; omega
        · have e : j = k := by omega
          subst e
          have hji : ¬ ((j : Int) < j) := by omega
          obtain ⟨W13, e13⟩ : ∃ W, W = wr := ⟨_, rfl⟩
          subst e13
          go_wp2
          go_loopw [6, 20] (fun u i wr2 => ∃ (q : Nat) (zs : List Value), q ≤ 20 ∧ i = .int .i64 (q : Int) ∧ Hid (wr2.ownsRow w.heap.size 39 2 u (j + q) zs) ∧ Hid (W12.grownBy wr2 (Value.slice aa j ca).ownBlock) ∧ Hid (u.ownBlock = (Value.slice aa j ca).ownBlock ∨ ∃ g, u.ownBlock = some g ∧ W12.heap.size ≤ g)) (fun _ i _ => 20 - (intOf i).toNat)
          case atStart => exact ⟨0, ys, Nat.zero_le _, rfl, HO.out, HG.out, .inl rfl⟩
          case round =>
            obtain ⟨q, zs, hq, rfl, HO2, HG2, HW⟩ := hrel
            obtain ⟨a3, c3, hv3⟩ := own_form HO2.out
            subst hv3
            by_cases hlt2 : q < 20
            · have hz2 := HG2.out.size
              have hz3 := HA2.out.B.size
              obtain ⟨i0, hi0, hz0, hs0, hy0⟩ := eRef.info
              have hqi : (q : Int) < 20 := by omega
              go_wp2_with (first
                | (clear t16; refine wpList_build1K rfl _ rfl (-8, ⟨#[]⟩) rfl ?_; intro w6 b6 F6 I6; have O6 := own_below HO2.out (F_b F6); have hz6 := (F_b F6).size)
                | (at_builtin; refine wpList_append_lies _ rfl _ _ _ rfl w.heap.size 39 i0 (.agg #[.int .i64 0, .string ⟨#[]⟩]) 2 24 eRef.und hi0 hz0 hs0 hy0 rfl (by decide) _ (j + q) _ rfl O6 _ 1 1 (rkL (-8, ⟨#[]⟩)) rfl rfl (fun j u h => by rw [Addr.add_mid, Nat.zero_add]; exact (I6.cell j).trans h) (rk_one _) (by decide) (by unfold maxLen; omega) (by omega) (by omega) _ rfl ?_; intro g7 c7 w7 O7 G7 W7 L7))
              have G8 : W12.grownBy w7 (Value.slice aa j ca).ownBlock := grown_comp (grown_comp HG2.out (grown_of_below (r := (Value.slice aa j ca).ownBlock) (F_b F6)) (.inl rfl)) G7 HW.out
              have W8 : (Value.slice (some ⟨g7, 0, none⟩) (j + q + 1) c7).ownBlock = (Value.slice aa j ca).ownBlock ∨ ∃ g, (Value.slice (some ⟨g7, 0, none⟩) (j + q + 1) c7).ownBlock = some g ∧ W12.heap.size ≤ g := by
                rcases W7 with h | h
                · show some g7 = _ ∨ ∃ g, some g7 = some g ∧ _
                  rw [← h]; exact HW.out
                · exact .inr ⟨g7, rfl, by omega⟩
              go_roundw
              case rel => exact ⟨q + 1, _, by omega, by go_num, O7, G8, W8⟩
              case measure => simp [intOf]; omega
            · have e : q = 20 := by omega
              subst e
              have HA3 : Hid (AskW w wr ns g bS bw bs (.slice ab j cb) aw cw j L st) := HA2.out.by HG2.out (fun k e => (HApA.out k e).1) (isS_by HA2.out.s HG2.out (fun e => (HApA.out bs e).2 rfl))
              have c30 : wr.cell? ⟨bw, 0, none⟩ = some (.slice aw j cw) := HA3.out.w
              have c31 : wr.cell? ⟨bs, 0, none⟩ = some (.bool false) := HA3.out.s.cell 0
              clear HO HO2 HG2 HG HW HA2 HOA2
              go_wp2_with (first
                | (clear t17; go_at_call 8; refine (num _ _).mono ?_; rintro e' w' ⟨rfl, hw'⟩; replace hw' := hw'.symm; subst hw')
                | (clear t18; go_at_call 7; refine (hSm _ ab aw cb cw (own_seg HA3.out.b) HA3.out.ws).mono ?_; rintro e W14 ⟨rfl, B14⟩; have HA4 : Hid (AskW w W14 ns g bS bw bs (.slice ab j cb) aw cw j L st) := HA3.out.grown B14)
                | (clear t19; go_at_call 13; refine (hBk _ g HA4.out.g (HT.out.below HA4.out.B)).mono ?_; rintro e W15 ⟨rfl, B15⟩; have HBF : Hid (Below w.heap.size w W15) := Below.then HA4.out.B B15))
              go_ret
              exact ⟨rfl, HBF.out⟩
end Go.Proofs.Ytcmkoffamolgmaa

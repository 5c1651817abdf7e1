/- The reference's Makes, from any nodes. -/
import Derived.Test.YtcmkoffamolgmaaR3
import Derived.Deep.CutRange
namespace Go.Proofs.Ytcmkoffamolgmaa
open Go.RowKit M
set_option linter.unusedSimpArgs false
set_option linter.unusedVariables false

theorem infoRef : (Try.prog.info? 39).map (·.size) = some 2 := by kernel_rfl
theorem own_two {W : World} {base e s n : Nat} {v : Value} {xs : List Value} (h : W.ownsRow base e s v n xs) : (v = .slice none 0 0 ∧ n = 0) ∨ ∃ g cap, v = .slice (some ⟨g, 0, none⟩) n cap ∧ n ≤ cap := by
  rcases h.2 with h' | ⟨g, cap, cur, rfl, _, _, h', _⟩
  · exact .inl h'
  · exact .inr ⟨_, _, rfl, h'⟩

set_option maxRecDepth 100000 in
set_option maxHeartbeats 16000000 in
theorem rmakes_any (a : Option Addr) (cap : Nat) (ns : List Nd) (hs : ∀ n ∈ ns, n.nm.size ≤ maxLen) (hn : ns.length ≤ 16777216) (w : World) (hT : Nds w a ns) :
    Calls Try.prog 30 #[.slice a ns.length cap] w fun e w' => e = .returned (.bool (treeOf nmB ns).isSome) ∧ Below w.heap.size w w' := by
  by_cases hl : ns.length < 1 ∨ 1024 < ns.length
  · have HV : Hid ((treeOf nmB ns).isSome = false) := (by show _ = _; unfold treeOf; rw [if_pos hl]; rfl)
    by_cases h0 : ns.length = 0
    · rw [h0]
      clear hl hT hs hn
      go_enter Try.func30, Try.ntmps30
      go_wp2_with fail
      go_ret
      exact ⟨ret_bool HV.out.symm, Below.refl _ _⟩
    · have h1 : ¬ ((ns.length : Int) < 1) := by omega
      have h2 : (1024 : Int) < ns.length := by omega
      clear hl hT hs
      go_enter Try.func30, Try.ntmps30
      go_wp2_with fail
      go_ret
      exact ⟨ret_bool HV.out.symm, Below.refl _ _⟩
  · have h1 : ¬ ((ns.length : Int) < 1) := by omega
    have h2 : (ns.length : Int) ≤ 1024 := by omega
    have hl1 : 1 ≤ ns.length := by omega
    have HS : Hid (∀ n ∈ ns, n.nm.size ≤ maxLen) := hs
    obtain ⟨V, hV⟩ : ∃ V, (treeOf nmB ns).isSome = V := ⟨_, rfl⟩
    rw [hV]
    have HV : Hid ((treeOf nmB ns).isSome = V) := hV
    have HT : Hid (Nds w a ns) := hT
    clear hl hs hV hT
    go_enter Try.func30, Try.ntmps30
    go_wp2_with fail
    go_loopw [3, 4, 5, 6, 7] (fun v i _ _ _ wr => ∃ (j : Nat) (st : List Tr), j ≤ ns.length ∧ i = .int .i64 (j : Int) ∧ st.length ≤ j ∧ Hid (upTo nmB ns j = some st) ∧ Hid (Stand nmB ns st j) ∧ Hid (wr.ownsRow w.heap.size 3 1 v st.length (intsL (heapL st j))) ∧ Hid (Below w.heap.size w wr)) (fun _ i _ _ _ _ => ns.length - (intOf i).toNat)
    case atStart => exact ⟨0, [], by omega, rfl, Nat.le_refl _, rfl, rfl, World.ownsRow_nil _ _ _ _, Below.refl _ _⟩
    case round =>
      obtain ⟨j, st, hj, rfl, hst, HU, HSt, HO, HB⟩ := hrel
      have hwr := HB.out.size
      by_cases hlt : j < ns.length
      · have hi : (j : Int) < ns.length := by omega
        obtain ⟨nd, hg'⟩ : ∃ nd, ns[j]? = some nd := ⟨_, List.getElem?_eq_getElem hlt⟩
        have hgs := HS.out nd (List.mem_of_getElem? hg')
        obtain ⟨b, o, rfl, hb, hrg⟩ := HT.out.below HB.out j nd hg'
        have HST : Hid (upTo nmB ns (j + 1) = stepT nmB st j nd) := upTo_succ hg' HU.out
        have HND : Hid (∀ st', stepT nmB st j nd = some st' → Stand nmB ns st' (j + 1)) := fun st' h => stand_step HSt.out hg' h
        have HSZ : Hid (Stand nmB ns st j) := HSt.out
        clear hg' HU HSt HT HS
        have BAD : Hid (stepT nmB st j nd = none → V = false) := (by intro h; rw [← HV.out, upTo_none (HST.out.trans h)]; rfl)
        have hj2 : j ≤ 1024 := by omega
        obtain ⟨op, fa, fb, th, nm, val⟩ := nd
        dsimp only at hgs
        obtain ⟨k, hk⟩ : ∃ k, st.length = k := ⟨_, rfl⟩
        rw [hk] at hst HO
        have HK : Hid (st.length = k) := hk
        clear hk
        have y1 : decide ((k : Int) < 0) = false := decide_eq_false (by omega)
        by_cases h1 : op = 1
        · subst h1
          as_aux_lemma =>
            obtain ⟨a0, c0, rfl⟩ := own_form HO.out
            go_upto_region 19 with (first
                | (refine wpList_load_mid rfl 46 _ rfl b _ rfl (ndL ⟨1, fa, fb, th, nm, val⟩) _ hrg Try.underlying46 rfl infoNd ?_)
                | (refine wpList_allocS rfl 46 rfl (ndL noNd) Try.zeroValue46 ?_; intro W2 b5 F2 M2; have O2 := own_belowW HO.out (F2.trans (Below.refl _ _) (Nat.le_refl _)); have B2 : Hid (Below w.heap.size w W2) := F2.trans HB.out HB.out.size; have hb5 : w.heap.size ≤ b5 := Nat.le_trans hwr (Nat.le_of_eq F2.at'.symm); clear F2)
                | (refine wpList_storeS rfl 46 _ _ rfl rfl (ndL ⟨1, fa, fb, th, nm, val⟩) rfl M2 (by simp [noNd, ndL]) infoNd (nd_one _) ?_; intro W3 U3 M3x; have M3 : IsS W3 b5 46 (ndL ⟨1, fa, fb, th, nm, val⟩) := M3x; have O3 : Hid (W3.ownsRow w.heap.size 3 1 _ _ _) := own_updN O2 U3 (own_ne O2 M2 (by decide)); have B3 : Hid (Below w.heap.size w W3) := U3.trans B2.out hb5; have c30 : W3.cell? ⟨b5, 0, none⟩ = some (.int .i64 1) := M3.cell 0; have c31 : W3.cell? ⟨b5, 1, none⟩ = some (.int .i64 fa) := M3.cell 1; have c32 : W3.cell? ⟨b5, 2, none⟩ = some (.int .i64 fb) := M3.cell 2; clear U3 M3x B2 M2 O2))
            go_cut [96] from 16 to 140 (fun c wx => c = .bool (fa != 0 || fb != 0) ∧ IsS wx b5 46 (ndL ⟨1, fa, fb, th, nm, val⟩) ∧ Hid (wx.ownsRow w.heap.size 3 1 (.slice a0 k c0) k (intsL (heapL st j))) ∧ Hid (Below w.heap.size w wx))
            case first =>
              by_cases ha : fa = 0
              · subst ha
                by_cases hfb : fb = 0
                · subst hfb
                  go_quiet (fail)
                  go_wp2_with fail
                  go_meet
                  exact ⟨rfl, M3, O3, below_drewN B3.out _⟩

                · have yb : (fb != 0) = true := by simpa using hfb
                  go_quiet (fail)
                  go_wp2_with fail
                  go_meet
                  exact ⟨by rw [yb]; rfl, M3, O3, below_drewN B3.out _⟩

              · have ya : (fa != 0) = true := by simpa using ha
                go_quiet (fail)
                go_wp2_with fail
                go_meet
                exact ⟨by rw [ya]; rfl, M3, O3, below_drewN B3.out _⟩

            case rest =>
              obtain ⟨rfl, M4, O4, B4⟩ := hcut
              clear c30 c31 c32 M3 O3 B3
              obtain ⟨q, hq⟩ : ∃ q, (fa != 0 || fb != 0) = q := ⟨_, rfl⟩
              rw [hq]
              cases q
              · obtain ⟨e1, e2⟩ : fa = 0 ∧ fb = 0 := by simpa using hq
                subst e1 e2
                clear hq
                go_upto_region 21 with fail
                go_cut [3] from 16 to 140 (fun v wx => IsS wx b5 46 (ndL ⟨1, 0, 0, th, nm, val⟩) ∧ Hid (wx.ownsRow w.heap.size 3 1 v (k + 1) (intsL (heapL st j ++ [(j : Int)]))) ∧ Hid (Below w.heap.size w wx))
                case first =>
                  rcases own_two O4.out with ⟨e0, _⟩ | ⟨g, c1, e0, hkc⟩
                  · cases e0
                    go_wp2_with (first
                      | (refine wpList_buildI rfl _ rfl (j : Int) rfl ?_; intro W5 b6 F5 N5; have B5x := F5.trans (Below.refl _ _) (Nat.le_refl _); have O5 : Hid (W5.ownsRow w.heap.size 3 1 (.slice none 0 0) 0 (intsL (heapL st j))) := own_belowW O4.out B5x; have M5 := M4.grown B5x; have B5 : Hid (Below w.heap.size w W5) := B4.out.trans (B5x.mono B4.out.size); clear F5 B5x)
                      | (at_builtin; refine wpList_appI rfl _ _ rfl w.heap.size (.slice none 0 0) 0 (heapL st j) rfl O5.out b6 1 (j : Int) rfl N5 (by omega) B5.out.size ?_; intro v6 W6 O6x G6; have M6 : IsS W6 b5 46 (ndL ⟨1, 0, 0, th, nm, val⟩) := (G6.block b5 M5.lt (fun e => own_ne O5.out M5 (by decide) e.symm)).trans M5; have B6 : Hid (Below w.heap.size w W6) := B5.out.grown G6 B5.out.size (fun k hk => (O5.out.lt k hk).1)))
                    go_meet
                    exact ⟨M6, O6x, B6⟩

                  · cases e0
                    have hkc2 : (k : Int) ≤ c0 := by omega
                    go_wp2_with (first
                      | (refine wpList_buildI rfl _ rfl (j : Int) rfl ?_; intro W5 b6 F5 N5; have B5x := F5.trans (Below.refl _ _) (Nat.le_refl _); have O5 : Hid (W5.ownsRow w.heap.size 3 1 (.slice (some ⟨g, 0, none⟩) k c0) k (intsL (heapL st j))) := own_belowW O4.out B5x; have M5 := M4.grown B5x; have B5 : Hid (Below w.heap.size w W5) := B4.out.trans (B5x.mono B4.out.size); clear F5 B5x)
                      | (at_builtin; refine wpList_appI rfl _ _ rfl w.heap.size (.slice (some ⟨g, 0, none⟩) k c0) k (heapL st j) rfl O5.out b6 1 (j : Int) rfl N5 (by omega) B5.out.size ?_; intro v6 W6 O6x G6; have M6 : IsS W6 b5 46 (ndL ⟨1, 0, 0, th, nm, val⟩) := (G6.block b5 M5.lt (fun e => own_ne O5.out M5 (by decide) e.symm)).trans M5; have B6 : Hid (Below w.heap.size w W6) := B5.out.grown G6 B5.out.size (fun k hk => (O5.out.lt k hk).1)))
                    go_meet
                    exact ⟨M6, O6x, B6⟩

                case rest =>
                  obtain ⟨M6, O6, B6⟩ := hcut
                  clear M4 O4 B4
                  have c60 : wc.cell? ⟨b5, 0, none⟩ = some (.int .i64 1) := M6.cell 0
                  have c63 : wc.cell? ⟨b5, 3, none⟩ = some (.int .i64 th) := M6.cell 3
                  have c64 : wc.cell? ⟨b5, 4, none⟩ = some (.string nm) := M6.cell 4
                  have c65 : wc.cell? ⟨b5, 5, none⟩ = some (.int .i64 val) := M6.cell 5
                  by_cases hz : th = 0 ∧ nm = noName ∧ val = 0
                  · obtain ⟨z1, z2, z3⟩ := hz
                    unfold noName at z2
                    subst z1 z2 z3
                    have hs' : stepT nmB st j ⟨1, 0, 0, 0, ⟨#[]⟩, 0⟩ = some (.tru :: st) := by simp [stepT, noName]
                    go_wp2_with fail
                    go_roundw
                    case rel => exact ⟨j + 1, .tru :: st, by omega, by go_num, by have := HK.out; simp only [List.length_cons] at *; omega, HST.out.trans hs', HND.out _ hs', (by show World.ownsRow _ _ _ _ _ _ _; rw [heap_leaf _ rfl, List.length_cons, HK.out]; exact O6.out), B6⟩
                    case measure => simp [intOf]; omega

                  · have HF : Hid (V = false) := BAD.out (step_fields (by simp [fieldsB]; intros; simp_all))
                    go_wp2_with fail
                    all_goals first | (go_ret; exact ⟨ret_bool HF.out.symm, B6.out⟩) | exact absurd ⟨by assumption, nm_nil (by assumption), by first | assumption | (rename_i h; simpa using h)⟩ hz

              · clear y1
                have HF : Hid (V = false) := BAD.out (by simp [stepT]; intros; simp_all)
                go_wp2_with fail
                go_ret
                exact ⟨ret_bool HF.out.symm, B4.out⟩

        by_cases h2 : op = 2
        · subst h2
          as_aux_lemma =>
            obtain ⟨a0, c0, rfl⟩ := own_form HO.out
            go_upto_region 19 with (first
                | (refine wpList_load_mid rfl 46 _ rfl b _ rfl (ndL ⟨2, fa, fb, th, nm, val⟩) _ hrg Try.underlying46 rfl infoNd ?_)
                | (refine wpList_allocS rfl 46 rfl (ndL noNd) Try.zeroValue46 ?_; intro W2 b5 F2 M2; have O2 := own_belowW HO.out (F2.trans (Below.refl _ _) (Nat.le_refl _)); have B2 : Hid (Below w.heap.size w W2) := F2.trans HB.out HB.out.size; have hb5 : w.heap.size ≤ b5 := Nat.le_trans hwr (Nat.le_of_eq F2.at'.symm); clear F2)
                | (refine wpList_storeS rfl 46 _ _ rfl rfl (ndL ⟨2, fa, fb, th, nm, val⟩) rfl M2 (by simp [noNd, ndL]) infoNd (nd_one _) ?_; intro W3 U3 M3x; have M3 : IsS W3 b5 46 (ndL ⟨2, fa, fb, th, nm, val⟩) := M3x; have O3 : Hid (W3.ownsRow w.heap.size 3 1 _ _ _) := own_updN O2 U3 (own_ne O2 M2 (by decide)); have B3 : Hid (Below w.heap.size w W3) := U3.trans B2.out hb5; have c30 : W3.cell? ⟨b5, 0, none⟩ = some (.int .i64 2) := M3.cell 0; have c31 : W3.cell? ⟨b5, 1, none⟩ = some (.int .i64 fa) := M3.cell 1; have c32 : W3.cell? ⟨b5, 2, none⟩ = some (.int .i64 fb) := M3.cell 2; clear U3 M3x B2 M2 O2))
            go_cut [96] from 16 to 140 (fun c wx => c = .bool (fa != 0 || fb != 0) ∧ IsS wx b5 46 (ndL ⟨2, fa, fb, th, nm, val⟩) ∧ Hid (wx.ownsRow w.heap.size 3 1 (.slice a0 k c0) k (intsL (heapL st j))) ∧ Hid (Below w.heap.size w wx))
            case first =>
              by_cases ha : fa = 0
              · subst ha
                by_cases hfb : fb = 0
                · subst hfb
                  go_quiet (fail)
                  go_wp2_with fail
                  go_meet
                  exact ⟨rfl, M3, O3, below_drewN B3.out _⟩

                · have yb : (fb != 0) = true := by simpa using hfb
                  go_quiet (fail)
                  go_wp2_with fail
                  go_meet
                  exact ⟨by rw [yb]; rfl, M3, O3, below_drewN B3.out _⟩

              · have ya : (fa != 0) = true := by simpa using ha
                go_quiet (fail)
                go_wp2_with fail
                go_meet
                exact ⟨by rw [ya]; rfl, M3, O3, below_drewN B3.out _⟩

            case rest =>
              obtain ⟨rfl, M4, O4, B4⟩ := hcut
              clear c30 c31 c32 M3 O3 B3
              obtain ⟨q, hq⟩ : ∃ q, (fa != 0 || fb != 0) = q := ⟨_, rfl⟩
              rw [hq]
              cases q
              · obtain ⟨e1, e2⟩ : fa = 0 ∧ fb = 0 := by simpa using hq
                subst e1 e2
                clear hq
                go_upto_region 21 with fail
                go_cut [3] from 16 to 140 (fun v wx => IsS wx b5 46 (ndL ⟨2, 0, 0, th, nm, val⟩) ∧ Hid (wx.ownsRow w.heap.size 3 1 v (k + 1) (intsL (heapL st j ++ [(j : Int)]))) ∧ Hid (Below w.heap.size w wx))
                case first =>
                  rcases own_two O4.out with ⟨e0, _⟩ | ⟨g, c1, e0, hkc⟩
                  · cases e0
                    go_wp2_with (first
                      | (refine wpList_buildI rfl _ rfl (j : Int) rfl ?_; intro W5 b6 F5 N5; have B5x := F5.trans (Below.refl _ _) (Nat.le_refl _); have O5 : Hid (W5.ownsRow w.heap.size 3 1 (.slice none 0 0) 0 (intsL (heapL st j))) := own_belowW O4.out B5x; have M5 := M4.grown B5x; have B5 : Hid (Below w.heap.size w W5) := B4.out.trans (B5x.mono B4.out.size); clear F5 B5x)
                      | (at_builtin; refine wpList_appI rfl _ _ rfl w.heap.size (.slice none 0 0) 0 (heapL st j) rfl O5.out b6 1 (j : Int) rfl N5 (by omega) B5.out.size ?_; intro v6 W6 O6x G6; have M6 : IsS W6 b5 46 (ndL ⟨2, 0, 0, th, nm, val⟩) := (G6.block b5 M5.lt (fun e => own_ne O5.out M5 (by decide) e.symm)).trans M5; have B6 : Hid (Below w.heap.size w W6) := B5.out.grown G6 B5.out.size (fun k hk => (O5.out.lt k hk).1)))
                    go_meet
                    exact ⟨M6, O6x, B6⟩

                  · cases e0
                    have hkc2 : (k : Int) ≤ c0 := by omega
                    go_wp2_with (first
                      | (refine wpList_buildI rfl _ rfl (j : Int) rfl ?_; intro W5 b6 F5 N5; have B5x := F5.trans (Below.refl _ _) (Nat.le_refl _); have O5 : Hid (W5.ownsRow w.heap.size 3 1 (.slice (some ⟨g, 0, none⟩) k c0) k (intsL (heapL st j))) := own_belowW O4.out B5x; have M5 := M4.grown B5x; have B5 : Hid (Below w.heap.size w W5) := B4.out.trans (B5x.mono B4.out.size); clear F5 B5x)
                      | (at_builtin; refine wpList_appI rfl _ _ rfl w.heap.size (.slice (some ⟨g, 0, none⟩) k c0) k (heapL st j) rfl O5.out b6 1 (j : Int) rfl N5 (by omega) B5.out.size ?_; intro v6 W6 O6x G6; have M6 : IsS W6 b5 46 (ndL ⟨2, 0, 0, th, nm, val⟩) := (G6.block b5 M5.lt (fun e => own_ne O5.out M5 (by decide) e.symm)).trans M5; have B6 : Hid (Below w.heap.size w W6) := B5.out.grown G6 B5.out.size (fun k hk => (O5.out.lt k hk).1)))
                    go_meet
                    exact ⟨M6, O6x, B6⟩

                case rest =>
                  obtain ⟨M6, O6, B6⟩ := hcut
                  clear M4 O4 B4
                  have c60 : wc.cell? ⟨b5, 0, none⟩ = some (.int .i64 2) := M6.cell 0
                  have c63 : wc.cell? ⟨b5, 3, none⟩ = some (.int .i64 th) := M6.cell 3
                  have c64 : wc.cell? ⟨b5, 4, none⟩ = some (.string nm) := M6.cell 4
                  have c65 : wc.cell? ⟨b5, 5, none⟩ = some (.int .i64 val) := M6.cell 5
                  have cN := fun w => rName_any nm hgs w
                  by_cases hz : (-1 ≤ th ∧ th ≤ 9999) ∧ nameB nm.data.toList = true
                  · obtain ⟨⟨z1, z2⟩, z3⟩ := hz
                    have hs' : stepT nmB st j ⟨2, 0, 0, th, nm, val⟩ = some (.is th nm val :: st) := by simp [stepT, z1, z2, nmB, z3]
                    rw [z3] at cN
                    clear z3
                    have z1' : ¬ th < -1 := by omega
                    have z2' : ¬ (9999 : Int) < th := by omega
                    clear z1 z2
                    go_wp2_with (go_at_call 49; refine (cN _).mono ?_; rintro e w' ⟨rfl, hw'⟩; replace hw' := hw'.symm; subst hw')
                    go_roundw
                    case rel => exact ⟨j + 1, .is th nm val :: st, by omega, by go_num, by have := HK.out; simp only [List.length_cons] at *; omega, HST.out.trans hs', HND.out _ hs', (by show World.ownsRow _ _ _ _ _ _ _; rw [heap_leaf _ rfl, List.length_cons, HK.out]; exact O6.out), B6⟩
                    case measure => simp [intOf]; omega

                  · have HF : Hid (V = false) := BAD.out (by simp only [stepT, Int.reduceEq, reduceIte]; exact if_neg (fun h => hz ⟨⟨h.2.2.1, h.2.2.2.1⟩, h.2.2.2.2⟩))
                    obtain ⟨q, hq⟩ : ∃ q, nameB nm.data.toList = q := ⟨_, rfl⟩
                    rw [hq] at cN hz
                    clear hq
                    go_wp2_with (go_at_call 49; refine (cN _).mono ?_; rintro e w' ⟨rfl, hw'⟩; replace hw' := hw'.symm; subst hw')
                    all_goals first | (go_ret; exact ⟨ret_bool HF.out.symm, B6.out⟩) | exact absurd ⟨⟨by omega, by omega⟩, by simp_all⟩ hz

              · clear y1
                have HF : Hid (V = false) := BAD.out (by simp [stepT]; intros; simp_all)
                go_wp2_with fail
                go_ret
                exact ⟨ret_bool HF.out.symm, B4.out⟩

        by_cases h3 : op = 3
        · subst h3
          clear y1
          rcases st with _ | ⟨t0, r0⟩
          · as_aux_lemma =>
            obtain rfl : k = 0 := HK.out.symm
            obtain ⟨a0, c0, rfl⟩ := own_form HO.out
            have HF : Hid (V = false) := BAD.out (by simp [stepT])
            go_wp2_with (first
              | (refine wpList_load_mid rfl 46 _ rfl b _ rfl (ndL ⟨3, fa, fb, th, nm, val⟩) _ hrg Try.underlying46 rfl infoNd ?_)
              | (refine wpList_allocS rfl 46 rfl (ndL noNd) Try.zeroValue46 ?_; intro W2 b5 F2 M2; have O2 := own_belowW HO.out (F2.trans (Below.refl _ _) (Nat.le_refl _)); have B2 : Hid (Below w.heap.size w W2) := F2.trans HB.out HB.out.size; have hb5 : w.heap.size ≤ b5 := Nat.le_trans hwr (Nat.le_of_eq F2.at'.symm); clear F2)
              | (refine wpList_storeS rfl 46 _ _ rfl rfl (ndL ⟨3, fa, fb, th, nm, val⟩) rfl M2 (by simp [noNd, ndL]) infoNd (nd_one _) ?_; intro W3 U3 M3x; have M3 : IsS W3 b5 46 (ndL ⟨3, fa, fb, th, nm, val⟩) := M3x; have O3 : Hid (W3.ownsRow w.heap.size 3 1 _ _ _) := own_updN O2 U3 (own_ne O2 M2 (by decide)); have B3 : Hid (Below w.heap.size w W3) := U3.trans B2.out hb5; have c30 : W3.cell? ⟨b5, 0, none⟩ = some (.int .i64 3) := M3.cell 0; have c31 : W3.cell? ⟨b5, 1, none⟩ = some (.int .i64 fa) := M3.cell 1; have c32 : W3.cell? ⟨b5, 2, none⟩ = some (.int .i64 fb) := M3.cell 2; clear U3 M3x B2 M2 O2))
            go_quiet (fail)
            have B4 : Below w.heap.size w (W3.drewN nq) := below_drewN B3.out _
            go_wp2_with fail
            go_ret
            exact ⟨ret_bool HF.out.symm, B4⟩

          · as_aux_lemma =>
            obtain ⟨m, hm⟩ : ∃ m, r0.length = m := ⟨_, rfl⟩
            obtain rfl : k = m + 1 := by rw [← HK.out, List.length_cons, hm]
            clear HK
            have HK : Hid (r0.length = m) := hm
            clear hm
            obtain ⟨g, c0, rfl, hkc⟩ := own_some HO.out
            have y3 : decide ((m : Int) + 1 < 1) = false := decide_eq_false (by omega)
            go_upto_region 19 with (first
              | (refine wpList_load_mid rfl 46 _ rfl b _ rfl (ndL ⟨3, fa, fb, th, nm, val⟩) _ hrg Try.underlying46 rfl infoNd ?_)
              | (refine wpList_allocS rfl 46 rfl (ndL noNd) Try.zeroValue46 ?_; intro W2 b5 F2 M2; have O2 := own_belowW HO.out (F2.trans (Below.refl _ _) (Nat.le_refl _)); have B2 : Hid (Below w.heap.size w W2) := F2.trans HB.out HB.out.size; have hb5 : w.heap.size ≤ b5 := Nat.le_trans hwr (Nat.le_of_eq F2.at'.symm); clear F2)
              | (refine wpList_storeS rfl 46 _ _ rfl rfl (ndL ⟨3, fa, fb, th, nm, val⟩) rfl M2 (by simp [noNd, ndL]) infoNd (nd_one _) ?_; intro W3 U3 M3x; have M3 : IsS W3 b5 46 (ndL ⟨3, fa, fb, th, nm, val⟩) := M3x; have O3 : Hid (W3.ownsRow w.heap.size 3 1 _ _ _) := own_updN O2 U3 (own_ne O2 M2 (by decide)); have B3 : Hid (Below w.heap.size w W3) := U3.trans B2.out hb5; have c30 : W3.cell? ⟨b5, 0, none⟩ = some (.int .i64 3) := M3.cell 0; have c31 : W3.cell? ⟨b5, 1, none⟩ = some (.int .i64 fa) := M3.cell 1; have c32 : W3.cell? ⟨b5, 2, none⟩ = some (.int .i64 fb) := M3.cell 2; clear U3 M3x B2 M2 O2))
            go_cut [96] from 16 to 140 (fun c wx => c = .bool (fb != 0 || fa != (j : Int) - 1) ∧ IsS wx b5 46 (ndL ⟨3, fa, fb, th, nm, val⟩) ∧ Hid (wx.ownsRow w.heap.size 3 1 (.slice (some ⟨g, 0, none⟩) (m + 1) c0) (m + 1) (intsL (heapL (t0 :: r0) j))) ∧ Hid (Below w.heap.size w wx))
            case first =>
              have O3' := O3.out
              have ct : W3.cell? ⟨g, m, none⟩ = some (.int .i64 ((j : Int) - 1)) := by
                rw [O3'.cellAt m (by omega)]
                refine intsL_get ?_
                have := heap_top t0 r0 j
                rw [HK.out] at this
                exact this
              clear O3'
              by_cases hfb : fb = 0
              · subst hfb
                by_cases ha : fa = (j : Int) - 1
                · subst ha
                  have ya : ((j : Int) - 1 != (j : Int) - 1) = false := by simp
                  go_quiet (fail)
                  go_wp2_with fail
                  go_meet
                  exact ⟨by rw [ya]; rfl, M3, O3, below_drewN B3.out _⟩

                · have ya : (fa != (j : Int) - 1) = true := by simpa using ha
                  go_quiet (fail)
                  go_wp2_with fail
                  go_meet
                  exact ⟨by rw [ya]; rfl, M3, O3, below_drewN B3.out _⟩

              · have yb : (fb != 0) = true := by simpa using hfb
                go_quiet (fail)
                go_wp2_with fail
                go_meet
                exact ⟨by rw [yb]; rfl, M3, O3, below_drewN B3.out _⟩

            case rest =>
              obtain ⟨rfl, M4, O4, B4⟩ := hcut
              clear c30 c31 c32 M3 O3 B3
              obtain ⟨q, hq⟩ : ∃ q, (fb != 0 || fa != (j : Int) - 1) = q := ⟨_, rfl⟩
              rw [hq]
              cases q
              · obtain ⟨e1, e2⟩ : fb = 0 ∧ fa = (j : Int) - 1 := by simpa using hq
                subst e1 e2
                clear hq
                go_upto_region 21 with fail
                go_cut [3] from 16 to 140 (fun v wx => IsS wx b5 46 (ndL ⟨3, (j : Int) - 1, 0, th, nm, val⟩) ∧ Hid (wx.ownsRow w.heap.size 3 1 v (m + 1) (intsL ((heapL (t0 :: r0) j).take m ++ [(j : Int)]))) ∧ Hid (Below w.heap.size w wx))
                case first =>
                  go_wp2_with (first
                    | (refine wpList_buildI rfl _ rfl (j : Int) rfl ?_; intro W5 b6 F5 N5; have B5x := F5.trans (Below.refl _ _) (Nat.le_refl _); have O5 : Hid (W5.ownsRow w.heap.size 3 1 (.slice (some ⟨g, 0, none⟩) m c0) m (intsL ((heapL (t0 :: r0) j).take m))) := own_belowW (by have := ownsRow_take m (Nat.le_succ m) O4.out; rw [Nat.mul_one, intsL_take] at this; exact this) B5x; have M5 := M4.grown B5x; have B5 : Hid (Below w.heap.size w W5) := B4.out.trans (B5x.mono B4.out.size); clear F5 B5x)
                    | (at_builtin; refine wpList_appI rfl _ _ rfl w.heap.size (.slice (some ⟨g, 0, none⟩) m c0) m ((heapL (t0 :: r0) j).take m) rfl O5.out b6 1 (j : Int) rfl N5 (by omega) B5.out.size ?_; intro v6 W6 O6x G6; have M6 : IsS W6 b5 46 (ndL ⟨3, (j : Int) - 1, 0, th, nm, val⟩) := (G6.block b5 M5.lt (fun e => own_ne O5.out M5 (by decide) e.symm)).trans M5; have B6 : Hid (Below w.heap.size w W6) := B5.out.grown G6 B5.out.size (fun k hk => (O5.out.lt k hk).1)))
                  go_meet
                  exact ⟨M6, O6x, B6⟩

                case rest =>
                  obtain ⟨M6, O6, B6⟩ := hcut
                  clear M4 O4 B4
                  have c60 : wc.cell? ⟨b5, 0, none⟩ = some (.int .i64 3) := M6.cell 0
                  have c63 : wc.cell? ⟨b5, 3, none⟩ = some (.int .i64 th) := M6.cell 3
                  have c64 : wc.cell? ⟨b5, 4, none⟩ = some (.string nm) := M6.cell 4
                  have c65 : wc.cell? ⟨b5, 5, none⟩ = some (.int .i64 val) := M6.cell 5
                  by_cases hz : th = 0 ∧ nm = noName ∧ val = 0
                  · obtain ⟨z1, z2, z3⟩ := hz
                    unfold noName at z2
                    subst z1 z2 z3
                    have hs' : stepT nmB (t0 :: r0) j ⟨3, (j : Int) - 1, 0, 0, ⟨#[]⟩, 0⟩ = some (.not t0 :: r0) := by simp [stepT, noName]
                    go_wp2_with fail
                    go_roundw
                    case rel => exact ⟨j + 1, .not t0 :: r0, by omega, by go_num, by have := HK.out; simp only [List.length_cons] at *; omega, HST.out.trans hs', HND.out _ hs', (by show World.ownsRow _ _ _ _ _ _ _; rw [heap_one _ t0 r0 j rfl, List.length_cons, HK.out]; exact O6.out), B6⟩
                    case measure => simp [intOf]; omega

                  · have HF : Hid (V = false) := BAD.out (step_fields (by simp [fieldsB]; intros; simp_all))
                    go_wp2_with fail
                    all_goals first | (go_ret; exact ⟨ret_bool HF.out.symm, B6.out⟩) | exact absurd ⟨by assumption, nm_nil (by assumption), by first | assumption | (rename_i h; simpa using h)⟩ hz

              · 
                have HF : Hid (V = false) := BAD.out (by simp only [stepT, Int.reduceEq, reduceIte]; exact if_neg (fun h => by simp [h.1, h.2.1] at hq))
                go_wp2_with fail
                go_ret
                exact ⟨ret_bool HF.out.symm, B4.out⟩

        by_cases h4 : op = 4
        · subst h4
          clear y1
          rcases st with _ | ⟨y, _ | ⟨x, r⟩⟩
          · as_aux_lemma =>
            obtain rfl : k = 0 := HK.out.symm
            obtain ⟨a0, c0, rfl⟩ := own_form HO.out
            have HF : Hid (V = false) := BAD.out (by simp [stepT])
            go_wp2_with (first
              | (refine wpList_load_mid rfl 46 _ rfl b _ rfl (ndL ⟨4, fa, fb, th, nm, val⟩) _ hrg Try.underlying46 rfl infoNd ?_)
              | (refine wpList_allocS rfl 46 rfl (ndL noNd) Try.zeroValue46 ?_; intro W2 b5 F2 M2; have O2 := own_belowW HO.out (F2.trans (Below.refl _ _) (Nat.le_refl _)); have B2 : Hid (Below w.heap.size w W2) := F2.trans HB.out HB.out.size; have hb5 : w.heap.size ≤ b5 := Nat.le_trans hwr (Nat.le_of_eq F2.at'.symm); clear F2)
              | (refine wpList_storeS rfl 46 _ _ rfl rfl (ndL ⟨4, fa, fb, th, nm, val⟩) rfl M2 (by simp [noNd, ndL]) infoNd (nd_one _) ?_; intro W3 U3 M3x; have M3 : IsS W3 b5 46 (ndL ⟨4, fa, fb, th, nm, val⟩) := M3x; have O3 : Hid (W3.ownsRow w.heap.size 3 1 _ _ _) := own_updN O2 U3 (own_ne O2 M2 (by decide)); have B3 : Hid (Below w.heap.size w W3) := U3.trans B2.out hb5; have c30 : W3.cell? ⟨b5, 0, none⟩ = some (.int .i64 4) := M3.cell 0; have c31 : W3.cell? ⟨b5, 1, none⟩ = some (.int .i64 fa) := M3.cell 1; have c32 : W3.cell? ⟨b5, 2, none⟩ = some (.int .i64 fb) := M3.cell 2; clear U3 M3x B2 M2 O2))
            go_quiet (fail)
            have B4 : Below w.heap.size w (W3.drewN nq) := below_drewN B3.out _
            go_wp2_with fail
            go_ret
            exact ⟨ret_bool HF.out.symm, B4⟩

          · as_aux_lemma =>
            obtain rfl : k = 1 := HK.out.symm
            obtain ⟨a0, c0, rfl⟩ := own_form HO.out
            have HF : Hid (V = false) := BAD.out (by simp [stepT])
            go_wp2_with (first
              | (refine wpList_load_mid rfl 46 _ rfl b _ rfl (ndL ⟨4, fa, fb, th, nm, val⟩) _ hrg Try.underlying46 rfl infoNd ?_)
              | (refine wpList_allocS rfl 46 rfl (ndL noNd) Try.zeroValue46 ?_; intro W2 b5 F2 M2; have O2 := own_belowW HO.out (F2.trans (Below.refl _ _) (Nat.le_refl _)); have B2 : Hid (Below w.heap.size w W2) := F2.trans HB.out HB.out.size; have hb5 : w.heap.size ≤ b5 := Nat.le_trans hwr (Nat.le_of_eq F2.at'.symm); clear F2)
              | (refine wpList_storeS rfl 46 _ _ rfl rfl (ndL ⟨4, fa, fb, th, nm, val⟩) rfl M2 (by simp [noNd, ndL]) infoNd (nd_one _) ?_; intro W3 U3 M3x; have M3 : IsS W3 b5 46 (ndL ⟨4, fa, fb, th, nm, val⟩) := M3x; have O3 : Hid (W3.ownsRow w.heap.size 3 1 _ _ _) := own_updN O2 U3 (own_ne O2 M2 (by decide)); have B3 : Hid (Below w.heap.size w W3) := U3.trans B2.out hb5; have c30 : W3.cell? ⟨b5, 0, none⟩ = some (.int .i64 4) := M3.cell 0; have c31 : W3.cell? ⟨b5, 1, none⟩ = some (.int .i64 fa) := M3.cell 1; have c32 : W3.cell? ⟨b5, 2, none⟩ = some (.int .i64 fb) := M3.cell 2; clear U3 M3x B2 M2 O2))
            go_quiet (fail)
            have B4 : Below w.heap.size w (W3.drewN nq) := below_drewN B3.out _
            go_wp2_with fail
            go_ret
            exact ⟨ret_bool HF.out.symm, B4⟩

          · as_aux_lemma =>
            obtain ⟨m, hm⟩ : ∃ m, r.length = m := ⟨_, rfl⟩
            obtain rfl : k = m + 1 + 1 := by rw [← HK.out, List.length_cons, List.length_cons, hm]
            clear HK
            have HK : Hid (r.length = m) := hm
            clear hm
            obtain ⟨g, c0, rfl, hkc⟩ := own_some HO.out
            obtain ⟨A, hA⟩ : ∃ A, (j : Int) - y.sz - 1 = A := ⟨_, rfl⟩
            have HA : Hid ((j : Int) - y.sz - 1 = A) := hA
            clear hA
            have y3 : decide ((m : Int) + 1 + 1 < 2) = false := decide_eq_false (by omega)
            go_upto_region 19 with (first
              | (refine wpList_load_mid rfl 46 _ rfl b _ rfl (ndL ⟨4, fa, fb, th, nm, val⟩) _ hrg Try.underlying46 rfl infoNd ?_)
              | (refine wpList_allocS rfl 46 rfl (ndL noNd) Try.zeroValue46 ?_; intro W2 b5 F2 M2; have O2 := own_belowW HO.out (F2.trans (Below.refl _ _) (Nat.le_refl _)); have B2 : Hid (Below w.heap.size w W2) := F2.trans HB.out HB.out.size; have hb5 : w.heap.size ≤ b5 := Nat.le_trans hwr (Nat.le_of_eq F2.at'.symm); clear F2)
              | (refine wpList_storeS rfl 46 _ _ rfl rfl (ndL ⟨4, fa, fb, th, nm, val⟩) rfl M2 (by simp [noNd, ndL]) infoNd (nd_one _) ?_; intro W3 U3 M3x; have M3 : IsS W3 b5 46 (ndL ⟨4, fa, fb, th, nm, val⟩) := M3x; have O3 : Hid (W3.ownsRow w.heap.size 3 1 _ _ _) := own_updN O2 U3 (own_ne O2 M2 (by decide)); have B3 : Hid (Below w.heap.size w W3) := U3.trans B2.out hb5; have c30 : W3.cell? ⟨b5, 0, none⟩ = some (.int .i64 4) := M3.cell 0; have c31 : W3.cell? ⟨b5, 1, none⟩ = some (.int .i64 fa) := M3.cell 1; have c32 : W3.cell? ⟨b5, 2, none⟩ = some (.int .i64 fb) := M3.cell 2; clear U3 M3x B2 M2 O2))
            go_cut [96] from 16 to 140 (fun c wx => c = .bool (fa != A || fb != (j : Int) - 1) ∧ IsS wx b5 46 (ndL ⟨4, fa, fb, th, nm, val⟩) ∧ Hid (wx.ownsRow w.heap.size 3 1 (.slice (some ⟨g, 0, none⟩) (m + 1 + 1) c0) (m + 1 + 1) (intsL (heapL (y :: x :: r) j))) ∧ Hid (Below w.heap.size w wx))
            case first =>
              have O3' := O3.out
              have cs : W3.cell? ⟨g, m, none⟩ = some (.int .i64 A) := by
                rw [O3'.cellAt m (by omega)]
                refine intsL_get ?_
                have := heap_sec y x r j HSZ.out.1
                rw [HK.out, HA.out] at this
                exact this
              have ct : W3.cell? ⟨g, m + 1, none⟩ = some (.int .i64 ((j : Int) - 1)) := by
                rw [O3'.cellAt (m + 1) (by omega)]
                refine intsL_get ?_
                have := heap_top y (x :: r) j
                rw [List.length_cons, HK.out] at this
                exact this
              clear O3'
              by_cases ha : fa = A
              · subst ha
                have ya : (fa != fa) = false := by simp
                by_cases hfb : fb = (j : Int) - 1
                · subst hfb
                  have yb : ((j : Int) - 1 != (j : Int) - 1) = false := by simp
                  go_quiet (fail)
                  go_wp2_with fail
                  go_meet
                  exact ⟨by rw [ya, yb]; rfl, M3, O3, below_drewN B3.out _⟩

                · have yb : (fb != (j : Int) - 1) = true := by simpa using hfb
                  go_quiet (fail)
                  go_wp2_with fail
                  go_meet
                  exact ⟨by rw [ya, yb]; rfl, M3, O3, below_drewN B3.out _⟩

              · have ya : (fa != A) = true := by simpa using ha
                go_quiet (fail)
                go_wp2_with fail
                go_meet
                exact ⟨by rw [ya]; rfl, M3, O3, below_drewN B3.out _⟩

            case rest =>
              obtain ⟨rfl, M4, O4, B4⟩ := hcut
              clear c30 c31 c32 M3 O3 B3
              obtain ⟨q, hq⟩ : ∃ q, (fa != A || fb != (j : Int) - 1) = q := ⟨_, rfl⟩
              rw [hq]
              cases q
              · obtain ⟨e1, e2⟩ : fa = A ∧ fb = (j : Int) - 1 := by simpa using hq
                subst e1 e2
                clear hq
                go_upto_region 21 with fail
                go_cut [3] from 16 to 140 (fun v wx => IsS wx b5 46 (ndL ⟨4, fa, (j : Int) - 1, th, nm, val⟩) ∧ Hid (wx.ownsRow w.heap.size 3 1 v (m + 1) (intsL ((heapL (y :: x :: r) j).take m ++ [(j : Int)]))) ∧ Hid (Below w.heap.size w wx))
                case first =>
                  go_wp2_with (first
                    | (refine wpList_buildI rfl _ rfl (j : Int) rfl ?_; intro W5 b6 F5 N5; have B5x := F5.trans (Below.refl _ _) (Nat.le_refl _); have O5 : Hid (W5.ownsRow w.heap.size 3 1 (.slice (some ⟨g, 0, none⟩) m c0) m (intsL ((heapL (y :: x :: r) j).take m))) := own_belowW (by have := ownsRow_take m (by omega) O4.out; rw [Nat.mul_one, intsL_take] at this; exact this) B5x; have M5 := M4.grown B5x; have B5 : Hid (Below w.heap.size w W5) := B4.out.trans (B5x.mono B4.out.size); clear F5 B5x)
                    | (at_builtin; refine wpList_appI rfl _ _ rfl w.heap.size (.slice (some ⟨g, 0, none⟩) m c0) m ((heapL (y :: x :: r) j).take m) rfl O5.out b6 1 (j : Int) rfl N5 (by omega) B5.out.size ?_; intro v6 W6 O6x G6; have M6 : IsS W6 b5 46 (ndL ⟨4, fa, (j : Int) - 1, th, nm, val⟩) := (G6.block b5 M5.lt (fun e => own_ne O5.out M5 (by decide) e.symm)).trans M5; have B6 : Hid (Below w.heap.size w W6) := B5.out.grown G6 B5.out.size (fun k hk => (O5.out.lt k hk).1)))
                  go_meet
                  exact ⟨M6, O6x, B6⟩

                case rest =>
                  obtain ⟨M6, O6, B6⟩ := hcut
                  clear M4 O4 B4
                  have c60 : wc.cell? ⟨b5, 0, none⟩ = some (.int .i64 4) := M6.cell 0
                  have c63 : wc.cell? ⟨b5, 3, none⟩ = some (.int .i64 th) := M6.cell 3
                  have c64 : wc.cell? ⟨b5, 4, none⟩ = some (.string nm) := M6.cell 4
                  have c65 : wc.cell? ⟨b5, 5, none⟩ = some (.int .i64 val) := M6.cell 5
                  by_cases hz : th = 0 ∧ nm = noName ∧ val = 0
                  · obtain ⟨z1, z2, z3⟩ := hz
                    unfold noName at z2
                    subst z1 z2 z3
                    have hs' : stepT nmB (y :: x :: r) j ⟨4, fa, (j : Int) - 1, 0, ⟨#[]⟩, 0⟩ = some (.and x y :: r) := by simp [stepT, noName, HA.out]
                    go_wp2_with fail
                    go_roundw
                    case rel => exact ⟨j + 1, .and x y :: r, by omega, by go_num, by have := HK.out; simp only [List.length_cons] at *; omega, HST.out.trans hs', HND.out _ hs', (by show World.ownsRow _ _ _ _ _ _ _; rw [heap_two _ x y r j rfl, List.length_cons, HK.out]; exact O6.out), B6⟩
                    case measure => simp [intOf]; omega

                  · have HF : Hid (V = false) := BAD.out (step_fields (by simp [fieldsB]; intros; simp_all))
                    go_wp2_with fail
                    all_goals first | (go_ret; exact ⟨ret_bool HF.out.symm, B6.out⟩) | exact absurd ⟨by assumption, nm_nil (by assumption), by first | assumption | (rename_i h; simpa using h)⟩ hz

              · 
                have HF : Hid (V = false) := BAD.out (by simp only [stepT, Int.reduceEq, reduceIte]; exact if_neg (fun h => by rw [HA.out] at h; simp [h.1, h.2.1] at hq))
                go_wp2_with fail
                go_ret
                exact ⟨ret_bool HF.out.symm, B4.out⟩

        by_cases h5 : op = 5
        · subst h5
          clear y1
          rcases st with _ | ⟨y, _ | ⟨x, r⟩⟩
          · as_aux_lemma =>
            obtain rfl : k = 0 := HK.out.symm
            obtain ⟨a0, c0, rfl⟩ := own_form HO.out
            have HF : Hid (V = false) := BAD.out (by simp [stepT])
            go_wp2_with (first
              | (refine wpList_load_mid rfl 46 _ rfl b _ rfl (ndL ⟨5, fa, fb, th, nm, val⟩) _ hrg Try.underlying46 rfl infoNd ?_)
              | (refine wpList_allocS rfl 46 rfl (ndL noNd) Try.zeroValue46 ?_; intro W2 b5 F2 M2; have O2 := own_belowW HO.out (F2.trans (Below.refl _ _) (Nat.le_refl _)); have B2 : Hid (Below w.heap.size w W2) := F2.trans HB.out HB.out.size; have hb5 : w.heap.size ≤ b5 := Nat.le_trans hwr (Nat.le_of_eq F2.at'.symm); clear F2)
              | (refine wpList_storeS rfl 46 _ _ rfl rfl (ndL ⟨5, fa, fb, th, nm, val⟩) rfl M2 (by simp [noNd, ndL]) infoNd (nd_one _) ?_; intro W3 U3 M3x; have M3 : IsS W3 b5 46 (ndL ⟨5, fa, fb, th, nm, val⟩) := M3x; have O3 : Hid (W3.ownsRow w.heap.size 3 1 _ _ _) := own_updN O2 U3 (own_ne O2 M2 (by decide)); have B3 : Hid (Below w.heap.size w W3) := U3.trans B2.out hb5; have c30 : W3.cell? ⟨b5, 0, none⟩ = some (.int .i64 5) := M3.cell 0; have c31 : W3.cell? ⟨b5, 1, none⟩ = some (.int .i64 fa) := M3.cell 1; have c32 : W3.cell? ⟨b5, 2, none⟩ = some (.int .i64 fb) := M3.cell 2; clear U3 M3x B2 M2 O2))
            go_quiet (fail)
            have B4 : Below w.heap.size w (W3.drewN nq) := below_drewN B3.out _
            go_wp2_with fail
            go_ret
            exact ⟨ret_bool HF.out.symm, B4⟩

          · as_aux_lemma =>
            obtain rfl : k = 1 := HK.out.symm
            obtain ⟨a0, c0, rfl⟩ := own_form HO.out
            have HF : Hid (V = false) := BAD.out (by simp [stepT])
            go_wp2_with (first
              | (refine wpList_load_mid rfl 46 _ rfl b _ rfl (ndL ⟨5, fa, fb, th, nm, val⟩) _ hrg Try.underlying46 rfl infoNd ?_)
              | (refine wpList_allocS rfl 46 rfl (ndL noNd) Try.zeroValue46 ?_; intro W2 b5 F2 M2; have O2 := own_belowW HO.out (F2.trans (Below.refl _ _) (Nat.le_refl _)); have B2 : Hid (Below w.heap.size w W2) := F2.trans HB.out HB.out.size; have hb5 : w.heap.size ≤ b5 := Nat.le_trans hwr (Nat.le_of_eq F2.at'.symm); clear F2)
              | (refine wpList_storeS rfl 46 _ _ rfl rfl (ndL ⟨5, fa, fb, th, nm, val⟩) rfl M2 (by simp [noNd, ndL]) infoNd (nd_one _) ?_; intro W3 U3 M3x; have M3 : IsS W3 b5 46 (ndL ⟨5, fa, fb, th, nm, val⟩) := M3x; have O3 : Hid (W3.ownsRow w.heap.size 3 1 _ _ _) := own_updN O2 U3 (own_ne O2 M2 (by decide)); have B3 : Hid (Below w.heap.size w W3) := U3.trans B2.out hb5; have c30 : W3.cell? ⟨b5, 0, none⟩ = some (.int .i64 5) := M3.cell 0; have c31 : W3.cell? ⟨b5, 1, none⟩ = some (.int .i64 fa) := M3.cell 1; have c32 : W3.cell? ⟨b5, 2, none⟩ = some (.int .i64 fb) := M3.cell 2; clear U3 M3x B2 M2 O2))
            go_quiet (fail)
            have B4 : Below w.heap.size w (W3.drewN nq) := below_drewN B3.out _
            go_wp2_with fail
            go_ret
            exact ⟨ret_bool HF.out.symm, B4⟩

          · as_aux_lemma =>
            obtain ⟨m, hm⟩ : ∃ m, r.length = m := ⟨_, rfl⟩
            obtain rfl : k = m + 1 + 1 := by rw [← HK.out, List.length_cons, List.length_cons, hm]
            clear HK
            have HK : Hid (r.length = m) := hm
            clear hm
            obtain ⟨g, c0, rfl, hkc⟩ := own_some HO.out
            obtain ⟨A, hA⟩ : ∃ A, (j : Int) - y.sz - 1 = A := ⟨_, rfl⟩
            have HA : Hid ((j : Int) - y.sz - 1 = A) := hA
            clear hA
            have y3 : decide ((m : Int) + 1 + 1 < 2) = false := decide_eq_false (by omega)
            go_upto_region 19 with (first
              | (refine wpList_load_mid rfl 46 _ rfl b _ rfl (ndL ⟨5, fa, fb, th, nm, val⟩) _ hrg Try.underlying46 rfl infoNd ?_)
              | (refine wpList_allocS rfl 46 rfl (ndL noNd) Try.zeroValue46 ?_; intro W2 b5 F2 M2; have O2 := own_belowW HO.out (F2.trans (Below.refl _ _) (Nat.le_refl _)); have B2 : Hid (Below w.heap.size w W2) := F2.trans HB.out HB.out.size; have hb5 : w.heap.size ≤ b5 := Nat.le_trans hwr (Nat.le_of_eq F2.at'.symm); clear F2)
              | (refine wpList_storeS rfl 46 _ _ rfl rfl (ndL ⟨5, fa, fb, th, nm, val⟩) rfl M2 (by simp [noNd, ndL]) infoNd (nd_one _) ?_; intro W3 U3 M3x; have M3 : IsS W3 b5 46 (ndL ⟨5, fa, fb, th, nm, val⟩) := M3x; have O3 : Hid (W3.ownsRow w.heap.size 3 1 _ _ _) := own_updN O2 U3 (own_ne O2 M2 (by decide)); have B3 : Hid (Below w.heap.size w W3) := U3.trans B2.out hb5; have c30 : W3.cell? ⟨b5, 0, none⟩ = some (.int .i64 5) := M3.cell 0; have c31 : W3.cell? ⟨b5, 1, none⟩ = some (.int .i64 fa) := M3.cell 1; have c32 : W3.cell? ⟨b5, 2, none⟩ = some (.int .i64 fb) := M3.cell 2; clear U3 M3x B2 M2 O2))
            go_cut [96] from 16 to 140 (fun c wx => c = .bool (fa != A || fb != (j : Int) - 1) ∧ IsS wx b5 46 (ndL ⟨5, fa, fb, th, nm, val⟩) ∧ Hid (wx.ownsRow w.heap.size 3 1 (.slice (some ⟨g, 0, none⟩) (m + 1 + 1) c0) (m + 1 + 1) (intsL (heapL (y :: x :: r) j))) ∧ Hid (Below w.heap.size w wx))
            case first =>
              have O3' := O3.out
              have cs : W3.cell? ⟨g, m, none⟩ = some (.int .i64 A) := by
                rw [O3'.cellAt m (by omega)]
                refine intsL_get ?_
                have := heap_sec y x r j HSZ.out.1
                rw [HK.out, HA.out] at this
                exact this
              have ct : W3.cell? ⟨g, m + 1, none⟩ = some (.int .i64 ((j : Int) - 1)) := by
                rw [O3'.cellAt (m + 1) (by omega)]
                refine intsL_get ?_
                have := heap_top y (x :: r) j
                rw [List.length_cons, HK.out] at this
                exact this
              clear O3'
              by_cases ha : fa = A
              · subst ha
                have ya : (fa != fa) = false := by simp
                by_cases hfb : fb = (j : Int) - 1
                · subst hfb
                  have yb : ((j : Int) - 1 != (j : Int) - 1) = false := by simp
                  go_quiet (fail)
                  go_wp2_with fail
                  go_meet
                  exact ⟨by rw [ya, yb]; rfl, M3, O3, below_drewN B3.out _⟩

                · have yb : (fb != (j : Int) - 1) = true := by simpa using hfb
                  go_quiet (fail)
                  go_wp2_with fail
                  go_meet
                  exact ⟨by rw [ya, yb]; rfl, M3, O3, below_drewN B3.out _⟩

              · have ya : (fa != A) = true := by simpa using ha
                go_quiet (fail)
                go_wp2_with fail
                go_meet
                exact ⟨by rw [ya]; rfl, M3, O3, below_drewN B3.out _⟩

            case rest =>
              obtain ⟨rfl, M4, O4, B4⟩ := hcut
              clear c30 c31 c32 M3 O3 B3
              obtain ⟨q, hq⟩ : ∃ q, (fa != A || fb != (j : Int) - 1) = q := ⟨_, rfl⟩
              rw [hq]
              cases q
              · obtain ⟨e1, e2⟩ : fa = A ∧ fb = (j : Int) - 1 := by simpa using hq
                subst e1 e2
                clear hq
                go_upto_region 21 with fail
                go_cut [3] from 16 to 140 (fun v wx => IsS wx b5 46 (ndL ⟨5, fa, (j : Int) - 1, th, nm, val⟩) ∧ Hid (wx.ownsRow w.heap.size 3 1 v (m + 1) (intsL ((heapL (y :: x :: r) j).take m ++ [(j : Int)]))) ∧ Hid (Below w.heap.size w wx))
                case first =>
                  go_wp2_with (first
                    | (refine wpList_buildI rfl _ rfl (j : Int) rfl ?_; intro W5 b6 F5 N5; have B5x := F5.trans (Below.refl _ _) (Nat.le_refl _); have O5 : Hid (W5.ownsRow w.heap.size 3 1 (.slice (some ⟨g, 0, none⟩) m c0) m (intsL ((heapL (y :: x :: r) j).take m))) := own_belowW (by have := ownsRow_take m (by omega) O4.out; rw [Nat.mul_one, intsL_take] at this; exact this) B5x; have M5 := M4.grown B5x; have B5 : Hid (Below w.heap.size w W5) := B4.out.trans (B5x.mono B4.out.size); clear F5 B5x)
                    | (at_builtin; refine wpList_appI rfl _ _ rfl w.heap.size (.slice (some ⟨g, 0, none⟩) m c0) m ((heapL (y :: x :: r) j).take m) rfl O5.out b6 1 (j : Int) rfl N5 (by omega) B5.out.size ?_; intro v6 W6 O6x G6; have M6 : IsS W6 b5 46 (ndL ⟨5, fa, (j : Int) - 1, th, nm, val⟩) := (G6.block b5 M5.lt (fun e => own_ne O5.out M5 (by decide) e.symm)).trans M5; have B6 : Hid (Below w.heap.size w W6) := B5.out.grown G6 B5.out.size (fun k hk => (O5.out.lt k hk).1)))
                  go_meet
                  exact ⟨M6, O6x, B6⟩

                case rest =>
                  obtain ⟨M6, O6, B6⟩ := hcut
                  clear M4 O4 B4
                  have c60 : wc.cell? ⟨b5, 0, none⟩ = some (.int .i64 5) := M6.cell 0
                  have c63 : wc.cell? ⟨b5, 3, none⟩ = some (.int .i64 th) := M6.cell 3
                  have c64 : wc.cell? ⟨b5, 4, none⟩ = some (.string nm) := M6.cell 4
                  have c65 : wc.cell? ⟨b5, 5, none⟩ = some (.int .i64 val) := M6.cell 5
                  by_cases hz : th = 0 ∧ nm = noName ∧ val = 0
                  · obtain ⟨z1, z2, z3⟩ := hz
                    unfold noName at z2
                    subst z1 z2 z3
                    have hs' : stepT nmB (y :: x :: r) j ⟨5, fa, (j : Int) - 1, 0, ⟨#[]⟩, 0⟩ = some (.or x y :: r) := by simp [stepT, noName, HA.out]
                    go_wp2_with fail
                    go_roundw
                    case rel => exact ⟨j + 1, .or x y :: r, by omega, by go_num, by have := HK.out; simp only [List.length_cons] at *; omega, HST.out.trans hs', HND.out _ hs', (by show World.ownsRow _ _ _ _ _ _ _; rw [heap_two _ x y r j rfl, List.length_cons, HK.out]; exact O6.out), B6⟩
                    case measure => simp [intOf]; omega

                  · have HF : Hid (V = false) := BAD.out (step_fields (by simp [fieldsB]; intros; simp_all))
                    go_wp2_with fail
                    all_goals first | (go_ret; exact ⟨ret_bool HF.out.symm, B6.out⟩) | exact absurd ⟨by assumption, nm_nil (by assumption), by first | assumption | (rename_i h; simpa using h)⟩ hz

              · 
                have HF : Hid (V = false) := BAD.out (by simp only [stepT, Int.reduceEq, reduceIte]; exact if_neg (fun h => by rw [HA.out] at h; simp [h.1, h.2.1] at hq))
                go_wp2_with fail
                go_ret
                exact ⟨ret_bool HF.out.symm, B4.out⟩

        have HF : Hid (V = false) := BAD.out (step_other h1 h2 h3 h4 h5)
        have e1 : (op == 1) = false := by simpa using h1
        have e2 : (op == 2) = false := by simpa using h2
        have e3 : (op == 3) = false := by simpa using h3
        have e4 : (op == 4) = false := by simpa using h4
        have e5 : (op == 5) = false := by simpa using h5
        clear h1 h2 h3 h4 h5 y1
        obtain ⟨a0, c0, rfl⟩ := own_form HO.out
        go_wp2_with (first
          | (refine wpList_load_mid rfl 46 _ rfl b _ rfl (ndL ⟨op, fa, fb, th, nm, val⟩) _ hrg Try.underlying46 rfl infoNd ?_)
          | (refine wpList_allocS rfl 46 rfl (ndL noNd) Try.zeroValue46 ?_; intro W2 b5 F2 M2; have O2 := own_belowW HO.out (F2.trans (Below.refl _ _) (Nat.le_refl _)); have B2 : Hid (Below w.heap.size w W2) := F2.trans HB.out HB.out.size; have hb5 : w.heap.size ≤ b5 := Nat.le_trans hwr (Nat.le_of_eq F2.at'.symm); clear F2)
          | (refine wpList_storeS rfl 46 _ _ rfl rfl (ndL ⟨op, fa, fb, th, nm, val⟩) rfl M2 (by simp [noNd, ndL]) infoNd (nd_one _) ?_; intro W3 U3 M3x; have M3 : IsS W3 b5 46 (ndL ⟨op, fa, fb, th, nm, val⟩) := M3x; have O3 : Hid (W3.ownsRow w.heap.size 3 1 _ _ _) := own_updN O2 U3 (own_ne O2 M2 (by decide)); have B3 : Hid (Below w.heap.size w W3) := U3.trans B2.out hb5; have c30 : W3.cell? ⟨b5, 0, none⟩ = some (.int .i64 op) := M3.cell 0; have c31 : W3.cell? ⟨b5, 1, none⟩ = some (.int .i64 fa) := M3.cell 1; have c32 : W3.cell? ⟨b5, 2, none⟩ = some (.int .i64 fb) := M3.cell 2; clear U3 M3x B2 M2 O2))
        go_ret
        exact ⟨ret_bool HF.out.symm, B3.out⟩
      · have hjn : j = ns.length := by omega
        subst hjn
        have HE : Hid (V = ((st.length : Int) == 1)) := (by
          show V = _
          rw [← HV.out, treeOf_end hl1 (by omega) HU.out, Bool.eq_iff_iff]
          simp
          omega)
        obtain ⟨a0, c0, rfl⟩ := own_form HO.out
        clear HV HU HT HS hlt
        generalize st.length = k at *
        go_wp2_with fail
        go_ret
        exact ⟨ret_bool HE.out.symm, HB.out⟩
end Go.Proofs.Ytcmkoffamolgmaa

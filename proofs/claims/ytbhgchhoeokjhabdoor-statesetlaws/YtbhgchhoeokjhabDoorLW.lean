/- StateSetLaws: the law. -/
import Derived.Test.YtbhgchhoeokjhabDoorQF
namespace Go.Proofs.YtbhgchhoeokjhabDoor
open Go Go.RowKit M
set_option linter.unusedSimpArgs false
set_option linter.unusedVariables false

theorem wpList_loadEG {w : World} {b o : Nat} {x : FS} {ops : Array Oper} {rest : List Oper} {op : Oper} {a : Act} {Q : Exit → Act → World → Prop} (hw : Region.wanted op (yielded ops a.tmps) = true) (p : Operand) (ho : op.op = .load 27 p) (hp : a.eval p = .pointer (some ⟨b, o, none⟩)) (hc : w.rangeAt b o (encF x))
    (h : wpList Tryd.prog ops Q rest (a.put op.dst (.agg (encF x).toArray)) w) : wpList Tryd.prog ops Q (op :: rest) a w := by
  refine wpList_step fun K hK => ?_
  simp only [hw, if_true]
  unfold Oper.wp
  rw [exec_loadE p ho hp hc]
  exact hK _ _ h
theorem row_new2 (w : World) (x y : FS) : RowV (w.alloc (.cells (flatF [x, y]).toArray 27)) (.slice (some ⟨w.heap.size, 0, none⟩) 2 2) [x, y].length (flatF [x, y]) := by
  have I : IsS (w.alloc (.cells (flatF [x, y]).toArray 27)) w.heap.size 27 (flatF [x, y]) := IsS.new w _ _
  exact ⟨some ⟨w.heap.size, 0, none⟩, 2, rfl, fun j v hv => ⟨w.heap.size, 0, rfl, I.lt, by rw [Nat.zero_add, I.cell]; exact hv⟩, fun e => by cases e⟩
theorem own_slh {w : World} {B n c : Nat} {a : Option Addr} {l : List FS} (h : OwnL w B (.slice a n c) l) : SlH w a n c l := by
  have hs := own_seg' h
  rcases h.2 with ⟨e, h0⟩ | ⟨g, cap, cur, e, hg, hh, hc, hm, hsz, ht⟩
  · injection e with e1 e2 e3
    exact ⟨by omega, by omega, by rw [e3]; unfold maxLen; omega, hs⟩
  · injection e with e1 e2 e3
    exact ⟨by omega, by omega, by omega, hs⟩
/-- What is known of each member of either list. -/
theorem laws_mem {xs ys : List FS} {X : FS} (h : X ∈ xs ++ ys) : okF X = (decide (X ∈ setF xs) || decide (X ∈ setF ys)) := by
  rw [Bool.eq_iff_iff]
  simp only [Bool.or_eq_true, decide_eq_true_eq, mem_setF]
  rcases List.mem_append.1 h with h | h
  · exact ⟨fun k => .inl ⟨h, k⟩, fun k => by rcases k with k | k; exact k.2; exact k.2⟩
  · exact ⟨fun k => .inr ⟨h, k⟩, fun k => by rcases k with k | k; exact k.2; exact k.2⟩
theorem two_dec {f : Bool → Bool → Bool} (hf : f false false = false) {a b : List FS} (ha : Ris a) (hb : Ris b) (X : FS) : decide (X ∈ twoF f a b) = f (decide (X ∈ a)) (decide (X ∈ b)) := by
  rw [Bool.eq_iff_iff, decide_eq_true_eq, mem_twoF ha hb]
  constructor
  · exact fun h => h.2
  · intro h
    refine ⟨?_, h⟩
    by_cases h1 : X ∈ a
    · exact .inl h1
    · by_cases h2 : X ∈ b
      · exact .inr h2
      · rw [decide_eq_false h1, decide_eq_false h2, hf] at h; cases h
set_option maxRecDepth 100000 in
set_option maxHeartbeats 8000000 in
theorem setlaws_in (xs ys : List FS) (a1 a2 : Option Addr) (n1 n2 c1 c2 : Nat) (w : World) (hl1 : xs.length = n1) (hl2 : ys.length = n2) (hS1 : Seg w a1 (flatF xs)) (hS2 : Seg w a2 (flatF ys)) (hz1 : a1 = none → c1 = 0) (hz2 : a2 = none → c2 = 0) (hn : n1 + n2 ≤ 300) (hT : Tab10 w) :
    Calls Tryd.prog 3 #[.slice a1 n1 c1, .slice a2 n2 c2] w fun e w' => e = .returned (.bool true) ∧ Below w.heap.size w w' := by
  have kw := works_any w hT
  have hSa := fun W (h : Seg W a1 (flatF xs)) => sort_any a1 c1 xs (by omega) W h
  have hSb := fun W (h : Seg W a2 (flatF ys)) => sort_any a2 c2 ys (by omega) W h
  simp only [hl1] at hSa
  simp only [hl2] at hSb
  have hSt : ∀ W B a n c, OwnL W B (.slice a n c) (twD xs 0) → Calls Tryd.prog 7 #[.slice a n c] W fun e w' => ∃ v, e = .returned v ∧ OwnL w' W.heap.size v (setF xs) ∧ Below W.heap.size W w' := fun W B a n c h => by
    have hl := (own_slh h).len
    have := sort_any a c (twD xs 0) (by have := twD_len xs 0; omega) W (own_seg' h)
    rw [hl, twD_set] at this
    exact this
  have hmem : ∀ X ∈ xs ++ ys, okF X = (decide (X ∈ setF xs) || decide (X ∈ setF ys)) := fun X h => laws_mem h
  have hE : twoE (setF xs) (setF ys) = 0 := by unfold twoE; rw [(setB_set _).2 (setF_set xs), (setB_set _).2 (setF_set ys)]; simp
  have hL : ∀ f, twoL f (setF xs) (setF ys) = twoF f (setF xs) (setF ys) := fun f => by unfold twoL; rw [(setB_set _).2 (setF_set xs), (setB_set _).2 (setF_set ys)]; simp
  have hU := fun W a b n m c d (h1 : SlH W a n c (setF xs)) (h2 : SlH W b m d (setF ys)) (k1 : n ≤ 8000) (k2 : m ≤ 8000) => union_any (setF xs) (setF ys) a b n m c d W h1 h2 k1 k2
  have hM := fun W a b n m c d (h1 : SlH W a n c (setF xs)) (h2 : SlH W b m d (setF ys)) (k1 : n ≤ 8000) (k2 : m ≤ 8000) => meet_any (setF xs) (setF ys) a b n m c d W h1 h2 k1 k2
  have hN := fun W a b n m c d (h1 : SlH W a n c (setF xs)) (h2 : SlH W b m d (setF ys)) (k1 : n ≤ 8000) (k2 : m ≤ 8000) => minus_any (setF xs) (setF ys) a b n m c d W h1 h2 k1 k2
  simp only [hE, hL] at hU hM hN
  clear hE hL
  have du := fun X => two_dec (f := orB) rfl (setF_ris xs) (setF_ris ys) X
  have dm := fun X => two_dec (f := andB) rfl (setF_ris xs) (setF_ris ys) X
  have dn := fun X => two_dec (f := subB) rfl (setF_ris xs) (setF_ris ys) X
  have q1 := two_lens (setF xs) (setF ys)
  have q2 := two_lens2 (setF xs) (setF ys)
  have q3 := setF_len xs
  have q4 := setF_len ys
  have sB : setB (setF xs) = true := (setB_set _).2 (setF_set xs)
  have sU : setB (twoF orB (setF xs) (setF ys)) = true := (setB_set _).2 (two_set (setF_set xs) (setF_set ys))
  have sS := setF_same (setF_set xs)
  have HR : Hid (Ris (setF xs)) := setF_ris xs
  generalize setF xs = SA at *
  generalize setF ys = SB at *
  generalize twoF orB SA SB = LU at *
  generalize twoF andB SA SB = LM at *
  generalize twoF subB SA SB = LN at *
  have hSs := fun W a c (h : Seg W a (flatF SA)) => sort_any a c SA (by omega) W h
  rw [sS] at hSs
  have hSame := fun W a b c d (h1 : Seg W a (flatF SA)) (h2 : Seg W b (flatF SA)) => same_same a b c d SA (by omega) W h1 h2
  have hRs := fun W a c (h : Seg W a (flatF SA)) => rises_any a c SA (by omega) W h
  have hRu := fun W a c (h : Seg W a (flatF LU)) => rises_any a c LU (by omega) W h
  rw [sB] at hRs
  rw [sU] at hRu
  have iS := fun W a c X (h : Seg W a (flatF SA)) => in_any a c SA X (by omega) W h
  have iT := fun W a c X (h : Seg W a (flatF SB)) => in_any a c SB X (by omega) W h
  have iU := fun W a c X (h : Seg W a (flatF LU)) => in_any a c LU X (by omega) W h
  have iM := fun W a c X (h : Seg W a (flatF LM)) => in_any a c LM X (by omega) W h
  have iN := fun W a c X (h : Seg W a (flatF LN)) => in_any a c LN X (by omega) W h
  have fS := fun W a c X (h : Seg W a (flatF SA)) => find_any a c SA X (by omega) HR.out W h
  obtain ⟨m1, hm1⟩ : ∃ m, SA.length = m := ⟨_, rfl⟩
  obtain ⟨m2, hm2⟩ : ∃ m, SB.length = m := ⟨_, rfl⟩
  obtain ⟨mu, hmu⟩ : ∃ m, LU.length = m := ⟨_, rfl⟩
  obtain ⟨mm, hmm⟩ : ∃ m, LM.length = m := ⟨_, rfl⟩
  obtain ⟨mn, hmn⟩ : ∃ m, LN.length = m := ⟨_, rfl⟩
  simp only [hm1] at hSs hSame hRs iS fS
  simp only [hm2] at iT
  simp only [hmu] at hRu iU
  simp only [hmm] at iM
  simp only [hmn] at iN
  have g1 : (m1 : Int) ≤ 300 := by omega
  have g2 : (m2 : Int) ≤ 300 := by omega
  have gu : (mu : Int) ≤ 600 := by omega
  have gm : (mm : Int) ≤ 600 := by omega
  have gn : (mn : Int) ≤ 600 := by omega
  have k1 : m1 ≤ 8000 := by omega
  have k2 : m2 ≤ 8000 := by omega
  have eL1 : ((mu : Int) + (mm : Int) != (m1 : Int) + (m2 : Int)) = false := by simp; omega
  have eL2 : ((mn : Int) + (mm : Int) != (m1 : Int)) = false := by simp; omega
  have HM1 : Hid (SA.length = m1) := hm1
  have HM2 : Hid (SB.length = m2) := hm2
  have HMU : Hid (LU.length = mu) := hmu
  have HMM : Hid (LM.length = mm) := hmm
  have HMN : Hid (LN.length = mn) := hmn
  have HL1 : Hid (xs.length = n1) := hl1
  have HL2 : Hid (ys.length = n2) := hl2
  have HS1 : Hid (Seg w a1 (flatF xs)) := hS1
  have HS2 : Hid (Seg w a2 (flatF ys)) := hS2
  have num := fun W => num_any 0 W
  have hgt : ¬ ((300 : Int) < (n1 : Int) + (n2 : Int)) := by omega
  have hi1 : (n1 : Int) ≤ 300 := by omega
  have hi2 : (n2 : Int) ≤ 300 := by omega
  clear q1 q2 q3 q4 hm1 hm2 hmu hmm hmn hl1 hl2 hS1 hS2 sB sU sS
  have t1 : True := trivial
  go_enter Tryd.func3, Tryd.ntmps3
  go_wp2_with (first
    | (go_at_call 6; refine kw.mono ?_; rintro e w1 ⟨rfl, B1⟩; clear kw)
    | (clear t1; go_at_call 7; refine (hSa _ (HS1.out.below B1)).mono ?_; rintro e w2 ⟨vs, rfl, O2, B2⟩; obtain ⟨ps, cs, hvs, -⟩ := own_slice O2 HM1.out; subst hvs; have B02 := Below.then B1 B2; have t2 : True := trivial; clear hSa)
    | (clear t2; go_at_call 7; refine (hSb _ (HS2.out.below B02)).mono ?_; rintro e w3 ⟨vt, rfl, O3, B3⟩; obtain ⟨pt, ct, hvt, -⟩ := own_slice O3 HM2.out; subst hvt; have B03 := Below.then B02 B3; have O3s := own_belowW O2 B3; clear hSb O2))
  have Ss3 := own_slh O3s
  have St3 := own_slh O3
  have HSs : Hid (SlH w3 ps m1 cs SA) := Ss3
  have HSt : Hid (SlH w3 pt m2 ct SB) := St3
  clear O3s O3 Ss3 St3
  go_loopw [7, 8] (fun v i wr => ∃ j : Nat, j ≤ n1 ∧ i = .int .i64 ((j : Int) - 1) ∧ Hid (OwnL wr w3.heap.size v (twD xs j)) ∧ Below w3.heap.size w3 wr) (fun _ i _ => (intOf i + 1).toNat)
  case atStart => exact ⟨n1, Nat.le_refl _, rfl, by show OwnL _ _ _ _; rw [← HL1.out, twD_end]; exact World.ownsRow_nil _ _ _ _, Below.refl _ _⟩
  case round =>
    obtain ⟨j, hj, rfl, HO, BR⟩ := hrel
    cases j with
    | succ j =>
      have ei : ((j + 1 : Nat) : Int) - 1 = (j : Int) := by omega
      have hjl : j < xs.length := by rw [HL1.out]; omega
      have hiX : (j : Int) < (n1 : Int) := by omega
      obtain ⟨b, o, ea, HB, HX⟩ := seg_elem (HS1.out.below (Below.then B03 BR)) j hjl
      subst ea
      have HT : Hid (twD xs j = twD xs (j + 1) ++ [xs.getD j FS.zero, xs.getD j FS.zero]) := twD_step xs j hjl
      have hfl : (twD xs (j + 1)).length ≤ 600 := by have := twD_len xs (j + 1); rw [HL1.out] at this; omega
      have HFL : Hid ((twD xs (j + 1)).length ≤ 600) := hfl
      obtain ⟨av, cv, hv⟩ := own_form HO.out
      subst hv
      generalize twD xs (j + 1) = out at *
      generalize xs.getD j FS.zero = X at *
      obtain ⟨ol, hol⟩ : ∃ n, out.length = n := ⟨_, rfl⟩
      rw [hol] at HO ⊢
      have HOL : Hid (out.length = ol) := hol
      rw [ei]
      have hsR := BR.size
      clear hol hfl ei
      go_wp2
      refine region_invA 10 (fun a0 listed a' w' => ∃ x40 x41 x42 x43 x44 x45 x46 x47 x48 x49 : Value, a' = ((((((((((a0.put (some 40) x40).put (some 41) x41).put (some 42) x42).put (some 43) x43).put (some 44) x44).put (some 45) x45).put (some 46) x46).put (some 47) x47).put (some 48) x48).put (some 49) x49) ∧ Hid (Below wr.heap.size wr w') ∧ (listed.getD 0 false = true → x40 = (.slice av ol cv)) ∧ (listed.getD 1 false = true → x41 = (.slice (some ⟨b, o, none⟩) n1 c1)) ∧ (listed.getD 2 false = true → x42 = (.int .i64 (j : Int))) ∧ (listed.getD 3 false = true → x43 = (.pointer (some ⟨b, o + j * 49, none⟩))) ∧ (listed.getD 4 false = true → x44 = (.agg (encF X).toArray)) ∧ (listed.getD 5 false = true → x45 = (.slice (some ⟨b, o, none⟩) n1 c1)) ∧ (listed.getD 6 false = true → x46 = (.int .i64 (j : Int))) ∧ (listed.getD 7 false = true → x47 = (.pointer (some ⟨b, o + j * 49, none⟩))) ∧ (listed.getD 8 false = true → x48 = (.agg (encF X).toArray)) ∧ (listed.getD 9 false = true → ∃ b6, x49 = .slice (some ⟨b6, 0, none⟩) 2 2 ∧ RowV w' (.slice (some ⟨b6, 0, none⟩) 2 2) [X, X].length (flatF [X, X]))) (by kernel_rfl) (by kernel_rfl) ?i0 ?istep ?iend
      case i0 => exact ⟨_, _, _, _, _, _, _, _, _, _, by first | (simp only [Act.put, List.setIfInBounds_toArray, List.set_cons_succ, List.set_cons_zero]; done) | (simp only [Act.put, List.setIfInBounds_toArray, List.set_cons_succ, List.set_cons_zero]; rfl) | rfl, below_drew (Below.refl _ _), fun h => (not_rep h).elim, fun h => (not_rep h).elim, fun h => (not_rep h).elim, fun h => (not_rep h).elim, fun h => (not_rep h).elim, fun h => (not_rep h).elim, fun h => (not_rep h).elim, fun h => (not_rep h).elim, fun h => (not_rep h).elim, fun h => (not_rep h).elim⟩
      case istep =>
        rintro i listed a' w' hi hr ⟨x40, x41, x42, x43, x44, x45, x46, x47, x48, x49, rfl, HBw, d0, d1, d2, d3, d4, d5, d6, d7, d8, d9⟩
        obtain ⟨hun, oj, hoj, hwt⟩ := mem_ready.1 hr
        simp only [Act.put, List.setIfInBounds_toArray, List.set_cons_succ, List.set_cons_zero]
        have hcase : i = 0 ∨ i = 1 ∨ i = 2 ∨ i = 3 ∨ i = 4 ∨ i = 5 ∨ i = 6 ∨ i = 7 ∨ i = 8 ∨ i = 9 := by omega
        rcases hcase with rfl | rfl | rfl | rfl | rfl | rfl | rfl | rfl | rfl | rfl
        · have hoj2 := hoj
          obtain rfl := Option.some.inj hoj
          refine wpOp_value hoj2 rfl (v := (.slice av ol cv)) (w' := w') (by first | rfl | (go_simp; done) | (simp [go_sem]; done) | (simp [execOp, go_sem]; done)) ?_
          exact ⟨(.slice av ol cv), x41, x42, x43, x44, x45, x46, x47, x48, x49, by first | (simp only [Act.put, List.setIfInBounds_toArray, List.set_cons_succ, List.set_cons_zero]; done) | (simp only [Act.put, List.setIfInBounds_toArray, List.set_cons_succ, List.set_cons_zero]; rfl) | rfl, Below.then HBw.out (Below.refl _ _), fun _ => rfl, fun h => (d1 (keep (by decide) h)), fun h => (d2 (keep (by decide) h)), fun h => (d3 (keep (by decide) h)), fun h => (d4 (keep (by decide) h)), fun h => (d5 (keep (by decide) h)), fun h => (d6 (keep (by decide) h)), fun h => (d7 (keep (by decide) h)), fun h => (d8 (keep (by decide) h)), fun h => (Exists.elim (d9 (keep (by decide) h)) fun b6 h => ⟨b6, h.1, h.2.below (Below.refl _ _)⟩)⟩
        · have hoj2 := hoj
          obtain rfl := Option.some.inj hoj
          refine wpOp_value hoj2 rfl (v := (.slice (some ⟨b, o, none⟩) n1 c1)) (w' := w') (by first | rfl | (go_simp; done) | (simp [go_sem]; done) | (simp [execOp, go_sem]; done)) ?_
          exact ⟨x40, (.slice (some ⟨b, o, none⟩) n1 c1), x42, x43, x44, x45, x46, x47, x48, x49, by first | (simp only [Act.put, List.setIfInBounds_toArray, List.set_cons_succ, List.set_cons_zero]; done) | (simp only [Act.put, List.setIfInBounds_toArray, List.set_cons_succ, List.set_cons_zero]; rfl) | rfl, Below.then HBw.out (Below.refl _ _), fun h => (d0 (keep (by decide) h)), fun _ => rfl, fun h => (d2 (keep (by decide) h)), fun h => (d3 (keep (by decide) h)), fun h => (d4 (keep (by decide) h)), fun h => (d5 (keep (by decide) h)), fun h => (d6 (keep (by decide) h)), fun h => (d7 (keep (by decide) h)), fun h => (d8 (keep (by decide) h)), fun h => (Exists.elim (d9 (keep (by decide) h)) fun b6 h => ⟨b6, h.1, h.2.below (Below.refl _ _)⟩)⟩
        · have hoj2 := hoj
          obtain rfl := Option.some.inj hoj
          refine wpOp_value hoj2 rfl (v := (.int .i64 (j : Int))) (w' := w') (by first | rfl | (go_simp; done) | (simp [go_sem]; done) | (simp [execOp, go_sem]; done)) ?_
          exact ⟨x40, x41, (.int .i64 (j : Int)), x43, x44, x45, x46, x47, x48, x49, by first | (simp only [Act.put, List.setIfInBounds_toArray, List.set_cons_succ, List.set_cons_zero]; done) | (simp only [Act.put, List.setIfInBounds_toArray, List.set_cons_succ, List.set_cons_zero]; rfl) | rfl, Below.then HBw.out (Below.refl _ _), fun h => (d0 (keep (by decide) h)), fun h => (d1 (keep (by decide) h)), fun _ => rfl, fun h => (d3 (keep (by decide) h)), fun h => (d4 (keep (by decide) h)), fun h => (d5 (keep (by decide) h)), fun h => (d6 (keep (by decide) h)), fun h => (d7 (keep (by decide) h)), fun h => (d8 (keep (by decide) h)), fun h => (Exists.elim (d9 (keep (by decide) h)) fun b6 h => ⟨b6, h.1, h.2.below (Below.refl _ _)⟩)⟩
        · have hoj2 := hoj
          obtain rfl := Option.some.inj hoj
          have e1 := d1 (hwt ⟨1, .data⟩ (by simp) rfl)
          have e2 := d2 (hwt ⟨2, .data⟩ (by simp) rfl)
          subst e1
          subst e2
          refine wpOp_value hoj2 rfl (v := (.pointer (some ⟨b, o + j * 49, none⟩))) (w' := w') (by first | rfl | (go_simp; done) | (simp [go_sem]; done) | (simp [execOp, go_sem]; done) | (simp [execOp, go_sem, hiX]; done)) ?_
          exact ⟨x40, (.slice (some ⟨b, o, none⟩) n1 c1), (.int .i64 (j : Int)), (.pointer (some ⟨b, o + j * 49, none⟩)), x44, x45, x46, x47, x48, x49, by first | (simp only [Act.put, List.setIfInBounds_toArray, List.set_cons_succ, List.set_cons_zero]; done) | (simp only [Act.put, List.setIfInBounds_toArray, List.set_cons_succ, List.set_cons_zero]; rfl) | rfl, Below.then HBw.out (Below.refl _ _), fun h => (d0 (keep (by decide) h)), fun h => (d1 (keep (by decide) h)), fun h => (d2 (keep (by decide) h)), fun _ => rfl, fun h => (d4 (keep (by decide) h)), fun h => (d5 (keep (by decide) h)), fun h => (d6 (keep (by decide) h)), fun h => (d7 (keep (by decide) h)), fun h => (d8 (keep (by decide) h)), fun h => (Exists.elim (d9 (keep (by decide) h)) fun b6 h => ⟨b6, h.1, h.2.below (Below.refl _ _)⟩)⟩
        · have hoj2 := hoj
          obtain rfl := Option.some.inj hoj
          have e3 := d3 (hwt ⟨3, .data⟩ (by simp) rfl)
          subst e3
          refine wpOp_value hoj2 rfl (v := (.agg (encF X).toArray)) (w' := w') (exec_loadE (b := b) (o := o + j * 49) (x := X) _ rfl rfl (range_below HX HBw.out HB)) ?_
          exact ⟨x40, x41, x42, (.pointer (some ⟨b, o + j * 49, none⟩)), (.agg (encF X).toArray), x45, x46, x47, x48, x49, by first | (simp only [Act.put, List.setIfInBounds_toArray, List.set_cons_succ, List.set_cons_zero]; done) | (simp only [Act.put, List.setIfInBounds_toArray, List.set_cons_succ, List.set_cons_zero]; rfl) | rfl, Below.then HBw.out (Below.refl _ _), fun h => (d0 (keep (by decide) h)), fun h => (d1 (keep (by decide) h)), fun h => (d2 (keep (by decide) h)), fun h => (d3 (keep (by decide) h)), fun _ => rfl, fun h => (d5 (keep (by decide) h)), fun h => (d6 (keep (by decide) h)), fun h => (d7 (keep (by decide) h)), fun h => (d8 (keep (by decide) h)), fun h => (Exists.elim (d9 (keep (by decide) h)) fun b6 h => ⟨b6, h.1, h.2.below (Below.refl _ _)⟩)⟩
        · have hoj2 := hoj
          obtain rfl := Option.some.inj hoj
          refine wpOp_value hoj2 rfl (v := (.slice (some ⟨b, o, none⟩) n1 c1)) (w' := w') (by first | rfl | (go_simp; done) | (simp [go_sem]; done) | (simp [execOp, go_sem]; done)) ?_
          exact ⟨x40, x41, x42, x43, x44, (.slice (some ⟨b, o, none⟩) n1 c1), x46, x47, x48, x49, by first | (simp only [Act.put, List.setIfInBounds_toArray, List.set_cons_succ, List.set_cons_zero]; done) | (simp only [Act.put, List.setIfInBounds_toArray, List.set_cons_succ, List.set_cons_zero]; rfl) | rfl, Below.then HBw.out (Below.refl _ _), fun h => (d0 (keep (by decide) h)), fun h => (d1 (keep (by decide) h)), fun h => (d2 (keep (by decide) h)), fun h => (d3 (keep (by decide) h)), fun h => (d4 (keep (by decide) h)), fun _ => rfl, fun h => (d6 (keep (by decide) h)), fun h => (d7 (keep (by decide) h)), fun h => (d8 (keep (by decide) h)), fun h => (Exists.elim (d9 (keep (by decide) h)) fun b6 h => ⟨b6, h.1, h.2.below (Below.refl _ _)⟩)⟩
        · have hoj2 := hoj
          obtain rfl := Option.some.inj hoj
          refine wpOp_value hoj2 rfl (v := (.int .i64 (j : Int))) (w' := w') (by first | rfl | (go_simp; done) | (simp [go_sem]; done) | (simp [execOp, go_sem]; done)) ?_
          exact ⟨x40, x41, x42, x43, x44, x45, (.int .i64 (j : Int)), x47, x48, x49, by first | (simp only [Act.put, List.setIfInBounds_toArray, List.set_cons_succ, List.set_cons_zero]; done) | (simp only [Act.put, List.setIfInBounds_toArray, List.set_cons_succ, List.set_cons_zero]; rfl) | rfl, Below.then HBw.out (Below.refl _ _), fun h => (d0 (keep (by decide) h)), fun h => (d1 (keep (by decide) h)), fun h => (d2 (keep (by decide) h)), fun h => (d3 (keep (by decide) h)), fun h => (d4 (keep (by decide) h)), fun h => (d5 (keep (by decide) h)), fun _ => rfl, fun h => (d7 (keep (by decide) h)), fun h => (d8 (keep (by decide) h)), fun h => (Exists.elim (d9 (keep (by decide) h)) fun b6 h => ⟨b6, h.1, h.2.below (Below.refl _ _)⟩)⟩
        · have hoj2 := hoj
          obtain rfl := Option.some.inj hoj
          have e5 := d5 (hwt ⟨5, .data⟩ (by simp) rfl)
          have e6 := d6 (hwt ⟨6, .data⟩ (by simp) rfl)
          subst e5
          subst e6
          refine wpOp_value hoj2 rfl (v := (.pointer (some ⟨b, o + j * 49, none⟩))) (w' := w') (by first | rfl | (go_simp; done) | (simp [go_sem]; done) | (simp [execOp, go_sem]; done) | (simp [execOp, go_sem, hiX]; done)) ?_
          exact ⟨x40, x41, x42, x43, x44, (.slice (some ⟨b, o, none⟩) n1 c1), (.int .i64 (j : Int)), (.pointer (some ⟨b, o + j * 49, none⟩)), x48, x49, by first | (simp only [Act.put, List.setIfInBounds_toArray, List.set_cons_succ, List.set_cons_zero]; done) | (simp only [Act.put, List.setIfInBounds_toArray, List.set_cons_succ, List.set_cons_zero]; rfl) | rfl, Below.then HBw.out (Below.refl _ _), fun h => (d0 (keep (by decide) h)), fun h => (d1 (keep (by decide) h)), fun h => (d2 (keep (by decide) h)), fun h => (d3 (keep (by decide) h)), fun h => (d4 (keep (by decide) h)), fun h => (d5 (keep (by decide) h)), fun h => (d6 (keep (by decide) h)), fun _ => rfl, fun h => (d8 (keep (by decide) h)), fun h => (Exists.elim (d9 (keep (by decide) h)) fun b6 h => ⟨b6, h.1, h.2.below (Below.refl _ _)⟩)⟩
        · have hoj2 := hoj
          obtain rfl := Option.some.inj hoj
          have e7 := d7 (hwt ⟨7, .data⟩ (by simp) rfl)
          subst e7
          refine wpOp_value hoj2 rfl (v := (.agg (encF X).toArray)) (w' := w') (exec_loadE (b := b) (o := o + j * 49) (x := X) _ rfl rfl (range_below HX HBw.out HB)) ?_
          exact ⟨x40, x41, x42, x43, x44, x45, x46, (.pointer (some ⟨b, o + j * 49, none⟩)), (.agg (encF X).toArray), x49, by first | (simp only [Act.put, List.setIfInBounds_toArray, List.set_cons_succ, List.set_cons_zero]; done) | (simp only [Act.put, List.setIfInBounds_toArray, List.set_cons_succ, List.set_cons_zero]; rfl) | rfl, Below.then HBw.out (Below.refl _ _), fun h => (d0 (keep (by decide) h)), fun h => (d1 (keep (by decide) h)), fun h => (d2 (keep (by decide) h)), fun h => (d3 (keep (by decide) h)), fun h => (d4 (keep (by decide) h)), fun h => (d5 (keep (by decide) h)), fun h => (d6 (keep (by decide) h)), fun h => (d7 (keep (by decide) h)), fun _ => rfl, fun h => (Exists.elim (d9 (keep (by decide) h)) fun b6 h => ⟨b6, h.1, h.2.below (Below.refl _ _)⟩)⟩
        · have hoj2 := hoj
          obtain rfl := Option.some.inj hoj
          have e4 := d4 (hwt ⟨4, .data⟩ (by simp) rfl)
          have e8 := d8 (hwt ⟨8, .data⟩ (by simp) rfl)
          subst e4 e8
          refine wpOp_value hoj2 rfl (exec_build2F _ _ rfl X X rfl rfl) ?_
          have B9 := fresh_b (Fresh.alloc w' (.cells (flatF [X, X]).toArray 27))
          exact ⟨x40, x41, x42, x43, (.agg (encF X).toArray), x45, x46, x47, (.agg (encF X).toArray), _, by first | (simp only [Act.put, List.setIfInBounds_toArray, List.set_cons_succ, List.set_cons_zero]; done) | (simp only [Act.put, List.setIfInBounds_toArray, List.set_cons_succ, List.set_cons_zero]; rfl) | rfl, Below.then HBw.out B9, fun h => (d0 (keep (by decide) h)), fun h => (d1 (keep (by decide) h)), fun h => (d2 (keep (by decide) h)), fun h => (d3 (keep (by decide) h)), fun h => (d4 (keep (by decide) h)), fun h => (d5 (keep (by decide) h)), fun h => (d6 (keep (by decide) h)), fun h => (d7 (keep (by decide) h)), fun h => (d8 (keep (by decide) h)), fun _ => ⟨_, rfl, row_new2 w' X X⟩⟩
      case iend =>
        rintro a' w' ⟨x40, x41, x42, x43, x44, x45, x46, x47, x48, x49, rfl, HBw, d0, d1, d2, d3, d4, d5, d6, d7, d8, d9⟩
        replace d0 := d0 rfl
        replace d1 := d1 rfl
        replace d2 := d2 rfl
        replace d3 := d3 rfl
        replace d4 := d4 rfl
        replace d5 := d5 rfl
        replace d6 := d6 rfl
        replace d7 := d7 rfl
        replace d8 := d8 rfl
        replace d9 := d9 rfl
        simp only [Act.put, List.setIfInBounds_toArray, List.set_cons_succ, List.set_cons_zero]
        simp only [List.drop_succ_cons, List.drop_zero]
        obtain ⟨b6, e49, V6⟩ := d9
        subst e49 d0 d1 d2 d3 d4 d5 d6 d7 d8
        have B5 := HBw.out
        have O6 := own_belowW HO.out B5
        have BR6 := Below.then BR B5
        clear HX HO HBw
        go_wp2_with (first
          | (at_builtin; refine wpList_appL rfl _ _ rfl w3.heap.size (.slice av ol cv) out rfl O6 (.slice (some ⟨b6, 0, none⟩) 2 2) [X, X] rfl V6 (by have := HFL.out; simp; omega) BR6.size ?_; intro v7 w7 O7 G7; have B7 := grown_below BR6 O6 BR6.size G7))
        go_roundw
        case rel => exact ⟨j, by omega, by go_num, by show OwnL _ _ _ _; rw [HT.out]; exact O7, B7⟩
        case measure => first | (simp [intOf]; done) | (simp [intOf]; omega)
    | zero =>
      have ei : ((0 : Nat) : Int) - 1 = -1 := by omega
      rw [ei]
      obtain ⟨pw, cw, hvw⟩ := own_form HO.out
      subst hvw
      obtain ⟨nt, hnt⟩ : ∃ n, (twD xs 0).length = n := ⟨_, rfl⟩
      rw [hnt] at HO ⊢
      have B0R := Below.then B03 BR
      clear ei hnt
      have HSR := HSs.out.below BR
      have HTR := HSt.out.below BR
      have t3 : True := trivial
      have t7 : True := trivial
      have hV1 : Hid (RowV w (.slice a1 n1 c1) xs.length (flatF xs)) := ⟨a1, c1, by rw [HL1.out], HS1.out, hz1⟩
      have hV2 : Hid (RowV w (.slice a2 n2 c2) ys.length (flatF ys)) := ⟨a2, c2, by rw [HL2.out], HS2.out, hz2⟩
      go_wp2_with (first
        | (go_at_call 8; refine (hU _ ps pt m1 m2 cs ct HSR HTR k1 k2).mono ?_; rintro e w4 ⟨vu, rfl, O4, B4⟩; obtain ⟨pu, cu, hvu, -⟩ := own_slice O4 HMU.out; subst hvu; clear hU)
        | (go_at_call 9; refine (hM _ ps pt m1 m2 cs ct (HSR.below B4) (HTR.below B4) k1 k2).mono ?_; rintro e w5 ⟨vm, rfl, O5, B5⟩; obtain ⟨pm, cm, hvm, -⟩ := own_slice O5 HMM.out; subst hvm; have BR5 := Below.then B4 B5; clear hM)
        | (go_at_call 10; refine (hN _ ps pt m1 m2 cs ct (HSR.below BR5) (HTR.below BR5) k1 k2).mono ?_; rintro e w6 ⟨vn, rfl, O6, B6⟩; obtain ⟨pn, cn, hvn, -⟩ := own_slice O6 HMN.out; subst hvn; have BR6 := Below.then BR5 B6; have Su := own_seg' (own_belowW O4 (Below.then B5 B6)); have Sm := own_seg' (own_belowW O5 B6); have Sn := own_seg' O6; have Sa := (HSR.below BR6).seg; have Sb := (HTR.below BR6).seg; have B06 := Below.then B0R BR6; have O6w := own_belowW HO.out BR6; clear hN O4 O5 O6)
        | (clear t3; go_at_call 7; refine (hSt _ _ pw nt cw O6w).mono ?_; rintro e w7 ⟨v7, rfl, O7, B7⟩; obtain ⟨p7, c7, hv7, -⟩ := own_slice O7 HM1.out; subst hv7; have S7 := own_seg' O7; have t4 : True := trivial; clear hSt O7)
        | (clear t4; go_at_call 11; refine (hSame _ p7 ps c7 cs S7 (Sa.below B7)).mono ?_; rintro e w8 ⟨rfl, B8⟩; have B68 := Below.then B7 B8; have t5 : True := trivial; clear S7)
        | (clear t5; go_at_call 7; refine (hSs _ ps cs (Sa.below B68)).mono ?_; rintro e w9 ⟨v9, rfl, O9, B9⟩; obtain ⟨p9, c9, hv9, -⟩ := own_slice O9 HM1.out; subst hv9; have S9 := own_seg' O9; have B69 := Below.then B68 B9; have t6 : True := trivial; clear hSs O9)
        | (clear t6; go_at_call 11; refine (hSame _ p9 ps c9 cs S9 (Sa.below B69)).mono ?_; rintro e w10 ⟨rfl, B10⟩; have B610 := Below.then B69 B10; clear S9 hSame)
        | (clear t7; go_at_call 12; refine (hRs _ ps cs (Sa.below B610)).mono ?_; rintro e w11 ⟨rfl, B11⟩; have B611 := Below.then B610 B11; have t8 : True := trivial; clear hRs)
        | (clear t8; go_at_call 12; refine (hRu _ pu cu (Su.below B611)).mono ?_; rintro e w12 ⟨rfl, B12⟩; have B612 := Below.then B611 B12; have B012 := Below.then B06 B612; have t9 : True := trivial; have t10 : True := trivial; clear hRu)
        | (go_at_call 13; refine (num _).mono ?_; rintro e w' ⟨rfl, hw'⟩; replace hw' := hw'.symm; subst hw')
        | (refine wpList_b0L rfl rfl ?_; intro w13 v13 B13 O13; have B013 := Below.then B012 B13; have z13 := B13.size)
        | (clear t9; at_builtin; refine wpList_appL rfl _ _ rfl w12.heap.size v13 [] rfl O13 (.slice a1 n1 c1) xs rfl (hV1.out.below B013) (by rw [HL1.out]; simp; omega) z13 ?_; intro v14 w14 O14 G14; have C14 := grown_below B13 O13 z13 G14; rw [List.nil_append] at O14)
        | (clear t10; at_builtin; refine wpList_appL rfl _ _ rfl w12.heap.size v14 xs rfl O14 (.slice a2 n2 c2) ys rfl (hV2.out.below (Below.then B012 C14)) (by rw [HL1.out, HL2.out]; omega) C14.size ?_; intro v15 w15 O15 G15; have C15 := grown_below C14 O14 C14.size G15))
      obtain ⟨pa, ca, hva⟩ := own_form O15
      subst hva
      obtain ⟨na, hna⟩ : ∃ n, (xs ++ ys).length = n := ⟨_, rfl⟩
      rw [hna] at O15 ⊢
      have hnaI : (na : Int) ≤ 300 := by have := hna; rw [List.length_append, HL1.out, HL2.out] at this; omega
      have HNA : Hid ((xs ++ ys).length = na) := hna
      have B615 := Below.then B612 C15
      have B015 := Below.then B012 C15
      have Al := own_seg' O15
      have Ta := Sa.below B615
      have Tb := Sb.below B615
      have Tu := Su.below B615
      have Tm := Sm.below B615
      have Tn := Sn.below B615
      clear hna Sa Sb Su Sm Sn O15 O14 O13 G14 G15 hV1 hV2 HSR HTR HO O6w
      go_loopw [16] (fun i wr => ∃ k : Nat, k ≤ na ∧ i = .int .i64 (k : Int) ∧ Below w15.heap.size w15 wr) (fun i _ => na - (intOf i).toNat)
      case atStart => exact ⟨0, Nat.zero_le _, rfl, Below.refl _ _⟩
      case round =>
        obtain ⟨k, hk, rfl, BK⟩ := hrel
        by_cases hlt : k < na
        · have hkl : k < (xs ++ ys).length := by rw [HNA.out]; exact hlt
          have hkI : (k : Int) < (na : Int) := by omega
          obtain ⟨b, o, ea, HB, HX⟩ := seg_elem (Al.below BK) k hkl
          subst ea
          have hXm : (xs ++ ys).getD k FS.zero ∈ xs ++ ys := by rw [getD_at _ k hkl]; exact List.getElem_mem hkl
          generalize (xs ++ ys).getD k FS.zero = X at *
          have e1 := hmem X hXm
          have e2 := du X
          have e3 := dm X
          have e4 := dn X
          have jS := fun W h => iS W ps cs X h
          have jT := fun W h => iT W pt ct X h
          have jU := fun W h => iU W pu cu X h
          have jM := fun W h => iM W pm cm X h
          have jN := fun W h => iN W pn cn X h
          have jF := fun W h => fS W ps cs X h
          have jC := fun W => check_ans X W
          have hck : ckF X = if okF X then 0 else 4 := rfl
          simp only [e2] at jU
          simp only [e3] at jM
          simp only [e4] at jN
          have HFm : ∀ p, FindAt SA X p → decide (X ∈ SA) = true → p < m1 ∧ SA.getD p FS.zero = X := fun p hf hd => by
            have hp : p < SA.length := by
              by_cases hp : p < SA.length
              · exact hp
              · rw [hf.none hp] at hd; cases hd
            exact ⟨by rw [← HM1.out]; exact hp, of_decide_eq_true ((hf.mem HR.out hp).trans hd)⟩
          have HFh : Hid (∀ p, FindAt SA X p → decide (X ∈ SA) = true → p < m1 ∧ SA.getD p FS.zero = X) := HFm
          clear HFm
          generalize decide (X ∈ SA) = dx at *
          generalize decide (X ∈ SB) = dy at *
          rw [hck, e1] at jC
          clear hck e1 e2 e3 e4 hmem du dm dn iS iT iU iM iN fS hXm num
          cases dx with
          | true =>
            cases dy with
            | true =>
              simp only [orB, andB, subB, Bool.or_true, Bool.true_or, Bool.or_false, Bool.false_or, Bool.and_true, Bool.and_false, Bool.true_and, Bool.false_and, Bool.not_true, Bool.not_false, if_true, Bool.false_eq_true, if_false] at jU jM jN jC
              have tl0 : True := trivial
              go_wp2_with (first
                | (clear tl0; refine wpList_loadEG (x := X) (by rfl) _ rfl rfl HX ?_; have tc0 : True := trivial)
                | (clear tc0; go_at_call 14; refine (jS _ ((Ta.below BK).below (Below.refl _ _))).mono ?_; rintro e z1 ⟨rfl, D1⟩; have E1 : Below wr.heap.size wr z1 := D1; have HX1 : z1.rangeAt b (o + k * 49) (encF X) := range_below HX E1 HB; have tl1 : True := trivial)
                | (clear tl1; refine wpList_loadEG (x := X) (by rfl) _ rfl rfl HX1 ?_; have tc1 : True := trivial)
                | (clear tc1; go_at_call 14; refine (jT _ ((Tb.below BK).below E1)).mono ?_; rintro e z2 ⟨rfl, D2⟩; have E2 : Below wr.heap.size wr z2 := Below.then E1 D2; have HX2 : z2.rangeAt b (o + k * 49) (encF X) := range_below HX E2 HB; have tl2 : True := trivial)
                | (clear tl2; refine wpList_loadEG (x := X) (by rfl) _ rfl rfl HX2 ?_; have tc2 : True := trivial)
                | (clear tc2; go_at_call 15; refine (jC _ ).mono ?_; rintro e z3 ⟨rfl, D3⟩; have E3 : Below wr.heap.size wr z3 := Below.then E2 D3; have HX3 : z3.rangeAt b (o + k * 49) (encF X) := range_below HX E3 HB; have tl3 : True := trivial)
                | (clear tl3; refine wpList_loadEG (x := X) (by rfl) _ rfl rfl HX3 ?_; have tc3 : True := trivial)
                | (clear tc3; go_at_call 15; refine (jC _ ).mono ?_; rintro e z4 ⟨rfl, D4⟩; have E4 : Below wr.heap.size wr z4 := Below.then E3 D4; have HX4 : z4.rangeAt b (o + k * 49) (encF X) := range_below HX E4 HB; have tl4 : True := trivial)
                | (clear tl4; refine wpList_loadEG (x := X) (by rfl) _ rfl rfl HX4 ?_; have tc4 : True := trivial)
                | (clear tc4; go_at_call 14; refine (jU _ ((Tu.below BK).below E4)).mono ?_; rintro e z5 ⟨rfl, D5⟩; have E5 : Below wr.heap.size wr z5 := Below.then E4 D5; have HX5 : z5.rangeAt b (o + k * 49) (encF X) := range_below HX E5 HB; have tl5 : True := trivial)
                | (clear tl5; refine wpList_loadEG (x := X) (by rfl) _ rfl rfl HX5 ?_; have tc5 : True := trivial)
                | (clear tc5; go_at_call 14; refine (jM _ ((Tm.below BK).below E5)).mono ?_; rintro e z6 ⟨rfl, D6⟩; have E6 : Below wr.heap.size wr z6 := Below.then E5 D6; have HX6 : z6.rangeAt b (o + k * 49) (encF X) := range_below HX E6 HB; have tl6 : True := trivial)
                | (clear tl6; refine wpList_loadEG (x := X) (by rfl) _ rfl rfl HX6 ?_; have tc6 : True := trivial)
                | (clear tc6; go_at_call 14; refine (jN _ ((Tn.below BK).below E6)).mono ?_; rintro e z7 ⟨rfl, D7⟩; have E7 : Below wr.heap.size wr z7 := Below.then E6 D7; have HX7 : z7.rangeAt b (o + k * 49) (encF X) := range_below HX E7 HB; have tl7 : True := trivial)
                | (clear tl7; refine wpList_loadEG (x := X) (by rfl) _ rfl rfl HX7 ?_; have tc7 : True := trivial)
                | (clear tc7; go_at_call 16; refine (jF _ ((Ta.below BK).below E7)).mono ?_; rintro e z8 ⟨p, HP, rfl, D8⟩; have E8 : Below wr.heap.size wr z8 := Below.then E7 D8; have HX8 : z8.rangeAt b (o + k * 49) (encF X) := range_below HX E8 HB; have HP8 : Hid (FindAt SA X p) := HP; clear HP)
                | (go_at_call 13; refine (num_any 0 _).mono ?_; rintro e w' ⟨rfl, hw'⟩; replace hw' := hw'.symm; subst hw'))
              clear jS jT jU jM jN jF jC HX HX1 HX2 HX3 HX4 HX5 HX6 HX7 D1 D2 D3 D4 D5 D6 D7 D8 E1 E2 E3 E4 E5 E6 E7
              have HB8 : b < z8.heap.size := Nat.lt_of_lt_of_le HB E8.size
              obtain ⟨hp, hpX⟩ := HFh.out p HP8.out (by first | rfl | trivial)
              have hpI : (p : Int) < (m1 : Int) := by omega
              obtain ⟨bs, os, eb, HBs, HXs⟩ := seg_elem ((Ta.below BK).below E8) p (by rw [HM1.out]; exact hp)
              subst eb
              rw [hpX] at HXs
              clear hpX
              refine grow_allW (by kernel_rfl) (by kernel_rfl) ?_
              refine WG.put rfl (v := .bool true) (fun w => by first | rfl | (go_simp; done) | (simp [go_sem]; done)) ?_
              simp only [Act.put, List.setIfInBounds_toArray, List.set_cons_succ, List.set_cons_zero]
              refine WG.put rfl (v := .bool true) (fun w => by first | rfl | (go_simp; done) | (simp [go_sem]; done)) ?_
              simp only [Act.put, List.setIfInBounds_toArray, List.set_cons_succ, List.set_cons_zero]
              refine WG.put rfl (v := .bool false) (fun w => by first | rfl | (go_simp; done) | (simp [go_sem]; done)) ?_
              simp only [Act.put, List.setIfInBounds_toArray, List.set_cons_succ, List.set_cons_zero]
              refine WG.put rfl (v := .bool false) (fun w => by first | rfl | (go_simp; done) | (simp [go_sem]; done)) ?_
              simp only [Act.put, List.setIfInBounds_toArray, List.set_cons_succ, List.set_cons_zero]
              refine WG.put rfl (v := .bool true) (fun w => by first | rfl | (go_simp; done) | (simp [go_sem]; done)) ?_
              simp only [Act.put, List.setIfInBounds_toArray, List.set_cons_succ, List.set_cons_zero]
              refine WG.put rfl (v := .bool true) (fun w => by first | rfl | (go_simp; done) | (simp [go_sem]; done)) ?_
              simp only [Act.put, List.setIfInBounds_toArray, List.set_cons_succ, List.set_cons_zero]
              refine WG.put rfl (v := .slice (some ⟨bs, os, none⟩) m1 cs) (fun w => by first | rfl | (go_simp; done) | (simp [go_sem]; done)) ?_
              simp only [Act.put, List.setIfInBounds_toArray, List.set_cons_succ, List.set_cons_zero]
              refine WG.put rfl (v := .int .i64 (p : Int)) (fun w => by first | rfl | (go_simp; done) | (simp [go_sem]; done)) ?_
              simp only [Act.put, List.setIfInBounds_toArray, List.set_cons_succ, List.set_cons_zero]
              refine WG.put rfl (v := .pointer (some ⟨bs, os + p * 49, none⟩)) (fun w => by first | rfl | (go_simp; done) | (simp [go_sem, hpI]; done)) ?_
              simp only [Act.put, List.setIfInBounds_toArray, List.set_cons_succ, List.set_cons_zero]
              refine WG.elem (x := X) rfl _ rfl rfl HBs HXs ?_
              simp only [Act.put, List.setIfInBounds_toArray, List.set_cons_succ, List.set_cons_zero]
              refine WG.put rfl (v := .slice (some ⟨b, o, none⟩) na ca) (fun w => by first | rfl | (go_simp; done) | (simp [go_sem]; done)) ?_
              simp only [Act.put, List.setIfInBounds_toArray, List.set_cons_succ, List.set_cons_zero]
              refine WG.put rfl (v := .int .i64 (k : Int)) (fun w => by first | rfl | (go_simp; done) | (simp [go_sem]; done)) ?_
              simp only [Act.put, List.setIfInBounds_toArray, List.set_cons_succ, List.set_cons_zero]
              refine WG.put rfl (v := .pointer (some ⟨b, o + k * 49, none⟩)) (fun w => by first | rfl | (go_simp; done) | (simp [go_sem, hkI]; done)) ?_
              simp only [Act.put, List.setIfInBounds_toArray, List.set_cons_succ, List.set_cons_zero]
              refine WG.elem (x := X) rfl _ rfl rfl HB8 HX8 ?_
              simp only [Act.put, List.setIfInBounds_toArray, List.set_cons_succ, List.set_cons_zero]
              refine WG.neqF rfl _ _ rfl rfl rfl false (by simp) ?_
              simp only [Act.put, List.setIfInBounds_toArray, List.set_cons_succ, List.set_cons_zero]
              refine WG.put rfl (v := .bool false) (fun w => by first | rfl | (go_simp; done) | (simp [go_sem]; done)) ?_
              simp only [Act.put, List.setIfInBounds_toArray, List.set_cons_succ, List.set_cons_zero]
              refine WG.put rfl (v := .bool false) (fun w => by first | rfl | (go_simp; done) | (simp [go_sem]; done)) ?_
              simp only [Act.put, List.setIfInBounds_toArray, List.set_cons_succ, List.set_cons_zero]
              refine WG.nil ?_
              intro z9 D9
              clear HX8 HXs
              go_wp2
              go_roundw
              case rel => exact ⟨k + 1, by omega, by go_num, Below.then BK (Below.then E8 D9)⟩
              case measure => simp [intOf]; omega
            | false =>
              simp only [orB, andB, subB, Bool.or_true, Bool.true_or, Bool.or_false, Bool.false_or, Bool.and_true, Bool.and_false, Bool.true_and, Bool.false_and, Bool.not_true, Bool.not_false, if_true, Bool.false_eq_true, if_false] at jU jM jN jC
              have tl0 : True := trivial
              go_wp2_with (first
                | (clear tl0; refine wpList_loadEG (x := X) (by rfl) _ rfl rfl HX ?_; have tc0 : True := trivial)
                | (clear tc0; go_at_call 14; refine (jS _ ((Ta.below BK).below (Below.refl _ _))).mono ?_; rintro e z1 ⟨rfl, D1⟩; have E1 : Below wr.heap.size wr z1 := D1; have HX1 : z1.rangeAt b (o + k * 49) (encF X) := range_below HX E1 HB; have tl1 : True := trivial)
                | (clear tl1; refine wpList_loadEG (x := X) (by rfl) _ rfl rfl HX1 ?_; have tc1 : True := trivial)
                | (clear tc1; go_at_call 14; refine (jT _ ((Tb.below BK).below E1)).mono ?_; rintro e z2 ⟨rfl, D2⟩; have E2 : Below wr.heap.size wr z2 := Below.then E1 D2; have HX2 : z2.rangeAt b (o + k * 49) (encF X) := range_below HX E2 HB; have tl2 : True := trivial)
                | (clear tl2; refine wpList_loadEG (x := X) (by rfl) _ rfl rfl HX2 ?_; have tc2 : True := trivial)
                | (clear tc2; go_at_call 15; refine (jC _ ).mono ?_; rintro e z3 ⟨rfl, D3⟩; have E3 : Below wr.heap.size wr z3 := Below.then E2 D3; have HX3 : z3.rangeAt b (o + k * 49) (encF X) := range_below HX E3 HB; have tl3 : True := trivial)
                | (clear tl3; refine wpList_loadEG (x := X) (by rfl) _ rfl rfl HX3 ?_; have tc3 : True := trivial)
                | (clear tc3; go_at_call 15; refine (jC _ ).mono ?_; rintro e z4 ⟨rfl, D4⟩; have E4 : Below wr.heap.size wr z4 := Below.then E3 D4; have HX4 : z4.rangeAt b (o + k * 49) (encF X) := range_below HX E4 HB; have tl4 : True := trivial)
                | (clear tl4; refine wpList_loadEG (x := X) (by rfl) _ rfl rfl HX4 ?_; have tc4 : True := trivial)
                | (clear tc4; go_at_call 14; refine (jU _ ((Tu.below BK).below E4)).mono ?_; rintro e z5 ⟨rfl, D5⟩; have E5 : Below wr.heap.size wr z5 := Below.then E4 D5; have HX5 : z5.rangeAt b (o + k * 49) (encF X) := range_below HX E5 HB; have tl5 : True := trivial)
                | (clear tl5; refine wpList_loadEG (x := X) (by rfl) _ rfl rfl HX5 ?_; have tc5 : True := trivial)
                | (clear tc5; go_at_call 14; refine (jM _ ((Tm.below BK).below E5)).mono ?_; rintro e z6 ⟨rfl, D6⟩; have E6 : Below wr.heap.size wr z6 := Below.then E5 D6; have HX6 : z6.rangeAt b (o + k * 49) (encF X) := range_below HX E6 HB; have tl6 : True := trivial)
                | (clear tl6; refine wpList_loadEG (x := X) (by rfl) _ rfl rfl HX6 ?_; have tc6 : True := trivial)
                | (clear tc6; go_at_call 14; refine (jN _ ((Tn.below BK).below E6)).mono ?_; rintro e z7 ⟨rfl, D7⟩; have E7 : Below wr.heap.size wr z7 := Below.then E6 D7; have HX7 : z7.rangeAt b (o + k * 49) (encF X) := range_below HX E7 HB; have tl7 : True := trivial)
                | (clear tl7; refine wpList_loadEG (x := X) (by rfl) _ rfl rfl HX7 ?_; have tc7 : True := trivial)
                | (clear tc7; go_at_call 16; refine (jF _ ((Ta.below BK).below E7)).mono ?_; rintro e z8 ⟨p, HP, rfl, D8⟩; have E8 : Below wr.heap.size wr z8 := Below.then E7 D8; have HX8 : z8.rangeAt b (o + k * 49) (encF X) := range_below HX E8 HB; have HP8 : Hid (FindAt SA X p) := HP; clear HP)
                | (go_at_call 13; refine (num_any 0 _).mono ?_; rintro e w' ⟨rfl, hw'⟩; replace hw' := hw'.symm; subst hw'))
              clear jS jT jU jM jN jF jC HX HX1 HX2 HX3 HX4 HX5 HX6 HX7 D1 D2 D3 D4 D5 D6 D7 D8 E1 E2 E3 E4 E5 E6 E7
              have HB8 : b < z8.heap.size := Nat.lt_of_lt_of_le HB E8.size
              obtain ⟨hp, hpX⟩ := HFh.out p HP8.out (by first | rfl | trivial)
              have hpI : (p : Int) < (m1 : Int) := by omega
              obtain ⟨bs, os, eb, HBs, HXs⟩ := seg_elem ((Ta.below BK).below E8) p (by rw [HM1.out]; exact hp)
              subst eb
              rw [hpX] at HXs
              clear hpX
              refine grow_allW (by kernel_rfl) (by kernel_rfl) ?_
              refine WG.put rfl (v := .bool true) (fun w => by first | rfl | (go_simp; done) | (simp [go_sem]; done)) ?_
              simp only [Act.put, List.setIfInBounds_toArray, List.set_cons_succ, List.set_cons_zero]
              refine WG.put rfl (v := .bool true) (fun w => by first | rfl | (go_simp; done) | (simp [go_sem]; done)) ?_
              simp only [Act.put, List.setIfInBounds_toArray, List.set_cons_succ, List.set_cons_zero]
              refine WG.put rfl (v := .bool false) (fun w => by first | rfl | (go_simp; done) | (simp [go_sem]; done)) ?_
              simp only [Act.put, List.setIfInBounds_toArray, List.set_cons_succ, List.set_cons_zero]
              refine WG.put rfl (v := .bool false) (fun w => by first | rfl | (go_simp; done) | (simp [go_sem]; done)) ?_
              simp only [Act.put, List.setIfInBounds_toArray, List.set_cons_succ, List.set_cons_zero]
              refine WG.put rfl (v := .bool true) (fun w => by first | rfl | (go_simp; done) | (simp [go_sem]; done)) ?_
              simp only [Act.put, List.setIfInBounds_toArray, List.set_cons_succ, List.set_cons_zero]
              refine WG.put rfl (v := .bool true) (fun w => by first | rfl | (go_simp; done) | (simp [go_sem]; done)) ?_
              simp only [Act.put, List.setIfInBounds_toArray, List.set_cons_succ, List.set_cons_zero]
              refine WG.put rfl (v := .slice (some ⟨bs, os, none⟩) m1 cs) (fun w => by first | rfl | (go_simp; done) | (simp [go_sem]; done)) ?_
              simp only [Act.put, List.setIfInBounds_toArray, List.set_cons_succ, List.set_cons_zero]
              refine WG.put rfl (v := .int .i64 (p : Int)) (fun w => by first | rfl | (go_simp; done) | (simp [go_sem]; done)) ?_
              simp only [Act.put, List.setIfInBounds_toArray, List.set_cons_succ, List.set_cons_zero]
              refine WG.put rfl (v := .pointer (some ⟨bs, os + p * 49, none⟩)) (fun w => by first | rfl | (go_simp; done) | (simp [go_sem, hpI]; done)) ?_
              simp only [Act.put, List.setIfInBounds_toArray, List.set_cons_succ, List.set_cons_zero]
              refine WG.elem (x := X) rfl _ rfl rfl HBs HXs ?_
              simp only [Act.put, List.setIfInBounds_toArray, List.set_cons_succ, List.set_cons_zero]
              refine WG.put rfl (v := .slice (some ⟨b, o, none⟩) na ca) (fun w => by first | rfl | (go_simp; done) | (simp [go_sem]; done)) ?_
              simp only [Act.put, List.setIfInBounds_toArray, List.set_cons_succ, List.set_cons_zero]
              refine WG.put rfl (v := .int .i64 (k : Int)) (fun w => by first | rfl | (go_simp; done) | (simp [go_sem]; done)) ?_
              simp only [Act.put, List.setIfInBounds_toArray, List.set_cons_succ, List.set_cons_zero]
              refine WG.put rfl (v := .pointer (some ⟨b, o + k * 49, none⟩)) (fun w => by first | rfl | (go_simp; done) | (simp [go_sem, hkI]; done)) ?_
              simp only [Act.put, List.setIfInBounds_toArray, List.set_cons_succ, List.set_cons_zero]
              refine WG.elem (x := X) rfl _ rfl rfl HB8 HX8 ?_
              simp only [Act.put, List.setIfInBounds_toArray, List.set_cons_succ, List.set_cons_zero]
              refine WG.neqF rfl _ _ rfl rfl rfl false (by simp) ?_
              simp only [Act.put, List.setIfInBounds_toArray, List.set_cons_succ, List.set_cons_zero]
              refine WG.put rfl (v := .bool false) (fun w => by first | rfl | (go_simp; done) | (simp [go_sem]; done)) ?_
              simp only [Act.put, List.setIfInBounds_toArray, List.set_cons_succ, List.set_cons_zero]
              refine WG.put rfl (v := .bool false) (fun w => by first | rfl | (go_simp; done) | (simp [go_sem]; done)) ?_
              simp only [Act.put, List.setIfInBounds_toArray, List.set_cons_succ, List.set_cons_zero]
              refine WG.nil ?_
              intro z9 D9
              clear HX8 HXs
              go_wp2
              go_roundw
              case rel => exact ⟨k + 1, by omega, by go_num, Below.then BK (Below.then E8 D9)⟩
              case measure => simp [intOf]; omega
          | false =>
            cases dy with
            | true =>
              simp only [orB, andB, subB, Bool.or_true, Bool.true_or, Bool.or_false, Bool.false_or, Bool.and_true, Bool.and_false, Bool.true_and, Bool.false_and, Bool.not_true, Bool.not_false, if_true, Bool.false_eq_true, if_false] at jU jM jN jC
              have tl0 : True := trivial
              go_wp2_with (first
                | (clear tl0; refine wpList_loadEG (x := X) (by rfl) _ rfl rfl HX ?_; have tc0 : True := trivial)
                | (clear tc0; go_at_call 14; refine (jS _ ((Ta.below BK).below (Below.refl _ _))).mono ?_; rintro e z1 ⟨rfl, D1⟩; have E1 : Below wr.heap.size wr z1 := D1; have HX1 : z1.rangeAt b (o + k * 49) (encF X) := range_below HX E1 HB; have tl1 : True := trivial)
                | (clear tl1; refine wpList_loadEG (x := X) (by rfl) _ rfl rfl HX1 ?_; have tc1 : True := trivial)
                | (clear tc1; go_at_call 14; refine (jT _ ((Tb.below BK).below E1)).mono ?_; rintro e z2 ⟨rfl, D2⟩; have E2 : Below wr.heap.size wr z2 := Below.then E1 D2; have HX2 : z2.rangeAt b (o + k * 49) (encF X) := range_below HX E2 HB; have tl2 : True := trivial)
                | (clear tl2; refine wpList_loadEG (x := X) (by rfl) _ rfl rfl HX2 ?_; have tc2 : True := trivial)
                | (clear tc2; go_at_call 15; refine (jC _ ).mono ?_; rintro e z3 ⟨rfl, D3⟩; have E3 : Below wr.heap.size wr z3 := Below.then E2 D3; have HX3 : z3.rangeAt b (o + k * 49) (encF X) := range_below HX E3 HB; have tl3 : True := trivial)
                | (clear tl3; refine wpList_loadEG (x := X) (by rfl) _ rfl rfl HX3 ?_; have tc3 : True := trivial)
                | (clear tc3; go_at_call 15; refine (jC _ ).mono ?_; rintro e z4 ⟨rfl, D4⟩; have E4 : Below wr.heap.size wr z4 := Below.then E3 D4; have HX4 : z4.rangeAt b (o + k * 49) (encF X) := range_below HX E4 HB; have tl4 : True := trivial)
                | (clear tl4; refine wpList_loadEG (x := X) (by rfl) _ rfl rfl HX4 ?_; have tc4 : True := trivial)
                | (clear tc4; go_at_call 14; refine (jU _ ((Tu.below BK).below E4)).mono ?_; rintro e z5 ⟨rfl, D5⟩; have E5 : Below wr.heap.size wr z5 := Below.then E4 D5; have HX5 : z5.rangeAt b (o + k * 49) (encF X) := range_below HX E5 HB; have tl5 : True := trivial)
                | (clear tl5; refine wpList_loadEG (x := X) (by rfl) _ rfl rfl HX5 ?_; have tc5 : True := trivial)
                | (clear tc5; go_at_call 14; refine (jM _ ((Tm.below BK).below E5)).mono ?_; rintro e z6 ⟨rfl, D6⟩; have E6 : Below wr.heap.size wr z6 := Below.then E5 D6; have HX6 : z6.rangeAt b (o + k * 49) (encF X) := range_below HX E6 HB; have tl6 : True := trivial)
                | (clear tl6; refine wpList_loadEG (x := X) (by rfl) _ rfl rfl HX6 ?_; have tc6 : True := trivial)
                | (clear tc6; go_at_call 14; refine (jN _ ((Tn.below BK).below E6)).mono ?_; rintro e z7 ⟨rfl, D7⟩; have E7 : Below wr.heap.size wr z7 := Below.then E6 D7; have HX7 : z7.rangeAt b (o + k * 49) (encF X) := range_below HX E7 HB; have tl7 : True := trivial)
                | (clear tl7; refine wpList_loadEG (x := X) (by rfl) _ rfl rfl HX7 ?_; have tc7 : True := trivial)
                | (clear tc7; go_at_call 16; refine (jF _ ((Ta.below BK).below E7)).mono ?_; rintro e z8 ⟨p, HP, rfl, D8⟩; have E8 : Below wr.heap.size wr z8 := Below.then E7 D8; have HX8 : z8.rangeAt b (o + k * 49) (encF X) := range_below HX E8 HB; have HP8 : Hid (FindAt SA X p) := HP; clear HP)
                | (go_at_call 13; refine (num_any 0 _).mono ?_; rintro e w' ⟨rfl, hw'⟩; replace hw' := hw'.symm; subst hw'))
              clear jS jT jU jM jN jF jC HX HX1 HX2 HX3 HX4 HX5 HX6 HX7 D1 D2 D3 D4 D5 D6 D7 D8 E1 E2 E3 E4 E5 E6 E7
              have HB8 : b < z8.heap.size := Nat.lt_of_lt_of_le HB E8.size
              refine grow_allW (by kernel_rfl) (by kernel_rfl) ?_
              refine WG.put rfl (v := .bool false) (fun w => by first | rfl | (go_simp; done) | (simp [go_sem]; done)) ?_
              simp only [Act.put, List.setIfInBounds_toArray, List.set_cons_succ, List.set_cons_zero]
              refine WG.put rfl (v := .bool false) (fun w => by first | rfl | (go_simp; done) | (simp [go_sem]; done)) ?_
              simp only [Act.put, List.setIfInBounds_toArray, List.set_cons_succ, List.set_cons_zero]
              refine WG.put rfl (v := .bool false) (fun w => by first | rfl | (go_simp; done) | (simp [go_sem]; done)) ?_
              simp only [Act.put, List.setIfInBounds_toArray, List.set_cons_succ, List.set_cons_zero]
              refine WG.put rfl (v := .bool false) (fun w => by first | rfl | (go_simp; done) | (simp [go_sem]; done)) ?_
              simp only [Act.put, List.setIfInBounds_toArray, List.set_cons_succ, List.set_cons_zero]
              refine WG.put rfl (v := .bool false) (fun w => by first | rfl | (go_simp; done) | (simp [go_sem]; done)) ?_
              simp only [Act.put, List.setIfInBounds_toArray, List.set_cons_succ, List.set_cons_zero]
              refine WG.put rfl (v := .bool false) (fun w => by first | rfl | (go_simp; done) | (simp [go_sem]; done)) ?_
              simp only [Act.put, List.setIfInBounds_toArray, List.set_cons_succ, List.set_cons_zero]
              refine WG.skip rfl ?_
              simp only [Act.put, List.setIfInBounds_toArray, List.set_cons_succ, List.set_cons_zero]
              refine WG.skip rfl ?_
              simp only [Act.put, List.setIfInBounds_toArray, List.set_cons_succ, List.set_cons_zero]
              refine WG.skip rfl ?_
              simp only [Act.put, List.setIfInBounds_toArray, List.set_cons_succ, List.set_cons_zero]
              refine WG.skip rfl ?_
              simp only [Act.put, List.setIfInBounds_toArray, List.set_cons_succ, List.set_cons_zero]
              refine WG.skip rfl ?_
              simp only [Act.put, List.setIfInBounds_toArray, List.set_cons_succ, List.set_cons_zero]
              refine WG.skip rfl ?_
              simp only [Act.put, List.setIfInBounds_toArray, List.set_cons_succ, List.set_cons_zero]
              refine WG.skip rfl ?_
              simp only [Act.put, List.setIfInBounds_toArray, List.set_cons_succ, List.set_cons_zero]
              refine WG.skip rfl ?_
              simp only [Act.put, List.setIfInBounds_toArray, List.set_cons_succ, List.set_cons_zero]
              refine WG.skip rfl ?_
              simp only [Act.put, List.setIfInBounds_toArray, List.set_cons_succ, List.set_cons_zero]
              refine WG.put rfl (v := .bool false) (fun w => by first | rfl | (go_simp; done) | (simp [go_sem]; done)) ?_
              simp only [Act.put, List.setIfInBounds_toArray, List.set_cons_succ, List.set_cons_zero]
              refine WG.put rfl (v := .bool false) (fun w => by first | rfl | (go_simp; done) | (simp [go_sem]; done)) ?_
              simp only [Act.put, List.setIfInBounds_toArray, List.set_cons_succ, List.set_cons_zero]
              refine WG.nil ?_
              intro z9 D9
              clear HX8
              go_wp2
              go_roundw
              case rel => exact ⟨k + 1, by omega, by go_num, Below.then BK (Below.then E8 D9)⟩
              case measure => simp [intOf]; omega
            | false =>
              simp only [orB, andB, subB, Bool.or_true, Bool.true_or, Bool.or_false, Bool.false_or, Bool.and_true, Bool.and_false, Bool.true_and, Bool.false_and, Bool.not_true, Bool.not_false, if_true, Bool.false_eq_true, if_false] at jU jM jN jC
              have tl0 : True := trivial
              go_wp2_with (first
                | (clear tl0; refine wpList_loadEG (x := X) (by rfl) _ rfl rfl HX ?_; have tc0 : True := trivial)
                | (clear tc0; go_at_call 14; refine (jS _ ((Ta.below BK).below (Below.refl _ _))).mono ?_; rintro e z1 ⟨rfl, D1⟩; have E1 : Below wr.heap.size wr z1 := D1; have HX1 : z1.rangeAt b (o + k * 49) (encF X) := range_below HX E1 HB; have tl1 : True := trivial)
                | (clear tl1; refine wpList_loadEG (x := X) (by rfl) _ rfl rfl HX1 ?_; have tc1 : True := trivial)
                | (clear tc1; go_at_call 14; refine (jT _ ((Tb.below BK).below E1)).mono ?_; rintro e z2 ⟨rfl, D2⟩; have E2 : Below wr.heap.size wr z2 := Below.then E1 D2; have HX2 : z2.rangeAt b (o + k * 49) (encF X) := range_below HX E2 HB; have tl2 : True := trivial)
                | (clear tl2; refine wpList_loadEG (x := X) (by rfl) _ rfl rfl HX2 ?_; have tc2 : True := trivial)
                | (clear tc2; go_at_call 15; refine (jC _ ).mono ?_; rintro e z3 ⟨rfl, D3⟩; have E3 : Below wr.heap.size wr z3 := Below.then E2 D3; have HX3 : z3.rangeAt b (o + k * 49) (encF X) := range_below HX E3 HB; have tl3 : True := trivial)
                | (clear tl3; refine wpList_loadEG (x := X) (by rfl) _ rfl rfl HX3 ?_; have tc3 : True := trivial)
                | (clear tc3; go_at_call 15; refine (jC _ ).mono ?_; rintro e z4 ⟨rfl, D4⟩; have E4 : Below wr.heap.size wr z4 := Below.then E3 D4; have HX4 : z4.rangeAt b (o + k * 49) (encF X) := range_below HX E4 HB; have tl4 : True := trivial)
                | (clear tl4; refine wpList_loadEG (x := X) (by rfl) _ rfl rfl HX4 ?_; have tc4 : True := trivial)
                | (clear tc4; go_at_call 14; refine (jU _ ((Tu.below BK).below E4)).mono ?_; rintro e z5 ⟨rfl, D5⟩; have E5 : Below wr.heap.size wr z5 := Below.then E4 D5; have HX5 : z5.rangeAt b (o + k * 49) (encF X) := range_below HX E5 HB; have tl5 : True := trivial)
                | (clear tl5; refine wpList_loadEG (x := X) (by rfl) _ rfl rfl HX5 ?_; have tc5 : True := trivial)
                | (clear tc5; go_at_call 14; refine (jM _ ((Tm.below BK).below E5)).mono ?_; rintro e z6 ⟨rfl, D6⟩; have E6 : Below wr.heap.size wr z6 := Below.then E5 D6; have HX6 : z6.rangeAt b (o + k * 49) (encF X) := range_below HX E6 HB; have tl6 : True := trivial)
                | (clear tl6; refine wpList_loadEG (x := X) (by rfl) _ rfl rfl HX6 ?_; have tc6 : True := trivial)
                | (clear tc6; go_at_call 14; refine (jN _ ((Tn.below BK).below E6)).mono ?_; rintro e z7 ⟨rfl, D7⟩; have E7 : Below wr.heap.size wr z7 := Below.then E6 D7; have HX7 : z7.rangeAt b (o + k * 49) (encF X) := range_below HX E7 HB; have tl7 : True := trivial)
                | (clear tl7; refine wpList_loadEG (x := X) (by rfl) _ rfl rfl HX7 ?_; have tc7 : True := trivial)
                | (clear tc7; go_at_call 16; refine (jF _ ((Ta.below BK).below E7)).mono ?_; rintro e z8 ⟨p, HP, rfl, D8⟩; have E8 : Below wr.heap.size wr z8 := Below.then E7 D8; have HX8 : z8.rangeAt b (o + k * 49) (encF X) := range_below HX E8 HB; have HP8 : Hid (FindAt SA X p) := HP; clear HP)
                | (go_at_call 13; refine (num_any 4 _).mono ?_; rintro e w' ⟨rfl, hw'⟩; replace hw' := hw'.symm; subst hw'))
              clear jS jT jU jM jN jF jC HX HX1 HX2 HX3 HX4 HX5 HX6 HX7 D1 D2 D3 D4 D5 D6 D7 D8 E1 E2 E3 E4 E5 E6 E7
              have HB8 : b < z8.heap.size := Nat.lt_of_lt_of_le HB E8.size
              refine grow_allW (by kernel_rfl) (by kernel_rfl) ?_
              refine WG.put rfl (v := .bool false) (fun w => by first | rfl | (go_simp; done) | (simp [go_sem]; done)) ?_
              simp only [Act.put, List.setIfInBounds_toArray, List.set_cons_succ, List.set_cons_zero]
              refine WG.put rfl (v := .bool false) (fun w => by first | rfl | (go_simp; done) | (simp [go_sem]; done)) ?_
              simp only [Act.put, List.setIfInBounds_toArray, List.set_cons_succ, List.set_cons_zero]
              refine WG.put rfl (v := .bool false) (fun w => by first | rfl | (go_simp; done) | (simp [go_sem]; done)) ?_
              simp only [Act.put, List.setIfInBounds_toArray, List.set_cons_succ, List.set_cons_zero]
              refine WG.put rfl (v := .bool false) (fun w => by first | rfl | (go_simp; done) | (simp [go_sem]; done)) ?_
              simp only [Act.put, List.setIfInBounds_toArray, List.set_cons_succ, List.set_cons_zero]
              refine WG.put rfl (v := .bool false) (fun w => by first | rfl | (go_simp; done) | (simp [go_sem]; done)) ?_
              simp only [Act.put, List.setIfInBounds_toArray, List.set_cons_succ, List.set_cons_zero]
              refine WG.put rfl (v := .bool false) (fun w => by first | rfl | (go_simp; done) | (simp [go_sem]; done)) ?_
              simp only [Act.put, List.setIfInBounds_toArray, List.set_cons_succ, List.set_cons_zero]
              refine WG.skip rfl ?_
              simp only [Act.put, List.setIfInBounds_toArray, List.set_cons_succ, List.set_cons_zero]
              refine WG.skip rfl ?_
              simp only [Act.put, List.setIfInBounds_toArray, List.set_cons_succ, List.set_cons_zero]
              refine WG.skip rfl ?_
              simp only [Act.put, List.setIfInBounds_toArray, List.set_cons_succ, List.set_cons_zero]
              refine WG.skip rfl ?_
              simp only [Act.put, List.setIfInBounds_toArray, List.set_cons_succ, List.set_cons_zero]
              refine WG.skip rfl ?_
              simp only [Act.put, List.setIfInBounds_toArray, List.set_cons_succ, List.set_cons_zero]
              refine WG.skip rfl ?_
              simp only [Act.put, List.setIfInBounds_toArray, List.set_cons_succ, List.set_cons_zero]
              refine WG.skip rfl ?_
              simp only [Act.put, List.setIfInBounds_toArray, List.set_cons_succ, List.set_cons_zero]
              refine WG.skip rfl ?_
              simp only [Act.put, List.setIfInBounds_toArray, List.set_cons_succ, List.set_cons_zero]
              refine WG.skip rfl ?_
              simp only [Act.put, List.setIfInBounds_toArray, List.set_cons_succ, List.set_cons_zero]
              refine WG.put rfl (v := .bool false) (fun w => by first | rfl | (go_simp; done) | (simp [go_sem]; done)) ?_
              simp only [Act.put, List.setIfInBounds_toArray, List.set_cons_succ, List.set_cons_zero]
              refine WG.put rfl (v := .bool false) (fun w => by first | rfl | (go_simp; done) | (simp [go_sem]; done)) ?_
              simp only [Act.put, List.setIfInBounds_toArray, List.set_cons_succ, List.set_cons_zero]
              refine WG.nil ?_
              intro z9 D9
              clear HX8
              go_wp2
              go_roundw
              case rel => exact ⟨k + 1, by omega, by go_num, Below.then BK (Below.then E8 D9)⟩
              case measure => simp [intOf]; omega
        · have hlt' : ¬ ((k : Int) < (na : Int)) := by omega
          go_wp2
          go_ret
          exact ⟨rfl, Below.then B015 BK⟩
set_option maxRecDepth 100000 in
set_option maxHeartbeats 2000000 in
theorem setlaws_any (xs ys : List FS) (a1 a2 : Option Addr) (n1 n2 c1 c2 : Nat) (w : World) (hl1 : xs.length = n1) (hl2 : ys.length = n2) (hS1 : Seg w a1 (flatF xs)) (hS2 : Seg w a2 (flatF ys)) (hz1 : a1 = none → c1 = 0) (hz2 : a2 = none → c2 = 0) (hn1 : n1 ≤ 4611686018427387903) (hn2 : n2 ≤ 4611686018427387903) (hT : Tab10 w) :
    Calls Tryd.prog 3 #[.slice a1 n1 c1, .slice a2 n2 c2] w fun e w' => e = .returned (.bool true) ∧ Below w.heap.size w w' := by
  by_cases h : n1 + n2 ≤ 300
  · exact setlaws_in xs ys a1 a2 n1 n2 c1 c2 w hl1 hl2 hS1 hS2 hz1 hz2 h hT
  · have kw := works_any w hT
    have hgt : (300 : Int) < (n1 : Int) + (n2 : Int) := by omega
    have g1 : (n1 : Int) ≤ 4611686018427387903 := by omega
    have g2 : (n2 : Int) ≤ 4611686018427387903 := by omega
    clear hS1 hS2 hl1 hl2 hT h
    go_enter Tryd.func3, Tryd.ntmps3
    go_wp2_with (first
      | (go_at_call 6; refine kw.mono ?_; rintro e w1 ⟨rfl, B1⟩; clear kw))
    go_ret
    exact ⟨rfl, B1⟩
end Go.Proofs.YtbhgchhoeokjhabDoor

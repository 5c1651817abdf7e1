/- The law of Replay, Outcome, Taken and Straight. -/
import Derived.Test.YtmoieckmbimgoaaRH
namespace Go.Proofs.Ytmoieckmbimgoaa
open Go.RowKit M
set_option linter.unusedSimpArgs false
set_option linter.unusedVariables false

/-- Two rows, the answers of Replay. -/
structure Rows2 (W : World) (B N m : Nat) (SS1 : List ByteArray) (TK : List Bool) (v1 v2 : Value) : Prop where
  a : W.ownsRow B 9 1 v1 N (SS1.flatMap strE)
  b : W.ownsRow B 4 1 v2 m (TK.flatMap bolE)
theorem Rows2.below {W W' : World} {B N m : Nat} {SS1 : List ByteArray} {TK : List Bool} {v1 v2 : Value} (h : Rows2 W B N m SS1 TK v1 v2) (hB : Below W.heap.size W W') : Rows2 W' B N m SS1 TK v1 v2 := ⟨own_below h.a hB, own_below h.b hB⟩
set_option maxRecDepth 100000 in
set_option maxHeartbeats 16000000 in
theorem replays_main (g : GR) (hr : ∀ l ∈ g.to, l.length ≤ 1048576) (a : Option Addr) (c n : Nat) (hn : g.to.length = n) (h1 : (n : Int) ≤ 200) (ks : List PK) (m : Nat) (hm : ks.length = m) (h2 : m ≤ 2000) (al : Option Addr) (cl : Nat) (hal : al = none → cl = 0) (w : World) (hR : RowsV w (.slice a n c) intE g.to) (hL : Seg w al (ks.flatMap pkL)) :
    Calls Try.prog 3 #[.agg #[.slice a n c, .int .u64 g.ends, .bool g.odd, .int .i64 g.holes], .slice al m cl] w fun e w' => e = .returned (.bool true) ∧ Below w.heap.size w w' := by
  have hSm := fun W => small_any a n c (.int .u64 g.ends) (.bool g.odd) (.int .i64 g.holes) W
  have hMk := fun W h => machine_any g a c n hn W h
  have hf : g.Few := ⟨by omega, hr⟩
  have hz : str0.size ≤ 1 := by decide
  have hlen1 : (str0 :: stsF (stepM g) str0 ks).length = m + 1 := by rw [List.length_cons, sts_len, hm]
  have hlen2 : (tkF (stepM g) str0 ks).length = m := by rw [tk_len, hm]
  have cR := fun bn bg W a c (h : MG W g bn bg) (hl : Seg W a (ks.flatMap pkL)) => sreplay_any g hf bn bg str0 hz ks m hm h2 a c W h hl
  have rR := fun bn bg W (h : MG W g bn bg) (hl : Seg W al (ks.flatMap pkL)) => rreplay_any g hf bn bg str0 hz ks m hm h2 al cl W h hl
  have cO := fun bn bg W a c (h : MG W g bn bg) (hl : Seg W a (ks.flatMap pkL)) => soutcome_any g hf bn bg str0 hz ks m hm h2 a c W h hl
  have rO := fun bn bg W (h : MG W g bn bg) (hl : Seg W al (ks.flatMap pkL)) => routcome_any g hf bn bg str0 hz ks m hm h2 al cl W h hl
  have cT := fun bn bg W a c (h : MG W g bn bg) (hl : Seg W a (ks.flatMap pkL)) => staken_any g hf bn bg str0 hz ks m hm h2 a c W h hl
  have rT := fun bn bg W (h : MG W g bn bg) (hl : Seg W al (ks.flatMap pkL)) => rtaken_any g hf bn bg str0 hz ks m hm h2 al cl W h hl
  have cS := fun bn bg W a c (h : MG W g bn bg) (hl : Seg W a (ks.flatMap pkL)) => sstraight_any g hf bn bg str0 hz ks m hm h2 a c W h hl
  have rS := fun bn bg W (h : MG W g bn bg) (hl : Seg W al (ks.flatMap pkL)) => rstraight_any g hf bn bg str0 hz ks m hm h2 al cl W h hl
  have hEl : (endM g (lastS (stepM g) str0 ks)).length ≤ 48 := endM_len g _
  have hPl : (plP (stepM g) str0 ks).length ≤ 2000 := Nat.le_trans (plP_len ks str0) (by omega)
  unfold RepA at cR rR
  unfold TkA at cT rT
  unfold StA at cS rS
  rw [hlen1, hlen2] at cR rR
  have hMl : ∀ bn bg, (mcL str0 g bn bg).length = 4 := fun _ _ => rfl
  have hMo : ∀ bn bg, ∀ v ∈ mcL str0 g bn bg, v.oneCell' = true := fun bn bg => one4 (fnV_one ..) (fnV_one ..) (fnV_one ..)
  generalize str0 :: plS (stepM g) str0 ks = SS at cS rS
  generalize plP (stepM g) str0 ks = PP at cS rS cT rT hPl
  generalize str0 :: stsF (stepM g) str0 ks = SS1 at cR rR hlen1
  generalize tkF (stepM g) str0 ks = TK at cR rR hlen2
  generalize endM g (lastS (stepM g) str0 ks) = E at cO rO hEl
  obtain ⟨ie, hie⟩ : ∃ i, isEnd E = i := ⟨_, rfl⟩
  rw [hie] at cO rO
  obtain ⟨ge, hge⟩ : ∃ x, g.ends = x := ⟨_, rfl⟩
  obtain ⟨go, hgo⟩ : ∃ x, g.odd = x := ⟨_, rfl⟩
  obtain ⟨gh, hgh⟩ : ∃ x, g.holes = x := ⟨_, rfl⟩
  rw [hge, hgo, hgh] at hSm hMk
  rw [hge, hgo, hgh]
  generalize mcL str0 g = mc at cR rR cO rO cT rT cS rS hMk hMl hMo
  obtain ⟨N, hN⟩ : ∃ N, m + 1 = N := ⟨_, rfl⟩
  rw [hN] at cR rR hlen1
  obtain ⟨mp, hmp⟩ : ∃ k, PP.length = k := ⟨_, rfl⟩
  rw [hmp] at cT rT hPl
  have HcR : Hid (∀ bn bg W a c, MG W g bn bg → Seg W a (ks.flatMap pkL) → Calls Try.prog 7 #[.agg (mc bn bg).toArray, .slice a m c] W fun e w' => ∃ v1 v2, e = .returned (.tuple #[v1, v2]) ∧ w'.ownsRow W.heap.size 9 1 v1 N (SS1.flatMap strE) ∧ w'.ownsRow W.heap.size 4 1 v2 m (TK.flatMap bolE) ∧ Below W.heap.size W w') := cR
  have HrR : Hid (∀ bn bg W, MG W g bn bg → Seg W al (ks.flatMap pkL) → Calls Try.prog 8 #[.agg (mc bn bg).toArray, .slice al m cl] W fun e w' => ∃ v1 v2, e = .returned (.tuple #[v1, v2]) ∧ w'.ownsRow W.heap.size 9 1 v1 N (SS1.flatMap strE) ∧ w'.ownsRow W.heap.size 4 1 v2 m (TK.flatMap bolE) ∧ Below W.heap.size W w') := rR
  have HcO : Hid (∀ bn bg W a c, MG W g bn bg → Seg W a (ks.flatMap pkL) → Calls Try.prog 9 #[.agg (mc bn bg).toArray, .slice a m c] W fun e w' => e = .returned (.tuple #[.agg (finL E).toArray, .bool ie]) ∧ Below W.heap.size W w') := cO
  have HrO : Hid (∀ bn bg W, MG W g bn bg → Seg W al (ks.flatMap pkL) → Calls Try.prog 10 #[.agg (mc bn bg).toArray, .slice al m cl] W fun e w' => e = .returned (.tuple #[.agg (finL E).toArray, .bool ie]) ∧ Below W.heap.size W w') := rO
  have HcT : Hid (∀ bn bg W a c, MG W g bn bg → Seg W a (ks.flatMap pkL) → Calls Try.prog 11 #[.agg (mc bn bg).toArray, .slice a m c] W fun e w' => ∃ v, e = .returned v ∧ w'.ownsRow W.heap.size 35 3 v mp (PP.flatMap pkL) ∧ Below W.heap.size W w') := cT
  have HrT : Hid (∀ bn bg W, MG W g bn bg → Seg W al (ks.flatMap pkL) → Calls Try.prog 16 #[.agg (mc bn bg).toArray, .slice al m cl] W fun e w' => ∃ v, e = .returned v ∧ w'.ownsRow W.heap.size 35 3 v mp (PP.flatMap pkL) ∧ Below W.heap.size W w') := rT
  have HcS : Hid (∀ bn bg W a c, MG W g bn bg → Seg W a (ks.flatMap pkL) → Calls Try.prog 12 #[.agg (mc bn bg).toArray, .slice a m c] W fun e w' => ∃ R v, StrR SS PP 0 R ∧ e = .returned v ∧ w'.ownsRow W.heap.size 35 3 v R.length (R.flatMap pkL) ∧ Below W.heap.size W w') := cS
  have HrS : Hid (∀ bn bg W, MG W g bn bg → Seg W al (ks.flatMap pkL) → Calls Try.prog 17 #[.agg (mc bn bg).toArray, .slice al m cl] W fun e w' => ∃ R v, StrR SS PP 0 R ∧ e = .returned v ∧ w'.ownsRow W.heap.size 35 3 v R.length (R.flatMap pkL) ∧ Below W.heap.size W w') := rS
  have HMl : Hid (∀ bn bg, (mc bn bg).length = 4) := hMl
  have HMo : Hid (∀ bn bg, ∀ v ∈ mc bn bg, v.oneCell' = true) := hMo
  have HR : Hid (RowsV w (.slice a n c) intE g.to) := hR
  have HL : Hid (Seg w al (ks.flatMap pkL)) := hL
  have HEl : Hid (E.length ≤ 48) := hEl
  have HN : Hid (m + 1 = N ∧ SS1.length = N ∧ TK.length = m ∧ PP.length = mp ∧ ks.length = m ∧ (al = none → cl = 0)) := ⟨hN, hlen1, hlen2, hmp, hm, hal⟩
  have hN2 : N ≤ 2001 := by omega
  have hg2 : ¬ (2000 < (m : Int)) := by omega
  clear cR rR cO rO cT rT cS rS hMl hMo hR hL hEl hN hlen1 hlen2 hmp hm hal hn hr hf hz hge hgo hgh hie
  have t1 : True := trivial
  have t2 : True := trivial
  have t3 : True := trivial
  have t4 : True := trivial
  have t5 : True := trivial
  have t6 : True := trivial
  have t7 : True := trivial
  have t8 : True := trivial
  have t9 : True := trivial
  have t10 : True := trivial
  go_enter Try.func3, Try.ntmps3
  go_wp2_with (first
    | (clear t1; refine wpList_boxS rfl 25 _ rfl [.slice a n c, .int .u64 ge, .bool go, .int .i64 gh] rfl ?_; intro W1 b1 F1 C1; have B1 := F_b F1; clear F1)
    | (clear t2; refine wpList_loadW rfl 25 _ rfl rfl C1 _ Try.underlying25 rfl infoGr ?_)
    | (go_at_call 5; refine (hSm _).mono ?_; rintro e W2 ⟨rfl, B2⟩; have B3 := Below.then B1 B2; have C2 := C1.grown B2; clear B2 C1)
    | (clear t3; refine wpList_loadW rfl 25 _ rfl rfl C2 _ Try.underlying25 rfl infoGr ?_)
    | (go_at_call 6; refine (hMk _ (HR.out.below B3)).mono ?_; rintro e W4 ⟨bn, bg, rfl, M4, B4⟩; have B5 := Below.then B3 B4; clear B4 C2)
    | (clear t4; refine wpList_allocS rfl 32 rfl _ zeroMc ?_; intro W5 b5 F5 K5; have B6 := Below.then B5 (F_b F5); have hb5 : w.heap.size ≤ b5 := Nat.le_trans B5.size (Nat.le_of_eq F5.at'.symm); have hc5 : W4.heap.size ≤ b5 := Nat.le_of_eq F5.at'.symm; have D5 := F_b F5; clear F5)
    | (clear t5; refine wpList_storeW rfl 32 _ _ rfl rfl (mc bn bg) rfl K5 (HMl.out bn bg) (by rw [HMl.out]; exact infoMc) (HMo.out bn bg) ?_; intro W6 U6 K6; have M6 := M4.below (U6.trans D5 hc5); have B7 := U6.trans B6 hb5; clear U6 K5 D5 B6 B5)
    | (clear t6; refine wpList_build0E ePk rfl rfl ?_; intro W7 b7 F7 O7; have D7 := F_b F7; clear F7)
    | (clear t7; at_builtin; refine wpList_appM ePk rfl _ _ rfl W6.heap.size _ 0 [] rfl O7 _ m (ks.flatMap pkL) rfl ⟨al, cl, rfl, HL.out.below (Below.then B7 D7), HN.out.2.2.2.2.2⟩ (by rw [pk_len, HN.out.2.2.2.2.1]) (pk_oneL ks) (by omega) D7.size ?_; intro v8 W8 O8 G8; have D8 := grown_below D7 D7.size O7 G8; clear G8 O7 D7)
    | (clear t8; refine wpList_bpk rfl _ rfl 5 rfl ?_)
    | (clear t9; refine wpList_build1P rfl _ rfl (5, 0, 0) rfl ?_; intro W9 b9 F9 C9; have D9 := Below.then D8 (F_b F9); have O9 := own_below O8 (F_b F9); clear F9 O8 D8)
    | (clear t10; at_builtin; refine wpList_appM ePk rfl _ _ rfl W6.heap.size _ (0 + m) _ rfl O9 _ 1 (pkL (5, 0, 0)) rfl (row_isS C9) rfl (pk_oneC _) (by omega) D9.size ?_; intro v10 WC O10 G10; have DC := grown_below D9 D9.size O9 G10; clear G10 C9 O9 D9))
  have OC : WC.ownsRow W6.heap.size 35 3 v10 N ((ks ++ [(5, 0, 0)]).flatMap pkL) := by
    rw [pk_snoc]
    have := O10
    rw [List.nil_append, show 0 + m + 1 = N by have := HN.out.1; omega] at this
    exact this
  clear O10
  obtain ⟨gc, cc, evc, hcc, sgc⟩ := own_open OC (by have := HN.out.1; omega)
  subst evc
  have hmc : m ≤ cc := by have := HN.out.1; omega
  have HOC : Hid (WC.ownsRow W6.heap.size 35 3 (.slice (some ⟨gc, 0, none⟩) N cc) N ((ks ++ [(5, 0, 0)]).flatMap pkL)) := OC
  have HSC : Hid (Seg WC (some ⟨gc, 0, none⟩) (ks.flatMap pkL)) := by
    have := seg_take sgc (m * 3)
    rw [flat_take pkL 3 pkL3, List.take_append_of_le_length (by rw [HN.out.2.2.2.2.1]; exact Nat.le_refl _), List.take_of_length_le (by rw [HN.out.2.2.2.2.1]; exact Nat.le_refl _)] at this
    exact this
  have HMC : Hid (MG WC g bn bg) := M6.below DC
  have HKC : Hid (IsS WC b5 32 (mc bn bg)) := K6.grown DC
  have HBC : Hid (Below w.heap.size w WC) := Below.then B7 DC
  have HLC : Hid (Seg WC al (ks.flatMap pkL)) := HL.out.below HBC.out
  clear OC sgc DC M6 K6 B7 M4 B3 B1 hSm hMk HR HMo
  refine region_invA 10 (fun a0 listed a' w' => ∃ x36 x37 x38 x39 x40 x41 x35 x42 x43 x7 : Value, a' = ((((((((((a0.put (some 36) x36).put (some 37) x37).put (some 38) x38).put (some 39) x39).put (some 40) x40).put (some 41) x41).put (some 35) x35).put (some 42) x42).put (some 43) x43).put (some 7) x7) ∧ Hid (Below WC.heap.size WC w') ∧ (listed.getD 0 false = true → x36 = (.agg (mc bn bg).toArray)) ∧ (listed.getD 1 false = true → x37 = (.slice (some ⟨gc, 0, none⟩) N cc)) ∧ (listed.getD 2 false = true → x38 = (.slice al m cl)) ∧ (listed.getD 3 false = true → x39 = (.int .i64 (m : Int))) ∧ (listed.getD 4 false = true → x40 = (.slice (some ⟨gc, 0, none⟩) m cc)) ∧ (listed.getD 5 false = true → ∃ v1 v2, x41 = .tuple #[v1, v2] ∧ Rows2 w' WC.heap.size N m SS1 TK v1 v2) ∧ (listed.getD 6 false = true → ∃ v1 v2, x35 = .tuple #[v1, v2] ∧ Rows2 w' WC.heap.size N m SS1 TK v1 v2) ∧ (listed.getD 7 false = true → w'.ownsRow WC.heap.size 9 1 x42 N (SS1.flatMap strE)) ∧ (listed.getD 8 false = true → w'.ownsRow WC.heap.size 4 1 x43 m (TK.flatMap bolE)) ∧ (listed.getD 9 false = true → w'.ownsRow WC.heap.size 9 1 x7 N (SS1.flatMap strE))) (by kernel_rfl) (by kernel_rfl) ?i0a ?istepa ?ienda
  case i0a => exact ⟨_, _, _, _, _, _, _, _, _, _, by first | (simp only [Act.put, List.setIfInBounds_toArray, List.set_cons_succ, List.set_cons_zero]; done) | (simp only [Act.put, List.setIfInBounds_toArray, List.set_cons_succ, List.set_cons_zero]; rfl) | rfl, below_drew (Below.refl _ _), fun h => (not_rep h).elim, fun h => (not_rep h).elim, fun h => (not_rep h).elim, fun h => (not_rep h).elim, fun h => (not_rep h).elim, fun h => (not_rep h).elim, fun h => (not_rep h).elim, fun h => (not_rep h).elim, fun h => (not_rep h).elim, fun h => (not_rep h).elim⟩
  case istepa =>
    rintro i listed a' w' hi hr ⟨x36, x37, x38, x39, x40, x41, x35, x42, x43, x7, rfl, HBw, d0, d1, d2, d3, d4, d5, d6, d7, d8, d9⟩
    obtain ⟨hun, oj, hoj, hwt⟩ := mem_ready.1 hr
    simp only [Act.put, List.setIfInBounds_toArray, List.set_cons_succ, List.set_cons_zero]
    have hcase : i = 0 ∨ i = 1 ∨ i = 2 ∨ i = 3 ∨ i = 4 ∨ i = 5 ∨ i = 6 ∨ i = 7 ∨ i = 8 ∨ i = 9 := by omega
    rcases hcase with rfl | rfl | rfl | rfl | rfl | rfl | rfl | rfl | rfl | rfl
    · have hoj2 := hoj
      obtain rfl := Option.some.inj hoj
      refine wpOp_value hoj2 rfl (v := (.agg (mc bn bg).toArray)) (w' := w') (exec_loadSX rfl rfl (HKC.out.grown (Below.then (Below.refl _ _) HBw.out)) Try.underlying32 rfl (by rw [HMl.out]; exact infoMc)) ?_
      exact ⟨(.agg (mc bn bg).toArray), x37, x38, x39, x40, x41, x35, x42, x43, x7, by first | (simp only [Act.put, List.setIfInBounds_toArray, List.set_cons_succ, List.set_cons_zero]; done) | (simp only [Act.put, List.setIfInBounds_toArray, List.set_cons_succ, List.set_cons_zero]; rfl) | rfl, HBw, fun _ => rfl, fun h => (d1 (keep (by decide) h)), fun h => (d2 (keep (by decide) h)), fun h => (d3 (keep (by decide) h)), fun h => (d4 (keep (by decide) h)), fun h => (d5 (keep (by decide) h)), fun h => (d6 (keep (by decide) h)), fun h => (d7 (keep (by decide) h)), fun h => (d8 (keep (by decide) h)), fun h => (d9 (keep (by decide) h))⟩
    · have hoj2 := hoj
      obtain rfl := Option.some.inj hoj
      refine wpOp_value hoj2 rfl (v := (.slice (some ⟨gc, 0, none⟩) N cc)) (w' := w') (by first | rfl | (go_simp; done) | (simp [go_sem]; done) | (simp [execOp, go_sem]; done)) ?_
      exact ⟨x36, (.slice (some ⟨gc, 0, none⟩) N cc), x38, x39, x40, x41, x35, x42, x43, x7, by first | (simp only [Act.put, List.setIfInBounds_toArray, List.set_cons_succ, List.set_cons_zero]; done) | (simp only [Act.put, List.setIfInBounds_toArray, List.set_cons_succ, List.set_cons_zero]; rfl) | rfl, HBw, fun h => (d0 (keep (by decide) h)), fun _ => rfl, fun h => (d2 (keep (by decide) h)), fun h => (d3 (keep (by decide) h)), fun h => (d4 (keep (by decide) h)), fun h => (d5 (keep (by decide) h)), fun h => (d6 (keep (by decide) h)), fun h => (d7 (keep (by decide) h)), fun h => (d8 (keep (by decide) h)), fun h => (d9 (keep (by decide) h))⟩
    · have hoj2 := hoj
      obtain rfl := Option.some.inj hoj
      refine wpOp_value hoj2 rfl (v := (.slice al m cl)) (w' := w') (by first | rfl | (go_simp; done) | (simp [go_sem]; done) | (simp [execOp, go_sem]; done)) ?_
      exact ⟨x36, x37, (.slice al m cl), x39, x40, x41, x35, x42, x43, x7, by first | (simp only [Act.put, List.setIfInBounds_toArray, List.set_cons_succ, List.set_cons_zero]; done) | (simp only [Act.put, List.setIfInBounds_toArray, List.set_cons_succ, List.set_cons_zero]; rfl) | rfl, HBw, fun h => (d0 (keep (by decide) h)), fun h => (d1 (keep (by decide) h)), fun _ => rfl, fun h => (d3 (keep (by decide) h)), fun h => (d4 (keep (by decide) h)), fun h => (d5 (keep (by decide) h)), fun h => (d6 (keep (by decide) h)), fun h => (d7 (keep (by decide) h)), fun h => (d8 (keep (by decide) h)), fun h => (d9 (keep (by decide) h))⟩
    · have hoj2 := hoj
      obtain rfl := Option.some.inj hoj
      have e2 := d2 (hwt ⟨2, .data⟩ (by simp) rfl)
      subst e2
      refine wpOp_value hoj2 rfl (v := (.int .i64 (m : Int))) (w' := w') (by first | rfl | (go_simp; done) | (simp [go_sem]; done) | (simp [execOp, go_sem]; done)) ?_
      exact ⟨x36, x37, _, (.int .i64 (m : Int)), x40, x41, x35, x42, x43, x7, by first | (simp only [Act.put, List.setIfInBounds_toArray, List.set_cons_succ, List.set_cons_zero]; done) | (simp only [Act.put, List.setIfInBounds_toArray, List.set_cons_succ, List.set_cons_zero]; rfl) | rfl, HBw, fun h => (d0 (keep (by decide) h)), fun h => (d1 (keep (by decide) h)), fun h => (d2 (keep (by decide) h)), fun _ => rfl, fun h => (d4 (keep (by decide) h)), fun h => (d5 (keep (by decide) h)), fun h => (d6 (keep (by decide) h)), fun h => (d7 (keep (by decide) h)), fun h => (d8 (keep (by decide) h)), fun h => (d9 (keep (by decide) h))⟩
    · have hoj2 := hoj
      obtain rfl := Option.some.inj hoj
      have e1 := d1 (hwt ⟨1, .data⟩ (by simp) rfl)
      have e3 := d3 (hwt ⟨3, .data⟩ (by simp) rfl)
      subst e1 e3
      refine wpOp_value hoj2 rfl (exec_sliceH _ _ rfl rfl rfl (run_headP gc N cc m hmc w')) ?_
      exact ⟨x36, _, x38, _, _, x41, x35, x42, x43, x7, by first | (simp only [Act.put, List.setIfInBounds_toArray, List.set_cons_succ, List.set_cons_zero]; done) | (simp only [Act.put, List.setIfInBounds_toArray, List.set_cons_succ, List.set_cons_zero]; rfl) | rfl, HBw, fun h => (d0 (keep (by decide) h)), fun h => (d1 (keep (by decide) h)), fun h => (d2 (keep (by decide) h)), fun h => (d3 (keep (by decide) h)), fun _ => rfl, fun h => (d5 (keep (by decide) h)), fun h => (d6 (keep (by decide) h)), fun h => (d7 (keep (by decide) h)), fun h => (d8 (keep (by decide) h)), fun h => (d9 (keep (by decide) h))⟩
    · have hoj2 := hoj
      obtain rfl := Option.some.inj hoj
      have e0 := d0 (hwt ⟨0, .data⟩ (by simp) rfl)
      have e4 := d4 (hwt ⟨4, .data⟩ (by simp) rfl)
      subst e0 e4
      refine wpOp_call hoj2 rfl (f := 7) (args := #[(.agg (mc bn bg).toArray), (.slice (some ⟨gc, 0, none⟩) m cc)]) (by first | rfl | (go_simp; done) | (simp [execOp, go_sem]; done)) ?_
      refine (HcR.out bn bg w' _ _ (HMC.out.below (Below.then (Below.refl _ _) HBw.out)) (HSC.out.below (Below.then (Below.refl _ _) HBw.out))).mono ?_
      rintro e w4 ⟨v1, v2, rfl, O4, Q4, B4⟩
      refine ⟨_, rfl, ?_⟩
      exact ⟨_, x37, x38, x39, _, _, x35, x42, x43, x7, by first | (simp only [Act.put, List.setIfInBounds_toArray, List.set_cons_succ, List.set_cons_zero]; done) | (simp only [Act.put, List.setIfInBounds_toArray, List.set_cons_succ, List.set_cons_zero]; rfl) | rfl, hb_then HBw B4, fun h => (d0 (keep (by decide) h)), fun h => (d1 (keep (by decide) h)), fun h => (d2 (keep (by decide) h)), fun h => (d3 (keep (by decide) h)), fun h => (d4 (keep (by decide) h)), fun _ => ⟨v1, v2, rfl, own_raise O4 HBw.out.size, own_raise Q4 HBw.out.size⟩, fun h => (Exists.elim (d6 (keep (by decide) h)) fun v1 h => Exists.elim h fun v2 h => ⟨v1, v2, h.1, h.2.below B4⟩), fun h => (own_below (d7 (keep (by decide) h)) B4), fun h => (own_below (d8 (keep (by decide) h)) B4), fun h => (own_below (d9 (keep (by decide) h)) B4)⟩
    · have hoj2 := hoj
      obtain rfl := Option.some.inj hoj
      have e5 := d5 (hwt ⟨5, .data⟩ (by simp) rfl)
      refine wpOp_value hoj2 rfl (v := x41) (w' := w') (by first | rfl | (go_simp; done) | (simp [go_sem]; done) | (simp [execOp, go_sem]; done)) ?_
      exact ⟨x36, x37, x38, x39, x40, x41, x41, x42, x43, x7, by first | (simp only [Act.put, List.setIfInBounds_toArray, List.set_cons_succ, List.set_cons_zero]; done) | (simp only [Act.put, List.setIfInBounds_toArray, List.set_cons_succ, List.set_cons_zero]; rfl) | rfl, HBw, fun h => (d0 (keep (by decide) h)), fun h => (d1 (keep (by decide) h)), fun h => (d2 (keep (by decide) h)), fun h => (d3 (keep (by decide) h)), fun h => (d4 (keep (by decide) h)), fun h => (d5 (keep (by decide) h)), fun _ => e5, fun h => (d7 (keep (by decide) h)), fun h => (d8 (keep (by decide) h)), fun h => (d9 (keep (by decide) h))⟩
    · have hoj2 := hoj
      obtain rfl := Option.some.inj hoj
      have e6 := d6 (hwt ⟨6, .data⟩ (by simp) rfl)
      obtain ⟨v1, v2, rfl, R12⟩ := e6
      refine wpOp_value hoj2 rfl (v := v1) (w' := w') (by first | rfl | (go_simp; done) | (simp [go_sem]; done) | (simp [execOp, go_sem]; done)) ?_
      exact ⟨x36, x37, x38, x39, x40, x41, _, v1, x43, x7, by first | (simp only [Act.put, List.setIfInBounds_toArray, List.set_cons_succ, List.set_cons_zero]; done) | (simp only [Act.put, List.setIfInBounds_toArray, List.set_cons_succ, List.set_cons_zero]; rfl) | rfl, HBw, fun h => (d0 (keep (by decide) h)), fun h => (d1 (keep (by decide) h)), fun h => (d2 (keep (by decide) h)), fun h => (d3 (keep (by decide) h)), fun h => (d4 (keep (by decide) h)), fun h => (d5 (keep (by decide) h)), fun h => (d6 (keep (by decide) h)), fun _ => R12.a, fun h => (d8 (keep (by decide) h)), fun h => (d9 (keep (by decide) h))⟩
    · have hoj2 := hoj
      obtain rfl := Option.some.inj hoj
      have e6 := d6 (hwt ⟨6, .data⟩ (by simp) rfl)
      obtain ⟨v1, v2, rfl, R12⟩ := e6
      refine wpOp_value hoj2 rfl (v := v2) (w' := w') (by first | rfl | (go_simp; done) | (simp [go_sem]; done) | (simp [execOp, go_sem]; done)) ?_
      exact ⟨x36, x37, x38, x39, x40, x41, _, x42, v2, x7, by first | (simp only [Act.put, List.setIfInBounds_toArray, List.set_cons_succ, List.set_cons_zero]; done) | (simp only [Act.put, List.setIfInBounds_toArray, List.set_cons_succ, List.set_cons_zero]; rfl) | rfl, HBw, fun h => (d0 (keep (by decide) h)), fun h => (d1 (keep (by decide) h)), fun h => (d2 (keep (by decide) h)), fun h => (d3 (keep (by decide) h)), fun h => (d4 (keep (by decide) h)), fun h => (d5 (keep (by decide) h)), fun h => (d6 (keep (by decide) h)), fun h => (d7 (keep (by decide) h)), fun _ => R12.b, fun h => (d9 (keep (by decide) h))⟩
    · have hoj2 := hoj
      obtain rfl := Option.some.inj hoj
      have e7 := d7 (hwt ⟨7, .data⟩ (by simp) rfl)
      refine wpOp_value hoj2 rfl (v := x42) (w' := w') (by first | rfl | (go_simp; done) | (simp [go_sem]; done) | (simp [execOp, go_sem]; done)) ?_
      exact ⟨x36, x37, x38, x39, x40, x41, x35, x42, x43, x42, by first | (simp only [Act.put, List.setIfInBounds_toArray, List.set_cons_succ, List.set_cons_zero]; done) | (simp only [Act.put, List.setIfInBounds_toArray, List.set_cons_succ, List.set_cons_zero]; rfl) | rfl, HBw, fun h => (d0 (keep (by decide) h)), fun h => (d1 (keep (by decide) h)), fun h => (d2 (keep (by decide) h)), fun h => (d3 (keep (by decide) h)), fun h => (d4 (keep (by decide) h)), fun h => (d5 (keep (by decide) h)), fun h => (d6 (keep (by decide) h)), fun h => (d7 (keep (by decide) h)), fun h => (d8 (keep (by decide) h)), fun _ => e7⟩
  case ienda =>
    rintro a' w' ⟨x36, x37, x38, x39, x40, x41, x35, x42, x43, x7, rfl, HBw, d0, d1, d2, d3, d4, d5, d6, d7, d8, d9⟩
    replace d0 := d0 rfl
    replace d1 := d1 rfl
    replace d2 := d2 rfl
    replace d3 := d3 rfl
    replace d4 := d4 rfl
    replace d5 := d5 rfl
    replace d6 := d6 rfl
    replace d7 := d7 rfl
    replace d8 := d8 rfl
    replace d9 := d9 rfl
    simp only [Act.put, List.setIfInBounds_toArray, List.set_cons_succ, List.set_cons_zero]
    simp only [List.drop_succ_cons, List.drop_zero]
    have H7 : Hid (w'.ownsRow WC.heap.size 9 1 x7 N (SS1.flatMap strE)) := d9
    have H8 : Hid (w'.ownsRow WC.heap.size 4 1 x43 m (TK.flatMap bolE)) := d8
    have HB5 : Hid (Below WC.heap.size WC w') := HBw
    obtain ⟨a7, c7, ev7⟩ := own_form H7.out
    subst ev7
    obtain ⟨a8, c8, ev8⟩ := own_form H8.out
    subst ev8
    obtain ⟨W5x, eW⟩ : ∃ x, x = w' := ⟨_, rfl⟩
    subst eW
    clear d0 d1 d2 d3 d4 d5 d6 d7 d8 d9 HBw
    have t11 : True := trivial
    have K11 := HKC.out.grown HB5.out
    go_wp2_with (first
      | (clear t11; refine wpList_loadW rfl 32 _ rfl rfl K11 _ Try.underlying32 rfl (by rw [HMl.out]; exact infoMc) ?_)
      | (go_at_call 8; refine (HrR.out bn bg _ (HMC.out.below HB5.out) (HLC.out.below HB5.out)).mono ?_; rintro e W6x ⟨v9, v10, rfl, O6x, Q6x, B6x⟩))
    have HB6 : Hid (Below WC.heap.size WC W6x) := Below.then HB5.out B6x
    have HS7 : Hid (W6x.ownsRow WC.heap.size 9 1 (.slice a7 N c7) N (SS1.flatMap strE)) := own_below H7.out B6x
    have HS8 : Hid (W6x.ownsRow WC.heap.size 4 1 (.slice a8 m c8) m (TK.flatMap bolE)) := own_below H8.out B6x
    have HS9 : Hid (W6x.ownsRow WC.heap.size 9 1 v9 N (SS1.flatMap strE)) := own_raise O6x HB5.out.size
    have HS10 : Hid (W6x.ownsRow WC.heap.size 4 1 v10 m (TK.flatMap bolE)) := own_raise Q6x HB5.out.size
    obtain ⟨a9, c9, ev9⟩ := own_form HS9.out
    subst ev9
    obtain ⟨a10, c10, ev10⟩ := own_form HS10.out
    subst ev10
    clear O6x Q6x B6x K11 H7 H8
    refine region_invA 11 (fun a0 listed a' w' => ∃ x51 x52 x53 x54 x55 x56 x50 x57 x58 x11 : Value, a' = ((((((((((a0.put (some 51) x51).put (some 52) x52).put (some 53) x53).put (some 54) x54).put (some 55) x55).put (some 56) x56).put (some 50) x50).put (some 57) x57).put (some 58) x58).put (some 11) x11) ∧ Hid (Below W6x.heap.size W6x w') ∧ (listed.getD 10 false = true → listed.getD 9 false = true) ∧ (listed.getD 10 false = true → listed.getD 7 false = true) ∧ (listed.getD 0 false = true → x51 = (.agg (mc bn bg).toArray)) ∧ (listed.getD 1 false = true → x52 = (.slice (some ⟨gc, 0, none⟩) N cc)) ∧ (listed.getD 2 false = true → x53 = (.slice al m cl)) ∧ (listed.getD 3 false = true → x54 = (.int .i64 (m : Int))) ∧ (listed.getD 4 false = true → x55 = (.slice (some ⟨gc, 0, none⟩) m cc)) ∧ (listed.getD 5 false = true → x56 = (.tuple #[.agg (finL E).toArray, .bool ie])) ∧ (listed.getD 6 false = true → x50 = (.tuple #[.agg (finL E).toArray, .bool ie])) ∧ (listed.getD 7 false = true → x57 = (.agg (finL E).toArray)) ∧ (listed.getD 8 false = true → x58 = (.bool ie)) ∧ (listed.getD 9 false = true → listed.getD 10 false = false → ∃ b, x11 = .pointer (some ⟨b, 0, none⟩) ∧ W6x.heap.size ≤ b ∧ IsS w' b 42 (finL [])) ∧ (listed.getD 10 false = true → ∃ b, x11 = .pointer (some ⟨b, 0, none⟩) ∧ W6x.heap.size ≤ b ∧ IsS w' b 42 (finL E))) (by kernel_rfl) (by kernel_rfl) ?i0b ?istepb ?iendb
    case i0b => exact ⟨_, _, _, _, _, _, _, _, _, _, by first | (simp only [Act.put, List.setIfInBounds_toArray, List.set_cons_succ, List.set_cons_zero]; done) | (simp only [Act.put, List.setIfInBounds_toArray, List.set_cons_succ, List.set_cons_zero]; rfl) | rfl, below_drew (Below.refl _ _), fun h => (not_rep h).elim, fun h => (not_rep h).elim, fun h => (not_rep h).elim, fun h => (not_rep h).elim, fun h => (not_rep h).elim, fun h => (not_rep h).elim, fun h => (not_rep h).elim, fun h => (not_rep h).elim, fun h => (not_rep h).elim, fun h => (not_rep h).elim, fun h => (not_rep h).elim, fun h => (not_rep h).elim, fun h => (not_rep h).elim⟩
    case istepb =>
      rintro i listed a' w' hi hr ⟨x51, x52, x53, x54, x55, x56, x50, x57, x58, x11, rfl, HBw, m10_9, m10_7, d0, d1, d2, d3, d4, d5, d6, d7, d8, d9, d10⟩
      obtain ⟨hun, oj, hoj, hwt⟩ := mem_ready.1 hr
      simp only [Act.put, List.setIfInBounds_toArray, List.set_cons_succ, List.set_cons_zero]
      have hcase : i = 0 ∨ i = 1 ∨ i = 2 ∨ i = 3 ∨ i = 4 ∨ i = 5 ∨ i = 6 ∨ i = 7 ∨ i = 8 ∨ i = 9 ∨ i = 10 := by omega
      rcases hcase with rfl | rfl | rfl | rfl | rfl | rfl | rfl | rfl | rfl | rfl | rfl
      · have hoj2 := hoj
        obtain rfl := Option.some.inj hoj
        refine wpOp_value hoj2 rfl (v := (.agg (mc bn bg).toArray)) (w' := w') (exec_loadSX rfl rfl (HKC.out.grown (Below.then HB6.out HBw.out)) Try.underlying32 rfl (by rw [HMl.out]; exact infoMc)) ?_
        exact ⟨(.agg (mc bn bg).toArray), x52, x53, x54, x55, x56, x50, x57, x58, x11, by first | (simp only [Act.put, List.setIfInBounds_toArray, List.set_cons_succ, List.set_cons_zero]; done) | (simp only [Act.put, List.setIfInBounds_toArray, List.set_cons_succ, List.set_cons_zero]; rfl) | rfl, HBw, fun h => keepT (m10_9 (keep (by decide) h)), fun h => keepT (m10_7 (keep (by decide) h)), fun _ => rfl, fun h => (d1 (keep (by decide) h)), fun h => (d2 (keep (by decide) h)), fun h => (d3 (keep (by decide) h)), fun h => (d4 (keep (by decide) h)), fun h => (d5 (keep (by decide) h)), fun h => (d6 (keep (by decide) h)), fun h => (d7 (keep (by decide) h)), fun h => (d8 (keep (by decide) h)), fun h h2 => (d9 (keep (by decide) h) (keepG (by decide) h2)), fun h => (d10 (keep (by decide) h))⟩
      · have hoj2 := hoj
        obtain rfl := Option.some.inj hoj
        refine wpOp_value hoj2 rfl (v := (.slice (some ⟨gc, 0, none⟩) N cc)) (w' := w') (by first | rfl | (go_simp; done) | (simp [go_sem]; done) | (simp [execOp, go_sem]; done)) ?_
        exact ⟨x51, (.slice (some ⟨gc, 0, none⟩) N cc), x53, x54, x55, x56, x50, x57, x58, x11, by first | (simp only [Act.put, List.setIfInBounds_toArray, List.set_cons_succ, List.set_cons_zero]; done) | (simp only [Act.put, List.setIfInBounds_toArray, List.set_cons_succ, List.set_cons_zero]; rfl) | rfl, HBw, fun h => keepT (m10_9 (keep (by decide) h)), fun h => keepT (m10_7 (keep (by decide) h)), fun h => (d0 (keep (by decide) h)), fun _ => rfl, fun h => (d2 (keep (by decide) h)), fun h => (d3 (keep (by decide) h)), fun h => (d4 (keep (by decide) h)), fun h => (d5 (keep (by decide) h)), fun h => (d6 (keep (by decide) h)), fun h => (d7 (keep (by decide) h)), fun h => (d8 (keep (by decide) h)), fun h h2 => (d9 (keep (by decide) h) (keepG (by decide) h2)), fun h => (d10 (keep (by decide) h))⟩
      · have hoj2 := hoj
        obtain rfl := Option.some.inj hoj
        refine wpOp_value hoj2 rfl (v := (.slice al m cl)) (w' := w') (by first | rfl | (go_simp; done) | (simp [go_sem]; done) | (simp [execOp, go_sem]; done)) ?_
        exact ⟨x51, x52, (.slice al m cl), x54, x55, x56, x50, x57, x58, x11, by first | (simp only [Act.put, List.setIfInBounds_toArray, List.set_cons_succ, List.set_cons_zero]; done) | (simp only [Act.put, List.setIfInBounds_toArray, List.set_cons_succ, List.set_cons_zero]; rfl) | rfl, HBw, fun h => keepT (m10_9 (keep (by decide) h)), fun h => keepT (m10_7 (keep (by decide) h)), fun h => (d0 (keep (by decide) h)), fun h => (d1 (keep (by decide) h)), fun _ => rfl, fun h => (d3 (keep (by decide) h)), fun h => (d4 (keep (by decide) h)), fun h => (d5 (keep (by decide) h)), fun h => (d6 (keep (by decide) h)), fun h => (d7 (keep (by decide) h)), fun h => (d8 (keep (by decide) h)), fun h h2 => (d9 (keep (by decide) h) (keepG (by decide) h2)), fun h => (d10 (keep (by decide) h))⟩
      · have hoj2 := hoj
        obtain rfl := Option.some.inj hoj
        have e2 := d2 (hwt ⟨2, .data⟩ (by simp) rfl)
        subst e2
        refine wpOp_value hoj2 rfl (v := (.int .i64 (m : Int))) (w' := w') (by first | rfl | (go_simp; done) | (simp [go_sem]; done) | (simp [execOp, go_sem]; done)) ?_
        exact ⟨x51, x52, _, (.int .i64 (m : Int)), x55, x56, x50, x57, x58, x11, by first | (simp only [Act.put, List.setIfInBounds_toArray, List.set_cons_succ, List.set_cons_zero]; done) | (simp only [Act.put, List.setIfInBounds_toArray, List.set_cons_succ, List.set_cons_zero]; rfl) | rfl, HBw, fun h => keepT (m10_9 (keep (by decide) h)), fun h => keepT (m10_7 (keep (by decide) h)), fun h => (d0 (keep (by decide) h)), fun h => (d1 (keep (by decide) h)), fun h => (d2 (keep (by decide) h)), fun _ => rfl, fun h => (d4 (keep (by decide) h)), fun h => (d5 (keep (by decide) h)), fun h => (d6 (keep (by decide) h)), fun h => (d7 (keep (by decide) h)), fun h => (d8 (keep (by decide) h)), fun h h2 => (d9 (keep (by decide) h) (keepG (by decide) h2)), fun h => (d10 (keep (by decide) h))⟩
      · have hoj2 := hoj
        obtain rfl := Option.some.inj hoj
        have e1 := d1 (hwt ⟨1, .data⟩ (by simp) rfl)
        have e3 := d3 (hwt ⟨3, .data⟩ (by simp) rfl)
        subst e1 e3
        refine wpOp_value hoj2 rfl (exec_sliceH _ _ rfl rfl rfl (run_headP gc N cc m hmc w')) ?_
        exact ⟨x51, _, x53, _, _, x56, x50, x57, x58, x11, by first | (simp only [Act.put, List.setIfInBounds_toArray, List.set_cons_succ, List.set_cons_zero]; done) | (simp only [Act.put, List.setIfInBounds_toArray, List.set_cons_succ, List.set_cons_zero]; rfl) | rfl, HBw, fun h => keepT (m10_9 (keep (by decide) h)), fun h => keepT (m10_7 (keep (by decide) h)), fun h => (d0 (keep (by decide) h)), fun h => (d1 (keep (by decide) h)), fun h => (d2 (keep (by decide) h)), fun h => (d3 (keep (by decide) h)), fun _ => rfl, fun h => (d5 (keep (by decide) h)), fun h => (d6 (keep (by decide) h)), fun h => (d7 (keep (by decide) h)), fun h => (d8 (keep (by decide) h)), fun h h2 => (d9 (keep (by decide) h) (keepG (by decide) h2)), fun h => (d10 (keep (by decide) h))⟩
      · have hoj2 := hoj
        obtain rfl := Option.some.inj hoj
        have e0 := d0 (hwt ⟨0, .data⟩ (by simp) rfl)
        have e4 := d4 (hwt ⟨4, .data⟩ (by simp) rfl)
        subst e0 e4
        refine wpOp_call hoj2 rfl (f := 9) (args := #[(.agg (mc bn bg).toArray), (.slice (some ⟨gc, 0, none⟩) m cc)]) (by first | rfl | (go_simp; done) | (simp [execOp, go_sem]; done)) ?_
        refine (HcO.out bn bg w' _ _ (HMC.out.below (Below.then HB6.out HBw.out)) (HSC.out.below (Below.then HB6.out HBw.out))).mono ?_
        rintro e w4 ⟨rfl, B4⟩
        refine ⟨_, rfl, ?_⟩
        exact ⟨_, x52, x53, x54, _, _, x50, x57, x58, x11, by first | (simp only [Act.put, List.setIfInBounds_toArray, List.set_cons_succ, List.set_cons_zero]; done) | (simp only [Act.put, List.setIfInBounds_toArray, List.set_cons_succ, List.set_cons_zero]; rfl) | rfl, hb_then HBw B4, fun h => keepT (m10_9 (keep (by decide) h)), fun h => keepT (m10_7 (keep (by decide) h)), fun h => (d0 (keep (by decide) h)), fun h => (d1 (keep (by decide) h)), fun h => (d2 (keep (by decide) h)), fun h => (d3 (keep (by decide) h)), fun h => (d4 (keep (by decide) h)), fun _ => rfl, fun h => (d6 (keep (by decide) h)), fun h => (d7 (keep (by decide) h)), fun h => (d8 (keep (by decide) h)), fun h h2 => (Exists.elim (d9 (keep (by decide) h) (keepG (by decide) h2)) fun b h => ⟨b, h.1, h.2.1, h.2.2.grown B4⟩), fun h => (Exists.elim (d10 (keep (by decide) h)) fun b h => ⟨b, h.1, h.2.1, h.2.2.grown B4⟩)⟩
      · have hoj2 := hoj
        obtain rfl := Option.some.inj hoj
        have e5 := d5 (hwt ⟨5, .data⟩ (by simp) rfl)
        subst e5
        refine wpOp_value hoj2 rfl (v := (.tuple #[.agg (finL E).toArray, .bool ie])) (w' := w') (by first | rfl | (go_simp; done) | (simp [go_sem]; done) | (simp [execOp, go_sem]; done)) ?_
        exact ⟨x51, x52, x53, x54, x55, _, (.tuple #[.agg (finL E).toArray, .bool ie]), x57, x58, x11, by first | (simp only [Act.put, List.setIfInBounds_toArray, List.set_cons_succ, List.set_cons_zero]; done) | (simp only [Act.put, List.setIfInBounds_toArray, List.set_cons_succ, List.set_cons_zero]; rfl) | rfl, HBw, fun h => keepT (m10_9 (keep (by decide) h)), fun h => keepT (m10_7 (keep (by decide) h)), fun h => (d0 (keep (by decide) h)), fun h => (d1 (keep (by decide) h)), fun h => (d2 (keep (by decide) h)), fun h => (d3 (keep (by decide) h)), fun h => (d4 (keep (by decide) h)), fun h => (d5 (keep (by decide) h)), fun _ => rfl, fun h => (d7 (keep (by decide) h)), fun h => (d8 (keep (by decide) h)), fun h h2 => (d9 (keep (by decide) h) (keepG (by decide) h2)), fun h => (d10 (keep (by decide) h))⟩
      · have hoj2 := hoj
        obtain rfl := Option.some.inj hoj
        have e6 := d6 (hwt ⟨6, .data⟩ (by simp) rfl)
        subst e6
        refine wpOp_value hoj2 rfl (v := (.agg (finL E).toArray)) (w' := w') (by first | rfl | (go_simp; done) | (simp [go_sem]; done) | (simp [execOp, go_sem]; done)) ?_
        exact ⟨x51, x52, x53, x54, x55, x56, _, (.agg (finL E).toArray), x58, x11, by first | (simp only [Act.put, List.setIfInBounds_toArray, List.set_cons_succ, List.set_cons_zero]; done) | (simp only [Act.put, List.setIfInBounds_toArray, List.set_cons_succ, List.set_cons_zero]; rfl) | rfl, HBw, fun h => keepT (m10_9 (keep (by decide) h)), fun h => keepT (m10_7 (keep (by decide) h)), fun h => (d0 (keep (by decide) h)), fun h => (d1 (keep (by decide) h)), fun h => (d2 (keep (by decide) h)), fun h => (d3 (keep (by decide) h)), fun h => (d4 (keep (by decide) h)), fun h => (d5 (keep (by decide) h)), fun h => (d6 (keep (by decide) h)), fun _ => rfl, fun h => (d8 (keep (by decide) h)), fun h h2 => (d9 (keep (by decide) h) (keepG (by decide) h2)), fun h => absurd (m10_7 (keep (by decide) h)) (by rw [getD_both hun]; simp)⟩
      · have hoj2 := hoj
        obtain rfl := Option.some.inj hoj
        have e6 := d6 (hwt ⟨6, .data⟩ (by simp) rfl)
        subst e6
        refine wpOp_value hoj2 rfl (v := (.bool ie)) (w' := w') (by first | rfl | (go_simp; done) | (simp [go_sem]; done) | (simp [execOp, go_sem]; done)) ?_
        exact ⟨x51, x52, x53, x54, x55, x56, _, x57, (.bool ie), x11, by first | (simp only [Act.put, List.setIfInBounds_toArray, List.set_cons_succ, List.set_cons_zero]; done) | (simp only [Act.put, List.setIfInBounds_toArray, List.set_cons_succ, List.set_cons_zero]; rfl) | rfl, HBw, fun h => keepT (m10_9 (keep (by decide) h)), fun h => keepT (m10_7 (keep (by decide) h)), fun h => (d0 (keep (by decide) h)), fun h => (d1 (keep (by decide) h)), fun h => (d2 (keep (by decide) h)), fun h => (d3 (keep (by decide) h)), fun h => (d4 (keep (by decide) h)), fun h => (d5 (keep (by decide) h)), fun h => (d6 (keep (by decide) h)), fun h => (d7 (keep (by decide) h)), fun _ => rfl, fun h h2 => (d9 (keep (by decide) h) (keepG (by decide) h2)), fun h => (d10 (keep (by decide) h))⟩
      · have hoj2 := hoj
        obtain rfl := Option.some.inj hoj
        refine wpOp_value hoj2 rfl (run_allocS 42 (finL []) zeroFin rfl _ w') ?_
        have B9 := F_b (Fresh.alloc w' (.cells (finL []).toArray 42))
        exact ⟨x51, x52, x53, x54, x55, x56, x50, x57, x58, _, by first | (simp only [Act.put, List.setIfInBounds_toArray, List.set_cons_succ, List.set_cons_zero]; done) | (simp only [Act.put, List.setIfInBounds_toArray, List.set_cons_succ, List.set_cons_zero]; rfl) | rfl, hb_then HBw B9, fun h => keepT (m10_9 (keep (by decide) h)), fun h => keepT (m10_7 (keep (by decide) h)), fun h => (d0 (keep (by decide) h)), fun h => (d1 (keep (by decide) h)), fun h => (d2 (keep (by decide) h)), fun h => (d3 (keep (by decide) h)), fun h => (d4 (keep (by decide) h)), fun h => (d5 (keep (by decide) h)), fun h => (d6 (keep (by decide) h)), fun h => (d7 (keep (by decide) h)), fun h => (d8 (keep (by decide) h)), fun _ _ => ⟨_, rfl, HBw.out.size, IsS.new w' _ _⟩, fun h => absurd (m10_9 (keep (by decide) h)) (by rw [getD_both hun]; simp)⟩
      · have hoj2 := hoj
        obtain rfl := Option.some.inj hoj
        have e9 := d9 (hwt ⟨9, .data⟩ (by simp) rfl) (getD_both hun)
        have e7 := d7 (hwt ⟨7, .data⟩ (by simp) rfl)
        obtain ⟨b9, rfl, hb9, I9⟩ := e9
        subst e7
        refine wpOp_storeW hoj2 rfl 42 _ _ rfl rfl (finL E) rfl I9 (len_fin _ HEl.out) (info_fin _ HEl.out) (finL_one _) ?_
        intro w9 U9 J9
        have HBa : Hid (Below W6x.heap.size W6x w9) := U9.trans HBw.out hb9
        exact ⟨x51, x52, x53, x54, x55, x56, x50, _, x58, _, by first | (simp only [Act.put, List.setIfInBounds_toArray, List.set_cons_succ, List.set_cons_zero]; done) | (simp only [Act.put, List.setIfInBounds_toArray, List.set_cons_succ, List.set_cons_zero]; rfl) | rfl, HBa, fun _ => keepT (hwt ⟨9, .data⟩ (by simp) rfl), fun _ => keepT (hwt ⟨7, .data⟩ (by simp) rfl), fun h => (d0 (keep (by decide) h)), fun h => (d1 (keep (by decide) h)), fun h => (d2 (keep (by decide) h)), fun h => (d3 (keep (by decide) h)), fun h => (d4 (keep (by decide) h)), fun h => (d5 (keep (by decide) h)), fun h => (d6 (keep (by decide) h)), fun h => (d7 (keep (by decide) h)), fun h => (d8 (keep (by decide) h)), fun _ h => absurd h (by rw [nowU hun]; simp), fun _ => ⟨b9, rfl, hb9, J9⟩⟩
    case iendb =>
      rintro a' w' ⟨x51, x52, x53, x54, x55, x56, x50, x57, x58, x11, rfl, HBw, m10_9, m10_7, d0, d1, d2, d3, d4, d5, d6, d7, d8, d9, d10⟩
      replace d0 := d0 rfl
      replace d1 := d1 rfl
      replace d2 := d2 rfl
      replace d3 := d3 rfl
      replace d4 := d4 rfl
      replace d5 := d5 rfl
      replace d6 := d6 rfl
      replace d7 := d7 rfl
      replace d8 := d8 rfl
      replace d10 := d10 rfl
      clear m10_9 m10_7 d9
      simp only [Act.put, List.setIfInBounds_toArray, List.set_cons_succ, List.set_cons_zero]
      simp only [List.drop_succ_cons, List.drop_zero]
      obtain ⟨b11, rfl, hb11, I11⟩ := d10
      have HI11 : Hid (IsS w' b11 42 (finL E)) := I11
      have HB7x : Hid (Below W6x.heap.size W6x w') := HBw
      obtain ⟨W7x, eW⟩ : ∃ x, x = w' := ⟨_, rfl⟩
      subst eW
      clear d0 d1 d2 d3 d4 d5 d6 d7 I11 HBw
      subst d8
      have t12 : True := trivial
      have t13 : True := trivial
      have t14 : True := trivial
      have K12 := HKC.out.grown (Below.then HB6.out HB7x.out)
      have HBD : Hid (Below WC.heap.size WC W7x) := Below.then HB6.out HB7x.out
      go_wp2_with (first
        | (clear t12; refine wpList_loadW rfl 32 _ rfl rfl K12 _ Try.underlying32 rfl (by rw [HMl.out]; exact infoMc) ?_)
        | (go_at_call 10; refine (HrO.out bn bg _ (HMC.out.below HBD.out) (HLC.out.below HBD.out)).mono ?_; rintro e W8x ⟨rfl, B8x⟩; have HBE := Below.then HBD.out B8x; clear K12)
        | (clear t13; refine wpList_allocS rfl 42 rfl (finL []) zeroFin ?_; intro W9x b13 F9x K13; have HBF := Below.then HBE (F_b F9x); have hb13 : WC.heap.size ≤ b13 := Nat.le_trans HBE.size (Nat.le_of_eq F9x.at'.symm); have hx13 : W7x.heap.size ≤ b13 := Nat.le_trans B8x.size (Nat.le_of_eq F9x.at'.symm); have Z9 := Below.then B8x (F_b F9x); clear F9x)
        | (clear t14; refine wpList_storeW rfl 42 _ _ rfl rfl (finL E) rfl K13 (len_fin _ HEl.out) (info_fin _ HEl.out) (finL_one _) ?_; intro W10x U10 K14; have HBG := U10.trans HBF hb13; have Z10 := U10.trans Z9 hx13; clear U10 K13))
      have HBT : Hid (Below WC.heap.size WC W10x) := HBG
      have HI13 : Hid (IsS W10x b13 42 (finL E)) := K14
      have HJ11 : Hid (IsS W10x b11 42 (finL E)) := HI11.out.grown Z10
      have HT7 : Hid (W10x.ownsRow WC.heap.size 9 1 (.slice a7 N c7) N (SS1.flatMap strE) ∧ W10x.ownsRow WC.heap.size 4 1 (.slice a8 m c8) m (TK.flatMap bolE) ∧ W10x.ownsRow WC.heap.size 9 1 (.slice a9 N c9) N (SS1.flatMap strE) ∧ W10x.ownsRow WC.heap.size 4 1 (.slice a10 m c10) m (TK.flatMap bolE)) := (by
        have zz := Below.then HB7x.out Z10
        exact ⟨own_below HS7.out zz, own_below HS8.out zz, own_below HS9.out zz, own_below HS10.out zz⟩)
      clear HBE HBF HBG B8x Z9 Z10 K14
      refine region_invA 6 (fun a0 listed a' w' => ∃ x65 x66 x67 x68 x69 x70 : Value, a' = ((((((a0.put (some 65) x65).put (some 66) x66).put (some 67) x67).put (some 68) x68).put (some 69) x69).put (some 70) x70) ∧ Hid (Below W10x.heap.size W10x w') ∧ (listed.getD 0 false = true → x65 = (.agg (mc bn bg).toArray)) ∧ (listed.getD 1 false = true → x66 = (.slice (some ⟨gc, 0, none⟩) N cc)) ∧ (listed.getD 2 false = true → x67 = (.slice al m cl)) ∧ (listed.getD 3 false = true → x68 = (.int .i64 (m : Int))) ∧ (listed.getD 4 false = true → x69 = (.slice (some ⟨gc, 0, none⟩) m cc)) ∧ (listed.getD 5 false = true → w'.ownsRow W10x.heap.size 35 3 x70 mp (PP.flatMap pkL))) (by kernel_rfl) (by kernel_rfl) ?i0c ?istepc ?iendc
      case i0c => exact ⟨_, _, _, _, _, _, by first | (simp only [Act.put, List.setIfInBounds_toArray, List.set_cons_succ, List.set_cons_zero]; done) | (simp only [Act.put, List.setIfInBounds_toArray, List.set_cons_succ, List.set_cons_zero]; rfl) | rfl, below_drew (Below.refl _ _), fun h => (not_rep h).elim, fun h => (not_rep h).elim, fun h => (not_rep h).elim, fun h => (not_rep h).elim, fun h => (not_rep h).elim, fun h => (not_rep h).elim⟩
      case istepc =>
        rintro i listed a' w' hi hr ⟨x65, x66, x67, x68, x69, x70, rfl, HBw, d0, d1, d2, d3, d4, d5⟩
        obtain ⟨hun, oj, hoj, hwt⟩ := mem_ready.1 hr
        simp only [Act.put, List.setIfInBounds_toArray, List.set_cons_succ, List.set_cons_zero]
        have hcase : i = 0 ∨ i = 1 ∨ i = 2 ∨ i = 3 ∨ i = 4 ∨ i = 5 := by omega
        rcases hcase with rfl | rfl | rfl | rfl | rfl | rfl
        · have hoj2 := hoj
          obtain rfl := Option.some.inj hoj
          refine wpOp_value hoj2 rfl (v := (.agg (mc bn bg).toArray)) (w' := w') (exec_loadSX rfl rfl (HKC.out.grown (Below.then HBT.out HBw.out)) Try.underlying32 rfl (by rw [HMl.out]; exact infoMc)) ?_
          exact ⟨(.agg (mc bn bg).toArray), x66, x67, x68, x69, x70, by first | (simp only [Act.put, List.setIfInBounds_toArray, List.set_cons_succ, List.set_cons_zero]; done) | (simp only [Act.put, List.setIfInBounds_toArray, List.set_cons_succ, List.set_cons_zero]; rfl) | rfl, HBw, fun _ => rfl, fun h => (d1 (keep (by decide) h)), fun h => (d2 (keep (by decide) h)), fun h => (d3 (keep (by decide) h)), fun h => (d4 (keep (by decide) h)), fun h => (d5 (keep (by decide) h))⟩
        · have hoj2 := hoj
          obtain rfl := Option.some.inj hoj
          refine wpOp_value hoj2 rfl (v := (.slice (some ⟨gc, 0, none⟩) N cc)) (w' := w') (by first | rfl | (go_simp; done) | (simp [go_sem]; done) | (simp [execOp, go_sem]; done)) ?_
          exact ⟨x65, (.slice (some ⟨gc, 0, none⟩) N cc), x67, x68, x69, x70, by first | (simp only [Act.put, List.setIfInBounds_toArray, List.set_cons_succ, List.set_cons_zero]; done) | (simp only [Act.put, List.setIfInBounds_toArray, List.set_cons_succ, List.set_cons_zero]; rfl) | rfl, HBw, fun h => (d0 (keep (by decide) h)), fun _ => rfl, fun h => (d2 (keep (by decide) h)), fun h => (d3 (keep (by decide) h)), fun h => (d4 (keep (by decide) h)), fun h => (d5 (keep (by decide) h))⟩
        · have hoj2 := hoj
          obtain rfl := Option.some.inj hoj
          refine wpOp_value hoj2 rfl (v := (.slice al m cl)) (w' := w') (by first | rfl | (go_simp; done) | (simp [go_sem]; done) | (simp [execOp, go_sem]; done)) ?_
          exact ⟨x65, x66, (.slice al m cl), x68, x69, x70, by first | (simp only [Act.put, List.setIfInBounds_toArray, List.set_cons_succ, List.set_cons_zero]; done) | (simp only [Act.put, List.setIfInBounds_toArray, List.set_cons_succ, List.set_cons_zero]; rfl) | rfl, HBw, fun h => (d0 (keep (by decide) h)), fun h => (d1 (keep (by decide) h)), fun _ => rfl, fun h => (d3 (keep (by decide) h)), fun h => (d4 (keep (by decide) h)), fun h => (d5 (keep (by decide) h))⟩
        · have hoj2 := hoj
          obtain rfl := Option.some.inj hoj
          have e2 := d2 (hwt ⟨2, .data⟩ (by simp) rfl)
          subst e2
          refine wpOp_value hoj2 rfl (v := (.int .i64 (m : Int))) (w' := w') (by first | rfl | (go_simp; done) | (simp [go_sem]; done) | (simp [execOp, go_sem]; done)) ?_
          exact ⟨x65, x66, _, (.int .i64 (m : Int)), x69, x70, by first | (simp only [Act.put, List.setIfInBounds_toArray, List.set_cons_succ, List.set_cons_zero]; done) | (simp only [Act.put, List.setIfInBounds_toArray, List.set_cons_succ, List.set_cons_zero]; rfl) | rfl, HBw, fun h => (d0 (keep (by decide) h)), fun h => (d1 (keep (by decide) h)), fun h => (d2 (keep (by decide) h)), fun _ => rfl, fun h => (d4 (keep (by decide) h)), fun h => (d5 (keep (by decide) h))⟩
        · have hoj2 := hoj
          obtain rfl := Option.some.inj hoj
          have e1 := d1 (hwt ⟨1, .data⟩ (by simp) rfl)
          have e3 := d3 (hwt ⟨3, .data⟩ (by simp) rfl)
          subst e1 e3
          refine wpOp_value hoj2 rfl (exec_sliceH _ _ rfl rfl rfl (run_headP gc N cc m hmc w')) ?_
          exact ⟨x65, _, x67, _, _, x70, by first | (simp only [Act.put, List.setIfInBounds_toArray, List.set_cons_succ, List.set_cons_zero]; done) | (simp only [Act.put, List.setIfInBounds_toArray, List.set_cons_succ, List.set_cons_zero]; rfl) | rfl, HBw, fun h => (d0 (keep (by decide) h)), fun h => (d1 (keep (by decide) h)), fun h => (d2 (keep (by decide) h)), fun h => (d3 (keep (by decide) h)), fun _ => rfl, fun h => (d5 (keep (by decide) h))⟩
        · have hoj2 := hoj
          obtain rfl := Option.some.inj hoj
          have e0 := d0 (hwt ⟨0, .data⟩ (by simp) rfl)
          have e4 := d4 (hwt ⟨4, .data⟩ (by simp) rfl)
          subst e0 e4
          refine wpOp_call hoj2 rfl (f := 11) (args := #[(.agg (mc bn bg).toArray), (.slice (some ⟨gc, 0, none⟩) m cc)]) (by first | rfl | (go_simp; done) | (simp [execOp, go_sem]; done)) ?_
          refine (HcT.out bn bg w' _ _ (HMC.out.below (Below.then HBT.out HBw.out)) (HSC.out.below (Below.then HBT.out HBw.out))).mono ?_
          rintro e w4 ⟨v, rfl, O4, B4⟩
          refine ⟨_, rfl, ?_⟩
          exact ⟨_, x66, x67, x68, _, _, by first | (simp only [Act.put, List.setIfInBounds_toArray, List.set_cons_succ, List.set_cons_zero]; done) | (simp only [Act.put, List.setIfInBounds_toArray, List.set_cons_succ, List.set_cons_zero]; rfl) | rfl, hb_then HBw B4, fun h => (d0 (keep (by decide) h)), fun h => (d1 (keep (by decide) h)), fun h => (d2 (keep (by decide) h)), fun h => (d3 (keep (by decide) h)), fun h => (d4 (keep (by decide) h)), fun _ => (own_raise O4 HBw.out.size)⟩
      case iendc =>
        rintro a' w' ⟨x65, x66, x67, x68, x69, x70, rfl, HBw, d0, d1, d2, d3, d4, d5⟩
        replace d0 := d0 rfl
        replace d1 := d1 rfl
        replace d2 := d2 rfl
        replace d3 := d3 rfl
        replace d4 := d4 rfl
        replace d5 := d5 rfl
        simp only [Act.put, List.setIfInBounds_toArray, List.set_cons_succ, List.set_cons_zero]
        simp only [List.drop_succ_cons, List.drop_zero]
        have HK15 : Hid (w'.ownsRow W10x.heap.size 35 3 x70 mp (PP.flatMap pkL)) := d5
        have HB9x : Hid (Below W10x.heap.size W10x w') := HBw
        obtain ⟨a15, c15, ev15⟩ := own_form HK15.out
        subst ev15
        obtain ⟨W11x, eW⟩ : ∃ x, x = w' := ⟨_, rfl⟩
        subst eW
        have HBU : Hid (Below WC.heap.size WC W11x) := Below.then HBT.out HB9x.out
        clear d0 d1 d2 d3 d4 d5 HBw
        go_wp2_with fail
        refine region_invA 6 (fun a0 listed a' w' => ∃ x71 x72 x73 x74 x75 x76 : Value, a' = ((((((a0.put (some 71) x71).put (some 72) x72).put (some 73) x73).put (some 74) x74).put (some 75) x75).put (some 76) x76) ∧ Hid (Below W11x.heap.size W11x w') ∧ (listed.getD 0 false = true → x71 = (.agg (mc bn bg).toArray)) ∧ (listed.getD 1 false = true → x72 = (.slice (some ⟨gc, 0, none⟩) N cc)) ∧ (listed.getD 2 false = true → x73 = (.slice al m cl)) ∧ (listed.getD 3 false = true → x74 = (.int .i64 (m : Int))) ∧ (listed.getD 4 false = true → x75 = (.slice (some ⟨gc, 0, none⟩) m cc)) ∧ (listed.getD 5 false = true → ∃ R, StrR SS PP 0 R ∧ w'.ownsRow W11x.heap.size 35 3 x76 R.length (R.flatMap pkL))) (by kernel_rfl) (by kernel_rfl) ?i0d ?istepd ?iendd
        case i0d => exact ⟨_, _, _, _, _, _, by first | (simp only [Act.put, List.setIfInBounds_toArray, List.set_cons_succ, List.set_cons_zero]; done) | (simp only [Act.put, List.setIfInBounds_toArray, List.set_cons_succ, List.set_cons_zero]; rfl) | rfl, below_drew (Below.refl _ _), fun h => (not_rep h).elim, fun h => (not_rep h).elim, fun h => (not_rep h).elim, fun h => (not_rep h).elim, fun h => (not_rep h).elim, fun h => (not_rep h).elim⟩
        case istepd =>
          rintro i listed a' w' hi hr ⟨x71, x72, x73, x74, x75, x76, rfl, HBw, d0, d1, d2, d3, d4, d5⟩
          obtain ⟨hun, oj, hoj, hwt⟩ := mem_ready.1 hr
          simp only [Act.put, List.setIfInBounds_toArray, List.set_cons_succ, List.set_cons_zero]
          have hcase : i = 0 ∨ i = 1 ∨ i = 2 ∨ i = 3 ∨ i = 4 ∨ i = 5 := by omega
          rcases hcase with rfl | rfl | rfl | rfl | rfl | rfl
          · have hoj2 := hoj
            obtain rfl := Option.some.inj hoj
            refine wpOp_value hoj2 rfl (v := (.agg (mc bn bg).toArray)) (w' := w') (exec_loadSX rfl rfl (HKC.out.grown (Below.then HBU.out HBw.out)) Try.underlying32 rfl (by rw [HMl.out]; exact infoMc)) ?_
            exact ⟨(.agg (mc bn bg).toArray), x72, x73, x74, x75, x76, by first | (simp only [Act.put, List.setIfInBounds_toArray, List.set_cons_succ, List.set_cons_zero]; done) | (simp only [Act.put, List.setIfInBounds_toArray, List.set_cons_succ, List.set_cons_zero]; rfl) | rfl, HBw, fun _ => rfl, fun h => (d1 (keep (by decide) h)), fun h => (d2 (keep (by decide) h)), fun h => (d3 (keep (by decide) h)), fun h => (d4 (keep (by decide) h)), fun h => (d5 (keep (by decide) h))⟩
          · have hoj2 := hoj
            obtain rfl := Option.some.inj hoj
            refine wpOp_value hoj2 rfl (v := (.slice (some ⟨gc, 0, none⟩) N cc)) (w' := w') (by first | rfl | (go_simp; done) | (simp [go_sem]; done) | (simp [execOp, go_sem]; done)) ?_
            exact ⟨x71, (.slice (some ⟨gc, 0, none⟩) N cc), x73, x74, x75, x76, by first | (simp only [Act.put, List.setIfInBounds_toArray, List.set_cons_succ, List.set_cons_zero]; done) | (simp only [Act.put, List.setIfInBounds_toArray, List.set_cons_succ, List.set_cons_zero]; rfl) | rfl, HBw, fun h => (d0 (keep (by decide) h)), fun _ => rfl, fun h => (d2 (keep (by decide) h)), fun h => (d3 (keep (by decide) h)), fun h => (d4 (keep (by decide) h)), fun h => (d5 (keep (by decide) h))⟩
          · have hoj2 := hoj
            obtain rfl := Option.some.inj hoj
            refine wpOp_value hoj2 rfl (v := (.slice al m cl)) (w' := w') (by first | rfl | (go_simp; done) | (simp [go_sem]; done) | (simp [execOp, go_sem]; done)) ?_
            exact ⟨x71, x72, (.slice al m cl), x74, x75, x76, by first | (simp only [Act.put, List.setIfInBounds_toArray, List.set_cons_succ, List.set_cons_zero]; done) | (simp only [Act.put, List.setIfInBounds_toArray, List.set_cons_succ, List.set_cons_zero]; rfl) | rfl, HBw, fun h => (d0 (keep (by decide) h)), fun h => (d1 (keep (by decide) h)), fun _ => rfl, fun h => (d3 (keep (by decide) h)), fun h => (d4 (keep (by decide) h)), fun h => (d5 (keep (by decide) h))⟩
          · have hoj2 := hoj
            obtain rfl := Option.some.inj hoj
            have e2 := d2 (hwt ⟨2, .data⟩ (by simp) rfl)
            subst e2
            refine wpOp_value hoj2 rfl (v := (.int .i64 (m : Int))) (w' := w') (by first | rfl | (go_simp; done) | (simp [go_sem]; done) | (simp [execOp, go_sem]; done)) ?_
            exact ⟨x71, x72, _, (.int .i64 (m : Int)), x75, x76, by first | (simp only [Act.put, List.setIfInBounds_toArray, List.set_cons_succ, List.set_cons_zero]; done) | (simp only [Act.put, List.setIfInBounds_toArray, List.set_cons_succ, List.set_cons_zero]; rfl) | rfl, HBw, fun h => (d0 (keep (by decide) h)), fun h => (d1 (keep (by decide) h)), fun h => (d2 (keep (by decide) h)), fun _ => rfl, fun h => (d4 (keep (by decide) h)), fun h => (d5 (keep (by decide) h))⟩
          · have hoj2 := hoj
            obtain rfl := Option.some.inj hoj
            have e1 := d1 (hwt ⟨1, .data⟩ (by simp) rfl)
            have e3 := d3 (hwt ⟨3, .data⟩ (by simp) rfl)
            subst e1 e3
            refine wpOp_value hoj2 rfl (exec_sliceH _ _ rfl rfl rfl (run_headP gc N cc m hmc w')) ?_
            exact ⟨x71, _, x73, _, _, x76, by first | (simp only [Act.put, List.setIfInBounds_toArray, List.set_cons_succ, List.set_cons_zero]; done) | (simp only [Act.put, List.setIfInBounds_toArray, List.set_cons_succ, List.set_cons_zero]; rfl) | rfl, HBw, fun h => (d0 (keep (by decide) h)), fun h => (d1 (keep (by decide) h)), fun h => (d2 (keep (by decide) h)), fun h => (d3 (keep (by decide) h)), fun _ => rfl, fun h => (d5 (keep (by decide) h))⟩
          · have hoj2 := hoj
            obtain rfl := Option.some.inj hoj
            have e0 := d0 (hwt ⟨0, .data⟩ (by simp) rfl)
            have e4 := d4 (hwt ⟨4, .data⟩ (by simp) rfl)
            subst e0 e4
            refine wpOp_call hoj2 rfl (f := 12) (args := #[(.agg (mc bn bg).toArray), (.slice (some ⟨gc, 0, none⟩) m cc)]) (by first | rfl | (go_simp; done) | (simp [execOp, go_sem]; done)) ?_
            refine (HcS.out bn bg w' _ _ (HMC.out.below (Below.then HBU.out HBw.out)) (HSC.out.below (Below.then HBU.out HBw.out))).mono ?_
            rintro e w4 ⟨R, v, hR0, rfl, O4, B4⟩
            refine ⟨_, rfl, ?_⟩
            exact ⟨_, x72, x73, x74, _, _, by first | (simp only [Act.put, List.setIfInBounds_toArray, List.set_cons_succ, List.set_cons_zero]; done) | (simp only [Act.put, List.setIfInBounds_toArray, List.set_cons_succ, List.set_cons_zero]; rfl) | rfl, hb_then HBw B4, fun h => (d0 (keep (by decide) h)), fun h => (d1 (keep (by decide) h)), fun h => (d2 (keep (by decide) h)), fun h => (d3 (keep (by decide) h)), fun h => (d4 (keep (by decide) h)), fun _ => ⟨R, hR0, own_raise O4 HBw.out.size⟩⟩
        case iendd =>
          rintro a' w' ⟨x71, x72, x73, x74, x75, x76, rfl, HBw, d0, d1, d2, d3, d4, d5⟩
          replace d0 := d0 rfl
          replace d1 := d1 rfl
          replace d2 := d2 rfl
          replace d3 := d3 rfl
          replace d4 := d4 rfl
          replace d5 := d5 rfl
          simp only [Act.put, List.setIfInBounds_toArray, List.set_cons_succ, List.set_cons_zero]
          simp only [List.drop_succ_cons, List.drop_zero]
          obtain ⟨R, hR0, O16⟩ := d5
          obtain ⟨nr, hnr⟩ : ∃ k, R.length = k := ⟨_, rfl⟩
          rw [hnr] at O16
          have HRR : Hid (StrR SS PP 0 R ∧ R.length = nr) := ⟨hR0, hnr⟩
          have HN16 : Hid (w'.ownsRow W11x.heap.size 35 3 x76 nr (R.flatMap pkL)) := O16
          have HB10x : Hid (Below W11x.heap.size W11x w') := HBw
          obtain ⟨a16, c16, ev16⟩ := own_form HN16.out
          subst ev16
          obtain ⟨W12x, eW⟩ : ∃ x, x = w' := ⟨_, rfl⟩
          subst eW
          have hnr2 : nr ≤ 2000 := by have := hR0.len0; rw [HN.out.2.2.2.1, hnr] at this; omega
          clear d0 d1 d2 d3 d4 HBw O16 hR0 hnr
          have Z12 : Below W10x.heap.size W10x W12x := Below.then HB9x.out HB10x.out
          obtain ⟨_, _, e7, s7, _⟩ := own_row (own_below HT7.out.1 Z12)
          cases e7
          obtain ⟨_, _, e8, s8, _⟩ := own_row (own_below HT7.out.2.1 Z12)
          cases e8
          obtain ⟨_, _, e9, s9, _⟩ := own_row (own_below HT7.out.2.2.1 Z12)
          cases e9
          obtain ⟨_, _, e10, s10, _⟩ := own_row (own_below HT7.out.2.2.2 Z12)
          cases e10
          have G7 : Hid (Seg W12x a7 (SS1.flatMap strE)) := s7
          have G8 : Hid (Seg W12x a8 (TK.flatMap bolE)) := s8
          have G9 : Hid (Seg W12x a9 (SS1.flatMap strE)) := s9
          have G10 : Hid (Seg W12x a10 (TK.flatMap bolE)) := s10
          have G11 : Hid (IsS W12x b11 42 (finL E)) := HJ11.out.grown Z12
          have G13 : Hid (IsS W12x b13 42 (finL E)) := HI13.out.grown Z12
          have HBV : Hid (Below WC.heap.size WC W12x) := Below.then HBU.out HB10x.out
          have HZ12 : Hid (Below W10x.heap.size W10x W12x) := Z12
          have K15 : Hid (W12x.ownsRow W10x.heap.size 35 3 (.slice a15 mp c15) mp (PP.flatMap pkL)) := own_below HK15.out HB10x.out
          have HK15b : Hid (∀ k, (Value.slice a15 mp c15).ownBlock = some k → k < W11x.heap.size) := fun k hk => (own_lt HK15.out hk).2
          clear s7 s8 s9 s10 Z12
          have hST := fun W h1 h2 => sameTexts_any SS1 N HN.out.2.1 (by omega) a7 a9 c7 c9 W h1 h2
          have hSB := fun W h1 h2 => sameBools_any TK m HN.out.2.2.1 (by omega) a8 a10 c8 c10 W h1 h2
          have hSP := fun W a1 c1 a2 c2 h1 h2 => samePicks_any PP mp HN.out.2.2.2.1 (by omega) a1 a2 c1 c2 W h1 h2
          have hSR := fun W a1 c1 a2 c2 h1 h2 => samePicks_any R nr HRR.out.2 (by omega) a1 a2 c1 c2 W h1 h2
          have u1 : True := trivial
          have u2 : True := trivial
          have u3 : True := trivial
          have u4 : True := trivial
          have u5 : True := trivial
          have u6 : True := trivial
          have u7 : True := trivial
          go_wp2_with (first
            | (go_at_call 13; refine (hST _ G7.out G9.out).mono ?_; rintro e X1 ⟨rfl, Y1⟩)
            | (go_at_call 14; refine (hSB _ (G8.out.below Y1) (G10.out.below Y1)).mono ?_; rintro e X2 ⟨rfl, Y2x⟩; have Y2 := Below.then Y1 Y2x; have I11 := G11.out.grown Y2; have I13 := G13.out.grown Y2; have KK2 := HKC.out.grown (Below.then HBV.out Y2); clear Y1 Y2x)
            | (clear u1; refine wpList_loadGW rfl 42 _ rfl rfl I11 _ Try.underlying42 rfl (info_fin _ HEl.out) ?_)
            | (clear u2; refine wpList_loadGW rfl 42 _ rfl rfl I13 _ Try.underlying42 rfl (info_fin _ HEl.out) ?_)
            | (clear u3; refine wpList_neqFG rfl HEl.out rfl rfl rfl ?_; clear I11 I13)
            | (clear u4; refine wpList_loadGW rfl 32 _ rfl rfl KK2 _ Try.underlying32 rfl (by rw [HMl.out]; exact infoMc) ?_)
            | (clear u6; go_at_call 16; refine (HrT.out bn bg _ (HMC.out.below (Below.then HBV.out Y2)) (HLC.out.below (Below.then HBV.out Y2))).mono ?_; rintro e X3 ⟨v3, rfl, O3, Y3x⟩; have Y3 := Below.then Y2 Y3x; obtain ⟨a3, c3, ev3, sg3, _⟩ := own_row O3; subst ev3; obtain ⟨_, _, e15, s15, _⟩ := own_row (own_below K15.out Y3); cases e15; clear Y3x O3 KK2 Y2)
            | (clear u7; go_at_call 15; refine (hSP _ a15 c15 a3 c3 s15 sg3).mono ?_; rintro e X4 ⟨rfl, Y4x⟩; have Y4 := Below.then Y3 Y4x; have KK4 := HKC.out.grown (Below.then HBV.out Y4); clear Y4x sg3 s15 Y3)
            | (clear u5; refine wpList_loadGW rfl 32 _ rfl rfl KK4 _ Try.underlying32 rfl (by rw [HMl.out]; exact infoMc) ?_)
            | (go_at_call 17; refine (HrS.out bn bg _ (HMC.out.below (Below.then HBV.out Y4)) (HLC.out.below (Below.then HBV.out Y4))).mono ?_; rintro e X5 ⟨R5, v5, hR5, rfl, O5, Y5x⟩; have eR := HRR.out.1.uniq hR5; subst eR; rw [HRR.out.2] at O5; have Y5 := Below.then Y4 Y5x; obtain ⟨a5, c5, ev5, sg5, _⟩ := own_row O5; subst ev5; obtain ⟨_, _, e16, s16, _⟩ := own_row (own_below HN16.out Y5); cases e16; clear Y5x O5 KK4 Y4)
            | (go_at_call 15; refine (hSR _ a16 c16 a5 c5 s16 sg5).mono ?_; rintro e X6 ⟨rfl, Y6x⟩; have Y6 := Below.then Y5 Y6x; clear Y6x sg5 s16 Y5))
          have HX15 : Hid (X6.ownsRow W10x.heap.size 35 3 (.slice a15 mp c15) mp (PP.flatMap pkL)) := own_below K15.out Y6
          have HX16 : Hid (X6.ownsRow W11x.heap.size 35 3 (.slice a16 nr c16) nr (R.flatMap pkL)) := own_below HN16.out Y6
          have HXB : Hid (Below W10x.heap.size W10x X6) := Below.then HZ12.out Y6
          clear Y6 hST hSB hSP hSR
          have hPl2 : mp ≤ 2000 := hPl
          go_loopw [17] (fun v17 wr => ∃ i : Nat, i ≤ mp ∧ v17 = .int .i64 (i : Int) ∧ Hid (∃ xs, wr.ownsRow W10x.heap.size 35 3 (.slice a15 mp c15) mp xs) ∧ Hid (wr.ownsRow W11x.heap.size 35 3 (.slice a16 nr c16) nr (R.flatMap pkL)) ∧ Hid (Below W10x.heap.size W10x wr)) (fun v17 _ => mp - (intOf v17).toNat)
          case atStart => exact ⟨0, Nat.zero_le _, rfl, ⟨_, HX15.out⟩, HX16, HXB⟩
          case round =>
            obtain ⟨i, hi, rfl, HO, HO16, HB⟩ := hrel
            by_cases hlt : i < mp
            · have hki : (i : Int) < mp := by omega
              obtain ⟨xs, O⟩ := HO.out
              obtain ⟨g15, d15, cs, ev, hg, I, hnc, hcm, hcl⟩ := own_opn3 O (by omega)
              cases ev
              have hgl : g15 < W11x.heap.size := HK15b.out g15 rfl
              have hst : 0 + i * 3 + (pkL (-1, 0, 0)).length ≤ cs.length := by rw [hcl, pkL3]; omega
              have u8 : True := trivial
              have u9 : True := trivial
              go_wp2_with (first
                | (clear u8; refine wpList_bpk rfl _ rfl (-1) rfl ?_)
                | (clear u9; refine wpList_storeM (o := i * 3) rfl 35 _ _ rfl rfl (pkL (-1, 0, 0)) rfl I (by rw [Nat.zero_add] at hst; exact hst) infoPk (pk_oneC _) ?_; intro W2y cs2 U2 hl2 I2; have O2 := own_any3 hg I2 hnc hcm (hl2.trans hcl); have P2 := own_same HO16.out (fun k hk => U2.block k (by have := (own_lt HO16.out hk).1; omega)); have B2 := U2.trans HB.out hg; clear U2 I2 I))
              go_roundw
              case rel => exact ⟨i + 1, by omega, by go_num, ⟨_, O2⟩, P2, B2⟩
              case measure => simp [intOf]; omega
            · have e : i = mp := by omega
              have hki : ¬ (i : Int) < mp := by omega
              obtain ⟨WZ, eWZ⟩ : ∃ x, x = wr := ⟨_, rfl⟩
              subst eWZ
              have HO16' : Hid (WZ.ownsRow W11x.heap.size 35 3 (.slice a16 nr c16) nr (R.flatMap pkL)) := HO16
              have HBZ : Hid (Below W10x.heap.size W10x WZ) := HB
              clear HO HO16 HB e
              have HW : Hid (W10x.heap.size ≤ W11x.heap.size) := HB9x.out.size
              go_wp2_with fail
              go_loopw [18] (fun v18 wr => ∃ j : Nat, j ≤ nr ∧ v18 = .int .i64 (j : Int) ∧ Hid (∃ xs, wr.ownsRow W11x.heap.size 35 3 (.slice a16 nr c16) nr xs) ∧ Hid (Below W10x.heap.size W10x wr)) (fun v18 _ => nr - (intOf v18).toNat)
              case atStart => exact ⟨0, Nat.zero_le _, rfl, ⟨_, HO16'.out⟩, HBZ⟩
              case round =>
                obtain ⟨j, hj, rfl, HO, HB⟩ := hrel
                by_cases hjl : j < nr
                · have hkj : (j : Int) < nr := by omega
                  obtain ⟨xs, O⟩ := HO.out
                  obtain ⟨g16, d16, cs, ev, hg, I, hnc, hcm, hcl⟩ := own_opn3 O (by omega)
                  cases ev
                  have hst : 0 + j * 3 + (pkL (-2, 0, 0)).length ≤ cs.length := by rw [hcl, pkL3]; omega
                  have hgw : W10x.heap.size ≤ g16 := Nat.le_trans HW.out hg
                  have u8 : True := trivial
                  have u9 : True := trivial
                  go_wp2_with (first
                    | (clear u8; refine wpList_bpk rfl _ rfl (-2) rfl ?_)
                    | (clear u9; refine wpList_storeM (o := j * 3) rfl 35 _ _ rfl rfl (pkL (-2, 0, 0)) rfl I (by rw [Nat.zero_add] at hst; exact hst) infoPk (pk_oneC _) ?_; intro W2y cs2 U2 hl2 I2; have O2 := own_any3 hg I2 hnc hcm (hl2.trans hcl); have B2 := U2.trans HB.out hgw; clear U2 I2 I))
                  go_roundw
                  case rel => exact ⟨j + 1, by omega, by go_num, ⟨_, O2⟩, B2⟩
                  case measure => simp [intOf]; omega
                · have hkj : ¬ (j : Int) < nr := by omega
                  have hmcI : (m : Int) ≤ cc := by omega
                  have hmN : (m : Int) < N := by have := HN.out.1; omega
                  have HBQ : Hid (Below WC.heap.size WC wr) := Below.then HBT.out HB.out
                  obtain ⟨_, _, ec, sc, _⟩ := own_row HOC.out
                  cases ec
                  obtain ⟨_, _, e5, _, y50⟩ := sc (m * 3 + 0) _ (pk_at (ks ++ [(5, 0, 0)]) m (5, 0, 0) (by rw [List.getElem?_append_right (by rw [HN.out.2.2.2.2.1]; exact Nat.le_refl _), HN.out.2.2.2.2.1, Nat.sub_self]; rfl) 0 _ rfl)
                  cases e5
                  rw [Nat.zero_add, Nat.add_zero] at y50
                  have HY5 : Hid (WC.cell? ⟨gc, m * 3, none⟩ = some (.int .i64 5)) := y50
                  have hSK := fun W h1 h2 => samePicks_any ks m HN.out.2.2.2.2.1 (by omega) (some ⟨gc, 0, none⟩) al cc cl W h1 h2
                  clear y50 sc
                  go_wp2_with (first
                    | (go_at_call 15; refine (hSK _ (HSC.out.below HBQ.out) (HLC.out.below HBQ.out)).mono ?_; rintro e X7 ⟨rfl, Y7⟩; have y5 := cell_grow HY5.out (Below.then HBQ.out Y7)))
                  go_ret
                  exact ⟨rfl, Below.then (Below.then HBC.out HBQ.out) Y7⟩
end Go.Proofs.Ytmoieckmbimgoaa

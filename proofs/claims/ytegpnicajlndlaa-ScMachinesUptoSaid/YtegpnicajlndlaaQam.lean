/- PX, QA -/
import Derived.Test.YtegpnicajlndlaaQal
namespace Go.Proofs.Ytegpnicajlndlaa
open Go.RowKit M
set_option linter.unusedSimpArgs false
set_option linter.unusedVariables false
theorem regsErr_lens {p : PG} (h : regsErr p = 0) : p.regs.length = p.threads.length ∧ p.regInit.length = p.threads.length := by
 unfold regsErr at h
 by_cases hc : p.regs.length ≠ p.threads.length ∨ p.regInit.length ≠ p.threads.length
 · rw [if_pos hc] at h; cases h
 · exact ⟨Classical.byContradiction fun h' => hc (.inl h'), Classical.byContradiction fun h' => hc (.inr h')⟩
set_option maxRecDepth 100000 in
set_option maxHeartbeats 8000000 in
theorem valid_any (p : PG) (hf : p.Few) (vt vr vl vi vj : Value) (w : World) (hp : PGV w vt vr vl vi vj p) :
    Calls Try.prog 36 #[.agg #[vt, vr, vl, vi, vj]] w fun en w' => en = .returned (.int .i64 (validV p)) ∧ Below w.heap.size w w' := by
 obtain ⟨at', ct, rfl⟩ := hp.t.form
 obtain ⟨al, cl, rfl, hsl, _⟩ := hp.l
 obtain ⟨aj, cj, rfl, hsj, _⟩ := hp.j
 have cV := fun W (h : PGV W (.slice at' p.threads.length ct) vr (.slice al p.locs.length cl) vi (.slice aj p.locInit.length cj) p) => validRegs_any p hf _ _ _ _ _ W h
 have cR := fun W (h : Seg W al (p.locs.flatMap strE)) => rising_name p.locs hf.l hf.ls al cl W h
 have cE := fun W (h : PGV W (.slice at' p.threads.length ct) vr (.slice al p.locs.length cl) vi (.slice aj p.locInit.length cj) p) => events_any p hf _ _ _ _ _ W h
 have cO := fun (he : regsErr p = 0) W (h : PGV W (.slice at' p.threads.length ct) vr (.slice al p.locs.length cl) vi (.slice aj p.locInit.length cj) p) => validOps_any p hf (regsErr_lens he).1 _ _ _ _ _ W h
 have HV : Hid (validV p = if p.threads.length = 0 ∨ 4 < p.threads.length then 95 else if regsErr p ≠ 0 then regsErr p else if p.locInit.length ≠ p.locs.length ∨ risB nameK p.locs = false then 52 else if 16 < p.locs.length then 97 else if opsB p = false then 93 else if 64 < eventsV p then 96 else 0) := (by show _ = _; unfold validV; congr)
 obtain ⟨nt, hnt⟩ : ∃ n, p.threads.length = n := ⟨_, rfl⟩
 obtain ⟨nl, hnl⟩ : ∃ n, p.locs.length = n := ⟨_, rfl⟩
 obtain ⟨nj, hnj⟩ : ∃ n, p.locInit.length = n := ⟨_, rfl⟩
 have hft := hf.t
 have hfl := hf.l
 have hfj := hf.j
 rw [hnt, hnl, hnj] at cV cE cO HV hp
 rw [hnl] at cR
 rw [hnt] at hft
 rw [hnl] at hfl
 rw [hnj] at hfj
 rw [hnt, hnl, hnj]
 clear hnt hnl hnj hf
 have HSL : Hid (Seg w al (p.locs.flatMap strE)) := hsl
 clear hsl hsj
 obtain ⟨e, he⟩ : ∃ e, regsErr p = e := ⟨_, rfl⟩
 obtain ⟨x, hx⟩ : ∃ e, risB nameK p.locs = e := ⟨_, rfl⟩
 obtain ⟨y, hy⟩ : ∃ e, opsB p = e := ⟨_, rfl⟩
 obtain ⟨z, hz⟩ : ∃ e, eventsV p = e := ⟨_, rfl⟩
 obtain ⟨V, hV⟩ : ∃ e, validV p = e := ⟨_, rfl⟩
 rw [he] at cV cO HV
 rw [hx] at cR HV
 rw [hy] at cO HV
 rw [hz] at cE HV
 rw [hV] at HV ⊢
 clear he hx hy hz hV
 have t1 : True := trivial
 have t2 : True := trivial
 have t3 : True := trivial
 have t4 : True := trivial
 by_cases hA : nt = 0 ∨ 4 < nt
 · have HX : Hid (V = 95) := (by have := HV.out; rw [if_pos hA] at this; exact this)
   clear cV cE cO cR
   rcases hA with hA | hA
   · subst hA
     go_enter Try.func36, Try.ntmps36
     go_wp2_with (clear t1; refine wpList_boxS rfl 28 _ rfl [.slice at' 0 ct, vr, .slice al nl cl, vi, .slice aj nj cj] rfl ?_; intro W1 b1 F1 C1; have B1 : Below w.heap.size w W1 := F1.trans (Below.refl _ w) (Nat.le_refl _); obtain ⟨k0, k1, k2, k3, k4⟩ := pg_cells C1 (Below.refl _ W1); have P1 := hp.below B1; clear F1)
     go_ret
     exact ⟨by rw [HX.out]; rfl, B1⟩
   · have h0 : ((nt : Int) == 0) = false := by simp; omega
     have h4 : (4 : Int) < nt := by omega
     clear hA
     go_enter Try.func36, Try.ntmps36
     go_wp2_with (clear t1; refine wpList_boxS rfl 28 _ rfl [.slice at' nt ct, vr, .slice al nl cl, vi, .slice aj nj cj] rfl ?_; intro W1 b1 F1 C1; have B1 : Below w.heap.size w W1 := F1.trans (Below.refl _ w) (Nat.le_refl _); obtain ⟨k0, k1, k2, k3, k4⟩ := pg_cells C1 (Below.refl _ W1); have P1 := hp.below B1; clear F1)
     go_ret
     exact ⟨by rw [HX.out]; rfl, B1⟩
 · have h0 : ((nt : Int) == 0) = false := by simp; omega
   have h4 : ¬ (4 : Int) < nt := by omega
   by_cases hE : e = 0
   · subst hE
     have HX : Hid (V = if nj ≠ nl ∨ x = false then 52 else if 16 < nl then 97 else if y = false then 93 else if 64 < z then 96 else 0) := (by have := HV.out; rw [if_neg hA, if_neg (by simp)] at this; exact this)
     replace cO := cO rfl
     clear hA HV
     obtain ⟨d, hd⟩ : ∃ d, ((nj : Int) != nl) = d := ⟨_, rfl⟩
     have HD : Hid (((nj : Int) != nl) = d) := hd
     cases d <;> cases x <;> cases y
     all_goals
      go_enter Try.func36, Try.ntmps36
      go_wp2_with (first
       | (clear t1; refine wpList_boxS rfl 28 _ rfl [.slice at' nt ct, vr, .slice al nl cl, vi, .slice aj nj cj] rfl ?_; intro W1 b1 F1 C1; have B1 : Below w.heap.size w W1 := F1.trans (Below.refl _ w) (Nat.le_refl _); obtain ⟨k0, k1, k2, k3, k4⟩ := pg_cells C1 (Below.refl _ W1); have P1 := hp.below B1; clear F1)
       | (clear t2; refine wpList_loadS rfl 28 _ rfl rfl C1 5 _ Try.underlying28 rfl infoPg ?_)
       | (go_at_call 78; refine (cV _ P1).mono ?_; rintro en W2 ⟨rfl, B2x⟩; have B2 := Below.then B1 B2x; have C2 := C1.grown B2x; have P2 := P1.below B2x; have S2 := HSL.out.below B2; obtain ⟨k0, k1, k2, k3, k4⟩ := pg_cells C2 (Below.refl _ W2); clear B2x C1 P1 cV)
       | (go_at_call 79; refine (cR _ S2).mono ?_; rintro en w' ⟨rfl, hw⟩; replace hw := hw.symm; subst hw)
       | (clear t3; refine wpList_loadS rfl 28 _ rfl rfl C2 5 _ Try.underlying28 rfl infoPg ?_)
       | (go_at_call 81; refine (cO _ P2).mono ?_; rintro en W3 ⟨rfl, B3x⟩; have B3 := Below.then B2 B3x; have C3 := C2.grown B3x; have P3 := P2.below B3x; clear B3x C2 P2 cO k0 k1 k2 k3 k4)
       | (clear t4; refine wpList_loadS rfl 28 _ rfl rfl C3 5 _ Try.underlying28 rfl infoPg ?_)
       | (go_at_call 82; refine (cE _ P3).mono ?_; rintro en W4 ⟨rfl, B4x⟩; have B4 := Below.then B3 B4x; clear B4x C3 P3 cE))
      all_goals
       go_ret
       refine ⟨ret_int ?_, by first | exact B4 | exact B3 | exact B2⟩
       have hq := HX.out
       rw [hq]
       have hd2 := HD.out
       simp at hd2
       simp only [Bool.true_eq_false, Bool.false_eq_true, or_true, or_false, if_true, if_false, ne_eq, not_true, not_false_eq_true, reduceCtorEq]
       all_goals ((repeat' split) <;> first | rfl | (exfalso; omega))
   · have hE' : (e != 0) = true := by simpa using hE
     have HX : Hid (V = e) := (by have := HV.out; rw [if_neg hA, if_pos hE] at this; exact this)
     clear cE cO cR hA hE
     go_enter Try.func36, Try.ntmps36
     go_wp2_with (first
      | (clear t1; refine wpList_boxS rfl 28 _ rfl [.slice at' nt ct, vr, .slice al nl cl, vi, .slice aj nj cj] rfl ?_; intro W1 b1 F1 C1; have B1 : Below w.heap.size w W1 := F1.trans (Below.refl _ w) (Nat.le_refl _); obtain ⟨k0, k1, k2, k3, k4⟩ := pg_cells C1 (Below.refl _ W1); have P1 := hp.below B1; clear F1)
      | (clear t2; refine wpList_loadS rfl 28 _ rfl rfl C1 5 _ Try.underlying28 rfl infoPg ?_)
      | (go_at_call 78; refine (cV _ P1).mono ?_; rintro en W2 ⟨rfl, B2x⟩; have B2 := Below.then B1 B2x; clear B2x))
     go_ret
     exact ⟨by rw [HX.out]; rfl, B2⟩
def useT (k : Int) : Value := .tuple #[.bool (uReg k), .bool (uSrc k), .bool (uLoc k), .bool (uImm k)]
set_option maxRecDepth 100000 in
set_option maxHeartbeats 4000000 in
theorem uses_any (k : Int) (w : World) : Calls Try.prog 106 #[.int .i64 k] w fun en w' => en = .returned (useT k) ∧ w' = w := by
 by_cases h1 : k = 1
 · subst h1
   go_enter Try.func106, Try.ntmps106
   go_wp2_with fail
   refine bodyPost_ret (v := .tuple #[.bool true, .bool false, .bool false, .bool true]) (by simp [results, Try.results106, go_sem]) rfl ⟨?_, rfl⟩
   rfl
 have g1 : (k == 1) = false := by simpa using h1
 by_cases h2 : k = 2
 · subst h2
   go_enter Try.func106, Try.ntmps106
   go_wp2_with fail
   refine bodyPost_ret (v := .tuple #[.bool true, .bool true, .bool false, .bool false]) (by simp [results, Try.results106, go_sem]) rfl ⟨?_, rfl⟩
   rfl
 have g2 : (k == 2) = false := by simpa using h2
 by_cases h3 : k = 3
 · subst h3
   go_enter Try.func106, Try.ntmps106
   go_wp2_with fail
   refine bodyPost_ret (v := .tuple #[.bool true, .bool false, .bool true, .bool false]) (by simp [results, Try.results106, go_sem]) rfl ⟨?_, rfl⟩
   rfl
 have g3 : (k == 3) = false := by simpa using h3
 by_cases h4 : k = 4
 · subst h4
   go_enter Try.func106, Try.ntmps106
   go_wp2_with fail
   refine bodyPost_ret (v := .tuple #[.bool false, .bool false, .bool true, .bool true]) (by simp [results, Try.results106, go_sem]) rfl ⟨?_, rfl⟩
   rfl
 have g4 : (k == 4) = false := by simpa using h4
 by_cases h5 : k = 5
 · subst h5
   go_enter Try.func106, Try.ntmps106
   go_wp2_with fail
   refine bodyPost_ret (v := .tuple #[.bool false, .bool true, .bool true, .bool false]) (by simp [results, Try.results106, go_sem]) rfl ⟨?_, rfl⟩
   rfl
 have g5 : (k == 5) = false := by simpa using h5
 by_cases h7 : k = 7
 · subst h7
   go_enter Try.func106, Try.ntmps106
   go_wp2_with fail
   refine bodyPost_ret (v := .tuple #[.bool true, .bool false, .bool true, .bool false]) (by simp [results, Try.results106, go_sem]) rfl ⟨?_, rfl⟩
   rfl
 have g7 : (k == 7) = false := by simpa using h7
 by_cases h8 : k = 8
 · subst h8
   go_enter Try.func106, Try.ntmps106
   go_wp2_with fail
   refine bodyPost_ret (v := .tuple #[.bool false, .bool true, .bool true, .bool false]) (by simp [results, Try.results106, go_sem]) rfl ⟨?_, rfl⟩
   rfl
 have g8 : (k == 8) = false := by simpa using h8
 by_cases h9 : k = 9
 · subst h9
   go_enter Try.func106, Try.ntmps106
   go_wp2_with fail
   refine bodyPost_ret (v := .tuple #[.bool true, .bool false, .bool true, .bool false]) (by simp [results, Try.results106, go_sem]) rfl ⟨?_, rfl⟩
   rfl
 have g9 : (k == 9) = false := by simpa using h9
 have HE : Hid (useT k = .tuple #[.bool false, .bool false, .bool false, .bool false]) := (by show _ = _; simp [useT, uReg, uSrc, uLoc, uImm, *])
 clear h1 h2 h3 h4 h5 h7 h8 h9
 go_enter Try.func106, Try.ntmps106
 go_wp2_with fail
 refine bodyPost_ret (v := .tuple #[.bool false, .bool false, .bool false, .bool false]) (by simp [results, Try.results106, go_sem]) rfl ⟨?_, rfl⟩
 rw [HE.out]
def numF (l : List ByteArray) (s : ByteArray) : Option Nat := l.findIdx? fun x => x.toList == s.toList
theorem num_hit {l : List ByteArray} {s g : ByteArray} {j : Nat} (hg : l[j]? = some g) (h : (g.toList == s.toList) = true) (hno : ∀ i, i < j → ∀ x, l[i]? = some x → (x.toList == s.toList) = false) : numF l s = some j := by
 obtain ⟨hj, e⟩ := List.getElem?_eq_some_iff.1 hg
 unfold numF
 rw [List.findIdx?_eq_some_iff_getElem]
 refine ⟨hj, by rw [e]; exact h, fun i hi => ?_⟩
 rw [hno i hi _ (List.getElem?_eq_getElem (by omega))]; simp
theorem num_miss {l : List ByteArray} {s : ByteArray} (hno : ∀ i, i < l.length → ∀ x, l[i]? = some x → (x.toList == s.toList) = false) : numF l s = none := by
 unfold numF
 rw [List.findIdx?_eq_none_iff]
 intro x hx
 obtain ⟨i, hi⟩ := List.getElem?_of_mem hx
 exact hno i (List.getElem?_eq_some_iff.1 hi).1 x hi
set_option maxRecDepth 100000 in
set_option maxHeartbeats 4000000 in
theorem number_any (l : List ByteArray) (hl : l.length ≤ 1048576) (s : ByteArray) (a : Option Addr) (c : Nat) (w : World) (hs : Seg w a (l.flatMap strE)) :
    Calls Try.prog 107 #[.slice a l.length c, .string s] w fun en w' => en = .returned (.int .i64 (idxO (numF l s))) ∧ w' = w := by
 obtain ⟨nn, hnn⟩ : ∃ n, l.length = n := ⟨_, rfl⟩
 have HN : Hid (l.length = nn) := hnn
 have HS : Hid (Seg w a (l.flatMap strE)) := hs
 rw [hnn] at hl ⊢
 clear hnn hs
 go_enter Try.func107, Try.ntmps107
 go_wp2_with fail
 go_loop [5] (fun i => ∃ j : Nat, j ≤ nn ∧ i = .int .i64 j ∧ Hid (∀ i, i < j → ∀ x, l[i]? = some x → (x.toList == s.toList) = false)) (fun i => nn - (intOf i).toNat)
 case atStart => exact ⟨0, Nat.zero_le _, rfl, fun i hi => absurd hi (by omega)⟩
 case round =>
  obtain ⟨j, hj, rfl, HR⟩ := hrel
  by_cases hlt : j < nn
  · have hji : (j : Int) < nn := by omega
    obtain ⟨g, hg⟩ : ∃ g, l[j]? = some g := ⟨_, List.getElem?_eq_getElem (by rw [HN.out]; exact hlt)⟩
    have HG : Hid (l[j]? = some g) := hg
    obtain ⟨b, o, rfl, hb, hc⟩ := HS.out.str hg
    obtain ⟨q, hq⟩ : ∃ q, (g.toList == s.toList) = q := ⟨_, rfl⟩
    have HQ : Hid ((g.toList == s.toList) = q) := hq
    clear hg
    cases q with
    | true =>
     have HF : Hid (numF l s = some j) := num_hit HG.out HQ.out HR.out
     go_wp2_with fail
     go_ret
     exact ⟨by rw [HF.out]; rfl, rfl⟩
    | false =>
     go_wp2_with fail
     go_round
     case rel => exact ⟨j + 1, by omega, by go_num, fun i hi x hx => by
      rcases Nat.lt_or_ge i j with h | h
      · exact HR.out i h x hx
      · have : i = j := by omega
        subst this
        rw [HG.out] at hx; cases hx; exact HQ.out⟩
     case measure => simp [intOf]; omega
  · have hji : ¬ (j : Int) < nn := by omega
    have HF : Hid (numF l s = none) := num_miss fun i hi => HR.out i (by have := HN.out; omega)
    go_wp2_with fail
    go_ret
    exact ⟨by rw [HF.out]; rfl, rfl⟩
theorem ris_mono {kb : ByteArray → Bool} {l : List ByteArray} {i j : Nat} (h : RisTo kb l j) (hij : i ≤ j) : RisTo kb l i := fun k s hk => h k s (by omega)
def anyK : ByteArray → Bool := fun _ => true
set_option maxRecDepth 100000 in
set_option maxHeartbeats 4000000 in
theorem rises_any (l : List ByteArray) (hl : l.length ≤ 1048576) (a : Option Addr) (c : Nat) (w : World) (hs : Seg w a (l.flatMap strE)) :
    Calls Try.prog 71 #[.slice a l.length c] w fun en w' => en = .returned (.bool (risB anyK l)) ∧ Below w.heap.size w w' := by
 obtain ⟨nn, hnn⟩ : ∃ n, l.length = n := ⟨_, rfl⟩
 have HN : Hid (l.length = nn) := hnn
 have HS : Hid (Seg w a (l.flatMap strE)) := hs
 rw [hnn] at hl ⊢
 clear hnn hs
 go_enter Try.func71, Try.ntmps71
 go_wp2_with fail
 go_loopw [3] (fun i wr => ∃ j : Nat, j ≤ nn + 1 ∧ 1 ≤ j ∧ i = .int .i64 j ∧ Hid (RisTo anyK l j) ∧ Hid (Below w.heap.size w wr)) (fun i _ => nn + 1 - (intOf i).toNat)
 case atStart => exact ⟨1, by omega, by omega, rfl, fun i s hi hs => ⟨rfl, fun s' h => absurd h (by omega)⟩, Below.refl _ _⟩
 case round =>
  obtain ⟨j, hj, hj1, rfl, HR, HB⟩ := hrel
  by_cases hlt : j < nn
  · have hji : (j : Int) < nn := by omega
    obtain ⟨g, hg⟩ : ∃ g, l[j]? = some g := ⟨_, List.getElem?_eq_getElem (by rw [HN.out]; exact hlt)⟩
    have HG : Hid (l[j]? = some g) := hg
    obtain ⟨b, o, rfl, hb, hc⟩ := (HS.out.below HB.out).str hg
    obtain ⟨g', hg'⟩ : ∃ g, l[j - 1]? = some g := ⟨_, List.getElem?_eq_getElem (by rw [HN.out]; omega)⟩
    have HG' : Hid (l[j - 1]? = some g') := hg'
    obtain ⟨b', o', e', hb', hc'⟩ := (HS.out.below HB.out).str hg'
    cases e'
    obtain ⟨q, hq⟩ : ∃ q, Op.bytesLess g'.toList g.toList = q := ⟨_, rfl⟩
    have HQ : Hid (sLt g' g = q) := hq
    clear hg' hg
    have hjj : ((j : Int) - 1).toNat = j - 1 := by omega
    have hwr : IntKind.i64.wrap ((j : Int) - 1) = (j : Int) - 1 := IntWalk.i64_in _ (by omega)
    go_wp2_with fail
    refine grow_allW (by kernel_rfl) (by kernel_rfl) ?_
    refine WG.put rfl (v := .slice (some ⟨b, o, none⟩) nn c) (fun w => by first | rfl | (go_simp; done) | (simp [go_sem]; done)) ?_; simp only [sP]
    refine WG.put rfl (v := .int .i64 (j : Int)) (fun w => by first | rfl | (go_simp; done) | (simp [go_sem]; done)) ?_; simp only [sP]
    refine WG.put rfl (v := .int .i64 ((j : Int) - 1)) (fun w => by simp [execOp, go_sem, hwr]) ?_; simp only [sP]
    refine WG.put rfl (v := .pointer (some ⟨b, o + (j - 1), none⟩)) (fun w => by simp [execOp, go_sem, hjj]; intro hx; exact absurd (hx (by omega)) (by omega)) ?_; simp only [sP]
    refine WG.cell rfl 9 _ rfl rfl hc' (fun w h => ld9 w h) ?_; simp only [sP]
    refine WG.put rfl (v := .slice (some ⟨b, o, none⟩) nn c) (fun w => by first | rfl | (go_simp; done) | (simp [go_sem]; done)) ?_; simp only [sP]
    refine WG.put rfl (v := .int .i64 (j : Int)) (fun w => by first | rfl | (go_simp; done) | (simp [go_sem]; done)) ?_; simp only [sP]
    refine WG.put rfl (v := .pointer (some ⟨b, o + j, none⟩)) (fun w => by first | rfl | (go_simp; done) | (simp [go_sem]; done)) ?_; simp only [sP]
    refine WG.cell rfl 9 _ rfl rfl hc (fun w h => ld9 w h) ?_; simp only [sP]
    refine WG.put rfl (v := .bool (!q)) (fun w => by simp [execOp, go_sem, hq]) ?_; simp only [sP]
    refine WG.nil ?_
    intro W3 B3
    have B4 : Hid (Below w.heap.size w W3) := Below.then HB.out B3
    clear hq
    cases q with
    | false =>
     have HF : Hid (risB anyK l = false) := ris_f (ris_not_l HG.out (by omega) HG'.out HQ.out)
     go_wp2_with fail
     go_ret
     exact ⟨by rw [HF.out]; rfl, B4.out⟩
    | true =>
     have HX : Hid (RisTo anyK l (j + 1)) := ris_next HR.out HG.out rfl (fun s' _ h => by rw [HG'.out] at h; cases h; exact HQ.out)
     go_wp2_with fail
     go_roundw
     case rel => exact ⟨j + 1, by omega, by omega, by go_num, HX, B4⟩
     case measure => simp [intOf]; omega
  · have hji : ¬ (j : Int) < nn := by omega
    have HT : Hid (risB anyK l = true) := ris_t (ris_mono HR.out (by rw [HN.out]; omega))
    go_wp2_with fail
    go_ret
    exact ⟨by rw [HT.out]; rfl, HB.out⟩
end Go.Proofs.Ytegpnicajlndlaa

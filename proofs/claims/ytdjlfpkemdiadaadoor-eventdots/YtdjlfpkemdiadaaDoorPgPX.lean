/- Valid: the program's side. -/
import Derived.Test.YtdjlfpkemdiadaaDoorPgPU
namespace Go.Proofs.YtdjlfpkemdiadaaDoor
open Go.RowKit M
set_option linter.unusedSimpArgs false
set_option linter.unusedVariables false

theorem regsErr_lens {p : PG} (h : regsErr p = 0) : p.regs.length = p.threads.length ∧ p.regInit.length = p.threads.length := by
  unfold regsErr at h
  by_cases hc : p.regs.length ≠ p.threads.length ∨ p.regInit.length ≠ p.threads.length
  · rw [if_pos hc] at h; cases h
  · exact ⟨Classical.byContradiction fun h' => hc (.inl h'), Classical.byContradiction fun h' => hc (.inr h')⟩
set_option maxRecDepth 100000 in
set_option maxHeartbeats 8000000 in
theorem valid_any (p : PG) (hf : p.Few) (vt vr vl vi vj : Value) (w : World) (hp : PGV w vt vr vl vi vj p) :
    Calls Tryd.prog 8 #[.agg #[vt, vr, vl, vi, vj]] w fun en w' => en = .returned (.int .i64 (validV p)) ∧ Below w.heap.size w w' := by
  obtain ⟨at', ct, rfl⟩ := hp.t.form
  obtain ⟨al, cl, rfl, hsl, _⟩ := hp.l
  obtain ⟨aj, cj, rfl, hsj, _⟩ := hp.j
  have cV := fun W (h : PGV W (.slice at' p.threads.length ct) vr (.slice al p.locs.length cl) vi (.slice aj p.locInit.length cj) p) => validRegs_any p hf _ _ _ _ _ W h
  have cR := fun W (h : Seg W al (p.locs.flatMap strE)) => rising_name p.locs hf.l hf.ls al cl W h
  have cE := fun W (h : PGV W (.slice at' p.threads.length ct) vr (.slice al p.locs.length cl) vi (.slice aj p.locInit.length cj) p) => events_any p hf _ _ _ _ _ W h
  have cO := fun (he : regsErr p = 0) W (h : PGV W (.slice at' p.threads.length ct) vr (.slice al p.locs.length cl) vi (.slice aj p.locInit.length cj) p) => validOps_any p hf (regsErr_lens he).1 _ _ _ _ _ W h
  have HV : Hid (validV p = if p.threads.length = 0 ∨ 4 < p.threads.length then 95 else if regsErr p ≠ 0 then regsErr p else if p.locInit.length ≠ p.locs.length ∨ risB nameK p.locs = false then 52 else if 16 < p.locs.length then 97 else if opsB p = false then 93 else if 64 < eventsV p then 96 else 0) := (by show _ = _; unfold validV; congr)
  obtain ⟨nt, hnt⟩ : ∃ n, p.threads.length = n := ⟨_, rfl⟩
  obtain ⟨nl, hnl⟩ : ∃ n, p.locs.length = n := ⟨_, rfl⟩
  obtain ⟨nj, hnj⟩ : ∃ n, p.locInit.length = n := ⟨_, rfl⟩
  have hft := hf.t
  have hfl := hf.l
  have hfj := hf.j
  rw [hnt, hnl, hnj] at cV cE cO HV hp
  rw [hnl] at cR
  rw [hnt] at hft
  rw [hnl] at hfl
  rw [hnj] at hfj
  rw [hnt, hnl, hnj]
  clear hnt hnl hnj hf
  have HSL : Hid (Seg w al (p.locs.flatMap strE)) := hsl
  clear hsl hsj
  obtain ⟨e, he⟩ : ∃ e, regsErr p = e := ⟨_, rfl⟩
  obtain ⟨x, hx⟩ : ∃ e, risB nameK p.locs = e := ⟨_, rfl⟩
  obtain ⟨y, hy⟩ : ∃ e, opsB p = e := ⟨_, rfl⟩
  obtain ⟨z, hz⟩ : ∃ e, eventsV p = e := ⟨_, rfl⟩
  obtain ⟨V, hV⟩ : ∃ e, validV p = e := ⟨_, rfl⟩
  rw [he] at cV cO HV
  rw [hx] at cR HV
  rw [hy] at cO HV
  rw [hz] at cE HV
  rw [hV] at HV ⊢
  clear he hx hy hz hV
  have t1 : True := trivial
  have t2 : True := trivial
  have t3 : True := trivial
  have t4 : True := trivial
  by_cases hA : nt = 0 ∨ 4 < nt
  · have HX : Hid (V = 95) := (by have := HV.out; rw [if_pos hA] at this; exact this)
    clear cV cE cO cR
    rcases hA with hA | hA
    · subst hA
      go_enter Tryd.func8, Tryd.ntmps8
      go_wp2_with (clear t1; refine wpList_boxS rfl 28 _ rfl [.slice at' 0 ct, vr, .slice al nl cl, vi, .slice aj nj cj] rfl ?_; intro W1 b1 F1 C1; have B1 : Below w.heap.size w W1 := F1.trans (Below.refl _ w) (Nat.le_refl _); obtain ⟨k0, k1, k2, k3, k4⟩ := pg_cells C1 (Below.refl _ W1); have P1 := hp.below B1; clear F1)
      go_ret
      exact ⟨by rw [HX.out]; rfl, B1⟩
    · have h0 : ((nt : Int) == 0) = false := by simp; omega
      have h4 : (4 : Int) < nt := by omega
      clear hA
      go_enter Tryd.func8, Tryd.ntmps8
      go_wp2_with (clear t1; refine wpList_boxS rfl 28 _ rfl [.slice at' nt ct, vr, .slice al nl cl, vi, .slice aj nj cj] rfl ?_; intro W1 b1 F1 C1; have B1 : Below w.heap.size w W1 := F1.trans (Below.refl _ w) (Nat.le_refl _); obtain ⟨k0, k1, k2, k3, k4⟩ := pg_cells C1 (Below.refl _ W1); have P1 := hp.below B1; clear F1)
      go_ret
      exact ⟨by rw [HX.out]; rfl, B1⟩
  · have h0 : ((nt : Int) == 0) = false := by simp; omega
    have h4 : ¬ (4 : Int) < nt := by omega
    by_cases hE : e = 0
    · subst hE
      have HX : Hid (V = if nj ≠ nl ∨ x = false then 52 else if 16 < nl then 97 else if y = false then 93 else if 64 < z then 96 else 0) := (by have := HV.out; rw [if_neg hA, if_neg (by simp)] at this; exact this)
      replace cO := cO rfl
      clear hA HV
      obtain ⟨d, hd⟩ : ∃ d, ((nj : Int) != nl) = d := ⟨_, rfl⟩
      have HD : Hid (((nj : Int) != nl) = d) := hd
      cases d <;> cases x <;> cases y
      all_goals
        go_enter Tryd.func8, Tryd.ntmps8
        go_wp2_with (first
          | (clear t1; refine wpList_boxS rfl 28 _ rfl [.slice at' nt ct, vr, .slice al nl cl, vi, .slice aj nj cj] rfl ?_; intro W1 b1 F1 C1; have B1 : Below w.heap.size w W1 := F1.trans (Below.refl _ w) (Nat.le_refl _); obtain ⟨k0, k1, k2, k3, k4⟩ := pg_cells C1 (Below.refl _ W1); have P1 := hp.below B1; clear F1)
          | (clear t2; refine wpList_loadS rfl 28 _ rfl rfl C1 5 _ Tryd.underlying28 rfl infoPg ?_)
          | (go_at_call 24; refine (cV _ P1).mono ?_; rintro en W2 ⟨rfl, B2x⟩; have B2 := Below.then B1 B2x; have C2 := C1.grown B2x; have P2 := P1.below B2x; have S2 := HSL.out.below B2; obtain ⟨k0, k1, k2, k3, k4⟩ := pg_cells C2 (Below.refl _ W2); clear B2x C1 P1 cV)
          | (go_at_call 25; refine (cR _ S2).mono ?_; rintro en w' ⟨rfl, hw⟩; replace hw := hw.symm; subst hw)
          | (clear t3; refine wpList_loadS rfl 28 _ rfl rfl C2 5 _ Tryd.underlying28 rfl infoPg ?_)
          | (go_at_call 27; refine (cO _ P2).mono ?_; rintro en W3 ⟨rfl, B3x⟩; have B3 := Below.then B2 B3x; have C3 := C2.grown B3x; have P3 := P2.below B3x; clear B3x C2 P2 cO k0 k1 k2 k3 k4)
          | (clear t4; refine wpList_loadS rfl 28 _ rfl rfl C3 5 _ Tryd.underlying28 rfl infoPg ?_)
          | (go_at_call 10; refine (cE _ P3).mono ?_; rintro en W4 ⟨rfl, B4x⟩; have B4 := Below.then B3 B4x; clear B4x C3 P3 cE))
        all_goals
          go_ret
          refine ⟨ret_int ?_, by first | exact B4 | exact B3 | exact B2⟩
          have hq := HX.out
          rw [hq]
          have hd2 := HD.out
          simp at hd2
          simp only [Bool.true_eq_false, Bool.false_eq_true, or_true, or_false, if_true, if_false, ne_eq, not_true, not_false_eq_true, reduceCtorEq]
          all_goals ((repeat' split) <;> first | rfl | (exfalso; omega))
    · have hE' : (e != 0) = true := by simpa using hE
      have HX : Hid (V = e) := (by have := HV.out; rw [if_neg hA, if_pos hE] at this; exact this)
      clear cE cO cR hA hE
      go_enter Tryd.func8, Tryd.ntmps8
      go_wp2_with (first
        | (clear t1; refine wpList_boxS rfl 28 _ rfl [.slice at' nt ct, vr, .slice al nl cl, vi, .slice aj nj cj] rfl ?_; intro W1 b1 F1 C1; have B1 : Below w.heap.size w W1 := F1.trans (Below.refl _ w) (Nat.le_refl _); obtain ⟨k0, k1, k2, k3, k4⟩ := pg_cells C1 (Below.refl _ W1); have P1 := hp.below B1; clear F1)
        | (clear t2; refine wpList_loadS rfl 28 _ rfl rfl C1 5 _ Tryd.underlying28 rfl infoPg ?_)
        | (go_at_call 24; refine (cV _ P1).mono ?_; rintro en W2 ⟨rfl, B2x⟩; have B2 := Below.then B1 B2x; clear B2x))
      go_ret
      exact ⟨by rw [HX.out]; rfl, B2⟩
end Go.Proofs.YtdjlfpkemdiadaaDoor

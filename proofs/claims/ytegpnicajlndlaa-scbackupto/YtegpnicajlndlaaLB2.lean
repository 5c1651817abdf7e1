/- ScBack: the law. -/
import Derived.Test.YtegpnicajlndlaaLB1
namespace Go.Proofs.Ytegpnicajlndlaa
open Go.RowKit M
set_option linter.unusedSimpArgs false
set_option linter.unusedVariables false


set_option maxRecDepth 100000 in
set_option maxHeartbeats 16000000 in
theorem scBack_any (p : PG) (hf : p.Few) (s : ST) (hs : s.Few) (hw : Wid s) (T : ByteArray) (hT : T.size ≤ 1099511627776) (vt vr vl vi vj vpc vph vrg vmm vbf : Value) (w : World) (hp : PGV w vt vr vl vi vj p) (hS : STV w s vpc vph vrg vmm vbf) :
    Calls Try.prog 7 #[.agg #[vt, vr, vl, vi, vj], .agg #[vpc, vph, vrg, vmm, vbf, .int .i64 s.lock], .string T] w fun e w' => e = .returned (.bool true) ∧ Below w.heap.size w w' := by
  have hCode := fun W (h : PGV W vt vr vl vi vj p) (h' : STV W s vpc vph vrg vmm vbf) => code_any p hf s hs hw vt vr vl vi vj vpc vph vrg vmm vbf W h h'
  have hCodeU := fun (u : ST) (hu : u.Few) (hwu : Wid u) W a1 a2 a3 a4 a5 (h : PGV W vt vr vl vi vj p) (h' : STV W u a1 a2 a3 a4 a5) => code_any p hf u hu hwu vt vr vl vi vj a1 a2 a3 a4 a5 W h h'
  have hRd := fun (X : ByteArray) (hX : X.size ≤ 1099511627776) W (h : PGV W vt vr vl vi vj p) => read_any p hf X hX vt vr vl vi vj W h
  have hSame := fun W a1 a2 a3 a4 a5 (h : STV W s a1 a2 a3 a4 a5) (h' : STV W s vpc vph vrg vmm vbf) => sameStates_any s hs a1 a2 a3 a4 a5 vpc vph vrg vmm vbf W h h'
  have HP : Hid (PGV w vt vr vl vi vj p) := hp
  have HS : Hid (STV w s vpc vph vrg vmm vbf) := hS
  have hz1 : ∀ v ∈ zst, v.oneCell' = true := by
    intro v hv
    unfold zst at hv
    simp only [List.mem_cons, List.not_mem_nil, or_false] at hv
    rcases hv with rfl | rfl | rfl | rfl | rfl | rfl <;> rfl
  have t1 : True := trivial
  have t2 : True := trivial
  have t3 : True := trivial
  have t4 : True := trivial
  have t5 : True := trivial
  have t6 : True := trivial
  have t7 : True := trivial
  have t8 : True := trivial
  have t9 : True := trivial
  have ta : True := trivial
  have tb : True := trivial
  have tc : True := trivial
  have td : True := trivial
  have te : True := trivial
  have tf : True := trivial
  have tg : True := trivial
  have th : True := trivial
  by_cases hv0 : validV p = 0
  · have hv := vld_of hv0
    have hl := shp_len hv
    cases hrd : readS T (shpOf p) with
    | none =>
      have hRead2 := fun W (h : PGV W vt vr vl vi vj p) => (hRd T hT W h).mono fun e w' (q : RdA W p T e w') => q.2.1 hv0 hrd
      cases hfb : fitsB (shpOf p) s with
      | true =>
        have hft := (fitsB_iff _ _).1 hfb
        have e1 : codeT p s = textS s ∧ codeN p s = 0 := by
          unfold codeT codeN
          rw [if_pos ⟨hv0, hfb⟩, if_pos hv0, if_pos hfb]
          exact ⟨rfl, rfl⟩
        have hlen : s.pc.length = s.ph.length ∧ s.pc.length = s.regs.length := ⟨by rw [hft.pc, hft.ph], by rw [hft.pc, hft.rg]⟩
        have hRead1 := fun W (h : PGV W vt vr vl vi vj p) => (hRd ⟨(textS s).toArray⟩ (text_size hs hlen hw) W h).mono fun e w' (q : RdA W p ⟨(textS s).toArray⟩ e w') => q.2.2 hv0 s (readS_text hft hw)
        simp only [e1.1, e1.2] at hCode
        obtain ⟨X, hX⟩ : ∃ X : ByteArray, X = ⟨(textS s).toArray⟩ := ⟨_, rfl⟩
        simp only [← hX] at hCode hRead1
        obtain ⟨lk, hlk⟩ : ∃ k, s.lock = k := ⟨_, rfl⟩
        simp only [hlk] at hCode hSame ⊢
        have hSameX : ∀ W gp gh gr gm gb, STV W s (slc gp s.pc.length) (slc gh s.ph.length) (slc gr s.regs.length) (slc gm s.mem.length) (slc gb s.buf.length) → STV W s vpc vph vrg vmm vbf → Calls Try.prog 17 #[.agg (stbV s gp gh gr gm gb).toArray, .agg #[vpc, vph, vrg, vmm, vbf, .int .i64 lk]] W fun e w' => e = .returned (.bool true) ∧ Below W.heap.size W w' := fun W gp gh gr gm gb h h' => by
          have := hSame W _ _ _ _ _ h h'
          unfold stbV
          rw [hlk]
          exact this
        clear hSame
        clear hp hS hs hw hf hRd hCodeU hX hlk hv0 hfb hft e1 hlen hv hl hrd
        go_enter Try.func7, Try.ntmps7
        go_wp2_with (first
          | (clear t1; refine wpList_boxS rfl 28 _ rfl [vt, vr, vl, vi, vj] rfl ?_; intro W0 b3 F0 P0; have B0 := F_b F0; clear F0)
          | (clear t2; refine wpList_boxS rfl 32 _ rfl [vpc, vph, vrg, vmm, vbf, .int .i64 lk] rfl ?_; intro W1 b4 F1 S1; have P1 := P0.fresh F1; have B1 := F1.trans B0 B0.size; clear F1 P0 B0)
          | (go_at_call 35; refine (awake_any _).mono ?_; rintro e W2 ⟨rfl, B2x⟩; have P2 := P1.grown B2x; have S2 := S1.grown B2x; have B2 := Below.then B1 B2x; clear P1 S1 B1 B2x)
          | (clear t3; refine wpList_loadW rfl 28 _ rfl rfl P2 _ Try.underlying28 rfl infoPg ?_)
          | (clear t4; refine wpList_loadW rfl 32 _ rfl rfl S2 _ Try.underlying32 rfl infoSt ?_)
          | (clear t5; go_at_call 11; refine (hCode _ (HP.out.below B2) (HS.out.below B2)).mono ?_; rintro e W3 ⟨rfl, B3x⟩; have P3 := P2.grown B3x; have S3 := S2.grown B3x; have B3 := Below.then B2 B3x; clear P2 S2 B2 B3x)
          | (clear t6; refine wpList_loadW rfl 28 _ rfl rfl P3 _ Try.underlying28 rfl infoPg ?_)
          | (clear t7; go_at_call 13; refine (hRead1 _ (HP.out.below B3)).mono ?_; rintro e W4 ⟨gp, gh, gr, gm, gb, rows, brows, rfl, T4x, B4x⟩; have T4 := T4x; have P4 := P3.grown B4x; have S4 := S3.grown B4x; have B4 := Below.then B3 B4x; clear P3 S3 B3 B4x T4x)
          | (clear t8; refine wpList_allocS rfl 32 rfl zst zeroSt ?_; intro W5 b9 F5 I5; have P5 := P4.fresh F5; have S5 := S4.fresh F5; have T5 := T4.below (F_b F5); have B5 := F5.trans B4 B4.size; have hb9 : w.heap.size ≤ b9 := Nat.le_trans B4.size (Nat.le_of_eq F5.at'.symm); have n49 : b4 ≠ b9 := (by have := S4.lt; have := F5.at'; omega); clear F5 P4 S4 T4 B4)
          | (clear t9; refine wpList_storeW rfl 32 _ _ rfl rfl (stbV s gp gh gr gm gb) rfl I5 rfl infoSt (stbV_one _ _ _ _ _ _) ?_; intro W6 U6 I6; have P6 := isS_updT P5 I5 (by decide) U6; have S6 := S5.upd U6 n49; have T6 := T5.updS I5 (by decide) U6; have B6 := U6.trans B5 hb9; clear U6 I5 P5 S5 T5 B5)
          | (clear ta; refine wpList_loadGW rfl 32 _ rfl rfl I6 _ Try.underlying32 rfl infoSt ?_)
          | (clear tb; refine wpList_loadGW rfl 32 _ rfl rfl S6 _ Try.underlying32 rfl infoSt ?_)
          | (go_at_call 17; refine (hSameX _ _ _ _ _ _ (stv_stb T6) (HS.out.below B6)).mono ?_; rintro e W7 ⟨rfl, B7x⟩; have P7 := P6.grown B7x; have B7 := Below.then B6 B7x; clear P6 S6 B6 B7x T6 I6)
          | (clear tc; refine wpList_loadW rfl 28 _ rfl rfl P7 _ Try.underlying28 rfl infoPg ?_)
          | (clear td; go_at_call 13; refine (hRead2 _ (HP.out.below B7)).mono ?_; rintro e V1 ⟨rfl, C1x⟩; have C1 := Below.then B7 C1x; clear C1x)
          | (clear te; refine wpList_allocS rfl 32 rfl zst zeroSt ?_; intro V2 b11 G2 J2; have C2 := G2.trans C1 C1.size; have hb11 : w.heap.size ≤ b11 := Nat.le_trans C1.size (Nat.le_of_eq G2.at'.symm); clear G2 C1)
          | (clear tf; refine wpList_storeW rfl 32 _ _ rfl rfl zst rfl J2 rfl infoSt hz1 ?_; intro V3 U3 J3; have BE := U3.trans C2 hb11; clear U3 J2 C2))
        go_ret
        exact ⟨rfl, BE⟩
      | false =>
        have e1 : codeT p s = [] ∧ codeN p s = 5 := by
          unfold codeT codeN
          rw [if_neg (fun h => by rw [hfb] at h; cases h.2), if_pos hv0, if_neg (by rw [hfb]; simp)]
          exact ⟨rfl, rfl⟩
        simp only [e1.1, e1.2] at hCode
        obtain ⟨lk, hlk⟩ : ∃ k, s.lock = k := ⟨_, rfl⟩
        simp only [hlk] at hCode ⊢
        clear hp hS hs hw hf hRd hCodeU hSame hlk hv0 hfb e1 hv hl hrd
        go_enter Try.func7, Try.ntmps7
        go_wp2_with (first
          | (clear t1; refine wpList_boxS rfl 28 _ rfl [vt, vr, vl, vi, vj] rfl ?_; intro W0 b3 F0 P0; have B0 := F_b F0; clear F0)
          | (clear t2; refine wpList_boxS rfl 32 _ rfl [vpc, vph, vrg, vmm, vbf, .int .i64 lk] rfl ?_; intro W1 b4 F1 S1; have P1 := P0.fresh F1; have B1 := F1.trans B0 B0.size; clear F1 P0 B0)
          | (go_at_call 35; refine (awake_any _).mono ?_; rintro e W2 ⟨rfl, B2x⟩; have P2 := P1.grown B2x; have S2 := S1.grown B2x; have B2 := Below.then B1 B2x; clear P1 S1 B1 B2x)
          | (clear t3; refine wpList_loadW rfl 28 _ rfl rfl P2 _ Try.underlying28 rfl infoPg ?_)
          | (clear t4; refine wpList_loadW rfl 32 _ rfl rfl S2 _ Try.underlying32 rfl infoSt ?_)
          | (clear t5; go_at_call 11; refine (hCode _ (HP.out.below B2) (HS.out.below B2)).mono ?_; rintro e W3 ⟨rfl, B3x⟩; have P3 := P2.grown B3x; have S3 := S2.grown B3x; have B3 := Below.then B2 B3x; clear P2 S2 B2 B3x)
          | (clear tc; refine wpList_loadW rfl 28 _ rfl rfl P3 _ Try.underlying28 rfl infoPg ?_)
          | (clear td; go_at_call 13; refine (hRead2 _ (HP.out.below B3)).mono ?_; rintro e V1 ⟨rfl, C1x⟩; have C1 := Below.then B3 C1x; clear C1x)
          | (clear te; refine wpList_allocS rfl 32 rfl zst zeroSt ?_; intro V2 b11 G2 J2; have C2 := G2.trans C1 C1.size; have hb11 : w.heap.size ≤ b11 := Nat.le_trans C1.size (Nat.le_of_eq G2.at'.symm); clear G2 C1)
          | (clear tf; refine wpList_storeW rfl 32 _ _ rfl rfl zst rfl J2 rfl infoSt hz1 ?_; intro V3 U3 J3; have BE := U3.trans C2 hb11; clear U3 J2 C2))
        go_ret
        exact ⟨rfl, BE⟩
    | some u =>
      obtain ⟨hfu, _, htu⟩ := readS_some hrd
      have hwu := readS_wid hrd
      have hfewu := few_fits hv hfu
      have hRead2 := fun W (h : PGV W vt vr vl vi vj p) => (hRd T hT W h).mono fun e w' (q : RdA W p T e w') => q.2.2 hv0 u hrd
      have hCode2 := fun W a1 a2 a3 a4 a5 (h : PGV W vt vr vl vi vj p) (h' : STV W u a1 a2 a3 a4 a5) => hCodeU u hfewu hwu W a1 a2 a3 a4 a5 h h'
      have e2 : codeT p u = textS u ∧ codeN p u = 0 := by
        have := (fitsB_iff _ _).2 hfu
        unfold codeT codeN
        rw [if_pos ⟨hv0, this⟩, if_pos hv0, if_pos this]
        exact ⟨rfl, rfl⟩
      simp only [e2.1, e2.2, text_back htu] at hCode2
      clear e2 htu
      cases hfb : fitsB (shpOf p) s with
      | true =>
        have hft := (fitsB_iff _ _).1 hfb
        have e1 : codeT p s = textS s ∧ codeN p s = 0 := by
          unfold codeT codeN
          rw [if_pos ⟨hv0, hfb⟩, if_pos hv0, if_pos hfb]
          exact ⟨rfl, rfl⟩
        have hlen : s.pc.length = s.ph.length ∧ s.pc.length = s.regs.length := ⟨by rw [hft.pc, hft.ph], by rw [hft.pc, hft.rg]⟩
        have hRead1 := fun W (h : PGV W vt vr vl vi vj p) => (hRd ⟨(textS s).toArray⟩ (text_size hs hlen hw) W h).mono fun e w' (q : RdA W p ⟨(textS s).toArray⟩ e w') => q.2.2 hv0 s (readS_text hft hw)
        simp only [e1.1, e1.2] at hCode
        obtain ⟨X, hX⟩ : ∃ X : ByteArray, X = ⟨(textS s).toArray⟩ := ⟨_, rfl⟩
        simp only [← hX] at hCode hRead1
        obtain ⟨lk, hlk⟩ : ∃ k, s.lock = k := ⟨_, rfl⟩
        simp only [hlk] at hCode hSame ⊢
        have hSameX : ∀ W gp gh gr gm gb, STV W s (slc gp s.pc.length) (slc gh s.ph.length) (slc gr s.regs.length) (slc gm s.mem.length) (slc gb s.buf.length) → STV W s vpc vph vrg vmm vbf → Calls Try.prog 17 #[.agg (stbV s gp gh gr gm gb).toArray, .agg #[vpc, vph, vrg, vmm, vbf, .int .i64 lk]] W fun e w' => e = .returned (.bool true) ∧ Below W.heap.size W w' := fun W gp gh gr gm gb h h' => by
          have := hSame W _ _ _ _ _ h h'
          unfold stbV
          rw [hlk]
          exact this
        clear hSame
        clear hp hS hs hw hf hRd hCodeU hX hlk hv0 hfb hft e1 hlen hv hl hrd hfu hwu hfewu
        go_enter Try.func7, Try.ntmps7
        go_wp2_with (first
          | (clear t1; refine wpList_boxS rfl 28 _ rfl [vt, vr, vl, vi, vj] rfl ?_; intro W0 b3 F0 P0; have B0 := F_b F0; clear F0)
          | (clear t2; refine wpList_boxS rfl 32 _ rfl [vpc, vph, vrg, vmm, vbf, .int .i64 lk] rfl ?_; intro W1 b4 F1 S1; have P1 := P0.fresh F1; have B1 := F1.trans B0 B0.size; clear F1 P0 B0)
          | (go_at_call 35; refine (awake_any _).mono ?_; rintro e W2 ⟨rfl, B2x⟩; have P2 := P1.grown B2x; have S2 := S1.grown B2x; have B2 := Below.then B1 B2x; clear P1 S1 B1 B2x)
          | (clear t3; refine wpList_loadW rfl 28 _ rfl rfl P2 _ Try.underlying28 rfl infoPg ?_)
          | (clear t4; refine wpList_loadW rfl 32 _ rfl rfl S2 _ Try.underlying32 rfl infoSt ?_)
          | (clear t5; go_at_call 11; refine (hCode _ (HP.out.below B2) (HS.out.below B2)).mono ?_; rintro e W3 ⟨rfl, B3x⟩; have P3 := P2.grown B3x; have S3 := S2.grown B3x; have B3 := Below.then B2 B3x; clear P2 S2 B2 B3x)
          | (clear t6; refine wpList_loadW rfl 28 _ rfl rfl P3 _ Try.underlying28 rfl infoPg ?_)
          | (clear t7; go_at_call 13; refine (hRead1 _ (HP.out.below B3)).mono ?_; rintro e W4 ⟨gp, gh, gr, gm, gb, rows, brows, rfl, T4x, B4x⟩; have T4 := T4x; have P4 := P3.grown B4x; have S4 := S3.grown B4x; have B4 := Below.then B3 B4x; clear P3 S3 B3 B4x T4x)
          | (clear t8; refine wpList_allocS rfl 32 rfl zst zeroSt ?_; intro W5 b9 F5 I5; have P5 := P4.fresh F5; have S5 := S4.fresh F5; have T5 := T4.below (F_b F5); have B5 := F5.trans B4 B4.size; have hb9 : w.heap.size ≤ b9 := Nat.le_trans B4.size (Nat.le_of_eq F5.at'.symm); have n49 : b4 ≠ b9 := (by have := S4.lt; have := F5.at'; omega); clear F5 P4 S4 T4 B4)
          | (clear t9; refine wpList_storeW rfl 32 _ _ rfl rfl (stbV s gp gh gr gm gb) rfl I5 rfl infoSt (stbV_one _ _ _ _ _ _) ?_; intro W6 U6 I6; have P6 := isS_updT P5 I5 (by decide) U6; have S6 := S5.upd U6 n49; have T6 := T5.updS I5 (by decide) U6; have B6 := U6.trans B5 hb9; clear U6 I5 P5 S5 T5 B5)
          | (clear ta; refine wpList_loadGW rfl 32 _ rfl rfl I6 _ Try.underlying32 rfl infoSt ?_)
          | (clear tb; refine wpList_loadGW rfl 32 _ rfl rfl S6 _ Try.underlying32 rfl infoSt ?_)
          | (go_at_call 17; refine (hSameX _ _ _ _ _ _ (stv_stb T6) (HS.out.below B6)).mono ?_; rintro e W7 ⟨rfl, B7x⟩; have P7 := P6.grown B7x; have B7 := Below.then B6 B7x; clear P6 S6 B6 B7x T6 I6)
          | (clear tc; refine wpList_loadW rfl 28 _ rfl rfl P7 _ Try.underlying28 rfl infoPg ?_)
          | (clear td; go_at_call 13; refine (hRead2 _ (HP.out.below B7)).mono ?_; rintro e V1 ⟨qp, qh, qr, qm, qb, rows2, brows2, rfl, Q1x, C1x⟩; have Q1 := Q1x; have R1 := P7.grown C1x; have C1 := Below.then B7 C1x; clear C1x Q1x)
          | (clear te; refine wpList_allocS rfl 32 rfl zst zeroSt ?_; intro V2 b11 G2 J2; have R2 := R1.fresh G2; have Q2 := Q1.below (F_b G2); have C2 := G2.trans C1 C1.size; have hb11 : w.heap.size ≤ b11 := Nat.le_trans C1.size (Nat.le_of_eq G2.at'.symm); clear G2 R1 Q1 C1)
          | (clear tf; refine wpList_storeW rfl 32 _ _ rfl rfl (stbV u qp qh qr qm qb) rfl J2 rfl infoSt (stbV_one _ _ _ _ _ _) ?_; intro V3 U3 J3; have R3 := isS_updT R2 J2 (by decide) U3; have Q3 := Q2.updS J2 (by decide) U3; have C3 := U3.trans C2 hb11; clear U3 J2 R2 Q2 C2)
          | (clear tg; refine wpList_loadW rfl 28 _ rfl rfl R3 _ Try.underlying28 rfl infoPg ?_)
          | (clear th; refine wpList_loadW rfl 32 _ rfl rfl J3 _ Try.underlying32 rfl infoSt ?_)
          | (go_at_call 11; refine (hCode2 _ _ _ _ _ _ (HP.out.below C3) (stv_stb Q3)).mono ?_; rintro e V4 ⟨rfl, C4x⟩; have BE := Below.then C3 C4x))
        go_ret
        exact ⟨rfl, BE⟩
      | false =>
        have e1 : codeT p s = [] ∧ codeN p s = 5 := by
          unfold codeT codeN
          rw [if_neg (fun h => by rw [hfb] at h; cases h.2), if_pos hv0, if_neg (by rw [hfb]; simp)]
          exact ⟨rfl, rfl⟩
        simp only [e1.1, e1.2] at hCode
        obtain ⟨lk, hlk⟩ : ∃ k, s.lock = k := ⟨_, rfl⟩
        simp only [hlk] at hCode ⊢
        clear hp hS hs hw hf hRd hCodeU hSame hlk hv0 hfb e1 hv hl hrd hfu hwu hfewu
        go_enter Try.func7, Try.ntmps7
        go_wp2_with (first
          | (clear t1; refine wpList_boxS rfl 28 _ rfl [vt, vr, vl, vi, vj] rfl ?_; intro W0 b3 F0 P0; have B0 := F_b F0; clear F0)
          | (clear t2; refine wpList_boxS rfl 32 _ rfl [vpc, vph, vrg, vmm, vbf, .int .i64 lk] rfl ?_; intro W1 b4 F1 S1; have P1 := P0.fresh F1; have B1 := F1.trans B0 B0.size; clear F1 P0 B0)
          | (go_at_call 35; refine (awake_any _).mono ?_; rintro e W2 ⟨rfl, B2x⟩; have P2 := P1.grown B2x; have S2 := S1.grown B2x; have B2 := Below.then B1 B2x; clear P1 S1 B1 B2x)
          | (clear t3; refine wpList_loadW rfl 28 _ rfl rfl P2 _ Try.underlying28 rfl infoPg ?_)
          | (clear t4; refine wpList_loadW rfl 32 _ rfl rfl S2 _ Try.underlying32 rfl infoSt ?_)
          | (clear t5; go_at_call 11; refine (hCode _ (HP.out.below B2) (HS.out.below B2)).mono ?_; rintro e W3 ⟨rfl, B3x⟩; have P3 := P2.grown B3x; have S3 := S2.grown B3x; have B3 := Below.then B2 B3x; clear P2 S2 B2 B3x)
          | (clear tc; refine wpList_loadW rfl 28 _ rfl rfl P3 _ Try.underlying28 rfl infoPg ?_)
          | (clear td; go_at_call 13; refine (hRead2 _ (HP.out.below B3)).mono ?_; rintro e V1 ⟨qp, qh, qr, qm, qb, rows2, brows2, rfl, Q1x, C1x⟩; have Q1 := Q1x; have R1 := P3.grown C1x; have C1 := Below.then B3 C1x; clear C1x Q1x)
          | (clear te; refine wpList_allocS rfl 32 rfl zst zeroSt ?_; intro V2 b11 G2 J2; have R2 := R1.fresh G2; have Q2 := Q1.below (F_b G2); have C2 := G2.trans C1 C1.size; have hb11 : w.heap.size ≤ b11 := Nat.le_trans C1.size (Nat.le_of_eq G2.at'.symm); clear G2 R1 Q1 C1)
          | (clear tf; refine wpList_storeW rfl 32 _ _ rfl rfl (stbV u qp qh qr qm qb) rfl J2 rfl infoSt (stbV_one _ _ _ _ _ _) ?_; intro V3 U3 J3; have R3 := isS_updT R2 J2 (by decide) U3; have Q3 := Q2.updS J2 (by decide) U3; have C3 := U3.trans C2 hb11; clear U3 J2 R2 Q2 C2)
          | (clear tg; refine wpList_loadW rfl 28 _ rfl rfl R3 _ Try.underlying28 rfl infoPg ?_)
          | (clear th; refine wpList_loadW rfl 32 _ rfl rfl J3 _ Try.underlying32 rfl infoSt ?_)
          | (go_at_call 11; refine (hCode2 _ _ _ _ _ _ (HP.out.below C3) (stv_stb Q3)).mono ?_; rintro e V4 ⟨rfl, C4x⟩; have BE := Below.then C3 C4x))
        go_ret
        exact ⟨rfl, BE⟩
  · have e1 : codeT p s = [] ∧ codeN p s = validV p := by
      unfold codeT codeN
      rw [if_neg (fun h => hv0 h.1), if_neg hv0]
      exact ⟨rfl, rfl⟩
    have hRead2 := fun W (h : PGV W vt vr vl vi vj p) => (hRd T hT W h).mono fun e w' (q : RdA W p T e w') => q.1 hv0
    simp only [e1.1, e1.2] at hCode
    obtain ⟨ev, hev⟩ : ∃ e, e = validV p := ⟨_, rfl⟩
    simp only [← hev] at hCode hRead2
    rw [← hev] at hv0
    have hev0 : (ev == 0) = false := by simp [hv0]
    obtain ⟨lk, hlk⟩ : ∃ k, s.lock = k := ⟨_, rfl⟩
    simp only [hlk] at hCode ⊢
    clear hp hS hs hw hf hRd hCodeU hSame hev hlk hv0 e1
    go_enter Try.func7, Try.ntmps7
    go_wp2_with (first
      | (clear t1; refine wpList_boxS rfl 28 _ rfl [vt, vr, vl, vi, vj] rfl ?_; intro W0 b3 F0 P0; have B0 := F_b F0; clear F0)
      | (clear t2; refine wpList_boxS rfl 32 _ rfl [vpc, vph, vrg, vmm, vbf, .int .i64 lk] rfl ?_; intro W1 b4 F1 S1; have P1 := P0.fresh F1; have B1 := F1.trans B0 B0.size; clear F1 P0 B0)
      | (go_at_call 35; refine (awake_any _).mono ?_; rintro e W2 ⟨rfl, B2x⟩; have P2 := P1.grown B2x; have S2 := S1.grown B2x; have B2 := Below.then B1 B2x; clear P1 S1 B1 B2x)
      | (clear t3; refine wpList_loadW rfl 28 _ rfl rfl P2 _ Try.underlying28 rfl infoPg ?_)
      | (clear t4; refine wpList_loadW rfl 32 _ rfl rfl S2 _ Try.underlying32 rfl infoSt ?_)
      | (clear t5; go_at_call 11; refine (hCode _ (HP.out.below B2) (HS.out.below B2)).mono ?_; rintro e W3 ⟨rfl, B3x⟩; have P3 := P2.grown B3x; have S3 := S2.grown B3x; have B3 := Below.then B2 B3x; clear P2 S2 B2 B3x)
      | (clear tc; refine wpList_loadW rfl 28 _ rfl rfl P3 _ Try.underlying28 rfl infoPg ?_)
      | (clear td; go_at_call 13; refine (hRead2 _ (HP.out.below B3)).mono ?_; rintro e V1 ⟨rfl, C1x⟩; have C1 := Below.then B3 C1x; clear C1x)
      | (clear te; refine wpList_allocS rfl 32 rfl zst zeroSt ?_; intro V2 b11 G2 J2; have C2 := G2.trans C1 C1.size; have hb11 : w.heap.size ≤ b11 := Nat.le_trans C1.size (Nat.le_of_eq G2.at'.symm); clear G2 C1)
      | (clear tf; refine wpList_storeW rfl 32 _ _ rfl rfl zst rfl J2 rfl infoSt hz1 ?_; intro V3 U3 J3; have BE := U3.trans C2 hb11; clear U3 J2 C2))
    go_ret
    exact ⟨rfl, BE⟩
end Go.Proofs.Ytegpnicajlndlaa

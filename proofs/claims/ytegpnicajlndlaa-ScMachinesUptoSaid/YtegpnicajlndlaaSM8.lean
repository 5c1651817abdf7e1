/- SM8 -/
import Derived.Test.YtegpnicajlndlaaSM7
import Derived.Test.YtegpnicajlndlaaQbs
namespace Go.Proofs.Ytegpnicajlndlaa
open Go.RowKit M
set_option linter.unusedSimpArgs false
set_option linter.unusedVariables false
theorem STO.hop {W W' : World} {B g n c : Nat} {cs : List Value} {s : ST} {v2 v3 v4 v5 : Value} {pc' : List Int} {lk : Int} (h : STO W B s (.slice (some ⟨g, 0, none⟩) n c) v2 v3 v4 v5) (hap : ∀ k, v2.ownBlock = some k → (Value.slice (some ⟨g, 0, none⟩) n c).ownBlock ≠ some k) (I : IsS W g 3 cs) (U : Upd W W' g) (hl : pc'.length = s.pc.length)
    (hpc : W'.ownsRow B 3 1 (.slice (some ⟨g, 0, none⟩) n c) s.pc.length (pc'.flatMap intE)) : STO W' B ⟨pc', s.ph, s.regs, s.mem, s.buf, lk⟩ (.slice (some ⟨g, 0, none⟩) n c) v2 v3 v4 v5 := by
 obtain ⟨vs, o⟩ := h.rg
 obtain ⟨bs, hb, o2, o3⟩ := h.bf
 exact ⟨by show W'.ownsRow B 3 1 _ pc'.length _; rw [hl]; exact hpc, own_same h.ph fun k hk => U.block k (fun e => by subst e; exact hap k hk rfl), ⟨vs, o.len, own_upd o.out I U (by decide), fun j u xs hu hx => own_upd (o.row j u xs hu hx) I U (by decide), o.apart⟩, own_upd h.mm I U (by decide), ⟨bs, hb, own_upd o2 I U (by decide), fun j u l hu hx => own_upd (o3 j u l hu hx) I U (by decide)⟩⟩
theorem copyH_any (s : ST) (hf : s.Few) (hph : 0 < s.ph.length) (vpc vph vrg vmm vbf : Value) (w : World) (hS : STV w s vpc vph vrg vmm vbf) :
    Calls Try.prog 10 #[.agg #[vpc, vph, vrg, vmm, vbf, .int .i64 s.lock]] w fun e w' => ∃ u1 u2 u3 u4 u5, e = .returned (.agg #[u1, u2, u3, u4, u5, .int .i64 s.lock]) ∧ STO w' w.heap.size s u1 u2 u3 u4 u5 ∧ (∀ k, u2.ownBlock = some k → u1.ownBlock ≠ some k) ∧ Below w.heap.size w w' := by
 refine (rcopyS_any s hf vpc vph vrg vmm vbf w hS).mono fun e w' h => ?_
 obtain ⟨u1, u2, u3, u4, u5, h1, ⟨b3, vs, bs, h2⟩, h3⟩ := h
 exact ⟨u1, u2, u3, u4, u5, h1, ⟨h2.pc, h2.ph, ⟨vs, h2.rg⟩, h2.mm, ⟨bs, h2.bl, h2.bf, h2.be⟩⟩, h2.ap hph, h3⟩
theorem rfirstH_any (p : PG) (hv0 : validV p = 0) (hf : p.Few) (vt vr vl vi vj : Value) (w : World) (hp : PGV w vt vr vl vi vj p) :
    Calls Try.prog 29 #[.agg #[vt, vr, vl, vi, vj]] w fun e w' => ∃ v1 v2 v3 v4 v5, e = .returned (.agg #[v1, v2, v3, v4, v5, .int .i64 (-1)]) ∧ STV w' (stSt p) v1 v2 v3 v4 v5 ∧ Below w.heap.size w w' := by
 refine (rfirstF_any p p.threads.length hf rfl vt vr vl vi vj w hp).mono fun e w' h => ?_
 obtain ⟨v1, v2, v3, v4, v5, h1, h2, h3⟩ := h
 exact ⟨v1, v2, v3, v4, v5, h1, st_of_rows (h2 w' fun _ _ _ => rfl) (by unfold stSt; rw [if_pos hv0]) (by simp), h3⟩
theorem hop_cell {cs : List Value} {n i : Nat} {xs : List Int} {q : Int} (ht : cs.take n = xs.flatMap intE) (hq : xs[i]? = some q) (hi : i < n) : cs[i]? = some (.int .i64 q) := by
 have h1 : (cs.take n)[i]? = some (.int .i64 q) := by rw [ht]; exact int_at hq
 rw [List.getElem?_take_of_lt hi] at h1
 exact h1
theorem build_pkZ {w : World} {op : Oper} {a : Act} (ho : op.op = .build 68 #[]) : (execOp a.eval op).run Try.prog w = .ok (.value (.agg (pkL (0, 0, 0)).toArray)) w := by
 have h : Try.t68.zero = some (.agg #[.int .i64 0, .int .i64 0, .int .i64 0]) := by kernel_rfl
 unfold execOp
 simp [ho, go_sem, zeroValue, h, pkL]
set_option maxRecDepth 100000 in
set_option maxHeartbeats 16000000 in
theorem scMachines_any (p : PG) (hf : p.Few) (hpw : PWid p) (ks : List (Int × Int × Int)) (nk ck : Nat) (akk : Option Addr) (hnk : ks.length = nk) (hk20 : nk ≤ 1048576) (TX : ByteArray) (hTX : TX.size ≤ 1099511627776) (odd : Int) (vt vr vl vi vj : Value) (w : World) (hp : PGV w vt vr vl vi vj p) (hK : Seg w akk (ks.flatMap pkL)) :
    Calls Try.prog 5 #[.agg #[vt, vr, vl, vi, vj], .slice akk nk ck, .string TX, .int .i64 odd] w fun e w' => e = .returned (.bool true) ∧ Below w.heap.size w w' := by
 have hCopy := fun W (h : PGV W vt vr vl vi vj p) => copyO_any p hf vt vr vl vi vj W h
 have hMc := fun W a1 a2 a3 a4 a5 (h : PGV W a1 a2 a3 a4 a5 p) => hmachine_any p hf hpw a1 a2 a3 a4 a5 W h
 have hVal := fun W (h : PGV W vt vr vl vi vj p) => rvalid_any p hf vt vr vl vi vj W h
 have HP : Hid (PGV w vt vr vl vi vj p) := hp
 have HK : Hid (Seg w akk (ks.flatMap pkL)) := hK
 have HNK : Hid (ks.length = nk) := hnk
 have inkI : (nk : Int) ≤ 1048576 := by omega
 have t1 : True := trivial
 have t2 : True := trivial
 have t3 : True := trivial
 have t4 : True := trivial
 have t5 : True := trivial
 have t6 : True := trivial
 have t7 : True := trivial
 have t8 : True := trivial
 have t9 : True := trivial
 have ta : True := trivial
 have tb : True := trivial
 have tc : True := trivial
 have td : True := trivial
 have te : True := trivial
 by_cases hv0 : validV p = 0
 · have hv := vld_of hv0
   obtain ⟨fs0, ws0, _⟩ := fits_start hv hpw
   have hst0 : stSt p = ⟨List.replicate p.threads.length 0, List.replicate p.threads.length 0, p.regInit, p.locInit, List.replicate p.threads.length [], -1⟩ := by unfold stSt; rw [if_pos hv0]
   rw [← hst0] at fs0 ws0
   have hFst := fun W (h : PGV W vt vr vl vi vj p) => rfirstH_any p hv0 hf vt vr vl vi vj W h
   have hMc' := fun W a1 a2 a3 a4 a5 h => (hMc W a1 a2 a3 a4 a5 h).mono fun e w' q => q.2 hv0
   rw [hv0] at hVal
   have hX0 : startX p = ⟨(textS (stSt p)).toArray⟩ := by rw [hst0]; rfl
   have hl1 : (shpOf p).ins.length = p.threads.length := (shp_len hv).1
   have hTxG := fun (s : ST) (hs : Fits (shpOf p) s) (hw : Wid s) W v1 v2 v3 v4 v5 (h : STV W s v1 v2 v3 v4 v5) => rtext_any s p.threads.length (by rw [hs.pc, hl1]) (few_fits hv hs) hw ⟨by rw [hs.ph, hl1], by rw [hs.rg, hl1], by rw [hs.bf, hl1]⟩ vt vr vl vi vj v1 v2 v3 v4 v5 W h
   have h1G := fun (T : ByteArray) (hT : T.size ≤ 1099511627776) bz bp bs be W (h : MH W p bz bp bs be) => hach1_any p hv hf T hT bz bp bs be W h
   have h2G := fun (T : ByteArray) (hT : T.size ≤ 1099511627776) k bz bp bs be W (h : MH W p bz bp bs be) => hach2_any p hv hf T hT k bz bp bs be W h
   have h3G := fun (T : ByteArray) (hT : T.size ≤ 1099511627776) bz bp bs be W (h : MH W p bz bp bs be) => hach3_any p hv hf T hT bz bp bs be W h
   have hEndG := fun (s : ST) (hs : Fits (shpOf p) s) W v1 v2 v3 v4 v5 (h1 : PGV W vt vr vl vi vj p) (h2 : STV W s v1 v2 v3 v4 v5) => rend2_any p hv hf s hs vt vr vl vi vj v1 v2 v3 v4 v5 W h1 h2
   have hIsG := fun (u : ST) (hu : u.Few) W v1 v2 v3 v4 v5 (h1 : PGV W vt vr vl vi vj p) (h2 : STV W u v1 v2 v3 v4 v5) => ris_any p hf hv u hu vt vr vl vi vj v1 v2 v3 v4 v5 W h1 h2
   have hCpG := fun (s : ST) (hs : Fits (shpOf p) s) W v1 v2 v3 v4 v5 (h : STV W s v1 v2 v3 v4 v5) => copyH_any s (few_fits hv hs) (by rw [hs.ph, hl1]; exact hv.n0) v1 v2 v3 v4 v5 W h
   have hRd := fun W (h : PGV W vt vr vl vi vj p) => rread2_any p hf TX hTX vt vr vl vi vj W h
   have HSz : Hid (∀ s, Fits (shpOf p) s → Wid s → (⟨(textS s).toArray⟩ : ByteArray).size ≤ 1099511627776) := fun s h1 h2 => text_size (few_fits hv h1) ⟨by rw [h1.pc, h1.ph], by rw [h1.pc, h1.rg]⟩ h2
   have HRd : Hid (∀ s, Fits (shpOf p) s → Wid s → readS ⟨(textS s).toArray⟩ (shpOf p) = some s) := fun s h1 h2 => readS_text h1 h2
   have HF0 : Hid (Fits (shpOf p) (stSt p) ∧ Wid (stSt p) ∧ (stSt p).lock = -1) := ⟨fs0, ws0, by rw [hst0]⟩
   have HV0 : Hid (Vld p ∧ p.Few ∧ validV p = 0) := ⟨hv, hf, hv0⟩
   obtain ⟨X0, hX⟩ : ∃ X, startX p = X := ⟨_, rfl⟩
   have HX0 : Hid (X0 = ⟨(textS (stSt p)).toArray⟩) := by rw [← hX]; exact hX0
   simp only [hX] at hMc'
   clear hp hf hpw hv hv0 hnk hk20 hK fs0 ws0 hst0 hX0 hX hl1 hMc
   go_enter Try.func5, Try.ntmps5
   go_wp2_with (first
    | (clear t1; refine wpList_boxS rfl 28 _ rfl [vt, vr, vl, vi, vj] rfl ?_; intro W0 b3 F0 P0; have B0 := F_b F0; clear F0)
    | (clear t2; refine wpList_loadW rfl 28 _ rfl rfl P0 _ Try.underlying28 rfl infoPg ?_)
    | (go_at_call 9; refine (hCopy _ (HP.out.below B0)).mono ?_; rintro e W1 ⟨⟨c1, c2, c3, c4, c5, rfl, O1⟩, X1⟩; have hone7 := one5 O1.t.cell O1.r.cell (own_cell O1.l) O1.i.cell (own_cell O1.j); have P1 := P0.grown X1; have B1 := Below.then B0 X1; clear X1 P0 hCopy B0)
    | (clear t3; refine wpList_allocS rfl 28 rfl z5 zeroPg ?_; intro W2 b7 F2 I2; have P2 := P1.fresh F2; have O2 := O1.below (F_b F2); have B2 := F2.trans B1 B1.size; have hb7 : W1.heap.size ≤ b7 := Nat.le_of_eq F2.at'.symm; have n37 : b3 ≠ b7 := (by have := P1.lt; omega); clear F2 P1)
    | (clear t4; refine wpList_storeW rfl 28 _ _ rfl rfl [c1, c2, c3, c4, c5] rfl I2 rfl infoPg hone7 ?_; intro W3 U3 C3; have P3 := P2.upd U3 n37; have O3 := O2.upd I2 U3 (by decide); have B3 := U3.trans B2 (Nat.le_trans B1.size hb7); clear U3 P2 I2 B2 O2)
    | (clear t5; refine wpList_loadW rfl 28 _ rfl rfl C3 _ Try.underlying28 rfl infoPg ?_)
    | (go_at_call 24; refine (hMc' _ _ _ _ _ _ O3.pgv).mono ?_; rintro e W4 ⟨bz, bp, bs, be, rfl, K4, X4⟩; have P4 := P3.grown X4; have B4 := Below.then B3 X4; clear P3 C3 X4 hMc' O1 O3)
    | (clear t6; refine wpList_allocS rfl 57 rfl zmc zeroMc ?_; intro W5 b8 F5 I5; have P5 := P4.fresh F5; have K5 := K4.mh.below (F_b F5); have B5 := F5.trans B4 B4.size; have hb8 : W4.heap.size ≤ b8 := Nat.le_of_eq F5.at'.symm; have KS5 := F_b F5; clear F5 P4)
    | (clear t7; refine wpList_storeW rfl 57 _ _ rfl rfl [.string X0, .func (.func 65) #[] #[.pointer (some ⟨bz, 0, none⟩), .pointer (some ⟨bp, 0, none⟩)], .func (.func 67) #[] #[.pointer (some ⟨bz, 0, none⟩), .pointer (some ⟨bs, 0, none⟩)], .func (.func 68) #[] #[.pointer (some ⟨bz, 0, none⟩), .pointer (some ⟨be, 0, none⟩)]] rfl I5 rfl infoMc mc_one ?_; intro W6 U6 M6; have P6 := isS_updT P5 I5 (by decide) U6; have K6 := (K4.same fun k _ hk => (U6.block k (by omega)).trans (KS5.block k hk)).mh; have B6 := U6.trans B5 (Nat.le_trans B4.size hb8); clear U6 P5 I5 K5 KS5)
    | (clear t8; refine wpList_loadW rfl 28 _ rfl rfl P6 _ Try.underlying28 rfl infoPg ?_)
    | (go_at_call 28; refine (hVal _ (HP.out.below B6)).mono ?_; rintro e W7 ⟨rfl, X7⟩; have P7 := P6.grown X7; have M7 := M6.grown X7; have K7 := K6.below X7; have B7 := Below.then B6 X7; clear P6 M6 K6 X7 hVal)
    | (clear t9; refine wpList_loadGW rfl 57 _ rfl rfl M7 _ Try.underlying57 rfl infoMc ?_)
    | (go_at_call 20; refine (right_yes X0 bz bp bs be _).mono ?_; rintro e W8 ⟨rfl, X8⟩; have P8 := P7.grown X8; have M8 := M7.grown X8; have K8 := K7.below X8; have B8 := Below.then B7 X8; clear P7 M7 K7 X8)
    | (clear ta; refine wpList_loadW rfl 28 _ rfl rfl P8 _ Try.underlying28 rfl infoPg ?_)
    | (go_at_call 29; refine (hFst _ (HP.out.below B8)).mono ?_; rintro e W9 ⟨v1, v2, v3, v4, v5, rfl, SV9, X9⟩; have hone := stv_one (-1) SV9; have P9 := P8.grown X9; have M9 := M8.grown X9; have K9 := K8.below X9; have B9 := Below.then B8 X9; clear P8 M8 K8 X9 hFst)
    | (clear tb; refine wpList_allocS rfl 32 rfl zst zeroSt ?_; intro WA b13 FA IA; have PA := P9.fresh FA; have MA := M9.fresh FA; have KA := K9.below (F_b FA); have XA := F_b FA; have hb13 : W9.heap.size ≤ b13 := Nat.le_of_eq FA.at'.symm; clear FA)
    | (clear tc; refine wpList_storeW rfl 32 _ _ rfl rfl [v1, v2, v3, v4, v5, .int .i64 (-1)] rfl IA rfl infoSt hone ?_; intro WB UB SB; have XB := UB.trans XA hb13; have PB := P9.grown XB; have MB := M9.grown XB; have KB := K9.below XB; have SVB := SV9.below XB; have y8 : WB.cell? ⟨b8, 0, none⟩ = some (.string X0) := MB.cell 0; clear UB IA PA MA KA XA))
   obtain ⟨N, hN⟩ : ∃ k, k = W9.heap.size := ⟨_, rfl⟩
   have HB : Hid (N ≤ WB.heap.size ∧ N ≤ b13 ∧ w.heap.size ≤ N) := by show _ ∧ _; have h1 := XB.size; have h2 := B9.size; omega
   have HM2 : Hid (∀ V, Below N WB V → IsS V b8 57 [.string X0, .func (.func 65) #[] #[.pointer (some ⟨bz, 0, none⟩), .pointer (some ⟨bp, 0, none⟩)], .func (.func 67) #[] #[.pointer (some ⟨bz, 0, none⟩), .pointer (some ⟨bs, 0, none⟩)], .func (.func 68) #[] #[.pointer (some ⟨bz, 0, none⟩), .pointer (some ⟨be, 0, none⟩)]]) := fun V hV => (hV.block b8 (by rw [hN]; exact M9.lt)).trans MB
   have HP2 : Hid (∀ V, Below N WB V → IsS V b3 28 [vt, vr, vl, vi, vj]) := fun V hV => (hV.block b3 (by rw [hN]; exact P9.lt)).trans PB
   have HK2 : Hid (∀ V, Below N WB V → MH V p bz bp bs be) := fun V hV => K9.below (XB.trans (by rw [← hN]; exact hV))
   have HBW : Hid (∀ V, Below N WB V → Below w.heap.size w V) := fun V hV => B9.trans ((XB.trans (by rw [← hN]; exact hV)).mono B9.size)
   have HSV0 : Hid (STV WB (stSt p) v1 v2 v3 v4 v5) := SVB
   have HS0 : Hid (IsS WB b13 32 [v1, v2, v3, v4, v5, .int .i64 (-1)]) := SB
   clear XB PB MB KB SVB SB P9 M9 K9 SV9 K4 B9 B8 B7 B6 B5 B4 B3 B1 hb13 hb8 hb7 n37 hN hone hone7 td te
   go_wp2_with fail
   clear y8
   go_loopw [14, 15] (fun tv iv wr => ∃ (j : Nat) (s : ST) (XC : ByteArray) (v1 v2 v3 v4 v5 : Value) (lk : Int), j ≤ nk ∧ iv = .int .i64 (j : Int) ∧ tv = .string XC ∧ Hid (XC = ⟨(textS s).toArray⟩ ∧ Fits (shpOf p) s ∧ Wid s ∧ s.lock = lk) ∧ Hid (STV wr s v1 v2 v3 v4 v5) ∧ Hid (IsS wr b13 32 [v1, v2, v3, v4, v5, .int .i64 lk]) ∧ Hid (Below N WB wr)) (fun _ iv _ => nk - (intOf iv).toNat)
   case atStart => exact ⟨0, stSt p, X0, v1, v2, v3, v4, v5, -1, Nat.zero_le _, rfl, rfl, ⟨HX0.out, HF0.out⟩, HSV0, HS0, Below.refl _ _⟩
   case round =>
    clear HSV0 HS0
    obtain ⟨j, s, XC, v1, v2, v3, v4, v5, lk, hj, rfl, rfl, HI, HSV, HS, HFB⟩ := hrel
    have M0 := HM2.out wr HFB.out
    have P0 := HP2.out wr HFB.out
    have K0 := HK2.out wr HFB.out
    have PV0 := HP.out.below (HBW.out wr HFB.out)
    have hXs : XC.size ≤ 1099511627776 := by rw [HI.out.1]; exact HSz.out s HI.out.2.1 HI.out.2.2.1
    have ts1 : True := trivial
    have ts2 : True := trivial
    have ts3 : True := trivial
    have ts4 : True := trivial
    have ts5 : True := trivial
    have ts6 : True := trivial
    have ts7 : True := trivial
    by_cases hlt : j < nk
    · have hji : (j : Int) < nk := by omega
      obtain ⟨kk, hkk⟩ : ∃ q, ks[j]? = some q := ⟨_, List.getElem?_eq_getElem (by rw [HNK.out]; exact hlt)⟩
      have hrd : readS XC (shpOf p) = some s := by rw [HI.out.1]; exact HRd.out s HI.out.2.1 HI.out.2.2.1
      have hpn : s.pc.length = p.threads.length := by rw [HI.out.2.1.pc, (shp_len HV0.out.1).1]
      have h0n : 0 < s.pc.length := by rw [hpn]; exact HV0.out.1.n0
      obtain ⟨q, hqd⟩ : ∃ q, s.pc.getD 0 0 = q := ⟨_, rfl⟩
      have hq : s.pc[0]? = some q := by rw [← hqd, List.getD_eq_getElem?_getD, List.getElem?_eq_getElem h0n]; rfl
      obtain ⟨n, hn⟩ : ∃ n, s.pc.length = n := ⟨_, rfl⟩
      have hn4 : n ≤ 4 := by rw [← hn, hpn]; exact HV0.out.1.n4
      have hnI : (n : Int) ≤ 1048576 := by omega
      have h0N : 0 < n := by omega
      have h0I : (0 : Int) < (n : Int) := by omega
      have hPk : picksH p XC = [((n : Int), 2, q)] := by unfold picksH; rw [hrd]; simp only [hn, hqd]
      have hEn : endH p XC = if decide (1 < q) = true then some s else none := by unfold endH; rw [hrd]; simp only [hqd]
      have hSt : stepH p XC kk = (match hopK s kk with | none => none | some u => if fitsB (shpOf p) u = true then some u else none) := by unfold stepH; rw [hrd]; rfl
      have hTx := fun W (h : STV W s v1 v2 v3 v4 v5) => hTxG s HI.out.2.1 HI.out.2.2.1 W v1 v2 v3 v4 v5 h
      have hEnd := fun W h1 (h : STV W s v1 v2 v3 v4 v5) => hEndG s HI.out.2.1 W v1 v2 v3 v4 v5 h1 h
      have hCp := fun W (h : STV W s v1 v2 v3 v4 v5) => hCpG s HI.out.2.1 W v1 v2 v3 v4 v5 h
      simp only [← HI.out.1, HI.out.2.2.2] at hTx
      simp only [HI.out.2.2.2] at hCp
      have h1 := fun W (h : MH W p bz bp bs be) => h1G XC hXs bz bp bs be W h
      have h2 := fun W (h : MH W p bz bp bs be) => h2G XC hXs kk bz bp bs be W h
      have h3 := fun W (h : MH W p bz bp bs be) => h3G XC hXs bz bp bs be W h
      rw [hPk] at h1
      rw [hSt] at h2
      rw [hEn] at h3
      obtain ⟨gk, okk, ek, hbk0, rk0⟩ := pkL_range (HK.out.below (HBW.out wr HFB.out)) hkk
      subst ek
      obtain ⟨a1, c1, e1, SG1, _⟩ := id HSV.out.pc
      obtain ⟨g1, o1, ea, hb1, yc⟩ := SG1.int hq
      subst ea
      rw [hn] at e1
      subst e1
      have HYC : Hid (wr.cell? ⟨g1, o1, none⟩ = some (.int .i64 q) ∧ g1 < wr.heap.size) := ⟨yc, hb1⟩
      have HN : Hid (s.pc.length = n ∧ s.pc.getD 0 0 = q) := ⟨hn, hqd⟩
      have HRK : Hid (wr.rangeAt gk (okk + j * 3) (pkL kk) ∧ gk < wr.heap.size) := ⟨rk0, hbk0⟩
      have S0 := HS.out
      clear hkk hrd hpn h0n hqd hq hn hPk hEn hSt SG1 yc hb1 rk0 hbk0
      go_wp2_with (first
       | (clear ts1; refine wpList_loadW rfl 28 _ rfl rfl P0 _ Try.underlying28 rfl infoPg ?_)
       | (clear ts2; refine wpList_loadW rfl 32 _ rfl rfl S0 _ Try.underlying32 rfl infoSt ?_)
       | (go_at_call 21; refine (hTx _ HSV.out).mono ?_; rintro e W1 ⟨rfl, X1⟩; have S1 := S0.grown X1; have M1 := M0.grown X1; have K1 := K0.below X1; clear S0 M0 K0)
       | (clear ts3; refine wpList_loadO rfl 53 _ rfl rfl M1 (v := .func (.func 65) #[] #[.pointer (some ⟨bz, 0, none⟩), .pointer (some ⟨bp, 0, none⟩)]) rfl (fun w h => by simp [go_sem, h]) ?_)
       | (go_at_call 65; refine (h1 _ K1).mono ?_; rintro e W2 ⟨v, rfl, O2, X2⟩; obtain ⟨a2, c2, ev, sg2, _⟩ := own_row O2; obtain ⟨g2, o2, ea2, hb2, rg2⟩ := pkL_range sg2 (i := 0) rfl; subst ea2 ev; have XX2 := Below.then X1 X2; have S2 := S1.grown X2; have M2 := M1.grown X2; have K2 := K1.below X2; have yc2 := (XX2.cell (p := ⟨g1, o1, none⟩) HYC.out.2).trans HYC.out.1; clear S1 M1 K1 X1 X2 O2 sg2))
      refine grow_allW (by kernel_rfl) (by kernel_rfl) ?_
      refine WG.pu rfl (v := (.slice (some ⟨g2, o2, none⟩) 1 c2)) ?_; simp only [sP]
      refine WG.pu rfl (v := (.int .i64 1)) ?_; simp only [sP]
      refine WG.pu rfl (v := (.bool false)) ?_; simp only [sP]
      refine WG.pu rfl (v := (.bool false)) ?_; simp only [sP]
      refine WG.pu rfl (v := (.slice (some ⟨g2, o2, none⟩) 1 c2)) ?_; simp only [sP]
      refine WG.pu rfl (v := (.pointer (some ⟨g2, o2 + 0 * 3, none⟩))) ?_; simp only [sP]
      refine WG.range rfl 68 _ rfl rfl (pkL ((n : Int), 2, q)) hb2 rg2 _ Try.underlying68 rfl infoPk3 ?_; simp only [sP]
      refine WG.pu rfl (v := (.pointer (some ⟨b13, 0, none⟩))) ?_; simp only [sP]
      refine WG.load1 rfl 29 _ rfl rfl (S2) (v := (.slice (some ⟨g1, o1, none⟩) n c1)) rfl (fun w h => by simp [go_sem, h]) ?_; simp only [sP]
      refine WG.pu rfl (v := (.int .i64 (n : Int))) ?_; simp only [sP]
      refine WG.pu rfl (v := (.pointer (some ⟨b13, 0, none⟩))) ?_; simp only [sP]
      refine WG.load1 rfl 29 _ rfl rfl (S2) (v := (.slice (some ⟨g1, o1, none⟩) n c1)) rfl (fun w h => by simp [go_sem, h]) ?_; simp only [sP]
      refine WG.put rfl (v := (.pointer (some ⟨g1, o1, none⟩))) (fun w => by first | rfl | (go_simp; done) | (simp [go_sem, h0I, h0N]; done) | (simp [execOp, go_sem, h0I, h0N]; done)) ?_; simp only [sP]
      refine WG.cell rfl 3 _ rfl rfl yc2 (fun w h => by simp [go_sem, h]) ?_; simp only [sP]
      refine WG.put rfl (v := (.agg (pkL ((n : Int), 2, q)).toArray)) (fun w => by first | rfl | (go_simp; done) | (simp [go_sem, pkL]; done) | (simp [execOp, go_sem, pkL]; done)) ?_; simp only [sP]
      refine WG.put rfl (v := (.bool false)) (fun w => by first | rfl | (go_simp; done) | (simp [go_sem, pkL]; done) | (simp [execOp, go_sem, pkL]; done)) ?_; simp only [sP]
      refine WG.pu rfl (v := (.bool false)) ?_; simp only [sP]
      refine WG.nil ?_
      intro W3 X3
      have XX3 := Below.then XX2 X3
      have S3 := S2.grown X3
      have M3 := M2.grown X3
      have K3 := K2.below X3
      clear S2 M2 K2 XX2 X3 yc2 rg2 hb2
      cases hqb : decide (1 < q) with
      | true =>
       rw [hqb, if_pos rfl, endV_some] at h3
       obtain ⟨vals, hvals⟩ : ∃ l, s.regs.flatten ++ s.mem = l := ⟨_, rfl⟩
       rw [hvals] at h3
       simp only [hvals] at hEnd
       have h48 : vals.length ≤ 48 := by rw [← hvals]; exact vals_48 HV0.out.1 HI.out.2.1
       have hfl : (finL vals).length = 49 := finL_len h48
       have hfin0 : (finL []).length = 49 := finL_len (by simp)
       have hq1 : 1 < q := by simpa using hqb
       have hNw : N ≤ wr.heap.size := Nat.le_trans HB.out.1 HFB.out.size
       go_wp2_with (first
        | (clear ts4; refine wpList_loadO rfl 55 _ rfl rfl M3 (v := .func (.func 68) #[] #[.pointer (some ⟨bz, 0, none⟩), .pointer (some ⟨be, 0, none⟩)]) rfl (fun w h => by simp [go_sem, h]) ?_)
        | (go_at_call 68; refine (h3 _ K3).mono ?_; rintro e W4 ⟨rfl, X4⟩; have S4 := S3.grown X4; have M4 := M3.grown X4; have XX4 := Below.then XX3 X4; clear S3 M3 K3 XX3 X4)
        | (clear ts5; refine wpList_allocS rfl 80 rfl (finL []) zeroFin ?_; intro W5 b17 F5 G5; have S5 := S4.fresh F5; have M5 := M4.fresh F5; have XX5 := F5.trans XX4 XX4.size; have hb17 : wr.heap.size ≤ b17 := Nat.le_trans XX4.size (Nat.le_of_eq F5.at'.symm); clear F5 S4 M4)
        | (clear ts6; refine wpList_storeW rfl 80 _ _ rfl rfl (finL vals) rfl G5 (by rw [hfin0, hfl]) (by rw [hfl]; exact infoFin) (finL_one _) ?_; intro W6 U6 G6; have S6 := isS_updT S5 G5 (by decide) U6; have M6 := isS_updT M5 G5 (by decide) U6; have XX6 := U6.trans XX5 hb17; clear U6 S5 M5 G5 XX5 XX4))
       have FB6 : Below N WB W6 := HFB.out.trans (XX6.mono hNw)
       have P6 := HP2.out W6 FB6
       have PV6 := HP.out.below (HBW.out W6 FB6)
       have SV6 := HSV.out.below XX6
       have yc6 := (XX6.cell (p := ⟨g1, o1, none⟩) HYC.out.2).trans HYC.out.1
       refine grow_allW (by kernel_rfl) (by kernel_rfl) ?_
       refine WG.pu rfl (v := (.bool true)) ?_; simp only [sP]
       refine WG.pu rfl (v := (.pointer (some ⟨b13, 0, none⟩))) ?_; simp only [sP]
       refine WG.load1 rfl 29 _ rfl rfl (S6) (v := (.slice (some ⟨g1, o1, none⟩) n c1)) rfl (fun w h => by simp [go_sem, h]) ?_; simp only [sP]
       refine WG.put rfl (v := (.pointer (some ⟨g1, o1, none⟩))) (fun w => by first | rfl | (go_simp; done) | (simp [go_sem, h0I, h0N]; done) | (simp [execOp, go_sem, h0I, h0N]; done)) ?_; simp only [sP]
       refine WG.cell rfl 3 _ rfl rfl yc6 (fun w h => by simp [go_sem, h]) ?_; simp only [sP]
       refine WG.put rfl (v := (.bool true)) (fun w => by first | rfl | (go_simp; done) | (simp [go_sem, hq1]; done) | (simp [execOp, go_sem, hq1]; done)) ?_; simp only [sP]
       refine WG.pu rfl (v := (.bool false)) ?_; simp only [sP]
       refine WG.pu rfl (v := (.bool false)) ?_; simp only [sP]
       refine WG.pu rfl (v := (.bool true)) ?_; simp only [sP]
       refine WG.pu rfl (v := (.bool true)) ?_; simp only [sP]
       refine WG.row rfl 80 _ rfl rfl G6 (finL vals) rfl _ Try.underlying80 rfl (by rw [hfl]; exact infoFin) ?_; simp only [sP]
       refine WG.row rfl 28 _ rfl rfl P6 [vt, vr, vl, vi, vj] rfl _ Try.underlying28 rfl infoPg ?_; simp only [sP]
       refine WG.pu rfl (v := (.pointer (some ⟨b13, 2, none⟩))) ?_; simp only [sP]
       refine WG.load1 rfl 25 _ rfl rfl (S6) (v := (v3)) rfl (fun w h => by simp [go_sem, h]) ?_; simp only [sP]
       refine WG.pu rfl (v := (.pointer (some ⟨b13, 3, none⟩))) ?_; simp only [sP]
       refine WG.load1 rfl 26 _ rfl rfl (S6) (v := (v4)) rfl (fun w h => by simp [go_sem, h]) ?_; simp only [sP]
       refine WG.call rfl (f := 30) (v := (.agg (finL vals).toArray)) (fun W hB => hEnd W (PV6.below hB) (SV6.below hB)) (fun w => by first | rfl | (go_simp; done) | (simp [execOp, go_sem]; done)) ?_; simp only [sP]
       refine WG.put rfl (v := (.bool false)) (fun w => exec_neqF h48 rfl rfl rfl) ?_; simp only [sP]
       refine WG.pu rfl (v := (.bool false)) ?_; simp only [sP]
       refine WG.pu rfl (v := (.bool false)) ?_; simp only [sP]
       refine WG.pu rfl (v := (.bool false)) ?_; simp only [sP]
       refine WG.pu rfl (v := (.bool true)) ?_; simp only [sP]
       refine WG.pu rfl (v := (.bool false)) ?_; simp only [sP]
       refine WG.pu rfl (v := (.bool false)) ?_; simp only [sP]
       refine WG.skip rfl ?_; simp only [sP]
       refine WG.skip rfl ?_; simp only [sP]
       refine WG.skip rfl ?_; simp only [sP]
       refine WG.pu rfl (v := (.bool false)) ?_; simp only [sP]
       refine WG.pu rfl (v := (.bool false)) ?_; simp only [sP]
       refine WG.nil ?_
       intro W7 X7
       have XX7 := Below.then XX6 X7
       have S7 := S6.grown X7
       have M7 := M6.grown X7
       have rk7 : W7.rangeAt gk (okk + j * 3) (pkL kk) := range_below HRK.out.1 HRK.out.2 XX7
       clear S6 M6 G6 P6 PV6 SV6 yc6 FB6 XX6 X7 h1 h3 hEnd hTx P0 PV0
       obtain ⟨th, kd, lc⟩ := kk
       have zt1 : True := trivial
       have zt2 : True := trivial
       have zt3 : True := trivial
       have zt4 : True := trivial
       have zt5 : True := trivial
       have zt6 : True := trivial
       have zt7 : True := trivial
       have zt8 : True := trivial
       have zt9 : True := trivial
       have zta : True := trivial
       have ztb : True := trivial
       have ztc : True := trivial
       have ztd : True := trivial
       have zte : True := trivial
       cases hr : hopK s (th, kd, lc) with
       | none =>
        simp only [hr, stpV_none] at h2
        have hno : ¬ (0 ≤ th ∧ th < (n : Int)) := by
         intro h
         unfold hopK at hr
         rw [HN.out.1, if_pos h] at hr
         cases hr
        clear hr
        by_cases hth : 0 ≤ th
        · have hge : ¬ th < (n : Int) := by omega
          clear hno
          go_wp2_with (first
           | (clear zt1; refine wpList_valueX rfl (exec_rangeP rfl rfl trivial rk7 Try.underlying68 rfl infoPk3) ?_)
           | (clear zt2; refine wpList_allocS rfl 68 rfl [.int .i64 0, .int .i64 0, .int .i64 0] zeroPk ?_; intro W8 b19 F8 I8; have S8 := S7.fresh F8; have M8 := M7.fresh F8; have XX8 := F8.trans XX7 XX7.size; have hb19 : wr.heap.size ≤ b19 := Nat.le_trans XX7.size (Nat.le_of_eq F8.at'.symm); clear F8 S7 M7)
           | (clear zt3; refine wpList_storeW rfl 68 _ _ rfl rfl (pkL (th, kd, lc)) rfl I8 rfl infoPk3 (pkL_oneK _) ?_; intro W9 U9 I9; have S9 := isS_updT S8 I8 (by decide) U9; have M9 := isS_updT M8 I8 (by decide) U9; have XX9 := U9.trans XX8 hb19; have K9 := HK2.out W9 (HFB.out.trans (XX9.mono hNw)); clear U9 S8 M8 I8 XX8)
           | (clear zt4; refine wpList_loadO rfl 54 _ rfl rfl M9 (v := .func (.func 67) #[] #[.pointer (some ⟨bz, 0, none⟩), .pointer (some ⟨bs, 0, none⟩)]) rfl (fun w h => by simp [go_sem, h]) ?_)
           | (clear zt5; refine wpList_loadW rfl 68 _ rfl rfl I9 _ Try.underlying68 rfl infoPk3 ?_)
           | (go_at_call 67; refine (h2 _ K9).mono ?_; rintro e WC ⟨rfl, XC9⟩; have SC := S9.grown XC9; have IC := I9.grown XC9; have XXC := Below.then XX9 XC9; obtain ⟨x0, x1, x2, x3, x4, x5⟩ := st6 SC; have k0 : WC.cell? ⟨b19, 0, none⟩ = some (.int .i64 th) := IC.cell 0; clear S9 M9 K9 XX9 XC9 I9))
          go_roundw
          case rel => exact ⟨j + 1, s, XC, _, v2, v3, v4, v5, lk, by omega, by go_num, rfl, HI, HSV.out.below XXC, SC, HFB.out.trans (XXC.mono hNw)⟩
          case measure => simp [intOf]; omega
        · clear hno
          go_wp2_with (first
           | (clear zt1; refine wpList_valueX rfl (exec_rangeP rfl rfl trivial rk7 Try.underlying68 rfl infoPk3) ?_)
           | (clear zt2; refine wpList_allocS rfl 68 rfl [.int .i64 0, .int .i64 0, .int .i64 0] zeroPk ?_; intro W8 b19 F8 I8; have S8 := S7.fresh F8; have M8 := M7.fresh F8; have XX8 := F8.trans XX7 XX7.size; have hb19 : wr.heap.size ≤ b19 := Nat.le_trans XX7.size (Nat.le_of_eq F8.at'.symm); clear F8 S7 M7)
           | (clear zt3; refine wpList_storeW rfl 68 _ _ rfl rfl (pkL (th, kd, lc)) rfl I8 rfl infoPk3 (pkL_oneK _) ?_; intro W9 U9 I9; have S9 := isS_updT S8 I8 (by decide) U9; have M9 := isS_updT M8 I8 (by decide) U9; have XX9 := U9.trans XX8 hb19; have K9 := HK2.out W9 (HFB.out.trans (XX9.mono hNw)); clear U9 S8 M8 I8 XX8)
           | (clear zt4; refine wpList_loadO rfl 54 _ rfl rfl M9 (v := .func (.func 67) #[] #[.pointer (some ⟨bz, 0, none⟩), .pointer (some ⟨bs, 0, none⟩)]) rfl (fun w h => by simp [go_sem, h]) ?_)
           | (clear zt5; refine wpList_loadW rfl 68 _ rfl rfl I9 _ Try.underlying68 rfl infoPk3 ?_)
           | (go_at_call 67; refine (h2 _ K9).mono ?_; rintro e WC ⟨rfl, XC9⟩; have SC := S9.grown XC9; have IC := I9.grown XC9; have XXC := Below.then XX9 XC9; obtain ⟨x0, x1, x2, x3, x4, x5⟩ := st6 SC; have k0 : WC.cell? ⟨b19, 0, none⟩ = some (.int .i64 th) := IC.cell 0; clear S9 M9 K9 XX9 XC9 I9))
          go_roundw
          case rel => exact ⟨j + 1, s, XC, _, v2, v3, v4, v5, lk, by omega, by go_num, rfl, HI, HSV.out.below XXC, SC, HFB.out.trans (XXC.mono hNw)⟩
          case measure => simp [intOf]; omega
       | some u =>
        have hin : 0 ≤ th ∧ th < (n : Int) := by
         unfold hopK at hr
         rw [HN.out.1] at hr
         by_cases h : 0 ≤ th ∧ th < (n : Int)
         · exact h
         · rw [if_neg h] at hr; cases hr
        obtain ⟨i, hi, hi2⟩ := nat_of hin
        subst hi
        obtain ⟨qi, hqi⟩ : ∃ q, s.pc[i]? = some q := ⟨_, List.getElem?_eq_getElem (by rw [HN.out.1]; exact hi2)⟩
        obtain ⟨hqi0, hqi1⟩ := hop_pc HV0.out.1 HV0.out.2.1 HI.out.2.1 i qi hqi
        have hu : u = ⟨s.pc.set i (qi + 2), s.ph, s.regs, s.mem, s.buf, lc⟩ := by
         have hr2 := hr
         unfold hopK at hr2
         rw [HN.out.1, if_pos hin] at hr2
         cases hr2
         simp only [Int.toNat_natCast, List.getD_eq_getElem?_getD, hqi, Option.getD_some]
        obtain ⟨hfu, hwu⟩ := hop_keeps (few_fits HV0.out.1 HI.out.2.1) HI.out.2.2.1 (hop_pc HV0.out.1 HV0.out.2.1 HI.out.2.1) hr
        have hIs := fun W v1 v2 v3 v4 v5 h1 h2 => hIsG u hfu W v1 v2 v3 v4 v5 h1 h2
        have hulk : u.lock = lc := by rw [hu]
        simp only [hulk] at hIs
        have hni : ¬ (i : Int) < 0 := by omega
        have hi0 : (0 : Int) ≤ (i : Int) := by omega
        have hiI : (i : Int) < (n : Int) := by omega
        have HU : Hid (u = ⟨s.pc.set i (qi + 2), s.ph, s.regs, s.mem, s.buf, lc⟩) := hu
        have HQI : Hid (s.pc[i]? = some qi) := hqi
        clear hu hqi hin
        cases hfb : fitsB (shpOf p) u with
        | true =>
         simp only [hr, hfb, if_true, stpV_some] at h2
         obtain ⟨U, hU⟩ : ∃ U : ByteArray, (⟨(textS u).toArray⟩ : ByteArray) = U := ⟨_, rfl⟩
         simp only [hU] at h2
         simp only [hfb] at hIs
         have hfits := (fitsB_iff _ _).1 hfb
         have HIU : Hid (U = ⟨(textS u).toArray⟩ ∧ Fits (shpOf p) u ∧ Wid u ∧ u.lock = lc) := ⟨hU.symm, hfits, hwu (lk_le HV0.out.1 hfits), hulk⟩
         clear hr hU hfb hfits hwu hulk hfu
         go_wp2_with (first
          | (clear zt1; refine wpList_valueX rfl (exec_rangeP rfl rfl trivial rk7 Try.underlying68 rfl infoPk3) ?_)
          | (clear zt2; refine wpList_allocS rfl 68 rfl [.int .i64 0, .int .i64 0, .int .i64 0] zeroPk ?_; intro W8 b19 F8 I8; have S8 := S7.fresh F8; have M8 := M7.fresh F8; have XX8 := F8.trans XX7 XX7.size; have hb19 : wr.heap.size ≤ b19 := Nat.le_trans XX7.size (Nat.le_of_eq F8.at'.symm); clear F8 S7 M7)
          | (clear zt3; refine wpList_storeW rfl 68 _ _ rfl rfl (pkL ((i : Int), kd, lc)) rfl I8 rfl infoPk3 (pkL_oneK _) ?_; intro W9 U9 I9; have S9 := isS_updT S8 I8 (by decide) U9; have M9 := isS_updT M8 I8 (by decide) U9; have XX9 := U9.trans XX8 hb19; have K9 := HK2.out W9 (HFB.out.trans (XX9.mono hNw)); clear U9 S8 M8 I8 XX8)
          | (clear zt4; refine wpList_loadO rfl 54 _ rfl rfl M9 (v := .func (.func 67) #[] #[.pointer (some ⟨bz, 0, none⟩), .pointer (some ⟨bs, 0, none⟩)]) rfl (fun w h => by simp [go_sem, h]) ?_)
          | (clear zt5; refine wpList_loadW rfl 68 _ rfl rfl I9 _ Try.underlying68 rfl infoPk3 ?_)
          | (go_at_call 67; refine (h2 _ K9).mono ?_; rintro e WC ⟨rfl, XC9⟩; have SC := S9.grown XC9; have IC := I9.grown XC9; have XXC := Below.then XX9 XC9; obtain ⟨x0, x1, x2, x3, x4, x5⟩ := st6 SC; have k0 : WC.cell? ⟨b19, 0, none⟩ = some (.int .i64 (i : Int)) := IC.cell 0; clear S9 M9 K9 XX9 XC9 I9)
          | (clear zt6; refine wpList_loadW rfl 32 _ rfl rfl SC _ Try.underlying32 rfl infoSt ?_)
          | (go_at_call 10; refine (hCp _ (HSV.out.below XXC)).mono ?_; rintro e WD ⟨w1, w2, w3, w4, w5, rfl, OD, hap, XD⟩; have hone9 := stv_one lk OD.stv; have hpr := OD.pc; rw [HN.out.1] at hpr; obtain ⟨gu, cu, csu, eu, hgu, IU, htu, hcu, hmu, hlu⟩ := own_opn hpr h0N; subst eu; have SD := SC.grown XD; have ID := IC.grown XD; have XXD := Below.then XXC XD; have hgw : wr.heap.size ≤ gu := Nat.le_trans XXC.size hgu; have hxu := hop_cell htu HQI.out hi2; have hic : i < csu.length := (by omega); have HPU : Hid (WC.heap.size ≤ gu ∧ csu.take n = s.pc.flatMap intE ∧ n ≤ cu ∧ cu ≤ maxLen ∧ csu.length = cu) := ⟨hgu, htu, hcu, hmu, hlu⟩; clear SC IC x0 x1 x2 x3 x4 x5 k0 hpr XD htu hmu)
          | (clear zt7; refine wpList_allocS rfl 32 rfl zst zeroSt ?_; intro WE b22 FE JE; have OE := OD.below (F_b FE); have IUE := IU.fresh FE; have SE := SD.fresh FE; have IE := ID.fresh FE; have XXE := FE.trans XXD XXD.size; have hb22 : wr.heap.size ≤ b22 := Nat.le_trans XXD.size (Nat.le_of_eq FE.at'.symm); have n22 : b13 ≠ b22 := (by have := SD.lt; have := FE.at'; omega); clear FE OD IU SD ID)
          | (clear zt8; refine wpList_storeW rfl 32 _ _ rfl rfl [.slice (some ⟨gu, 0, none⟩) n cu, w2, w3, w4, w5, .int .i64 lk] rfl JE rfl infoSt hone9 ?_; intro WF UF JF; have OF := OE.updT JE UF (by decide); have IUF := isS_updT IUE JE (by decide) UF; have SF := SE.upd UF n22; have IF := isS_updT IE JE (by decide) UF; have XXF := UF.trans XXE hb22; obtain ⟨z0, z1, z2, z3, z4, z5'⟩ := st6 JF; have k0 : WF.cell? ⟨b19, 0, none⟩ = some (.int .i64 (i : Int)) := IF.cell 0; have yu : WF.cell? ⟨gu, i, none⟩ = some (.int .i64 qi) := (IUF.cell i).trans hxu; clear UF OE IUE SE IE JE XXE)
          | (clear zt9; refine wpList_store1 rfl 3 _ _ rfl rfl (.int .i64 (qi + 2)) rfl IUF hic info3' rfl ?_; intro WX UG IUG; have OG : STO WX WC.heap.size u (.slice (some ⟨gu, 0, none⟩) n cu) w2 w3 w4 w5 := (by rw [HU.out]; exact OF.hop hap IUF UG List.length_set (by rw [HN.out.1]; exact put_own HPU.out.1 (by rw [Nat.zero_add]; exact IUG) HPU.out.2.1 HPU.out.2.2.1 HPU.out.2.2.2.1 HPU.out.2.2.2.2)); have JG := isS_updT JF IUF (by decide) UG; have SG := isS_updT SF IUF (by decide) UG; have IG := isS_updT IF IUF (by decide) UG; have XXG := UG.trans XXF hgw; have k2 : WX.cell? ⟨b19, 2, none⟩ = some (.int .i64 lc) := IG.cell 2; clear z0 z1 z2 z3 z4 z5' k0 yu UG IUG OF IUF SF IF JF XXF)
          | (clear zta; refine wpList_store1 rfl 3 _ _ rfl rfl (.int .i64 lc) rfl JG (by show 5 < 6; omega) info3' rfl ?_; intro WH UH JH; have OH := OG.updT JG UH (by decide); have SH := SG.upd UH n22; have XXH := UH.trans XXG hb22; have FBH : Below N WB WH := HFB.out.trans (XXH.mono hNw); have PH := HP2.out WH FBH; have PVH := HP.out.below (HBW.out WH FBH); clear k2 UH OG JG SG IG XXG)
          | (clear ztb; refine wpList_loadW rfl 28 _ rfl rfl PH _ Try.underlying28 rfl infoPg ?_)
          | (clear ztc; refine wpList_loadW rfl 32 _ rfl rfl JH _ Try.underlying32 rfl infoSt ?_)
          | (go_at_call 31; refine (hIs _ _ _ _ _ _ PVH OH.stv).mono ?_; rintro e WI ⟨rfl, XI⟩; have JI := JH.grown XI; have SI := SH.grown XI; have OI := OH.below XI; have XXI := Below.then XXH XI; have hone1 := stv_one lc OI.stv; clear JH SH OH PH PVH FBH XXH XI)
          | (clear ztd; refine wpList_loadW rfl 32 _ rfl rfl JI _ Try.underlying32 rfl infoSt ?_)
          | (clear zte; refine wpList_storeW rfl 32 _ _ rfl rfl [.slice (some ⟨gu, 0, none⟩) n cu, w2, w3, w4, w5, .int .i64 lc] rfl SI rfl infoSt hone1 ?_; intro WJ UJ SJ; have OJ := OI.updT SI UJ (by decide); have FBJ : Below N WB WJ := UJ.trans (HFB.out.trans (XXI.mono hNw)) HB.out.2.1; clear UJ OI SI JI))
         go_roundw
         case rel => exact ⟨j + 1, u, U, _, w2, w3, w4, w5, lc, by omega, by go_num, rfl, HIU, OJ.stv, SJ, FBJ⟩
         case measure => simp [intOf]; omega
        | false =>
         simp only [hr, hfb, Bool.false_eq_true, if_false, stpV_none] at h2
         simp only [hfb] at hIs
         clear hr hfb hwu hulk hfu
         go_wp2_with (first
          | (clear zt1; refine wpList_valueX rfl (exec_rangeP rfl rfl trivial rk7 Try.underlying68 rfl infoPk3) ?_)
          | (clear zt2; refine wpList_allocS rfl 68 rfl [.int .i64 0, .int .i64 0, .int .i64 0] zeroPk ?_; intro W8 b19 F8 I8; have S8 := S7.fresh F8; have M8 := M7.fresh F8; have XX8 := F8.trans XX7 XX7.size; have hb19 : wr.heap.size ≤ b19 := Nat.le_trans XX7.size (Nat.le_of_eq F8.at'.symm); clear F8 S7 M7)
          | (clear zt3; refine wpList_storeW rfl 68 _ _ rfl rfl (pkL ((i : Int), kd, lc)) rfl I8 rfl infoPk3 (pkL_oneK _) ?_; intro W9 U9 I9; have S9 := isS_updT S8 I8 (by decide) U9; have M9 := isS_updT M8 I8 (by decide) U9; have XX9 := U9.trans XX8 hb19; have K9 := HK2.out W9 (HFB.out.trans (XX9.mono hNw)); clear U9 S8 M8 I8 XX8)
          | (clear zt4; refine wpList_loadO rfl 54 _ rfl rfl M9 (v := .func (.func 67) #[] #[.pointer (some ⟨bz, 0, none⟩), .pointer (some ⟨bs, 0, none⟩)]) rfl (fun w h => by simp [go_sem, h]) ?_)
          | (clear zt5; refine wpList_loadW rfl 68 _ rfl rfl I9 _ Try.underlying68 rfl infoPk3 ?_)
          | (go_at_call 67; refine (h2 _ K9).mono ?_; rintro e WC ⟨rfl, XC9⟩; have SC := S9.grown XC9; have IC := I9.grown XC9; have XXC := Below.then XX9 XC9; obtain ⟨x0, x1, x2, x3, x4, x5⟩ := st6 SC; have k0 : WC.cell? ⟨b19, 0, none⟩ = some (.int .i64 (i : Int)) := IC.cell 0; clear S9 M9 K9 XX9 XC9 I9)
          | (clear zt6; refine wpList_loadW rfl 32 _ rfl rfl SC _ Try.underlying32 rfl infoSt ?_)
          | (go_at_call 10; refine (hCp _ (HSV.out.below XXC)).mono ?_; rintro e WD ⟨w1, w2, w3, w4, w5, rfl, OD, hap, XD⟩; have hone9 := stv_one lk OD.stv; have hpr := OD.pc; rw [HN.out.1] at hpr; obtain ⟨gu, cu, csu, eu, hgu, IU, htu, hcu, hmu, hlu⟩ := own_opn hpr h0N; subst eu; have SD := SC.grown XD; have ID := IC.grown XD; have XXD := Below.then XXC XD; have hgw : wr.heap.size ≤ gu := Nat.le_trans XXC.size hgu; have hxu := hop_cell htu HQI.out hi2; have hic : i < csu.length := (by omega); have HPU : Hid (WC.heap.size ≤ gu ∧ csu.take n = s.pc.flatMap intE ∧ n ≤ cu ∧ cu ≤ maxLen ∧ csu.length = cu) := ⟨hgu, htu, hcu, hmu, hlu⟩; clear SC IC x0 x1 x2 x3 x4 x5 k0 hpr XD htu hmu)
          | (clear zt7; refine wpList_allocS rfl 32 rfl zst zeroSt ?_; intro WE b22 FE JE; have OE := OD.below (F_b FE); have IUE := IU.fresh FE; have SE := SD.fresh FE; have IE := ID.fresh FE; have XXE := FE.trans XXD XXD.size; have hb22 : wr.heap.size ≤ b22 := Nat.le_trans XXD.size (Nat.le_of_eq FE.at'.symm); have n22 : b13 ≠ b22 := (by have := SD.lt; have := FE.at'; omega); clear FE OD IU SD ID)
          | (clear zt8; refine wpList_storeW rfl 32 _ _ rfl rfl [.slice (some ⟨gu, 0, none⟩) n cu, w2, w3, w4, w5, .int .i64 lk] rfl JE rfl infoSt hone9 ?_; intro WF UF JF; have OF := OE.updT JE UF (by decide); have IUF := isS_updT IUE JE (by decide) UF; have SF := SE.upd UF n22; have IF := isS_updT IE JE (by decide) UF; have XXF := UF.trans XXE hb22; obtain ⟨z0, z1, z2, z3, z4, z5'⟩ := st6 JF; have k0 : WF.cell? ⟨b19, 0, none⟩ = some (.int .i64 (i : Int)) := IF.cell 0; have yu : WF.cell? ⟨gu, i, none⟩ = some (.int .i64 qi) := (IUF.cell i).trans hxu; clear UF OE IUE SE IE JE XXE)
          | (clear zt9; refine wpList_store1 rfl 3 _ _ rfl rfl (.int .i64 (qi + 2)) rfl IUF hic info3' rfl ?_; intro WX UG IUG; have OG : STO WX WC.heap.size u (.slice (some ⟨gu, 0, none⟩) n cu) w2 w3 w4 w5 := (by rw [HU.out]; exact OF.hop hap IUF UG List.length_set (by rw [HN.out.1]; exact put_own HPU.out.1 (by rw [Nat.zero_add]; exact IUG) HPU.out.2.1 HPU.out.2.2.1 HPU.out.2.2.2.1 HPU.out.2.2.2.2)); have JG := isS_updT JF IUF (by decide) UG; have SG := isS_updT SF IUF (by decide) UG; have IG := isS_updT IF IUF (by decide) UG; have XXG := UG.trans XXF hgw; have k2 : WX.cell? ⟨b19, 2, none⟩ = some (.int .i64 lc) := IG.cell 2; clear z0 z1 z2 z3 z4 z5' k0 yu UG IUG OF IUF SF IF JF XXF)
          | (clear zta; refine wpList_store1 rfl 3 _ _ rfl rfl (.int .i64 lc) rfl JG (by show 5 < 6; omega) info3' rfl ?_; intro WH UH JH; have OH := OG.updT JG UH (by decide); have SH := SG.upd UH n22; have XXH := UH.trans XXG hb22; have FBH : Below N WB WH := HFB.out.trans (XXH.mono hNw); have PH := HP2.out WH FBH; have PVH := HP.out.below (HBW.out WH FBH); clear k2 UH OG JG SG IG XXG)
          | (clear ztb; refine wpList_loadW rfl 28 _ rfl rfl PH _ Try.underlying28 rfl infoPg ?_)
          | (clear ztc; refine wpList_loadW rfl 32 _ rfl rfl JH _ Try.underlying32 rfl infoSt ?_)
          | (go_at_call 31; refine (hIs _ _ _ _ _ _ PVH OH.stv).mono ?_; rintro e WI ⟨rfl, XI⟩; have JI := JH.grown XI; have SI := SH.grown XI; have OI := OH.below XI; have XXI := Below.then XXH XI; have hone1 := stv_one lc OI.stv; clear JH SH OH PH PVH FBH XXH XI))
         go_roundw
         case rel => exact ⟨j + 1, s, XC, _, v2, v3, v4, v5, lk, by omega, by go_num, rfl, HI, HSV.out.below XXI, SI, HFB.out.trans (XXI.mono hNw)⟩
         case measure => simp [intOf]; omega
      | false =>
       rw [hqb, if_neg (by decide), endV_none] at h3
       obtain ⟨vals, hvals⟩ : ∃ l, s.regs.flatten ++ s.mem = l := ⟨_, rfl⟩
       simp only [hvals] at hEnd
       have h48 : vals.length ≤ 48 := by rw [← hvals]; exact vals_48 HV0.out.1 HI.out.2.1
       have hfl : (finL vals).length = 49 := finL_len h48
       have hfin0 : (finL []).length = 49 := finL_len (by simp)
       have hq1 : ¬ 1 < q := by simpa using hqb
       have hNw : N ≤ wr.heap.size := Nat.le_trans HB.out.1 HFB.out.size
       go_wp2_with (first
        | (clear ts4; refine wpList_loadO rfl 55 _ rfl rfl M3 (v := .func (.func 68) #[] #[.pointer (some ⟨bz, 0, none⟩), .pointer (some ⟨be, 0, none⟩)]) rfl (fun w h => by simp [go_sem, h]) ?_)
        | (go_at_call 68; refine (h3 _ K3).mono ?_; rintro e W4 ⟨rfl, X4⟩; have S4 := S3.grown X4; have M4 := M3.grown X4; have XX4 := Below.then XX3 X4; clear S3 M3 K3 XX3 X4)
        | (clear ts5; refine wpList_allocS rfl 80 rfl (finL []) zeroFin ?_; intro W5 b17 F5 G5; have S5 := S4.fresh F5; have M5 := M4.fresh F5; have XX5 := F5.trans XX4 XX4.size; have hb17 : wr.heap.size ≤ b17 := Nat.le_trans XX4.size (Nat.le_of_eq F5.at'.symm); clear F5 S4 M4)
        | (clear ts6; refine wpList_storeW rfl 80 _ _ rfl rfl (finL []) rfl G5 rfl (by rw [hfin0]; exact infoFin) (finL_one _) ?_; intro W6 U6 G6; have S6 := isS_updT S5 G5 (by decide) U6; have M6 := isS_updT M5 G5 (by decide) U6; have XX6 := U6.trans XX5 hb17; clear U6 S5 M5 G5 XX5 XX4))
       have FB6 : Below N WB W6 := HFB.out.trans (XX6.mono hNw)
       have P6 := HP2.out W6 FB6
       have PV6 := HP.out.below (HBW.out W6 FB6)
       have SV6 := HSV.out.below XX6
       have yc6 := (XX6.cell (p := ⟨g1, o1, none⟩) HYC.out.2).trans HYC.out.1
       refine grow_allW (by kernel_rfl) (by kernel_rfl) ?_
       refine WG.pu rfl (v := (.bool false)) ?_; simp only [sP]
       refine WG.pu rfl (v := (.pointer (some ⟨b13, 0, none⟩))) ?_; simp only [sP]
       refine WG.load1 rfl 29 _ rfl rfl (S6) (v := (.slice (some ⟨g1, o1, none⟩) n c1)) rfl (fun w h => by simp [go_sem, h]) ?_; simp only [sP]
       refine WG.put rfl (v := (.pointer (some ⟨g1, o1, none⟩))) (fun w => by first | rfl | (go_simp; done) | (simp [go_sem, h0I, h0N]; done) | (simp [execOp, go_sem, h0I, h0N]; done)) ?_; simp only [sP]
       refine WG.cell rfl 3 _ rfl rfl yc6 (fun w h => by simp [go_sem, h]) ?_; simp only [sP]
       refine WG.put rfl (v := (.bool false)) (fun w => by first | rfl | (go_simp; done) | (simp [go_sem, hq1]; done) | (simp [execOp, go_sem, hq1]; done)) ?_; simp only [sP]
       refine WG.pu rfl (v := (.bool false)) ?_; simp only [sP]
       refine WG.pu rfl (v := (.bool false)) ?_; simp only [sP]
       refine WG.pu rfl (v := (.bool false)) ?_; simp only [sP]
       refine WG.pu rfl (v := (.bool false)) ?_; simp only [sP]
       refine WG.skip rfl ?_; simp only [sP]
       refine WG.skip rfl ?_; simp only [sP]
       refine WG.skip rfl ?_; simp only [sP]
       refine WG.skip rfl ?_; simp only [sP]
       refine WG.skip rfl ?_; simp only [sP]
       refine WG.skip rfl ?_; simp only [sP]
       refine WG.skip rfl ?_; simp only [sP]
       refine WG.skip rfl ?_; simp only [sP]
       refine WG.pu rfl (v := (.bool false)) ?_; simp only [sP]
       refine WG.pu rfl (v := (.bool false)) ?_; simp only [sP]
       refine WG.pu rfl (v := (.bool false)) ?_; simp only [sP]
       refine WG.pu rfl (v := (.bool false)) ?_; simp only [sP]
       refine WG.pu rfl (v := (.bool true)) ?_; simp only [sP]
       refine WG.pu rfl (v := (.bool true)) ?_; simp only [sP]
       refine WG.row rfl 80 _ rfl rfl G6 (finL []) rfl _ Try.underlying80 rfl (by rw [hfin0]; exact infoFin) ?_; simp only [sP]
       refine WG.put rfl (v := (.agg (finL []).toArray)) (fun w => build0Fin rfl) ?_; simp only [sP]
       refine WG.put rfl (v := (.bool false)) (fun w => exec_neqF (vs := []) (by simp) rfl rfl rfl) ?_; simp only [sP]
       refine WG.pu rfl (v := (.bool false)) ?_; simp only [sP]
       refine WG.pu rfl (v := (.bool false)) ?_; simp only [sP]
       refine WG.nil ?_
       intro W7 X7
       have XX7 := Below.then XX6 X7
       have S7 := S6.grown X7
       have M7 := M6.grown X7
       have rk7 : W7.rangeAt gk (okk + j * 3) (pkL kk) := range_below HRK.out.1 HRK.out.2 XX7
       clear S6 M6 G6 P6 PV6 SV6 yc6 FB6 XX6 X7 h1 h3 hEnd hTx P0 PV0
       obtain ⟨th, kd, lc⟩ := kk
       have zt1 : True := trivial
       have zt2 : True := trivial
       have zt3 : True := trivial
       have zt4 : True := trivial
       have zt5 : True := trivial
       have zt6 : True := trivial
       have zt7 : True := trivial
       have zt8 : True := trivial
       have zt9 : True := trivial
       have zta : True := trivial
       have ztb : True := trivial
       have ztc : True := trivial
       have ztd : True := trivial
       have zte : True := trivial
       cases hr : hopK s (th, kd, lc) with
       | none =>
        simp only [hr, stpV_none] at h2
        have hno : ¬ (0 ≤ th ∧ th < (n : Int)) := by
         intro h
         unfold hopK at hr
         rw [HN.out.1, if_pos h] at hr
         cases hr
        clear hr
        by_cases hth : 0 ≤ th
        · have hge : ¬ th < (n : Int) := by omega
          clear hno
          go_wp2_with (first
           | (clear zt1; refine wpList_valueX rfl (exec_rangeP rfl rfl trivial rk7 Try.underlying68 rfl infoPk3) ?_)
           | (clear zt2; refine wpList_allocS rfl 68 rfl [.int .i64 0, .int .i64 0, .int .i64 0] zeroPk ?_; intro W8 b19 F8 I8; have S8 := S7.fresh F8; have M8 := M7.fresh F8; have XX8 := F8.trans XX7 XX7.size; have hb19 : wr.heap.size ≤ b19 := Nat.le_trans XX7.size (Nat.le_of_eq F8.at'.symm); clear F8 S7 M7)
           | (clear zt3; refine wpList_storeW rfl 68 _ _ rfl rfl (pkL (th, kd, lc)) rfl I8 rfl infoPk3 (pkL_oneK _) ?_; intro W9 U9 I9; have S9 := isS_updT S8 I8 (by decide) U9; have M9 := isS_updT M8 I8 (by decide) U9; have XX9 := U9.trans XX8 hb19; have K9 := HK2.out W9 (HFB.out.trans (XX9.mono hNw)); clear U9 S8 M8 I8 XX8)
           | (clear zt4; refine wpList_loadO rfl 54 _ rfl rfl M9 (v := .func (.func 67) #[] #[.pointer (some ⟨bz, 0, none⟩), .pointer (some ⟨bs, 0, none⟩)]) rfl (fun w h => by simp [go_sem, h]) ?_)
           | (clear zt5; refine wpList_loadW rfl 68 _ rfl rfl I9 _ Try.underlying68 rfl infoPk3 ?_)
           | (go_at_call 67; refine (h2 _ K9).mono ?_; rintro e WC ⟨rfl, XC9⟩; have SC := S9.grown XC9; have IC := I9.grown XC9; have XXC := Below.then XX9 XC9; obtain ⟨x0, x1, x2, x3, x4, x5⟩ := st6 SC; have k0 : WC.cell? ⟨b19, 0, none⟩ = some (.int .i64 th) := IC.cell 0; clear S9 M9 K9 XX9 XC9 I9))
          go_roundw
          case rel => exact ⟨j + 1, s, XC, _, v2, v3, v4, v5, lk, by omega, by go_num, rfl, HI, HSV.out.below XXC, SC, HFB.out.trans (XXC.mono hNw)⟩
          case measure => simp [intOf]; omega
        · clear hno
          go_wp2_with (first
           | (clear zt1; refine wpList_valueX rfl (exec_rangeP rfl rfl trivial rk7 Try.underlying68 rfl infoPk3) ?_)
           | (clear zt2; refine wpList_allocS rfl 68 rfl [.int .i64 0, .int .i64 0, .int .i64 0] zeroPk ?_; intro W8 b19 F8 I8; have S8 := S7.fresh F8; have M8 := M7.fresh F8; have XX8 := F8.trans XX7 XX7.size; have hb19 : wr.heap.size ≤ b19 := Nat.le_trans XX7.size (Nat.le_of_eq F8.at'.symm); clear F8 S7 M7)
           | (clear zt3; refine wpList_storeW rfl 68 _ _ rfl rfl (pkL (th, kd, lc)) rfl I8 rfl infoPk3 (pkL_oneK _) ?_; intro W9 U9 I9; have S9 := isS_updT S8 I8 (by decide) U9; have M9 := isS_updT M8 I8 (by decide) U9; have XX9 := U9.trans XX8 hb19; have K9 := HK2.out W9 (HFB.out.trans (XX9.mono hNw)); clear U9 S8 M8 I8 XX8)
           | (clear zt4; refine wpList_loadO rfl 54 _ rfl rfl M9 (v := .func (.func 67) #[] #[.pointer (some ⟨bz, 0, none⟩), .pointer (some ⟨bs, 0, none⟩)]) rfl (fun w h => by simp [go_sem, h]) ?_)
           | (clear zt5; refine wpList_loadW rfl 68 _ rfl rfl I9 _ Try.underlying68 rfl infoPk3 ?_)
           | (go_at_call 67; refine (h2 _ K9).mono ?_; rintro e WC ⟨rfl, XC9⟩; have SC := S9.grown XC9; have IC := I9.grown XC9; have XXC := Below.then XX9 XC9; obtain ⟨x0, x1, x2, x3, x4, x5⟩ := st6 SC; have k0 : WC.cell? ⟨b19, 0, none⟩ = some (.int .i64 th) := IC.cell 0; clear S9 M9 K9 XX9 XC9 I9))
          go_roundw
          case rel => exact ⟨j + 1, s, XC, _, v2, v3, v4, v5, lk, by omega, by go_num, rfl, HI, HSV.out.below XXC, SC, HFB.out.trans (XXC.mono hNw)⟩
          case measure => simp [intOf]; omega
       | some u =>
        have hin : 0 ≤ th ∧ th < (n : Int) := by
         unfold hopK at hr
         rw [HN.out.1] at hr
         by_cases h : 0 ≤ th ∧ th < (n : Int)
         · exact h
         · rw [if_neg h] at hr; cases hr
        obtain ⟨i, hi, hi2⟩ := nat_of hin
        subst hi
        obtain ⟨qi, hqi⟩ : ∃ q, s.pc[i]? = some q := ⟨_, List.getElem?_eq_getElem (by rw [HN.out.1]; exact hi2)⟩
        obtain ⟨hqi0, hqi1⟩ := hop_pc HV0.out.1 HV0.out.2.1 HI.out.2.1 i qi hqi
        have hu : u = ⟨s.pc.set i (qi + 2), s.ph, s.regs, s.mem, s.buf, lc⟩ := by
         have hr2 := hr
         unfold hopK at hr2
         rw [HN.out.1, if_pos hin] at hr2
         cases hr2
         simp only [Int.toNat_natCast, List.getD_eq_getElem?_getD, hqi, Option.getD_some]
        obtain ⟨hfu, hwu⟩ := hop_keeps (few_fits HV0.out.1 HI.out.2.1) HI.out.2.2.1 (hop_pc HV0.out.1 HV0.out.2.1 HI.out.2.1) hr
        have hIs := fun W v1 v2 v3 v4 v5 h1 h2 => hIsG u hfu W v1 v2 v3 v4 v5 h1 h2
        have hulk : u.lock = lc := by rw [hu]
        simp only [hulk] at hIs
        have hni : ¬ (i : Int) < 0 := by omega
        have hi0 : (0 : Int) ≤ (i : Int) := by omega
        have hiI : (i : Int) < (n : Int) := by omega
        have HU : Hid (u = ⟨s.pc.set i (qi + 2), s.ph, s.regs, s.mem, s.buf, lc⟩) := hu
        have HQI : Hid (s.pc[i]? = some qi) := hqi
        clear hu hqi hin
        cases hfb : fitsB (shpOf p) u with
        | true =>
         simp only [hr, hfb, if_true, stpV_some] at h2
         obtain ⟨U, hU⟩ : ∃ U : ByteArray, (⟨(textS u).toArray⟩ : ByteArray) = U := ⟨_, rfl⟩
         simp only [hU] at h2
         simp only [hfb] at hIs
         have hfits := (fitsB_iff _ _).1 hfb
         have HIU : Hid (U = ⟨(textS u).toArray⟩ ∧ Fits (shpOf p) u ∧ Wid u ∧ u.lock = lc) := ⟨hU.symm, hfits, hwu (lk_le HV0.out.1 hfits), hulk⟩
         clear hr hU hfb hfits hwu hulk hfu
         go_wp2_with (first
          | (clear zt1; refine wpList_valueX rfl (exec_rangeP rfl rfl trivial rk7 Try.underlying68 rfl infoPk3) ?_)
          | (clear zt2; refine wpList_allocS rfl 68 rfl [.int .i64 0, .int .i64 0, .int .i64 0] zeroPk ?_; intro W8 b19 F8 I8; have S8 := S7.fresh F8; have M8 := M7.fresh F8; have XX8 := F8.trans XX7 XX7.size; have hb19 : wr.heap.size ≤ b19 := Nat.le_trans XX7.size (Nat.le_of_eq F8.at'.symm); clear F8 S7 M7)
          | (clear zt3; refine wpList_storeW rfl 68 _ _ rfl rfl (pkL ((i : Int), kd, lc)) rfl I8 rfl infoPk3 (pkL_oneK _) ?_; intro W9 U9 I9; have S9 := isS_updT S8 I8 (by decide) U9; have M9 := isS_updT M8 I8 (by decide) U9; have XX9 := U9.trans XX8 hb19; have K9 := HK2.out W9 (HFB.out.trans (XX9.mono hNw)); clear U9 S8 M8 I8 XX8)
          | (clear zt4; refine wpList_loadO rfl 54 _ rfl rfl M9 (v := .func (.func 67) #[] #[.pointer (some ⟨bz, 0, none⟩), .pointer (some ⟨bs, 0, none⟩)]) rfl (fun w h => by simp [go_sem, h]) ?_)
          | (clear zt5; refine wpList_loadW rfl 68 _ rfl rfl I9 _ Try.underlying68 rfl infoPk3 ?_)
          | (go_at_call 67; refine (h2 _ K9).mono ?_; rintro e WC ⟨rfl, XC9⟩; have SC := S9.grown XC9; have IC := I9.grown XC9; have XXC := Below.then XX9 XC9; obtain ⟨x0, x1, x2, x3, x4, x5⟩ := st6 SC; have k0 : WC.cell? ⟨b19, 0, none⟩ = some (.int .i64 (i : Int)) := IC.cell 0; clear S9 M9 K9 XX9 XC9 I9)
          | (clear zt6; refine wpList_loadW rfl 32 _ rfl rfl SC _ Try.underlying32 rfl infoSt ?_)
          | (go_at_call 10; refine (hCp _ (HSV.out.below XXC)).mono ?_; rintro e WD ⟨w1, w2, w3, w4, w5, rfl, OD, hap, XD⟩; have hone9 := stv_one lk OD.stv; have hpr := OD.pc; rw [HN.out.1] at hpr; obtain ⟨gu, cu, csu, eu, hgu, IU, htu, hcu, hmu, hlu⟩ := own_opn hpr h0N; subst eu; have SD := SC.grown XD; have ID := IC.grown XD; have XXD := Below.then XXC XD; have hgw : wr.heap.size ≤ gu := Nat.le_trans XXC.size hgu; have hxu := hop_cell htu HQI.out hi2; have hic : i < csu.length := (by omega); have HPU : Hid (WC.heap.size ≤ gu ∧ csu.take n = s.pc.flatMap intE ∧ n ≤ cu ∧ cu ≤ maxLen ∧ csu.length = cu) := ⟨hgu, htu, hcu, hmu, hlu⟩; clear SC IC x0 x1 x2 x3 x4 x5 k0 hpr XD htu hmu)
          | (clear zt7; refine wpList_allocS rfl 32 rfl zst zeroSt ?_; intro WE b22 FE JE; have OE := OD.below (F_b FE); have IUE := IU.fresh FE; have SE := SD.fresh FE; have IE := ID.fresh FE; have XXE := FE.trans XXD XXD.size; have hb22 : wr.heap.size ≤ b22 := Nat.le_trans XXD.size (Nat.le_of_eq FE.at'.symm); have n22 : b13 ≠ b22 := (by have := SD.lt; have := FE.at'; omega); clear FE OD IU SD ID)
          | (clear zt8; refine wpList_storeW rfl 32 _ _ rfl rfl [.slice (some ⟨gu, 0, none⟩) n cu, w2, w3, w4, w5, .int .i64 lk] rfl JE rfl infoSt hone9 ?_; intro WF UF JF; have OF := OE.updT JE UF (by decide); have IUF := isS_updT IUE JE (by decide) UF; have SF := SE.upd UF n22; have IF := isS_updT IE JE (by decide) UF; have XXF := UF.trans XXE hb22; obtain ⟨z0, z1, z2, z3, z4, z5'⟩ := st6 JF; have k0 : WF.cell? ⟨b19, 0, none⟩ = some (.int .i64 (i : Int)) := IF.cell 0; have yu : WF.cell? ⟨gu, i, none⟩ = some (.int .i64 qi) := (IUF.cell i).trans hxu; clear UF OE IUE SE IE JE XXE)
          | (clear zt9; refine wpList_store1 rfl 3 _ _ rfl rfl (.int .i64 (qi + 2)) rfl IUF hic info3' rfl ?_; intro WX UG IUG; have OG : STO WX WC.heap.size u (.slice (some ⟨gu, 0, none⟩) n cu) w2 w3 w4 w5 := (by rw [HU.out]; exact OF.hop hap IUF UG List.length_set (by rw [HN.out.1]; exact put_own HPU.out.1 (by rw [Nat.zero_add]; exact IUG) HPU.out.2.1 HPU.out.2.2.1 HPU.out.2.2.2.1 HPU.out.2.2.2.2)); have JG := isS_updT JF IUF (by decide) UG; have SG := isS_updT SF IUF (by decide) UG; have IG := isS_updT IF IUF (by decide) UG; have XXG := UG.trans XXF hgw; have k2 : WX.cell? ⟨b19, 2, none⟩ = some (.int .i64 lc) := IG.cell 2; clear z0 z1 z2 z3 z4 z5' k0 yu UG IUG OF IUF SF IF JF XXF)
          | (clear zta; refine wpList_store1 rfl 3 _ _ rfl rfl (.int .i64 lc) rfl JG (by show 5 < 6; omega) info3' rfl ?_; intro WH UH JH; have OH := OG.updT JG UH (by decide); have SH := SG.upd UH n22; have XXH := UH.trans XXG hb22; have FBH : Below N WB WH := HFB.out.trans (XXH.mono hNw); have PH := HP2.out WH FBH; have PVH := HP.out.below (HBW.out WH FBH); clear k2 UH OG JG SG IG XXG)
          | (clear ztb; refine wpList_loadW rfl 28 _ rfl rfl PH _ Try.underlying28 rfl infoPg ?_)
          | (clear ztc; refine wpList_loadW rfl 32 _ rfl rfl JH _ Try.underlying32 rfl infoSt ?_)
          | (go_at_call 31; refine (hIs _ _ _ _ _ _ PVH OH.stv).mono ?_; rintro e WI ⟨rfl, XI⟩; have JI := JH.grown XI; have SI := SH.grown XI; have OI := OH.below XI; have XXI := Below.then XXH XI; have hone1 := stv_one lc OI.stv; clear JH SH OH PH PVH FBH XXH XI)
          | (clear ztd; refine wpList_loadW rfl 32 _ rfl rfl JI _ Try.underlying32 rfl infoSt ?_)
          | (clear zte; refine wpList_storeW rfl 32 _ _ rfl rfl [.slice (some ⟨gu, 0, none⟩) n cu, w2, w3, w4, w5, .int .i64 lc] rfl SI rfl infoSt hone1 ?_; intro WJ UJ SJ; have OJ := OI.updT SI UJ (by decide); have FBJ : Below N WB WJ := UJ.trans (HFB.out.trans (XXI.mono hNw)) HB.out.2.1; clear UJ OI SI JI))
         go_roundw
         case rel => exact ⟨j + 1, u, U, _, w2, w3, w4, w5, lc, by omega, by go_num, rfl, HIU, OJ.stv, SJ, FBJ⟩
         case measure => simp [intOf]; omega
        | false =>
         simp only [hr, hfb, Bool.false_eq_true, if_false, stpV_none] at h2
         simp only [hfb] at hIs
         clear hr hfb hwu hulk hfu
         go_wp2_with (first
          | (clear zt1; refine wpList_valueX rfl (exec_rangeP rfl rfl trivial rk7 Try.underlying68 rfl infoPk3) ?_)
          | (clear zt2; refine wpList_allocS rfl 68 rfl [.int .i64 0, .int .i64 0, .int .i64 0] zeroPk ?_; intro W8 b19 F8 I8; have S8 := S7.fresh F8; have M8 := M7.fresh F8; have XX8 := F8.trans XX7 XX7.size; have hb19 : wr.heap.size ≤ b19 := Nat.le_trans XX7.size (Nat.le_of_eq F8.at'.symm); clear F8 S7 M7)
          | (clear zt3; refine wpList_storeW rfl 68 _ _ rfl rfl (pkL ((i : Int), kd, lc)) rfl I8 rfl infoPk3 (pkL_oneK _) ?_; intro W9 U9 I9; have S9 := isS_updT S8 I8 (by decide) U9; have M9 := isS_updT M8 I8 (by decide) U9; have XX9 := U9.trans XX8 hb19; have K9 := HK2.out W9 (HFB.out.trans (XX9.mono hNw)); clear U9 S8 M8 I8 XX8)
          | (clear zt4; refine wpList_loadO rfl 54 _ rfl rfl M9 (v := .func (.func 67) #[] #[.pointer (some ⟨bz, 0, none⟩), .pointer (some ⟨bs, 0, none⟩)]) rfl (fun w h => by simp [go_sem, h]) ?_)
          | (clear zt5; refine wpList_loadW rfl 68 _ rfl rfl I9 _ Try.underlying68 rfl infoPk3 ?_)
          | (go_at_call 67; refine (h2 _ K9).mono ?_; rintro e WC ⟨rfl, XC9⟩; have SC := S9.grown XC9; have IC := I9.grown XC9; have XXC := Below.then XX9 XC9; obtain ⟨x0, x1, x2, x3, x4, x5⟩ := st6 SC; have k0 : WC.cell? ⟨b19, 0, none⟩ = some (.int .i64 (i : Int)) := IC.cell 0; clear S9 M9 K9 XX9 XC9 I9)
          | (clear zt6; refine wpList_loadW rfl 32 _ rfl rfl SC _ Try.underlying32 rfl infoSt ?_)
          | (go_at_call 10; refine (hCp _ (HSV.out.below XXC)).mono ?_; rintro e WD ⟨w1, w2, w3, w4, w5, rfl, OD, hap, XD⟩; have hone9 := stv_one lk OD.stv; have hpr := OD.pc; rw [HN.out.1] at hpr; obtain ⟨gu, cu, csu, eu, hgu, IU, htu, hcu, hmu, hlu⟩ := own_opn hpr h0N; subst eu; have SD := SC.grown XD; have ID := IC.grown XD; have XXD := Below.then XXC XD; have hgw : wr.heap.size ≤ gu := Nat.le_trans XXC.size hgu; have hxu := hop_cell htu HQI.out hi2; have hic : i < csu.length := (by omega); have HPU : Hid (WC.heap.size ≤ gu ∧ csu.take n = s.pc.flatMap intE ∧ n ≤ cu ∧ cu ≤ maxLen ∧ csu.length = cu) := ⟨hgu, htu, hcu, hmu, hlu⟩; clear SC IC x0 x1 x2 x3 x4 x5 k0 hpr XD htu hmu)
          | (clear zt7; refine wpList_allocS rfl 32 rfl zst zeroSt ?_; intro WE b22 FE JE; have OE := OD.below (F_b FE); have IUE := IU.fresh FE; have SE := SD.fresh FE; have IE := ID.fresh FE; have XXE := FE.trans XXD XXD.size; have hb22 : wr.heap.size ≤ b22 := Nat.le_trans XXD.size (Nat.le_of_eq FE.at'.symm); have n22 : b13 ≠ b22 := (by have := SD.lt; have := FE.at'; omega); clear FE OD IU SD ID)
          | (clear zt8; refine wpList_storeW rfl 32 _ _ rfl rfl [.slice (some ⟨gu, 0, none⟩) n cu, w2, w3, w4, w5, .int .i64 lk] rfl JE rfl infoSt hone9 ?_; intro WF UF JF; have OF := OE.updT JE UF (by decide); have IUF := isS_updT IUE JE (by decide) UF; have SF := SE.upd UF n22; have IF := isS_updT IE JE (by decide) UF; have XXF := UF.trans XXE hb22; obtain ⟨z0, z1, z2, z3, z4, z5'⟩ := st6 JF; have k0 : WF.cell? ⟨b19, 0, none⟩ = some (.int .i64 (i : Int)) := IF.cell 0; have yu : WF.cell? ⟨gu, i, none⟩ = some (.int .i64 qi) := (IUF.cell i).trans hxu; clear UF OE IUE SE IE JE XXE)
          | (clear zt9; refine wpList_store1 rfl 3 _ _ rfl rfl (.int .i64 (qi + 2)) rfl IUF hic info3' rfl ?_; intro WX UG IUG; have OG : STO WX WC.heap.size u (.slice (some ⟨gu, 0, none⟩) n cu) w2 w3 w4 w5 := (by rw [HU.out]; exact OF.hop hap IUF UG List.length_set (by rw [HN.out.1]; exact put_own HPU.out.1 (by rw [Nat.zero_add]; exact IUG) HPU.out.2.1 HPU.out.2.2.1 HPU.out.2.2.2.1 HPU.out.2.2.2.2)); have JG := isS_updT JF IUF (by decide) UG; have SG := isS_updT SF IUF (by decide) UG; have IG := isS_updT IF IUF (by decide) UG; have XXG := UG.trans XXF hgw; have k2 : WX.cell? ⟨b19, 2, none⟩ = some (.int .i64 lc) := IG.cell 2; clear z0 z1 z2 z3 z4 z5' k0 yu UG IUG OF IUF SF IF JF XXF)
          | (clear zta; refine wpList_store1 rfl 3 _ _ rfl rfl (.int .i64 lc) rfl JG (by show 5 < 6; omega) info3' rfl ?_; intro WH UH JH; have OH := OG.updT JG UH (by decide); have SH := SG.upd UH n22; have XXH := UH.trans XXG hb22; have FBH : Below N WB WH := HFB.out.trans (XXH.mono hNw); have PH := HP2.out WH FBH; have PVH := HP.out.below (HBW.out WH FBH); clear k2 UH OG JG SG IG XXG)
          | (clear ztb; refine wpList_loadW rfl 28 _ rfl rfl PH _ Try.underlying28 rfl infoPg ?_)
          | (clear ztc; refine wpList_loadW rfl 32 _ rfl rfl JH _ Try.underlying32 rfl infoSt ?_)
          | (go_at_call 31; refine (hIs _ _ _ _ _ _ PVH OH.stv).mono ?_; rintro e WI ⟨rfl, XI⟩; have JI := JH.grown XI; have SI := SH.grown XI; have OI := OH.below XI; have XXI := Below.then XXH XI; have hone1 := stv_one lc OI.stv; clear JH SH OH PH PVH FBH XXH XI))
         go_roundw
         case rel => exact ⟨j + 1, s, XC, _, v2, v3, v4, v5, lk, by omega, by go_num, rfl, HI, HSV.out.below XXI, SI, HFB.out.trans (XXI.mono hNw)⟩
         case measure => simp [intOf]; omega
    · have hji : ¬ (j : Int) < nk := by omega
      have Bw := HBW.out wr HFB.out
      have h1 := fun W (h : MH W p bz bp bs be) => h1G TX hTX bz bp bs be W h
      have h2 := fun W (h : MH W p bz bp bs be) => h2G TX hTX (0, 0, 0) bz bp bs be W h
      have h3 := fun W (h : MH W p bz bp bs be) => h3G TX hTX bz bp bs be W h
      have hfin0 : (finL []).length = 49 := finL_len (by simp)
      have zt1 : True := trivial
      have zt2 : True := trivial
      have zt3 : True := trivial
      have zt4 : True := trivial
      have zt5 : True := trivial
      have zt6 : True := trivial
      have zt7 : True := trivial
      have zt8 : True := trivial
      have zt9 : True := trivial
      obtain ⟨rl, hrl⟩ : ∃ k, (rdSt p TX).lock = k := ⟨_, rfl⟩
      simp only [hrl] at hRd
      cases hrdT : readS TX (shpOf p) with
      | some s' =>
       have e0 : rdN p TX = 0 := by unfold rdN; rw [if_pos HV0.out.2.2, hrdT]
       simp only [e0] at hRd
       go_wp2_with (first
        | (clear zt1; refine wpList_loadW rfl 28 _ rfl rfl P0 _ Try.underlying28 rfl infoPg ?_)
        | (go_at_call 14; refine (hRd _ PV0).mono ?_; rintro e W1 ⟨y1, y2, y3, y4, y5, rfl, SF1, X1⟩; have hone := stv_one rl SF1.stv; have B1 := Below.then Bw X1)
        | (clear zt2; refine wpList_allocS rfl 32 rfl zst zeroSt ?_; intro W2 b23 F2 I2; have B2 := F2.trans B1 B1.size; have hb23 : w.heap.size ≤ b23 := Nat.le_trans B1.size (Nat.le_of_eq F2.at'.symm); clear F2)
        | (refine wpList_storeW rfl 32 _ _ rfl rfl [y1, y2, y3, y4, y5, .int .i64 rl] rfl I2 rfl infoSt hone ?_; intro W3 U3 I3; have B3 := U3.trans B2 hb23))
       go_ret
       exact ⟨rfl, B3⟩
      | none =>
       have e0 : rdN p TX = 5 := by unfold rdN; rw [if_pos HV0.out.2.2, hrdT]
       have e1 : picksH p TX = [] := by unfold picksH; rw [hrdT]
       have e2 : stepH p TX (0, 0, 0) = none := by unfold stepH; rw [hrdT]
       have e3 : endH p TX = none := by unfold endH; rw [hrdT]
       simp only [e0] at hRd
       simp only [e1] at h1
       simp only [e2, stpV_none] at h2
       simp only [e3, endV_none] at h3
       go_wp2_with (first
        | (clear zt1; refine wpList_loadW rfl 28 _ rfl rfl P0 _ Try.underlying28 rfl infoPg ?_)
        | (go_at_call 14; refine (hRd _ PV0).mono ?_; rintro e W1 ⟨y1, y2, y3, y4, y5, rfl, SF1, X1⟩; have hone := stv_one rl SF1.stv; have B1 := X1; have M1 := M0.grown X1; clear X1)
        | (clear zt2; refine wpList_allocS rfl 32 rfl zst zeroSt ?_; intro W2 b23 F2 I2; have M2 := M1.fresh F2; have B2 := F2.trans B1 B1.size; have hb23 : wr.heap.size ≤ b23 := Nat.le_trans B1.size (Nat.le_of_eq F2.at'.symm); clear F2)
        | (clear zt3; refine wpList_storeW rfl 32 _ _ rfl rfl [y1, y2, y3, y4, y5, .int .i64 rl] rfl I2 rfl infoSt hone ?_; intro W3 U3 I3; have M3 := isS_updT M2 I2 (by decide) U3; have B3 := U3.trans B2 hb23; have K3 := K0.below B3; clear U3 M2)
        | (clear zt4; refine wpList_loadO rfl 55 _ rfl rfl M3 (v := .func (.func 68) #[] #[.pointer (some ⟨bz, 0, none⟩), .pointer (some ⟨be, 0, none⟩)]) rfl (fun w h => by simp [go_sem, h]) ?_)
        | (go_at_call 68; refine (h3 _ K3).mono ?_; rintro e W4 ⟨rfl, X4⟩; have M4 := M3.grown X4; have B4 := Below.then B3 X4; clear X4 M3 K3)
        | (clear zt5; refine wpList_allocS rfl 80 rfl (finL []) zeroFin ?_; intro W5 b25 F5 G5; have M5 := M4.fresh F5; have B5 := F5.trans B4 B4.size; have hb25 : wr.heap.size ≤ b25 := Nat.le_trans B4.size (Nat.le_of_eq F5.at'.symm); clear F5 M4)
        | (clear zt6; refine wpList_storeW rfl 80 _ _ rfl rfl (finL []) rfl G5 rfl (by rw [hfin0]; exact infoFin) (finL_one _) ?_; intro W6 U6 G6; have M6 := isS_updT M5 G5 (by decide) U6; have B6 := U6.trans B5 hb25; have K6 := K0.below B6; clear U6 M5 G5)
        | (clear zt7; refine wpList_loadO rfl 54 _ rfl rfl M6 (v := .func (.func 67) #[] #[.pointer (some ⟨bz, 0, none⟩), .pointer (some ⟨bs, 0, none⟩)]) rfl (fun w h => by simp [go_sem, h]) ?_)
        | (clear zt8; refine wpList_valueX rfl (build_pkZ rfl) ?_)
        | (go_at_call 67; refine (h2 _ K6).mono ?_; rintro e W7 ⟨rfl, X7⟩; have M7 := M6.grown X7; have G7 := G6.grown X7; have B7 := Below.then B6 X7; have K7 := K6.below X7; clear X7 M6 K6 G6)
        | (clear zt9; refine wpList_loadO rfl 53 _ rfl rfl M7 (v := .func (.func 65) #[] #[.pointer (some ⟨bz, 0, none⟩), .pointer (some ⟨bp, 0, none⟩)]) rfl (fun w h => by simp [go_sem, h]) ?_)
        | (go_at_call 65; refine (h1 _ K7).mono ?_; rintro e W8 ⟨v, rfl, O8, X8⟩; obtain ⟨av, cv, ev⟩ := own_form O8; simp only [List.length_nil] at ev; subst ev; have G8 := G7.grown X8; have B8 := Below.then B7 X8; clear X8 M7 K7 G7)
        | (clear ts1; refine wpList_loadGW rfl 80 _ rfl rfl G8 _ Try.underlying80 rfl (by rw [hfin0]; exact infoFin) ?_)
        | (clear ts2; refine wpList_valueG rfl (build0Fin rfl) ?_)
        | (clear ts3; refine wpList_valueG rfl (exec_eqF (vs := []) (by simp) rfl rfl rfl) ?_))
       go_ret
       exact ⟨rfl, Below.then Bw B8⟩
 · have hMc' := fun W a1 a2 a3 a4 a5 h => (hMc W a1 a2 a3 a4 a5 h).mono fun e w' q => q.1 hv0
   obtain ⟨ev, hev⟩ : ∃ e, validV p = e := ⟨_, rfl⟩
   simp only [hev] at hVal hMc'
   rw [hev] at hv0
   have e1 : (ev == 0) = false := by simp [hv0]
   have e2 : (ev != 0) = true := by simp [hv0]
   clear hp hf hpw hnk hk20 hK hev hMc
   go_enter Try.func5, Try.ntmps5
   go_wp2_with (first
    | (clear t1; refine wpList_boxS rfl 28 _ rfl [vt, vr, vl, vi, vj] rfl ?_; intro W0 b3 F0 P0; have B0 := F_b F0; clear F0)
    | (clear t2; refine wpList_loadW rfl 28 _ rfl rfl P0 _ Try.underlying28 rfl infoPg ?_)
    | (go_at_call 9; refine (hCopy _ (HP.out.below B0)).mono ?_; rintro e W1 ⟨⟨c1, c2, c3, c4, c5, rfl, O1⟩, X1⟩; have hone7 := one5 O1.t.cell O1.r.cell (own_cell O1.l) O1.i.cell (own_cell O1.j); have P1 := P0.grown X1; have B1 := Below.then B0 X1; clear X1 P0 hCopy B0)
    | (clear t3; refine wpList_allocS rfl 28 rfl z5 zeroPg ?_; intro W2 b7 F2 I2; have P2 := P1.fresh F2; have O2 := O1.below (F_b F2); have B2 := F2.trans B1 B1.size; have hb7 : W1.heap.size ≤ b7 := Nat.le_of_eq F2.at'.symm; have n37 : b3 ≠ b7 := (by have := P1.lt; omega); clear F2 P1)
    | (clear t4; refine wpList_storeW rfl 28 _ _ rfl rfl [c1, c2, c3, c4, c5] rfl I2 rfl infoPg hone7 ?_; intro W3 U3 C3; have P3 := P2.upd U3 n37; have O3 := O2.upd I2 U3 (by decide); have B3 := U3.trans B2 (Nat.le_trans B1.size hb7); clear U3 P2 I2 B2 O2)
    | (clear t5; refine wpList_loadW rfl 28 _ rfl rfl C3 _ Try.underlying28 rfl infoPg ?_)
    | (go_at_call 24; refine (hMc' _ _ _ _ _ _ O3.pgv).mono ?_; rintro e W4 ⟨rfl, X4⟩; have P4 := P3.grown X4; have B4 := Below.then B3 X4; clear P3 C3 X4 hMc')
    | (clear t6; refine wpList_allocS rfl 57 rfl zmc zeroMc ?_; intro W5 b8 F5 I5; have P5 := P4.fresh F5; have B5 := F5.trans B4 B4.size; have hb8 : w.heap.size ≤ b8 := Nat.le_trans B4.size (Nat.le_of_eq F5.at'.symm); clear F5 P4)
    | (clear t7; refine wpList_storeW rfl 57 _ _ rfl rfl zmc rfl I5 rfl infoMc zmc_one ?_; intro W6 U6 M6; have P6 := isS_updT P5 I5 (by decide) U6; have B6 := U6.trans B5 hb8; clear U6 P5 I5)
    | (clear t8; refine wpList_loadW rfl 28 _ rfl rfl P6 _ Try.underlying28 rfl infoPg ?_)
    | (go_at_call 28; refine (hVal _ (HP.out.below B6)).mono ?_; rintro e W7 ⟨rfl, X7⟩; have M7 := M6.grown X7; have B7 := Below.then B6 X7; clear P6 M6 X7 hVal)
    | (clear tb; refine wpList_loadGW rfl 57 _ rfl rfl M7 _ Try.underlying57 rfl infoMc ?_)
    | (go_at_call 20; refine (right_no _).mono ?_; rintro e V0 ⟨rfl, XR⟩; have BE := Below.then B7 XR; clear M7 XR))
   go_ret
   exact ⟨rfl, BE⟩
end Go.Proofs.Ytegpnicajlndlaa

/- SM7 -/
import Derived.Test.YtegpnicajlndlaaSM6
import Derived.Test.YtegpnicajlndlaaQbn
namespace Go.Proofs.Ytegpnicajlndlaa
open Go.RowKit M
set_option linter.unusedSimpArgs false
set_option linter.unusedVariables false
def lwF (f : Nat) : Value := .func (.func f) #[] #[]
structure MKH (W : World) (B : Nat) (p : PG) (bz bp bs be : Nat) : Prop where
 z : ∃ u1 u2, IsS W bz 105 [u1, u2, .int .i64 (p.locs.length : Int)] ∧ W.ownsRow B 3 1 u1 p.threads.length ((natI (shpOf p).ins).flatMap intE) ∧ W.ownsRow B 3 1 u2 p.threads.length ((natI (shpOf p).rgs).flatMap intE)
 fp : IsS W bp 73 [lwF 25]
 fs : IsS W bs 74 [lwF 26]
 fe : IsS W be 75 [lwF 27]
 lo : B ≤ bz ∧ B ≤ bp ∧ B ≤ bs ∧ B ≤ be
theorem MKH.same {W V : World} {B : Nat} {p : PG} {bz bp bs be : Nat} (h : MKH W B p bz bp bs be) (hs : ∀ k, B ≤ k → k < W.heap.size → V.heap[k]? = W.heap[k]?) : MKH V B p bz bp bs be := by
 obtain ⟨u1, u2, I, o1, o2⟩ := h.z
 obtain ⟨l1, l2, l3, l4⟩ := h.lo
 exact ⟨⟨u1, u2, (hs _ l1 I.lt).trans I, own_same o1 fun k hk => hs k (own_lt o1 hk).1 (own_lt o1 hk).2, own_same o2 fun k hk => hs k (own_lt o2 hk).1 (own_lt o2 hk).2⟩, (hs _ l2 h.fp.lt).trans h.fp, (hs _ l3 h.fs.lt).trans h.fs, (hs _ l4 h.fe.lt).trans h.fe, h.lo⟩
theorem MKH.mh {W : World} {B : Nat} {p : PG} {bz bp bs be : Nat} (h : MKH W B p bz bp bs be) : MH W p bz bp bs be := by
 obtain ⟨u1, u2, I, o1, o2⟩ := h.z
 obtain ⟨a1, c1, e1, s1, _⟩ := own_row o1
 obtain ⟨a2, c2, e2, s2, _⟩ := own_row o2
 subst e1 e2
 exact ⟨⟨a1, c1, a2, c2, I, s1, s2⟩, h.fp, h.fs, h.fe⟩
theorem MKH.upd {W V : World} {B b t : Nat} {cs : List Value} {p : PG} {bz bp bs be : Nat} (h : MKH W B p bz bp bs be) (I : IsS W b t cs) (U : Upd W V b) (ht : ∀ t' ∈ [3, 105, 73, 74, 75], t' ≠ t) : MKH V B p bz bp bs be := by
 obtain ⟨u1, u2, I1, o1, o2⟩ := h.z
 exact ⟨⟨u1, u2, isS_updT I1 I (ht _ (by simp)) U, own_upd o1 I U (ht _ (by simp)), own_upd o2 I U (ht _ (by simp))⟩, isS_updT h.fp I (ht _ (by simp)) U, isS_updT h.fs I (ht _ (by simp)) U, isS_updT h.fe I (ht _ (by simp)) U, h.lo⟩
def HcA (w : World) (p : PG) (e : Ending) (w' : World) : Prop :=
 (validV p ≠ 0 → e = .returned (.tuple #[.agg zmc.toArray, .int .i64 (validV p)]) ∧ Below w.heap.size w w') ∧
 (validV p = 0 → ∃ bz bp bs be, e = .returned (.tuple #[.agg #[.string (startX p), mcF1 bz bp, mcF2 bz bs, mcF3 bz be], .int .i64 0]) ∧ MKH w' w.heap.size p bz bp bs be ∧ Below w.heap.size w w')
set_option maxRecDepth 100000 in
set_option maxHeartbeats 4000000 in
theorem hmachine_any (p : PG) (hf : p.Few) (hpw : PWid p) (vt vr vl vi vj : Value) (w : World) (hp : PGV w vt vr vl vi vj p) :
    Calls Try.prog 24 #[.agg #[vt, vr, vl, vi, vj], lwF 25, lwF 26, lwF 27] w fun e w' => HcA w p e w' := by
 have hVal := fun W (h : PGV W vt vr vl vi vj p) => valid_any p hf vt vr vl vi vj W h
 have HP : Hid (PGV w vt vr vl vi vj p) := hp
 have t1 : True := trivial
 have t2 : True := trivial
 have t3 : True := trivial
 have t4 : True := trivial
 have t5 : True := trivial
 have t6 : True := trivial
 have t7 : True := trivial
 have t8 : True := trivial
 have t9 : True := trivial
 have ta : True := trivial
 have tb : True := trivial
 have tc : True := trivial
 obtain ⟨g1, hg1⟩ : ∃ v, lwF 25 = v := ⟨_, rfl⟩
 obtain ⟨g2, hg2⟩ : ∃ v, lwF 26 = v := ⟨_, rfl⟩
 obtain ⟨g3, hg3⟩ : ∃ v, lwF 27 = v := ⟨_, rfl⟩
 have o1 : g1.cells = #[g1] := by rw [← hg1]; rfl
 have o2 : g2.cells = #[g2] := by rw [← hg2]; rfl
 have o3 : g3.cells = #[g3] := by rw [← hg3]; rfl
 have HG : Hid (lwF 25 = g1 ∧ lwF 26 = g2 ∧ lwF 27 = g3) := ⟨hg1, hg2, hg3⟩
 by_cases hv0 : validV p = 0
 · have hv := vld_of hv0
   obtain ⟨fs0, ws0, _⟩ := fits_start hv hpw
   have hfw := few_fits hv fs0
   have hShp := fun W (h : PGV W vt vr vl vi vj p) => shapeOf_any p p.threads.length p.locs.length hf hv rfl rfl vt vr vl vi vj W h
   have hSt := fun W (h : PGV W vt vr vl vi vj p) => startOf_any p p.threads.length hf rfl vt vr vl vi vj W h
   have hTx := fun W v1 v2 v3 v4 v5 h => textOf_any ⟨List.replicate p.threads.length 0, List.replicate p.threads.length 0, p.regInit, p.locInit, List.replicate p.threads.length [], -1⟩ p.threads.length (by simp) hfw ws0 ⟨by simp, hv.il, by simp⟩ v1 v2 v3 v4 v5 W h
   have HX : Hid (startX p = startX p) := rfl
   obtain ⟨X, hX⟩ : ∃ X : ByteArray, startX p = X := ⟨_, rfl⟩
   have hX' : (⟨(textS ⟨List.replicate p.threads.length 0, List.replicate p.threads.length 0, p.regInit, p.locInit, List.replicate p.threads.length [], -1⟩).toArray⟩ : ByteArray) = X := hX
   simp only [hX'] at hTx
   obtain ⟨n, hn⟩ : ∃ n, p.threads.length = n := ⟨_, rfl⟩
   obtain ⟨nl, hnl⟩ : ∃ n, p.locs.length = n := ⟨_, rfl⟩
   have HNN : Hid (p.threads.length = n ∧ p.locs.length = nl) := ⟨hn, hnl⟩
   simp only [hn, hnl] at hShp hSt hTx
   have HQ : Hid (∀ (e : Ending) w' bz bp bs be, (e = .returned (.tuple #[.agg #[.string X, mcF1 bz bp, mcF2 bz bs, mcF3 bz be], .int .i64 0]) ∧ MKH w' w.heap.size p bz bp bs be ∧ Below w.heap.size w w') → HcA w p e w') := fun e w' bz bp bs be h => ⟨fun h0 => absurd hv0 h0, fun _ => ⟨bz, bp, bs, be, by rw [hX]; exact h⟩⟩
   rw [hv0] at hVal
   refine Calls.mono (R := fun (e : Ending) w' => ∃ bz bp bs be, e = .returned (.tuple #[.agg #[.string X, mcF1 bz bp, mcF2 bz bs, mcF3 bz be], .int .i64 0]) ∧ MKH w' w.heap.size p bz bp bs be ∧ Below w.heap.size w w') ?_ (fun e w' ⟨bz, bp, bs, be, h⟩ => HQ.out e w' bz bp bs be h)
   rw [hg1, hg2, hg3]
   clear hp hv0 hv fs0 ws0 hfw hpw hn hnl hX hX' HX HQ hg1 hg2 hg3
   go_enter Try.func24, Try.ntmps24
   go_wp2_with (first
    | (clear t1; refine wpList_boxS rfl 28 _ rfl [vt, vr, vl, vi, vj] rfl ?_; intro W0 b4 F0 C0; have B0 := F_b F0; clear F0)
    | (clear t2; refine wpList_boxF rfl _ _ rfl g1 rfl o1 ?_; intro Wp bp Fp P1; have Cp := C0.fresh Fp; have Bp := Fp.trans B0 B0.size; have hbp : w.heap.size ≤ bp := Nat.le_trans B0.size (Nat.le_of_eq Fp.at'.symm); clear Fp C0)
    | (clear t3; refine wpList_boxF rfl _ _ rfl g2 rfl o2 ?_; intro Ws bs Fs P2; have Cs := Cp.fresh Fs; have P1s := P1.fresh Fs; have Bs := Fs.trans Bp Bp.size; have hbs : w.heap.size ≤ bs := Nat.le_trans Bp.size (Nat.le_of_eq Fs.at'.symm); clear Fs Cp P1)
    | (clear t4; refine wpList_boxF rfl _ _ rfl g3 rfl o3 ?_; intro We be Fe P3; have Ce := Cs.fresh Fe; have P1e := P1s.fresh Fe; have P2e := P2.fresh Fe; have Be := Fe.trans Bs Bs.size; have hbe : w.heap.size ≤ be := Nat.le_trans Bs.size (Nat.le_of_eq Fe.at'.symm); clear Fe Cs P1s P2)
    | (clear t5; refine wpList_allocS rfl 57 rfl zmc zeroMc ?_; intro W1 b8 F1 Z1; have C1 := Ce.fresh F1; have P11 := P1e.fresh F1; have P21 := P2e.fresh F1; have P31 := P3.fresh F1; have B1 := F1.trans Be Be.size; have hb8 : w.heap.size ≤ b8 := Nat.le_trans Be.size (Nat.le_of_eq F1.at'.symm); clear F1 Ce P1e P2e P3)
    | (clear t6; refine wpList_loadW rfl 28 _ rfl rfl C1 _ Try.underlying28 rfl infoPg ?_)
    | (go_at_call 36; refine (hVal _ (HP.out.below B1)).mono ?_; rintro e W2 ⟨rfl, B2x⟩; have C2 := C1.grown B2x; have Z2 := Z1.grown B2x; have P12 := P11.grown B2x; have P22 := P21.grown B2x; have P32 := P31.grown B2x; have B2 := Below.then B1 B2x; clear hVal C1 Z1 P11 P21 P31)
    | (clear t7; refine wpList_loadW rfl 28 _ rfl rfl C2 _ Try.underlying28 rfl infoPg ?_)
    | (go_at_call 41; refine (hShp _ (HP.out.below B2)).mono ?_; rintro e W3 ⟨u1, u2, rfl, OA, OB, B3x⟩; have q1 := own_cell OA; have q2 := own_cell OB; have OA3 := own_raise OA B2.size; have OB3 := own_raise OB B2.size; have C3 := C2.grown B3x; have Z3 := Z2.grown B3x; have P13 := P12.grown B3x; have P23 := P22.grown B3x; have P33 := P32.grown B3x; have B3 := Below.then B2 B3x; clear hShp C2 Z2 P12 P22 P32 OA OB)
    | (clear t8; refine wpList_allocS rfl 105 rfl (shp3 (.slice none 0 0) (.slice none 0 0) 0) zeroShp ?_; intro W4 bz F4 I4; have C4 := C3.fresh F4; have Z4 := Z3.fresh F4; have P14 := P13.fresh F4; have P24 := P23.fresh F4; have P34 := P33.fresh F4; have OA4 := own_below OA3 (F_b F4); have OB4 := own_below OB3 (F_b F4); have B4 := F4.trans B3 B3.size; have hbz : w.heap.size ≤ bz := Nat.le_trans B3.size (Nat.le_of_eq F4.at'.symm); clear F4 C3 Z3 P13 P23 P33)
    | (clear t9; refine wpList_storeW rfl 105 _ _ rfl rfl (shp3 u1 u2 nl) rfl I4 rfl infoShp (shp3_one q1 q2) ?_; intro W5 U5 I5; have C5 := isS_updT C4 I4 (by decide) U5; have Z5 := isS_updT Z4 I4 (by decide) U5; have P15 := isS_updT P14 I4 (by decide) U5; have P25 := isS_updT P24 I4 (by decide) U5; have P35 := isS_updT P34 I4 (by decide) U5; have OA5 := own_upd OA4 I4 U5 (by decide); have OB5 := own_upd OB4 I4 U5 (by decide); have B5 := U5.trans B4 hbz; clear U5 C4 Z4 P14 P24 P34 I4)
    | (clear ta; refine wpList_loadW rfl 28 _ rfl rfl C5 _ Try.underlying28 rfl infoPg ?_)
    | (go_at_call 47; refine (hSt _ (HP.out.below B5)).mono ?_; rintro e W6 ⟨gp, gh, gb, vrg, vmm, vs, rfl, S6, I6h, I6b, B6x⟩; have SV6 := stv_start S6 I6h I6b; have Z6 := Z5.grown B6x; have P16 := P15.grown B6x; have P26 := P25.grown B6x; have P36 := P35.grown B6x; have I6 := I5.grown B6x; have OA6 := own_below OA5 B6x; have OB6 := own_below OB5 B6x; have B6 := Below.then B5 B6x; clear hSt)
    | (go_at_call 43; refine (hTx _ _ _ _ _ _ SV6).mono ?_; rintro e W7 ⟨rfl, B7x⟩; have Z7 := Z6.grown B7x; have P17 := P16.grown B7x; have P27 := P26.grown B7x; have P37 := P36.grown B7x; have I7 := I6.grown B7x; have OA7 := own_below OA6 B7x; have OB7 := own_below OB6 B7x; have B7 := Below.then B6 B7x; clear hTx)
    | (clear tb; refine wpList_valueX rfl (build_mc (bz := bz) (bp := bp) (bs := bs) (be := be) rfl rfl rfl rfl rfl) ?_)
    | (clear tc; refine wpList_storeW rfl 57 _ _ rfl rfl [.string X, mcF1 bz bp, mcF2 bz bs, mcF3 bz be] rfl Z7 rfl infoMc mc_one ?_; intro W8 U8 Z8; have B8 := U8.trans B7 hb8))
   refine ret_ST rfl rfl rfl Z8 _ Try.underlying57 rfl infoMc _ rfl ⟨bz, bp, bs, be, rfl, ?_, B8⟩
   obtain ⟨e1, e2, e3⟩ := HG.out
   subst e1 e2 e3
   obtain ⟨en, enl⟩ := HNN.out
   exact MKH.upd (b := b8) (cs := zmc) ⟨⟨u1, u2, by rw [enl]; exact I7, by rw [en]; exact OA7, by rw [en]; exact OB7⟩, P17, P27, P37, hbz, hbp, hbs, hbe⟩ Z7 U8 (by decide)
 · obtain ⟨ev, hev⟩ : ∃ e, e = validV p := ⟨_, rfl⟩
   rw [← hev] at hv0
   simp only [← hev] at hVal
   refine Calls.mono (R := fun (e : Ending) w' => e = .returned (.tuple #[.agg zmc.toArray, .int .i64 ev]) ∧ Below w.heap.size w w') ?_ (fun e w' h => ⟨fun _ => by rw [← hev]; exact h, fun h0 => absurd (hev.trans h0) hv0⟩)
   rw [hg1, hg2, hg3]
   clear hp hf hev hpw hg1 hg2 hg3
   go_enter Try.func24, Try.ntmps24
   go_wp2_with (first
    | (clear t1; refine wpList_boxS rfl 28 _ rfl [vt, vr, vl, vi, vj] rfl ?_; intro W0 b4 F0 C0; have B0 := F_b F0; clear F0)
    | (clear t2; refine wpList_boxF rfl _ _ rfl g1 rfl o1 ?_; intro Wp bp Fp P1; have Cp := C0.fresh Fp; have Bp := Fp.trans B0 B0.size; clear Fp C0)
    | (clear t3; refine wpList_boxF rfl _ _ rfl g2 rfl o2 ?_; intro Ws bs Fs P2; have Cs := Cp.fresh Fs; have Bs := Fs.trans Bp Bp.size; clear Fs Cp P1)
    | (clear t4; refine wpList_boxF rfl _ _ rfl g3 rfl o3 ?_; intro We be Fe P3; have Ce := Cs.fresh Fe; have Be := Fe.trans Bs Bs.size; clear Fe Cs P2)
    | (clear t5; refine wpList_allocS rfl 57 rfl zmc zeroMc ?_; intro W1 b8 F1 Z1; have C1 := Ce.fresh F1; have B1 := F1.trans Be Be.size; have hb8 : w.heap.size ≤ b8 := Nat.le_trans Be.size (Nat.le_of_eq F1.at'.symm); clear F1 Ce P3)
    | (clear t6; refine wpList_loadW rfl 28 _ rfl rfl C1 _ Try.underlying28 rfl infoPg ?_)
    | (go_at_call 36; refine (hVal _ (HP.out.below B1)).mono ?_; rintro e W2 ⟨rfl, B2x⟩; have Z2 := Z1.grown B2x; have B2 := Below.then B1 B2x; clear hVal C1 Z1)
    | (clear t7; refine wpList_valueX rfl (build0_mc rfl) ?_)
    | (refine wpList_storeW rfl 57 _ _ rfl rfl zmc rfl Z2 rfl infoMc zmc_one ?_; intro W8 U8 Z8; have B8 := U8.trans B2 hb8))
   exact ret_ST rfl rfl rfl Z8 _ Try.underlying57 rfl infoMc _ rfl ⟨rfl, B8⟩
end Go.Proofs.Ytegpnicajlndlaa

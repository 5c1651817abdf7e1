/- PL9, PLA, RA5 -/
import Derived.Test.YtegpnicajlndlaaPL8
import Derived.Test.YtegpnicajlndlaaRA3
import Derived.Test.YtegpnicajlndlaaRA4
namespace Go.Proofs.Ytegpnicajlndlaa
open Go.RowKit M
set_option linter.unusedSimpArgs false
set_option linter.unusedVariables false
def zmc : List Value := [.string ⟨#[]⟩, .nilFunc, .nilFunc, .nilFunc]
theorem zeroMc (w : World) : (zeroValue 57).run Try.prog w = .ok (.agg zmc.toArray) w := Try.zeroValue57 w
theorem infoMc : (Try.prog.info? 57).map (·.size) = some 4 := by kernel_rfl
theorem zmc_one : ∀ v ∈ zmc, v.oneCell' = true := by
 intro v hv
 unfold zmc at hv
 simp only [List.mem_cons, List.not_mem_nil, or_false] at hv
 rcases hv with rfl | rfl | rfl | rfl <;> rfl
theorem build0_mc {w : World} {op : Oper} {a : Act} (ho : op.op = .build 57 #[]) : (execOp a.eval op).run Try.prog w = .ok (.value (.agg zmc.toArray)) w := by
 have h : Try.t57.zero = some (.agg zmc.toArray) := by kernel_rfl
 unfold execOp
 simp [ho, go_sem, zeroValue, h]
def mcF1 (bz bp : Nat) : Value := .func (.func 65) #[] #[.pointer (some ⟨bz, 0, none⟩), .pointer (some ⟨bp, 0, none⟩)]
def mcF2 (bz bs : Nat) : Value := .func (.func 67) #[] #[.pointer (some ⟨bz, 0, none⟩), .pointer (some ⟨bs, 0, none⟩)]
def mcF3 (bz be : Nat) : Value := .func (.func 68) #[] #[.pointer (some ⟨bz, 0, none⟩), .pointer (some ⟨be, 0, none⟩)]
def nwF (f bt : Nat) : Value := .func (.func f) #[] #[.pointer (some ⟨bt, 0, none⟩)]
theorem build_mc {w : World} {op : Oper} {a : Act} {x0 x1 x2 x3 : Operand} {S : ByteArray} {bz bp bs be : Nat} (ho : op.op = .build 57 #[(0, x0), (1, x1), (2, x2), (3, x3)]) (h0 : a.eval x0 = .string S) (h1 : a.eval x1 = mcF1 bz bp) (h2 : a.eval x2 = mcF2 bz bs) (h3 : a.eval x3 = mcF3 bz be) :
    (execOp a.eval op).run Try.prog w = .ok (.value (.agg #[.string S, mcF1 bz bp, mcF2 bz bs, mcF3 bz be])) w := by
 have h : Try.t57.zero = some (.agg zmc.toArray) := by kernel_rfl
 generalize a.eval = ev at h0 h1 h2 h3 ⊢
 unfold execOp
 unfold mcF1 mcF2 mcF3 at *
 simp [ho, h0, h1, h2, h3, go_sem, zeroValue, h, zmc]
structure MK (W : World) (B : Nat) (p : PG) (bz bp bs be bt : Nat) : Prop where
 z : ∃ u1 u2, IsS W bz 105 [u1, u2, .int .i64 (p.locs.length : Int)] ∧ W.ownsRow B 3 1 u1 p.threads.length ((natI (shpOf p).ins).flatMap intE) ∧ W.ownsRow B 3 1 u2 p.threads.length ((natI (shpOf p).rgs).flatMap intE)
 fp : IsS W bp 73 [nwF 52 bt]
 fs : IsS W bs 74 [nwF 54 bt]
 fe : IsS W be 75 [nwF 56 bt]
 lo : B ≤ bz ∧ B ≤ bp ∧ B ≤ bs ∧ B ≤ be
structure TK (W : World) (B : Nat) (p : PG) (bt : Nat) : Prop where
 ex : ∃ v, IsS W bt 22 [v] ∧ OwnRows W B 61 63 5 v op5L p.threads
 lo : B ≤ bt
theorem TK.same {W V : World} {B : Nat} {p : PG} {bt : Nat} (h : TK W B p bt) (hs : ∀ k, B ≤ k → k < W.heap.size → V.heap[k]? = W.heap[k]?) : TK V B p bt := by
 obtain ⟨v, I, vs, h1, h2, h3⟩ := h.ex
 exact ⟨⟨v, (hs bt h.lo I.lt).trans I, vs, h1, own_same h2 fun k hk => hs k (own_lt h2 hk).1 (own_lt h2 hk).2, fun j u xs hu hx => own_same (h3 j u xs hu hx) fun k hk => hs k (own_lt (h3 j u xs hu hx) hk).1 (own_lt (h3 j u xs hu hx) hk).2⟩, h.lo⟩
theorem TK.mt {W : World} {B : Nat} {p : PG} {bt : Nat} (h : TK W B p bt) : MT W p bt := by
 obtain ⟨v, I, o⟩ := h.ex
 obtain ⟨a, c, e⟩ := o.rows.form
 rw [e] at I o
 exact ⟨a, c, I, o.rows⟩
theorem MK.same {W V : World} {B : Nat} {p : PG} {bz bp bs be bt : Nat} (h : MK W B p bz bp bs be bt) (hs : ∀ k, B ≤ k → k < W.heap.size → V.heap[k]? = W.heap[k]?) : MK V B p bz bp bs be bt := by
 obtain ⟨u1, u2, I, o1, o2⟩ := h.z
 obtain ⟨l1, l2, l3, l4⟩ := h.lo
 exact ⟨⟨u1, u2, (hs _ l1 I.lt).trans I, own_same o1 fun k hk => hs k (own_lt o1 hk).1 (own_lt o1 hk).2, own_same o2 fun k hk => hs k (own_lt o2 hk).1 (own_lt o2 hk).2⟩, (hs _ l2 h.fp.lt).trans h.fp, (hs _ l3 h.fs.lt).trans h.fs, (hs _ l4 h.fe.lt).trans h.fe, h.lo⟩
theorem MK.mm {W : World} {B : Nat} {p : PG} {bz bp bs be bt : Nat} (h : MK W B p bz bp bs be bt) (ht : MT W p bt) : MM W p bz bp bs be bt := by
 obtain ⟨u1, u2, I, o1, o2⟩ := h.z
 obtain ⟨a1, c1, e1, s1, _⟩ := own_row o1
 obtain ⟨a2, c2, e2, s2, _⟩ := own_row o2
 subst e1 e2
 exact ⟨⟨a1, c1, a2, c2, I, s1, s2⟩, ht, h.fp, h.fs, h.fe⟩
theorem MK.upd {W V : World} {B b t : Nat} {cs : List Value} {p : PG} {bz bp bs be bt : Nat} (h : MK W B p bz bp bs be bt) (I : IsS W b t cs) (U : Upd W V b) (ht : ∀ t' ∈ [3, 105, 73, 74, 75], t' ≠ t) : MK V B p bz bp bs be bt := by
 obtain ⟨u1, u2, I1, o1, o2⟩ := h.z
 exact ⟨⟨u1, u2, isS_updT I1 I (ht _ (by simp)) U, own_upd o1 I U (ht _ (by simp)), own_upd o2 I U (ht _ (by simp))⟩, isS_updT h.fp I (ht _ (by simp)) U, isS_updT h.fs I (ht _ (by simp)) U, isS_updT h.fe I (ht _ (by simp)) U, h.lo⟩
theorem TK.upd {W V : World} {B b t : Nat} {cs : List Value} {p : PG} {bt : Nat} (h : TK W B p bt) (I : IsS W b t cs) (U : Upd W V b) (ht : ∀ t' ∈ [22, 61, 63], t' ≠ t) : TK V B p bt := by
 obtain ⟨v, I1, o⟩ := h.ex
 exact ⟨⟨v, isS_updT I1 I (ht _ (by simp)) U, rows_upd o I U (ht _ (by simp)) (ht _ (by simp))⟩, h.lo⟩
noncomputable def startX (p : PG) : ByteArray := ⟨(textS ⟨List.replicate p.threads.length 0, List.replicate p.threads.length 0, p.regInit, p.locInit, List.replicate p.threads.length [], -1⟩).toArray⟩
def shp3 (u1 u2 : Value) (nl : Nat) : List Value := [u1, u2, .int .i64 (nl : Int)]
theorem wpList_boxF {w : World} {ops : Array Oper} {rest : List Oper} {op : Oper} {a : Act} {Q : Exit → Act → World → Prop} (hgd : op.guard = none) (ty : TypeId) (x : Operand) (ho : op.op = .box ty x) (v : Value) (hx : a.eval x = v) (hv : v.cells = #[v])
    (h : ∀ W b, Fresh w W b → IsS W b ty [v] → wpList Try.prog ops Q rest (a.put op.dst (.pointer (some ⟨b, 0, none⟩))) W) : wpList Try.prog ops Q (op :: rest) a w := by
 refine wpList_plain hgd fun K hK => ?_
 unfold Oper.wp execOp
 simp only [ho, hx]
 have hb : (Instr.box ty v).run Try.prog w = .ok (.pointer (some ⟨w.heap.size, 0, none⟩)) (w.alloc (.cells [v].toArray ty)) := by
  simp [go_sem]
  exact congrArg (fun c => w.alloc (.cells c ty)) hv
 simp only [Sem.run_bind, hb, Result.andThen_ok, Sem.run_pure]
 exact hK _ _ (h _ _ (Fresh.alloc w _) (IsS.new w ty [v]))
def McA (w : World) (p : PG) (bt : Nat) (e : Ending) (w' : World) : Prop :=
 (validV p ≠ 0 → e = .returned (.tuple #[.agg zmc.toArray, .int .i64 (validV p)]) ∧ Below w.heap.size w w') ∧
 (validV p = 0 → ∃ bz bp bs be, e = .returned (.tuple #[.agg #[.string (startX p), mcF1 bz bp, mcF2 bz bs, mcF3 bz be], .int .i64 0]) ∧ MK w' w.heap.size p bz bp bs be bt ∧ Below w.heap.size w w')
theorem shp3_one {u1 u2 : Value} {nl : Nat} (h1 : u1.oneCell' = true) (h2 : u2.oneCell' = true) : ∀ v ∈ shp3 u1 u2 nl, v.oneCell' = true := by
 intro v hv
 unfold shp3 at hv
 simp only [List.mem_cons, List.not_mem_nil, or_false] at hv
 rcases hv with rfl | rfl | rfl
 · exact h1
 · exact h2
 · rfl
theorem mc_one {S : ByteArray} {bz bp bs be : Nat} : ∀ v ∈ [Value.string S, mcF1 bz bp, mcF2 bz bs, mcF3 bz be], v.oneCell' = true := by
 intro v hv
 simp only [List.mem_cons, List.not_mem_nil, or_false] at hv
 rcases hv with rfl | rfl | rfl | rfl <;> rfl
theorem stv_start {W : World} {B gp gh gb n : Nat} {vrg vmm : Value} {vs : List Value} {ri : List (List Int)} {li : List Int} (S : StO W B (.slice (some ⟨gp, 0, none⟩) n n) vrg vmm vs (List.replicate n 0) ri li) (Ih : IsS W gh 3 (List.replicate n (.int .i64 0))) (Ib : IsS W gb 48 (List.replicate n (.slice none 0 0))) :
    STV W ⟨List.replicate n 0, List.replicate n 0, ri, li, List.replicate n [], -1⟩ (.slice (some ⟨gp, 0, none⟩) n n) (.slice (some ⟨gh, 0, none⟩) n n) vrg vmm (.slice (some ⟨gb, 0, none⟩) n n) := by
 refine st_of_rows (n := n) (pc := List.replicate n 0) (regs := ri) (mem := li) ⟨?_, rep_row Ih, S.rg.rows, own_row S.mm, rep_rows Ib⟩ rfl (by simp)
 have := own_row S.pc
 rw [List.length_replicate] at this
 exact this
set_option maxRecDepth 100000 in
set_option maxHeartbeats 4000000 in
theorem machine_any (p : PG) (hf : p.Few) (hpw : PWid p) (bt : Nat) (vt vr vl vi vj : Value) (w : World) (hp : PGV w vt vr vl vi vj p) :
    Calls Try.prog 24 #[.agg #[vt, vr, vl, vi, vj], nwF 52 bt, nwF 54 bt, nwF 56 bt] w fun e w' => McA w p bt e w' := by
 have hVal := fun W (h : PGV W vt vr vl vi vj p) => valid_any p hf vt vr vl vi vj W h
 have HP : Hid (PGV w vt vr vl vi vj p) := hp
 have t1 : True := trivial
 have t2 : True := trivial
 have t3 : True := trivial
 have t4 : True := trivial
 have t5 : True := trivial
 have t6 : True := trivial
 have t7 : True := trivial
 have t8 : True := trivial
 have t9 : True := trivial
 have ta : True := trivial
 have tb : True := trivial
 have tc : True := trivial
 obtain ⟨g1, hg1⟩ : ∃ v, nwF 52 bt = v := ⟨_, rfl⟩
 obtain ⟨g2, hg2⟩ : ∃ v, nwF 54 bt = v := ⟨_, rfl⟩
 obtain ⟨g3, hg3⟩ : ∃ v, nwF 56 bt = v := ⟨_, rfl⟩
 have o1 : g1.cells = #[g1] := by rw [← hg1]; rfl
 have o2 : g2.cells = #[g2] := by rw [← hg2]; rfl
 have o3 : g3.cells = #[g3] := by rw [← hg3]; rfl
 have HG : Hid (nwF 52 bt = g1 ∧ nwF 54 bt = g2 ∧ nwF 56 bt = g3) := ⟨hg1, hg2, hg3⟩
 by_cases hv0 : validV p = 0
 · have hv := vld_of hv0
   obtain ⟨fs0, ws0, _⟩ := fits_start hv hpw
   have hfw := few_fits hv fs0
   have hShp := fun W (h : PGV W vt vr vl vi vj p) => shapeOf_any p p.threads.length p.locs.length hf hv rfl rfl vt vr vl vi vj W h
   have hSt := fun W (h : PGV W vt vr vl vi vj p) => startOf_any p p.threads.length hf rfl vt vr vl vi vj W h
   have hTx := fun W v1 v2 v3 v4 v5 h => textOf_any ⟨List.replicate p.threads.length 0, List.replicate p.threads.length 0, p.regInit, p.locInit, List.replicate p.threads.length [], -1⟩ p.threads.length (by simp) hfw ws0 ⟨by simp, hv.il, by simp⟩ v1 v2 v3 v4 v5 W h
   have HX : Hid (startX p = startX p) := rfl
   obtain ⟨X, hX⟩ : ∃ X : ByteArray, startX p = X := ⟨_, rfl⟩
   have hX' : (⟨(textS ⟨List.replicate p.threads.length 0, List.replicate p.threads.length 0, p.regInit, p.locInit, List.replicate p.threads.length [], -1⟩).toArray⟩ : ByteArray) = X := hX
   simp only [hX'] at hTx
   obtain ⟨n, hn⟩ : ∃ n, p.threads.length = n := ⟨_, rfl⟩
   obtain ⟨nl, hnl⟩ : ∃ n, p.locs.length = n := ⟨_, rfl⟩
   have HNN : Hid (p.threads.length = n ∧ p.locs.length = nl) := ⟨hn, hnl⟩
   simp only [hn, hnl] at hShp hSt hTx
   have HQ : Hid (∀ (e : Ending) w' bz bp bs be, (e = .returned (.tuple #[.agg #[.string X, mcF1 bz bp, mcF2 bz bs, mcF3 bz be], .int .i64 0]) ∧ MK w' w.heap.size p bz bp bs be bt ∧ Below w.heap.size w w') → McA w p bt e w') := fun e w' bz bp bs be h => ⟨fun h0 => absurd hv0 h0, fun _ => ⟨bz, bp, bs, be, by rw [hX]; exact h⟩⟩
   rw [hv0] at hVal
   refine Calls.mono (R := fun (e : Ending) w' => ∃ bz bp bs be, e = .returned (.tuple #[.agg #[.string X, mcF1 bz bp, mcF2 bz bs, mcF3 bz be], .int .i64 0]) ∧ MK w' w.heap.size p bz bp bs be bt ∧ Below w.heap.size w w') ?_ (fun e w' ⟨bz, bp, bs, be, h⟩ => HQ.out e w' bz bp bs be h)
   rw [hg1, hg2, hg3]
   clear hp hv0 hv fs0 ws0 hfw hpw hn hnl hX hX' HX HQ hg1 hg2 hg3
   go_enter Try.func24, Try.ntmps24
   go_wp2_with (first
    | (clear t1; refine wpList_boxS rfl 28 _ rfl [vt, vr, vl, vi, vj] rfl ?_; intro W0 b4 F0 C0; have B0 := F_b F0; clear F0)
    | (clear t2; refine wpList_boxF rfl _ _ rfl g1 rfl o1 ?_; intro Wp bp Fp P1; have Cp := C0.fresh Fp; have Bp := Fp.trans B0 B0.size; have hbp : w.heap.size ≤ bp := Nat.le_trans B0.size (Nat.le_of_eq Fp.at'.symm); clear Fp C0)
    | (clear t3; refine wpList_boxF rfl _ _ rfl g2 rfl o2 ?_; intro Ws bs Fs P2; have Cs := Cp.fresh Fs; have P1s := P1.fresh Fs; have Bs := Fs.trans Bp Bp.size; have hbs : w.heap.size ≤ bs := Nat.le_trans Bp.size (Nat.le_of_eq Fs.at'.symm); clear Fs Cp P1)
    | (clear t4; refine wpList_boxF rfl _ _ rfl g3 rfl o3 ?_; intro We be Fe P3; have Ce := Cs.fresh Fe; have P1e := P1s.fresh Fe; have P2e := P2.fresh Fe; have Be := Fe.trans Bs Bs.size; have hbe : w.heap.size ≤ be := Nat.le_trans Bs.size (Nat.le_of_eq Fe.at'.symm); clear Fe Cs P1s P2)
    | (clear t5; refine wpList_allocS rfl 57 rfl zmc zeroMc ?_; intro W1 b8 F1 Z1; have C1 := Ce.fresh F1; have P11 := P1e.fresh F1; have P21 := P2e.fresh F1; have P31 := P3.fresh F1; have B1 := F1.trans Be Be.size; have hb8 : w.heap.size ≤ b8 := Nat.le_trans Be.size (Nat.le_of_eq F1.at'.symm); clear F1 Ce P1e P2e P3)
    | (clear t6; refine wpList_loadW rfl 28 _ rfl rfl C1 _ Try.underlying28 rfl infoPg ?_)
    | (go_at_call 36; refine (hVal _ (HP.out.below B1)).mono ?_; rintro e W2 ⟨rfl, B2x⟩; have C2 := C1.grown B2x; have Z2 := Z1.grown B2x; have P12 := P11.grown B2x; have P22 := P21.grown B2x; have P32 := P31.grown B2x; have B2 := Below.then B1 B2x; clear hVal C1 Z1 P11 P21 P31)
    | (clear t7; refine wpList_loadW rfl 28 _ rfl rfl C2 _ Try.underlying28 rfl infoPg ?_)
    | (go_at_call 41; refine (hShp _ (HP.out.below B2)).mono ?_; rintro e W3 ⟨u1, u2, rfl, OA, OB, B3x⟩; have q1 := own_cell OA; have q2 := own_cell OB; have OA3 := own_raise OA B2.size; have OB3 := own_raise OB B2.size; have C3 := C2.grown B3x; have Z3 := Z2.grown B3x; have P13 := P12.grown B3x; have P23 := P22.grown B3x; have P33 := P32.grown B3x; have B3 := Below.then B2 B3x; clear hShp C2 Z2 P12 P22 P32 OA OB)
    | (clear t8; refine wpList_allocS rfl 105 rfl (shp3 (.slice none 0 0) (.slice none 0 0) 0) zeroShp ?_; intro W4 bz F4 I4; have C4 := C3.fresh F4; have Z4 := Z3.fresh F4; have P14 := P13.fresh F4; have P24 := P23.fresh F4; have P34 := P33.fresh F4; have OA4 := own_below OA3 (F_b F4); have OB4 := own_below OB3 (F_b F4); have B4 := F4.trans B3 B3.size; have hbz : w.heap.size ≤ bz := Nat.le_trans B3.size (Nat.le_of_eq F4.at'.symm); clear F4 C3 Z3 P13 P23 P33)
    | (clear t9; refine wpList_storeW rfl 105 _ _ rfl rfl (shp3 u1 u2 nl) rfl I4 rfl infoShp (shp3_one q1 q2) ?_; intro W5 U5 I5; have C5 := isS_updT C4 I4 (by decide) U5; have Z5 := isS_updT Z4 I4 (by decide) U5; have P15 := isS_updT P14 I4 (by decide) U5; have P25 := isS_updT P24 I4 (by decide) U5; have P35 := isS_updT P34 I4 (by decide) U5; have OA5 := own_upd OA4 I4 U5 (by decide); have OB5 := own_upd OB4 I4 U5 (by decide); have B5 := U5.trans B4 hbz; clear U5 C4 Z4 P14 P24 P34 I4)
    | (clear ta; refine wpList_loadW rfl 28 _ rfl rfl C5 _ Try.underlying28 rfl infoPg ?_)
    | (go_at_call 47; refine (hSt _ (HP.out.below B5)).mono ?_; rintro e W6 ⟨gp, gh, gb, vrg, vmm, vs, rfl, S6, I6h, I6b, B6x⟩; have SV6 := stv_start S6 I6h I6b; have Z6 := Z5.grown B6x; have P16 := P15.grown B6x; have P26 := P25.grown B6x; have P36 := P35.grown B6x; have I6 := I5.grown B6x; have OA6 := own_below OA5 B6x; have OB6 := own_below OB5 B6x; have B6 := Below.then B5 B6x; clear hSt)
    | (go_at_call 43; refine (hTx _ _ _ _ _ _ SV6).mono ?_; rintro e W7 ⟨rfl, B7x⟩; have Z7 := Z6.grown B7x; have P17 := P16.grown B7x; have P27 := P26.grown B7x; have P37 := P36.grown B7x; have I7 := I6.grown B7x; have OA7 := own_below OA6 B7x; have OB7 := own_below OB6 B7x; have B7 := Below.then B6 B7x; clear hTx)
    | (clear tb; refine wpList_valueX rfl (build_mc (bz := bz) (bp := bp) (bs := bs) (be := be) rfl rfl rfl rfl rfl) ?_)
    | (clear tc; refine wpList_storeW rfl 57 _ _ rfl rfl [.string X, mcF1 bz bp, mcF2 bz bs, mcF3 bz be] rfl Z7 rfl infoMc mc_one ?_; intro W8 U8 Z8; have B8 := U8.trans B7 hb8))
   refine ret_ST rfl rfl rfl Z8 _ Try.underlying57 rfl infoMc _ rfl ⟨bz, bp, bs, be, rfl, ?_, B8⟩
   obtain ⟨e1, e2, e3⟩ := HG.out
   subst e1 e2 e3
   obtain ⟨en, enl⟩ := HNN.out
   exact MK.upd (b := b8) (cs := zmc) ⟨⟨u1, u2, by rw [enl]; exact I7, by rw [en]; exact OA7, by rw [en]; exact OB7⟩, P17, P27, P37, hbz, hbp, hbs, hbe⟩ Z7 U8 (by decide)
 · obtain ⟨ev, hev⟩ : ∃ e, e = validV p := ⟨_, rfl⟩
   rw [← hev] at hv0
   simp only [← hev] at hVal
   refine Calls.mono (R := fun (e : Ending) w' => e = .returned (.tuple #[.agg zmc.toArray, .int .i64 ev]) ∧ Below w.heap.size w w') ?_ (fun e w' h => ⟨fun _ => by rw [← hev]; exact h, fun h0 => absurd (hev.trans h0) hv0⟩)
   rw [hg1, hg2, hg3]
   clear hp hf hev hpw hg1 hg2 hg3
   go_enter Try.func24, Try.ntmps24
   go_wp2_with (first
    | (clear t1; refine wpList_boxS rfl 28 _ rfl [vt, vr, vl, vi, vj] rfl ?_; intro W0 b4 F0 C0; have B0 := F_b F0; clear F0)
    | (clear t2; refine wpList_boxF rfl _ _ rfl g1 rfl o1 ?_; intro Wp bp Fp P1; have Cp := C0.fresh Fp; have Bp := Fp.trans B0 B0.size; clear Fp C0)
    | (clear t3; refine wpList_boxF rfl _ _ rfl g2 rfl o2 ?_; intro Ws bs Fs P2; have Cs := Cp.fresh Fs; have Bs := Fs.trans Bp Bp.size; clear Fs Cp P1)
    | (clear t4; refine wpList_boxF rfl _ _ rfl g3 rfl o3 ?_; intro We be Fe P3; have Ce := Cs.fresh Fe; have Be := Fe.trans Bs Bs.size; clear Fe Cs P2)
    | (clear t5; refine wpList_allocS rfl 57 rfl zmc zeroMc ?_; intro W1 b8 F1 Z1; have C1 := Ce.fresh F1; have B1 := F1.trans Be Be.size; have hb8 : w.heap.size ≤ b8 := Nat.le_trans Be.size (Nat.le_of_eq F1.at'.symm); clear F1 Ce P3)
    | (clear t6; refine wpList_loadW rfl 28 _ rfl rfl C1 _ Try.underlying28 rfl infoPg ?_)
    | (go_at_call 36; refine (hVal _ (HP.out.below B1)).mono ?_; rintro e W2 ⟨rfl, B2x⟩; have Z2 := Z1.grown B2x; have B2 := Below.then B1 B2x; clear hVal C1 Z1)
    | (clear t7; refine wpList_valueX rfl (build0_mc rfl) ?_)
    | (refine wpList_storeW rfl 57 _ _ rfl rfl zmc rfl Z2 rfl infoMc zmc_one ?_; intro W8 U8 Z8; have B8 := U8.trans B2 hb8))
   exact ret_ST rfl rfl rfl Z8 _ Try.underlying57 rfl infoMc _ rfl ⟨rfl, B8⟩
theorem wpList_allocF {w : World} {ops : Array Oper} {rest : List Oper} {op : Oper} {a : Act} {Q : Exit → Act → World → Prop} (hgd : op.guard = none) (ty : TypeId) (ho : op.op = .alloc ty) (v : Value) (hv : v.cells = #[v]) (hz : ∀ w, (zeroValue ty).run Try.prog w = .ok v w)
    (h : ∀ W b, Fresh w W b → IsS W b ty [v] → wpList Try.prog ops Q rest (a.put op.dst (.pointer (some ⟨b, 0, none⟩))) W) : wpList Try.prog ops Q (op :: rest) a w := by
 refine wpList_plain hgd fun K hK => ?_
 unfold Oper.wp
 have hr : (execOp a.eval op).run Try.prog w = .ok (.value (.pointer (some ⟨w.heap.size, 0, none⟩))) (w.alloc (.cells [v].toArray ty)) := by
  unfold execOp
  simp [ho, go_sem, hz]
  exact congrArg (fun c => w.alloc (.cells c ty)) hv
 rw [hr]
 exact hK _ _ (h _ _ (Fresh.alloc w _) (IsS.new w ty [v]))
theorem infoTT : (Try.prog.info? 22).map (·.size) = some 1 := by kernel_rfl
def NwA (w : World) (p : PG) (e : Ending) (w' : World) : Prop :=
 (validV p ≠ 0 → e = .returned (.tuple #[.agg zmc.toArray, .int .i64 (validV p)]) ∧ Below w.heap.size w w') ∧
 (validV p = 0 → ∃ bz bp bs be bt, e = .returned (.tuple #[.agg #[.string (startX p), mcF1 bz bp, mcF2 bz bs, mcF3 bz be], .int .i64 0]) ∧ MK w' w.heap.size p bz bp bs be bt ∧ TK w' w.heap.size p bt ∧ Below w.heap.size w w')
theorem MK.raise {W : World} {B B' : Nat} {p : PG} {bz bp bs be bt : Nat} (h : MK W B' p bz bp bs be bt) (hb : B ≤ B') : MK W B p bz bp bs be bt := by
 obtain ⟨u1, u2, I, o1, o2⟩ := h.z
 obtain ⟨l1, l2, l3, l4⟩ := h.lo
 exact ⟨⟨u1, u2, I, own_raise o1 hb, own_raise o2 hb⟩, h.fp, h.fs, h.fe, Nat.le_trans hb l1, Nat.le_trans hb l2, Nat.le_trans hb l3, Nat.le_trans hb l4⟩
theorem TK.below {W W' : World} {B : Nat} {p : PG} {bt : Nat} (h : TK W B p bt) (hB : Below W.heap.size W W') : TK W' B p bt := h.same fun k _ hk => hB.block k hk
set_option maxRecDepth 100000 in
set_option maxHeartbeats 4000000 in
theorem new_any (p : PG) (hf : p.Few) (hpw : PWid p) (vt vr vl vi vj : Value) (w : World) (hp : PGV w vt vr vl vi vj p) :
    Calls Try.prog 19 #[.agg #[vt, vr, vl, vi, vj]] w fun e w' => NwA w p e w' := by
 obtain ⟨at0, ct, rfl⟩ := hp.t.form
 have hCl := fun W (h : RowsV W (.slice at0 p.threads.length ct) op5L p.threads) => clonesOp_any p.threads hf.t hf.tt at0 ct W h
 have hMc := fun bt W (h : PGV W (.slice at0 p.threads.length ct) vr vl vi vj p) => machine_any p hf hpw bt _ vr vl vi vj W h
 obtain ⟨n, hn⟩ : ∃ n, p.threads.length = n := ⟨_, rfl⟩
 have HP : Hid (PGV w (.slice at0 n ct) vr vl vi vj p) := by rw [← hn]; exact hp
 simp only [hn] at hCl hMc ⊢
 have t1 : True := trivial
 have t2 : True := trivial
 have t3 : True := trivial
 have t4 : True := trivial
 have t5 : True := trivial
 have t6 : True := trivial
 by_cases hv0 : validV p = 0
 · have hMc' := fun bt W h => (hMc bt W h).mono fun e w' q => q.2 hv0
   refine Calls.mono (R := fun (e : Ending) w' => ∃ bz bp bs be bt, e = .returned (.tuple #[.agg #[.string (startX p), mcF1 bz bp, mcF2 bz bs, mcF3 bz be], .int .i64 0]) ∧ MK w' w.heap.size p bz bp bs be bt ∧ TK w' w.heap.size p bt ∧ Below w.heap.size w w') ?_ (fun e w' h => ⟨fun h0 => absurd hv0 h0, fun _ => h⟩)
   obtain ⟨X, hX⟩ : ∃ X, startX p = X := ⟨_, rfl⟩
   simp only [hX] at hMc' ⊢
   clear hp hf hpw hn hv0 hMc hX
   go_enter Try.func19, Try.ntmps19
   go_wp2_with (first
    | (clear t1; refine wpList_boxS rfl 28 _ rfl [.slice at0 n ct, vr, vl, vi, vj] rfl ?_; intro W0 b1 F0 C0; have B0 := F_b F0; clear F0)
    | (clear t2; refine wpList_allocS rfl 57 rfl zmc zeroMc ?_; intro W1 b2 F1 Z1; have C1 := C0.fresh F1; have B1 := F1.trans B0 B0.size; have hb2 : w.heap.size ≤ b2 := Nat.le_trans B0.size (Nat.le_of_eq F1.at'.symm); have y0 : W1.cell? ⟨b1, 0, none⟩ = some (.slice at0 n ct) := C1.cell 0; clear F1 C0)
    | (go_at_call 51; refine (hCl _ (HP.out.below B1).t).mono ?_; rintro e W2 ⟨v, rfl, O2, B2x⟩; have ov := O2.cell; have C2 := C1.grown B2x; have Z2 := Z1.grown B2x; have B2 := Below.then B1 B2x; clear hCl C1 Z1 y0)
    | (clear t3; refine wpList_allocF rfl _ rfl (.slice none 0 0) rfl Try.zeroValue22 ?_; intro W3 b4 F3 I3; have C3 := C2.fresh F3; have Z3 := Z2.fresh F3; have O3 := (O2.raise B1.size).below (F_b F3); have B3 := F3.trans B2 B2.size; have hb4 : w.heap.size ≤ b4 := Nat.le_trans B2.size (Nat.le_of_eq F3.at'.symm); clear F3 C2 Z2 O2)
    | (clear t4; refine wpList_store1 rfl 22 _ _ rfl rfl v rfl I3 (by simp) infoTT ov ?_; intro W4 U4 I4; have C4 := isS_updT C3 I3 (by decide) U4; have Z4 := isS_updT Z3 I3 (by decide) U4; have O4 := rows_upd O3 I3 U4 (by decide) (by decide); have T4 : TK W4 w.heap.size p b4 := ⟨⟨v, I4, O4⟩, hb4⟩; have B4 := U4.trans B3 hb4; clear U4 C3 Z3 O3 I3)
    | (clear t5; refine wpList_loadW rfl 28 _ rfl rfl C4 _ Try.underlying28 rfl infoPg ?_)
    | (go_at_call 24; refine (hMc' b4 _ (HP.out.below B4)).mono ?_; rintro e W5 ⟨bz, bp, bs, be, rfl, M5, B5x⟩; have Z5 := Z4.grown B5x; have T5 := T4.below B5x; have B5 := Below.then B4 B5x; clear hMc')
    | (clear t6; refine wpList_storeW rfl 57 _ _ rfl rfl [.string X, mcF1 bz bp, mcF2 bz bs, mcF3 bz be] rfl Z5 rfl infoMc mc_one ?_; intro W6 U6 Z6; have B6 := U6.trans B5 hb2))
   exact ret_ST rfl rfl rfl Z6 _ Try.underlying57 rfl infoMc _ rfl ⟨bz, bp, bs, be, b4, rfl, (M5.raise B4.size).upd Z5 U6 (by decide), T5.upd Z5 U6 (by decide), B6⟩
 · have hMc' := fun bt W h => (hMc bt W h).mono fun e w' q => q.1 hv0
   refine Calls.mono (R := fun (e : Ending) w' => e = .returned (.tuple #[.agg zmc.toArray, .int .i64 (validV p)]) ∧ Below w.heap.size w w') ?_ (fun e w' h => ⟨fun _ => h, fun h0 => absurd h0 hv0⟩)
   obtain ⟨ev, hev⟩ : ∃ X, validV p = X := ⟨_, rfl⟩
   simp only [hev] at hMc' ⊢
   clear hp hf hpw hn hv0 hMc hev
   go_enter Try.func19, Try.ntmps19
   go_wp2_with (first
    | (clear t1; refine wpList_boxS rfl 28 _ rfl [.slice at0 n ct, vr, vl, vi, vj] rfl ?_; intro W0 b1 F0 C0; have B0 := F_b F0; clear F0)
    | (clear t2; refine wpList_allocS rfl 57 rfl zmc zeroMc ?_; intro W1 b2 F1 Z1; have C1 := C0.fresh F1; have B1 := F1.trans B0 B0.size; have hb2 : w.heap.size ≤ b2 := Nat.le_trans B0.size (Nat.le_of_eq F1.at'.symm); have y0 : W1.cell? ⟨b1, 0, none⟩ = some (.slice at0 n ct) := C1.cell 0; clear F1 C0)
    | (go_at_call 51; refine (hCl _ (HP.out.below B1).t).mono ?_; rintro e W2 ⟨v, rfl, O2, B2x⟩; have ov := O2.cell; have C2 := C1.grown B2x; have Z2 := Z1.grown B2x; have B2 := Below.then B1 B2x; clear hCl C1 Z1 y0)
    | (clear t3; refine wpList_allocF rfl _ rfl (.slice none 0 0) rfl Try.zeroValue22 ?_; intro W3 b4 F3 I3; have C3 := C2.fresh F3; have Z3 := Z2.fresh F3; have B3 := F3.trans B2 B2.size; have hb4 : w.heap.size ≤ b4 := Nat.le_trans B2.size (Nat.le_of_eq F3.at'.symm); clear F3 C2 Z2 O2)
    | (clear t4; refine wpList_store1 rfl 22 _ _ rfl rfl v rfl I3 (by simp) infoTT ov ?_; intro W4 U4 I4; have C4 := isS_updT C3 I3 (by decide) U4; have Z4 := isS_updT Z3 I3 (by decide) U4; have B4 := U4.trans B3 hb4; clear U4 C3 Z3 I3)
    | (clear t5; refine wpList_loadW rfl 28 _ rfl rfl C4 _ Try.underlying28 rfl infoPg ?_)
    | (go_at_call 24; refine (hMc' b4 _ (HP.out.below B4)).mono ?_; rintro e W5 ⟨rfl, B5x⟩; have Z5 := Z4.grown B5x; have B5 := Below.then B4 B5x; clear hMc')
    | (clear t6; refine wpList_storeW rfl 57 _ _ rfl rfl zmc rfl Z5 rfl infoMc zmc_one ?_; intro W6 U6 Z6; have B6 := U6.trans B5 hb2))
   exact ret_ST rfl rfl rfl Z6 _ Try.underlying57 rfl infoMc _ rfl ⟨rfl, B6⟩
theorem exec_neqPk {w : World} {op : Oper} {a : Act} {x y : Operand} {i j : Int} (ho : op.op = .binOp .neq 68 x y 68) (hx : a.eval x = .agg #[.int .i64 i, .int .i64 1, .int .i64 0]) (hy : a.eval y = .agg #[.int .i64 j, .int .i64 1, .int .i64 0]) (b : Bool) (hb : (i != j) = b) : (execOp a.eval op).run Try.prog w = .ok (.value (.bool b)) w := by
 generalize a.eval = ev at hx hy ⊢
 unfold execOp
 subst hb
 simp [ho, hx, hy, go_sem]
 by_cases h : i = j <;> simp [h]
theorem mem_pks {ths : List (List Op5)} {pc : List Int} {n j : Nat} : j ∈ pksL ths pc n ↔ j < n ∧ pc.getD j 0 < ((ths.getD j []).length : Int) := by
 unfold pksL
 rw [List.mem_filter, List.mem_range, decide_eq_true_eq]
theorem pk_at : ∀ (l : List Nat) (i : Nat) (j : Nat), l[i]? = some j → ∀ (e : Nat) (v : Value), (pkE j)[e]? = some v → (l.flatMap pkE)[i * 3 + e]? = some v
 | [], i, j, h, e, v, hv => by simp at h
 | x :: l, 0, j, h, e, v, hv => by
  simp at h; subst h
  have he : e < (pkE x).length := (List.getElem?_eq_some_iff.1 hv).1
  show (pkE x ++ l.flatMap pkE)[0 * 3 + e]? = some v
  rw [Nat.zero_mul, Nat.zero_add, List.getElem?_append_left he]; exact hv
 | x :: l, i + 1, j, h, e, v, hv => by
  have := pk_at l i j (by simpa using h) e v hv
  show (pkE x ++ l.flatMap pkE)[(i + 1) * 3 + e]? = some v
  have e1 : (pkE x).length = 3 := rfl
  rw [List.getElem?_append_right (by omega), e1, show (i + 1) * 3 + e - 3 = i * 3 + e by omega]
  exact this
theorem pk_range {w : World} {a : Option Addr} {l : List Nat} (h : Seg w a (l.flatMap pkE)) {i j : Nat} (hj : l[i]? = some j) : ∃ b o, a = some ⟨b, o, none⟩ ∧ b < w.heap.size ∧ w.rangeAt b (o + i * 3) (pkE j) := by
 obtain ⟨b, o, e, hb, _⟩ := h (i * 3 + 0) _ (pk_at l i j hj 0 _ rfl)
 refine ⟨b, o, e, hb, fun k v hv => ?_⟩
 obtain ⟨b', o', e', _, hc⟩ := h (i * 3 + k) v (pk_at l i j hj k v hv)
 rw [e] at e'; cases e'
 rw [Nat.add_assoc]; exact hc
theorem step_mem {p : PG} {pc : List Int} {regs : List (List Int)} {mem : List Int} {i : Int} {t : List Int × List (List Int) × List Int} (hv : Vld p) (hI : Inv p pc regs mem) (h : stepS p.threads pc regs mem i = some t) : ∃ j : Nat, i = (j : Int) ∧ j ∈ pksL p.threads pc p.threads.length := by
 obtain ⟨j, qn, th, o, rj, rfl, hth, hpc, ho, hrj, hoi, rfl⟩ := step_some hv hI h
 have hq := (List.getElem?_eq_some_iff.1 ho).1
 refine ⟨j, rfl, mem_pks.2 ⟨(List.getElem?_eq_some_iff.1 hth).1, ?_⟩⟩
 have e1 : pc.getD j 0 = (qn : Int) := by simp [hpc]
 have e2 : p.threads.getD j [] = th := by simp [hth]
 rw [e1, e2]; omega
theorem step_not {p : PG} {pc : List Int} {regs : List (List Int)} {mem : List Int} {i : Int} (hI : Inv p pc regs mem) (h : stepS p.threads pc regs mem i = none) : ∀ j ∈ pksL p.threads pc p.threads.length, (j : Int) ≠ i := by
 intro j hj e
 obtain ⟨h1, h2⟩ := mem_pks.1 hj
 rcases step_none hI h with h0 | ⟨_, h0⟩ | ⟨j', th, q, e', hth, hjp, hq, hle⟩
 · omega
 · omega
 · have : j = j' := by omega
   subst this
   have e1 : pc.getD j 0 = q := by simp [hq]
   have e2 : p.threads.getD j [] = th := by simp [hth]
   rw [e1, e2] at h2
   omega
theorem infoPk : (Try.prog.info? 68).map (·.size) = some 3 := by kernel_rfl
theorem infoPkE (j : Nat) : (Try.prog.info? 68).map (·.size) = some (pkE j).length := infoPk
end Go.Proofs.Ytegpnicajlndlaa

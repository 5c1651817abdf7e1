/- LW4 -/
import Derived.Test.YtegpnicajlndlaaLW3
import Derived.Test.YtegpnicajlndlaaQbl
import Derived.Test.YtegpnicajlndlaaCPX
import Derived.Test.YtegpnicajlndlaaQaj
import Derived.Test.YtegpnicajlndlaaQbc
import Derived.Test.YtegpnicajlndlaaQbw
import Derived.Test.YtegpnicajlndlaaQF
namespace Go.Proofs.Ytegpnicajlndlaa
open Go.RowKit M
set_option linter.unusedSimpArgs false
set_option linter.unusedVariables false
theorem pkL_at : ∀ (l : List (Int × Int × Int)) (i : Nat) (q : Int × Int × Int), l[i]? = some q → ∀ (e : Nat) (v : Value), (pkL q)[e]? = some v → (l.flatMap pkL)[i * 3 + e]? = some v
 | [], i, q, h => by simp at h
 | x :: l, i, q, h => by
  intro e v he
  have hlt : e < 3 := (List.getElem?_eq_some_iff.1 he).1
  cases i with
  | zero =>
   simp only [List.getElem?_cons_zero, Option.some.injEq] at h
   subst h
   rw [List.flatMap_cons, Nat.zero_mul, Nat.zero_add, List.getElem?_append_left hlt]
   exact he
  | succ i =>
   rw [List.getElem?_cons_succ] at h
   rw [List.flatMap_cons, List.getElem?_append_right (by show 3 ≤ _; omega), show (i + 1) * 3 + e - (pkL x).length = i * 3 + e by show (i + 1) * 3 + e - 3 = _; omega]
   exact pkL_at l i q h e v he
theorem pkL_range {w : World} {a : Option Addr} {l : List (Int × Int × Int)} (h : Seg w a (l.flatMap pkL)) {i : Nat} {q : Int × Int × Int} (hj : l[i]? = some q) : ∃ b o, a = some ⟨b, o, none⟩ ∧ b < w.heap.size ∧ w.rangeAt b (o + i * 3) (pkL q) := by
 obtain ⟨b, o, e, hb, _⟩ := h (i * 3 + 0) _ (pkL_at l i q hj 0 _ rfl)
 refine ⟨b, o, e, hb, fun k v hv => ?_⟩
 obtain ⟨b', o', e', _, hc⟩ := h (i * 3 + k) v (pkL_at l i q hj k v hv)
 rw [e] at e'
 cases e'
 rw [show o + i * 3 + k = o + (i * 3 + k) by omega]
 exact hc
theorem exec_rangeP {w : World} {op : Oper} {a : Act} {x : Operand} {b o : Nat} {cs : List Value} {d : TypeDesc} (ho : op.op = .load 68 x) (hx : a.eval x = .pointer (some ⟨b, o, none⟩)) (hb : True) (hc : w.rangeAt b o cs) (hu : Try.prog.underlying 68 = some d) (hd : d.isRow = true) (hi : (Try.prog.info? 68).map (·.size) = some cs.length) : (execOp a.eval op).run Try.prog w = .ok (.value (.agg cs.toArray)) w := by
 have hr := run_loadAt_mid (P := Try.prog) w b o 68 cs d hc hu hd hi
 unfold execOp
 simp only [ho, hx, Sem.run_bind, hr, Result.andThen_ok, Sem.run_pure]
set_option maxRecDepth 100000 in
set_option maxHeartbeats 4000000 in
theorem rstartF_any (p : PG) (hv0 : validV p = 0) (hf : p.Few) (vt vr vl vi vj : Value) (w : World) (hp : PGV w vt vr vl vi vj p) :
    Calls Try.prog 16 #[.agg #[vt, vr, vl, vi, vj]] w fun e w' => ∃ v1 v2 v3 v4 v5, e = .returned (.tuple #[.agg #[v1, v2, v3, v4, v5, .int .i64 (-1)], .int .i64 0]) ∧ STF w' w.heap.size (stSt p) v1 v2 v3 v4 v5 ∧ Below w.heap.size w w' := by
 have hVal := fun W (h : PGV W vt vr vl vi vj p) => rvalid_any p hf vt vr vl vi vj W h
 have hSt := fun W (h : PGV W vt vr vl vi vj p) => rfirstF_any p p.threads.length hf rfl vt vr vl vi vj W h
 have HP : Hid (PGV w vt vr vl vi vj p) := hp
 have t1 : True := trivial
 have t2 : True := trivial
 have t3 : True := trivial
 have t4 : True := trivial
 obtain ⟨n, hn⟩ : ∃ n, p.threads.length = n := ⟨_, rfl⟩
 have e1 : stSt p = ⟨List.replicate n 0, List.replicate n 0, p.regInit, p.locInit, List.replicate n [], -1⟩ := by unfold stSt; rw [if_pos hv0, hn]
 rw [e1]
 rw [hv0] at hVal
 simp only [hn] at hSt
 clear hp hf hv0 hn e1
 go_enter Try.func16, Try.ntmps16
 go_wp2_with (first
  | (clear t1; refine wpList_boxS rfl 28 _ rfl [vt, vr, vl, vi, vj] rfl ?_; intro W0 b2 F0 C0; have B0 := F_b F0; clear F0)
  | (clear t2; refine wpList_allocS rfl 32 rfl zst zeroSt ?_; intro W1 b4 F1 Z1; have C1 := C0.fresh F1; have B1 := F1.trans B0 B0.size; have hb4 : w.heap.size ≤ b4 := Nat.le_trans B0.size (Nat.le_of_eq F1.at'.symm); clear F1 C0)
  | (clear t3; refine wpList_loadW rfl 28 _ rfl rfl C1 _ Try.underlying28 rfl infoPg ?_)
  | (go_at_call 28; refine (hVal _ (HP.out.below B1)).mono ?_; rintro e W2 ⟨rfl, B2x⟩; have C2 := C1.grown B2x; have Z2 := Z1.grown B2x; have B2 := Below.then B1 B2x; clear hVal C1 Z1 B0 B1 B2x)
  | (clear t4; refine wpList_loadW rfl 28 _ rfl rfl C2 _ Try.underlying28 rfl infoPg ?_)
  | (go_at_call 29; refine (hSt _ (HP.out.below B2)).mono ?_; rintro e W3 ⟨u1, u2, u3, u4, u5, rfl, S3, B3x⟩; have Z3 := Z2.grown B3x; have hb4l := Z2.lt; have B3 := Below.then B2 B3x; have S3s := S3 W3 (fun _ _ _ => rfl); have hone := rs_one (-1) S3s; clear hSt S3s)
  | (refine wpList_storeW rfl 32 _ _ rfl rfl [u1, u2, u3, u4, u5, .int .i64 (-1)] rfl Z3 rfl infoSt hone ?_; intro W7 U7 Z7; have B7 := U7.trans B3 hb4))
 exact ret_ST rfl rfl rfl Z7 _ Try.underlying32 rfl infoSt _ rfl ⟨_, _, _, _, _, rfl, fun V hV => st_of_rows (S3 V fun k hk hk2 => (hV k (Nat.le_trans B2.size hk) (by rw [U7.size]; exact hk2)).trans (U7.block k (by omega))) rfl (by simp), B7⟩
theorem range_below {w W : World} {b o : Nat} {cs : List Value} (h : w.rangeAt b o cs) (hb : b < w.heap.size) (hB : Below w.heap.size w W) : W.rangeAt b o cs := fun j v hv => by rw [hB.cell (p := ⟨b, o + j, none⟩) hb]; exact h j v hv
theorem wpOp_storeW {ops : Array Oper} {Q : Exit → Act → World → Prop} {i : Nat} {o : Oper} {K : Act → World → Prop} {a : Act} {w : World} {b t : Nat} {cs : List Value} (hi : ops[i]? = some o) (hg : o.guard = none) (ty : TypeId) (x y : Operand) (ho : o.op = .store ty x y) (hx : a.eval x = .pointer (some ⟨b, 0, none⟩)) (vs : List Value) (hy : a.eval y = .agg vs.toArray) (hc : IsS w b t cs)
    (hk : vs.length = cs.length) (hf : (Try.prog.info? ty).map (·.size) = some vs.length) (h1 : ∀ v ∈ vs, v.oneCell' = true) (h : ∀ W, Upd w W b → IsS W b t vs → K (a.put o.dst undef) W) : wpOp Try.prog ops Q i K a w := by
 unfold wpOp
 rw [hi]
 simp only [Region.wanted, hg, if_true]
 refine Or.inl ?_
 refine wp_store_mid ty x y ho b 0 vs.toArray hx hy (hc.there 0 _ (by simp [hk])) (by simpa using hf) (all_oneCell_toArray h1) ?_
 have h2 := h _ (Upd.setCells b vs 0 w) (by have := IsS.setL vs 0 cs w hc; rw [putL_all hk] at this; exact this)
 simpa using h2
theorem st_one6 {W : World} {s : ST} {v1 v2 v3 v4 v5 : Value} (h : STk W s v1 v2 v3 v4 v5) : ∀ v ∈ [v1, v2, v3, v4, v5, .int .i64 (-1)], v.oneCell' = true := stv_one (-1) h.stv
set_option maxRecDepth 100000 in
set_option maxHeartbeats 16000000 in
theorem scSteps_any (p : PG) (hf : p.Few) (hpw : PWid p) (ks : List (Int × Int × Int)) (nk ck : Nat) (akk : Option Addr) (hnk : ks.length = nk) (hk20 : nk ≤ 1048576) (TX : ByteArray) (hTX : TX.size ≤ 1099511627776) (vt vr vl vi vj : Value) (w : World) (hp : PGV w vt vr vl vi vj p) (hK : Seg w akk (ks.flatMap pkL)) :
    Calls Try.prog 4 #[.agg #[vt, vr, vl, vi, vj], .slice akk nk ck, .string TX] w fun e w' => e = .returned (.bool true) ∧ Below w.heap.size w w' := by
 have hCopy := fun W (h : PGV W vt vr vl vi vj p) => copyO_any p hf vt vr vl vi vj W h
 have hNew := fun W a1 a2 a3 a4 a5 (h : PGV W a1 a2 a3 a4 a5 p) => new_any p hf hpw a1 a2 a3 a4 a5 W h
 have HP : Hid (PGV w vt vr vl vi vj p) := hp
 have HK : Hid (Seg w akk (ks.flatMap pkL)) := hK
 have HNK : Hid (ks.length = nk) := hnk
 have inkI : (nk : Int) ≤ 1048576 := by omega
 have t1 : True := trivial
 have t2 : True := trivial
 have t3 : True := trivial
 have t4 : True := trivial
 have t5 : True := trivial
 have t6 : True := trivial
 have t7 : True := trivial
 have t8 : True := trivial
 have t9 : True := trivial
 have ta : True := trivial
 have tb : True := trivial
 have tc : True := trivial
 have td : True := trivial
 have te : True := trivial
 by_cases hv0 : validV p = 0
 · have hv := vld_of hv0
   obtain ⟨fs0, ws0, pl0⟩ := fits_start hv hpw
   have hst0 : stSt p = ⟨List.replicate p.threads.length 0, List.replicate p.threads.length 0, p.regInit, p.locInit, List.replicate p.threads.length [], -1⟩ := by unfold stSt; rw [if_pos hv0]
   rw [← hst0] at fs0 ws0 pl0
   have hSt := fun W (h : PGV W vt vr vl vi vj p) => rstartF_any p hv0 hf vt vr vl vi vj W h
   have hNew' := fun W a1 a2 a3 a4 a5 h => (hNew W a1 a2 a3 a4 a5 h).mono fun e w' q => q.2 hv0
   have hX0 : startX p = ⟨(textS (stSt p)).toArray⟩ := by rw [hst0]; rfl
   have hl1 : (shpOf p).ins.length = p.threads.length := (shp_len hv).1
   have hTxG := fun (s : ST) (hs : Fits (shpOf p) s) (hw : Wid s) W v1 v2 v3 v4 v5 (h : STV W s v1 v2 v3 v4 v5) => rtext_any s p.threads.length (by rw [hs.pc, hl1]) (few_fits hv hs) hw ⟨by rw [hs.ph, hl1], by rw [hs.rg, hl1], by rw [hs.bf, hl1]⟩ vt vr vl vi vj v1 v2 v3 v4 v5 W h
   have hAtG := fun (X0 : ByteArray) bz bp bs be bt (T : ByteArray) (hT : T.size ≤ 1099511627776) W (h1 : MM W p bz bp bs be bt) (h2 : PGV W vt vr vl vi vj p) => at_any p hv0 hf hpw T hT X0 bz bp bs be bt vt vr vl vi vj W h1 h2
   have hM2G := fun (T : ByteArray) (hT : T.size ≤ 1099511627776) k bz bp bs be bt W (h : MM W p bz bp bs be bt) => mach2_any p hv hf hpw T hT k bz bp bs be bt W h
   have hRsG := fun (s : ST) (hs : Fits (shpOf p) s) (hpl : plainB s = true) k W v1 v2 v3 v4 v5 (h1 : PGV W vt vr vl vi vj p) (h2 : STV W s v1 v2 v3 v4 v5) => rstepK_any p hv hf s hs hpl k vt vr vl vi vj v1 v2 v3 v4 v5 W h1 h2
   have HKeep : Hid (∀ s s' k, Fits (shpOf p) s → Wid s → stepK p.threads s k = some s' → Fits (shpOf p) s' ∧ Wid s' ∧ s'.lock = s.lock ∧ plainB s' = true) := fun s s' k h1 h2 h3 => step_keeps hv hpw hf h1 h2 h3
   have HSz : Hid (∀ s, Fits (shpOf p) s → Wid s → (⟨(textS s).toArray⟩ : ByteArray).size ≤ 1099511627776) := fun s h1 h2 => text_size (few_fits hv h1) ⟨by rw [h1.pc, h1.ph], by rw [h1.pc, h1.rg]⟩ h2
   have HRd : Hid (∀ s, Fits (shpOf p) s → Wid s → readS ⟨(textS s).toArray⟩ (shpOf p) = some s) := fun s h1 h2 => readS_text h1 h2
   have HF0 : Hid (Fits (shpOf p) (stSt p) ∧ Wid (stSt p) ∧ plainB (stSt p) = true ∧ (stSt p).lock = -1) := ⟨fs0, ws0, pl0, by rw [hst0]⟩
   obtain ⟨X0, hX⟩ : ∃ X, startX p = X := ⟨_, rfl⟩
   have HX0 : Hid (X0 = ⟨(textS (stSt p)).toArray⟩) := by rw [← hX]; exact hX0
   simp only [hX] at hNew'
   have HLs : Hid (p.threads.flatten.length ≤ 1048576) := hf.tt
   have hnT : p.threads.length ≤ 1048576 := hf.t
   clear hp hf hpw hv hv0 hnk hk20 hK fs0 ws0 pl0 hst0 hX0 hX hl1 hNew
   go_enter Try.func4, Try.ntmps4
   go_wp2_with (first
    | (clear t1; refine wpList_boxS rfl 28 _ rfl [vt, vr, vl, vi, vj] rfl ?_; intro W0 b3 F0 P0; have B0 := F_b F0; clear F0)
    | (clear t2; refine wpList_loadW rfl 28 _ rfl rfl P0 _ Try.underlying28 rfl infoPg ?_)
    | (go_at_call 9; refine (hCopy _ (HP.out.below B0)).mono ?_; rintro e W1 ⟨⟨c1, c2, c3, c4, c5, rfl, O1⟩, X1⟩; have hone7 := one5 O1.t.cell O1.r.cell (own_cell O1.l) O1.i.cell (own_cell O1.j); have P1 := P0.grown X1; have B1 := Below.then B0 X1; have z1 := X1.size; have hb3 := P0.lt; have zz0 := B0.size; clear X1 P0 hCopy B0)
    | (clear t3; refine wpList_allocS rfl 28 rfl z5 zeroPg ?_; intro W2 b7 F2 I2; have P2 := P1.fresh F2; have O2 := O1.below (F_b F2); have Q2 := F_b F2; have B2 := F2.trans B1 B1.size; have hb7 : W1.heap.size ≤ b7 := Nat.le_of_eq F2.at'.symm; clear F2 P1)
    | (clear t4; refine wpList_storeW rfl 28 _ _ rfl rfl [c1, c2, c3, c4, c5] rfl I2 rfl infoPg hone7 ?_; intro W3 U3 C3; have P3 := P2.upd U3 (by have := P2.lt; omega); have O3 := O2.upd I2 U3 (by decide); have Q3 := U3.trans Q2 hb7; have B3 := U3.trans B2 (Nat.le_trans B1.size hb7); clear U3 P2 I2 Q2 B2 O2)
    | (clear t5; refine wpList_loadW rfl 28 _ rfl rfl C3 _ Try.underlying28 rfl infoPg ?_)
    | (go_at_call 19; refine (hNew' _ _ _ _ _ _ O3.pgv).mono ?_; rintro e W4 ⟨bz, bp, bs, be, bt, rfl, K4, TK4, X4⟩; have P4 := P3.grown X4; have C4 := C3.grown X4; have B4 := Below.then B3 X4; have Q4 := Below.then Q3 X4; have z4 := X4.size; have z4x := Nat.le_trans (Below.then Q3 X4).size (Nat.le_refl _); clear P3 C3 X4 hNew')
    | (clear t6; refine wpList_allocS rfl 57 rfl zmc zeroMc ?_; intro W5 b8 F5 I5; have P5 := P4.fresh F5; have C5 := C4.fresh F5; have QM5 := F_b F5; have B5 := F5.trans B4 B4.size; have Q5 := Below.then Q4 (F_b F5); have hb8 : W4.heap.size ≤ b8 := Nat.le_of_eq F5.at'.symm; clear F5 P4 C4 Q4)
    | (clear t7; refine wpList_storeW rfl 57 _ _ rfl rfl [.string X0, .func (.func 65) #[] #[.pointer (some ⟨bz, 0, none⟩), .pointer (some ⟨bp, 0, none⟩)], .func (.func 67) #[] #[.pointer (some ⟨bz, 0, none⟩), .pointer (some ⟨bs, 0, none⟩)], .func (.func 68) #[] #[.pointer (some ⟨bz, 0, none⟩), .pointer (some ⟨be, 0, none⟩)]] rfl I5 rfl infoMc mc_one ?_; intro W6 U6 M6; have P6 := isS_updT P5 I5 (by decide) U6; have C6 := isS_updT C5 I5 (by decide) U6; have QM6 := U6.trans QM5 hb8; have z6 := QM6.size; have B6 := U6.trans B5 (Nat.le_trans B4.size hb8); have Q6 := U6.trans Q5 (Nat.le_trans z4x hb8); clear U6 P5 C5 I5 QM5 Q5)
    | (clear t8; refine wpList_loadW rfl 28 _ rfl rfl P6 _ Try.underlying28 rfl infoPg ?_)
    | (go_at_call 16; refine (hSt _ (HP.out.below B6)).mono ?_; rintro e W7 ⟨v1, v2, v3, v4, v5, rfl, SF7, X7⟩; have hone := stv_one (-1) SF7.stv; have P7 := P6.grown X7; have C7 := C6.grown X7; have M7 := M6.grown X7; have zb8 := M7.lt; have B7 := Below.then B6 X7; have Q7 := Below.then Q6 X7; have QM7 := Below.then QM6 X7; have zq7 := QM7.size; have z7 := X7.size; clear P6 C6 M6 X7 hSt Q6 QM6)
    | (clear t9; refine wpList_allocS rfl 32 rfl zst zeroSt ?_; intro W8 b10 F8 I8; have P8 := P7.fresh F8; have C8 := C7.fresh F8; have M8 := M7.fresh F8; have X8 := F_b F8; have hb10 : W7.heap.size ≤ b10 := Nat.le_of_eq F8.at'.symm; have hb10e : b10 ≤ W7.heap.size := Nat.le_of_eq F8.at'; clear F8 P7 C7 M7)
    | (clear ta; refine wpList_storeW rfl 32 _ _ rfl rfl [v1, v2, v3, v4, v5, .int .i64 (-1)] rfl I8 rfl infoSt hone ?_; intro W9 U9 S9; have P9 := isS_updT P8 I8 (by decide) U9; have C9 := isS_updT C8 I8 (by decide) U9; have M9 := isS_updT M8 I8 (by decide) U9; have X9 := U9.trans X8 hb10; clear U9 P8 C8 M8 I8 X8)
    | (clear tb; refine wpList_loadGW rfl 57 _ rfl rfl M9 _ Try.underlying57 rfl infoMc ?_)
    | (go_at_call 20; refine (right_yes X0 bz bp bs be _).mono ?_; rintro e V0 ⟨rfl, XR⟩; have PV := P9.grown XR; have CV := C9.grown XR; have MV := M9.grown XR; have SVb := S9.grown XR; have XV := Below.then X9 XR; clear P9 C9 M9 S9 XR X9))
   obtain ⟨n, hn⟩ : ∃ n, p.threads.length = n := ⟨_, rfl⟩
   obtain ⟨ls, hls⟩ : ∃ l, p.threads.map List.length = l := ⟨_, rfl⟩
   obtain ⟨lo, hlo⟩ : ∃ k, k = W0.heap.size := ⟨_, rfl⟩
   obtain ⟨hi, hhi⟩ : ∃ k, k = W1.heap.size := ⟨_, rfl⟩
   obtain ⟨N, hN⟩ : ∃ k, k = W7.heap.size := ⟨_, rfl⟩
   obtain ⟨vs, hCT⟩ := CT.start O1.t (Below.then Q7 XV)
   rw [hn, hls, ← hlo, ← hhi] at hCT
   obtain ⟨ac, cc, ec⟩ := own_form hCT.th
   subst ec
   have HCT : Hid (CT V0 V0 lo hi (.slice ac n cc) vs n ls) := hCT
   have HCV : Hid (IsS V0 b7 28 [.slice ac n cc, c2, c3, c4, c5]) := CV
   have HPV : Hid (IsS V0 b3 28 [vt, vr, vl, vi, vj]) := PV
   have HMV : Hid (IsS V0 b8 57 [.string X0, .func (.func 65) #[] #[.pointer (some ⟨bz, 0, none⟩), .pointer (some ⟨bp, 0, none⟩)], .func (.func 67) #[] #[.pointer (some ⟨bz, 0, none⟩), .pointer (some ⟨bs, 0, none⟩)], .func (.func 68) #[] #[.pointer (some ⟨bz, 0, none⟩), .pointer (some ⟨be, 0, none⟩)]]) := MV
   have HSV : Hid (IsS V0 b10 32 [v1, v2, v3, v4, v5, .int .i64 (-1)]) := SVb
   have HSF : Hid (STF W7 W6.heap.size (stSt p) v1 v2 v3 v4 v5) := SF7
   have HK4 : Hid (MK W4 W3.heap.size p bz bp bs be bt ∧ TK W4 W3.heap.size p bt) := ⟨K4, TK4⟩
   have HXV : Hid (Below W7.heap.size W7 V0) := XV
   have HQM : Hid (Below W4.heap.size W4 V0) := Below.then QM7 XV
   have HB0 : Hid (Below w.heap.size w V0) := Below.then B7 XV
   have HNU : Hid (w.heap.size ≤ lo ∧ lo ≤ hi ∧ b3 < lo ∧ hi ≤ b7 ∧ hi ≤ W3.heap.size ∧ W3.heap.size ≤ W4.heap.size ∧ W4.heap.size ≤ b8 ∧ W4.heap.size ≤ W6.heap.size ∧ W6.heap.size ≤ N ∧ W4.heap.size ≤ N ∧ N ≤ b10 ∧ b10 ≤ N ∧ N ≤ V0.heap.size ∧ b8 < N ∧ N = W7.heap.size) := by
    show _ ∧ _
    have y1 := Q3.size
    have y2 := XV.size
    omega
   have hlsb : Hid (∀ (j m : Nat), ls[j]? = some m → m ≤ 1048576) := fun j m hm => by
    rw [← hls, List.getElem?_map] at hm
    cases hr : p.threads[j]? with
    | none => rw [hr] at hm; cases hm
    | some x => rw [hr] at hm; cases hm; exact flat_row HLs.out hr
   have HLS : Hid (ls.length = n) := by show ls.length = n; rw [← hls, List.length_map, hn]
   have innT : (n : Int) ≤ 1048576 := by rw [← hn]; omega
   clear hCT CV PV MV SVb SF7 K4 TK4 XV QM7 Q7 B7 B6 B5 B4 B3 B1 Q3 O1 O3 hn hls hlo hhi hN z1 zz0 hb3 hb7 z4 z4x hb8 z6 z7 zq7 zb8 hb10 hb10e hone hone7 hnT HLs
   go_loopw [12] (fun i wr => ∃ j : Nat, j ≤ n ∧ i = .int .i64 (j : Int) ∧ Hid (CT V0 wr lo hi (.slice ac n cc) vs n ls)) (fun i _ => n - (intOf i).toNat)
   case atStart => exact ⟨0, Nat.zero_le _, rfl, HCT⟩
   case round =>
    clear HCT
    obtain ⟨j, hj, rfl, HA⟩ := hrel
    have C := HA.out.out.isS HCV.out (.inr HNU.out.2.2.2.1)
    have yc0 : wr.cell? ⟨b7, 0, none⟩ = some (.slice ac n cc) := C.cell 0
    clear C
    by_cases hlt : j < n
    · have hji : (j : Int) < n := by omega
      obtain ⟨m, hm⟩ : ∃ m, ls[j]? = some m := ⟨_, List.getElem?_eq_getElem (by rw [HLS.out]; exact hlt)⟩
      have HM : Hid (ls[j]? = some m) := hm
      have hm20 : m ≤ 1048576 := hlsb.out j m hm
      have hmI : (m : Int) ≤ 1048576 := by omega
      clear hm
      go_wp2_with fail
      clear yc0
      go_loopw [13] (fun i wr => ∃ q : Nat, q ≤ m ∧ i = .int .i64 (q : Int) ∧ Hid (CT V0 wr lo hi (.slice ac n cc) vs n ls)) (fun i _ => m - (intOf i).toNat)
      case atStart => exact ⟨0, Nat.zero_le _, rfl, HA⟩
      case round =>
       clear HA
       obtain ⟨q, hq, rfl, HA⟩ := hrel
       have C := HA.out.out.isS HCV.out (.inr HNU.out.2.2.2.1)
       have yc0 : wr.cell? ⟨b7, 0, none⟩ = some (.slice ac n cc) := C.cell 0
       clear C
       obtain ⟨g, c, a, c', ev, hvj, hcell⟩ := HA.out.row HM.out
       cases ev
       by_cases hlq : q < m
       · have hqi : (q : Int) < m := by omega
         obtain ⟨gq, cs, ea, I, hql, hmc, hA⟩ := HA.out.put HM.out hvj hlq
         subst ea
         have HAf : Hid (∀ (x : Value) (W' : World), Upd wr W' gq → IsS W' gq 63 (cs.set (q * 5) x) → CT V0 W' lo hi (.slice (some ⟨g, 0, none⟩) n cc) vs n ls) := hA
         clear hA hvj HA
         go_wp2_with (first
          | (refine wpList_store1 rfl 3 _ _ rfl rfl (.int .i64 6) rfl I hql info3' rfl ?_; intro W9 U9 I9))
         have HA9 : Hid (CT V0 W9 lo hi (.slice (some ⟨g, 0, none⟩) n cc) vs n ls) := HAf.out _ _ U9 I9
         clear HAf U9 I9 I hcell yc0
         go_roundw
         case rel => exact ⟨q + 1, by omega, by go_num, HA9⟩
         case measure => simp [intOf]; omega
       · have hqi : ¬ (q : Int) < m := by omega
         go_wp2_with fail
         clear hcell yc0
         go_roundw
         case rel => exact ⟨j + 1, by omega, by go_num, HA⟩
         case measure => simp [intOf]; omega
    · have hji : ¬ (j : Int) < n := by omega
      go_wp2_with fail
      clear yc0 hlt hji
      obtain ⟨V1, hV1⟩ : ∃ W, W = wr := ⟨_, rfl⟩
      subst hV1
      have hnu := HNU.out
      have hO := HA.out.out
      have hsz := hO.size
      have P1 := hO.isS HPV.out (.inl (by omega))
      have C1 := hO.isS HMV.out (.inr (by omega))
      have S1 := hO.isS HSV.out (.inr (by omega))
      have BW1 : Below w.heap.size w V1 := hO.pre HB0.out (by omega) HB0.out.size
      have PV1 := HP.out.below BW1
      have SV1 : STV V1 (stSt p) v1 v2 v3 v4 v5 := HSF.out V1 fun k h1 h2 => (hO.block k (by omega) (.inr (by omega))).trans (HXV.out.block k h2)
      have ag : ∀ k, W3.heap.size ≤ k → k < W4.heap.size → V1.heap[k]? = W4.heap[k]? := fun k h1 h2 => (hO.block k (by omega) (.inr (by omega))).trans (HQM.out.block k h2)
      have M1 : MM V1 p bz bp bs be bt := (HK4.out.1.same ag).mm (HK4.out.2.same ag).mt
      have HAG : Hid (∀ k, W3.heap.size ≤ k → k < W4.heap.size → V1.heap[k]? = W4.heap[k]?) := ag
      have hAt := fun (T : ByteArray) (hT : T.size ≤ 1099511627776) W (h1 : MM W p bz bp bs be bt) (h2 : PGV W vt vr vl vi vj p) => hAtG X0 bz bp bs be bt T hT W h1 h2
      have hTx0 := fun W (h : STV W (stSt p) v1 v2 v3 v4 v5) => hTxG (stSt p) HF0.out.1 HF0.out.2.1 W v1 v2 v3 v4 v5 h
      simp only [← HX0.out, HF0.out.2.2.2] at hTx0
      clear hnu hO ag HA HCV HPV HMV HSV HSF HXV HQM
      refine grow_allW (by kernel_rfl) (by kernel_rfl) ?_
      refine WG.pu rfl (v := (.pointer (some ⟨b8, 0, none⟩))) ?_; simp only [sP]
      refine WG.load1 rfl 9 _ rfl rfl (C1) (v := (.string X0)) rfl (fun w h => by simp [go_sem, h]) ?_; simp only [sP]
      refine WG.row rfl 28 _ rfl rfl P1 [vt, vr, vl, vi, vj] rfl _ Try.underlying28 rfl infoPg ?_; simp only [sP]
      refine WG.row rfl 32 _ rfl rfl S1 [v1, v2, v3, v4, v5, .int .i64 (-1)] rfl _ Try.underlying32 rfl infoSt ?_; simp only [sP]
      refine WG.call rfl (f := 21) (v := (.string X0)) (fun W hB => hTx0 W (SV1.below hB)) (fun w => by first | rfl | (go_simp; done) | (simp [execOp, go_sem]; done)) ?_; simp only [sP]
      refine WG.pu rfl (v := (.bool false)) ?_; simp only [sP]
      refine WG.pu rfl (v := (.bool false)) ?_; simp only [sP]
      refine WG.row rfl 57 _ rfl rfl C1 [.string X0, .func (.func 65) #[] #[.pointer (some ⟨bz, 0, none⟩), .pointer (some ⟨bp, 0, none⟩)], .func (.func 67) #[] #[.pointer (some ⟨bz, 0, none⟩), .pointer (some ⟨bs, 0, none⟩)], .func (.func 68) #[] #[.pointer (some ⟨bz, 0, none⟩), .pointer (some ⟨be, 0, none⟩)]] rfl _ Try.underlying57 rfl infoMc ?_; simp only [sP]
      refine WG.row rfl 28 _ rfl rfl P1 [vt, vr, vl, vi, vj] rfl _ Try.underlying28 rfl infoPg ?_; simp only [sP]
      refine WG.pu rfl (v := (.string TX)) ?_; simp only [sP]
      refine WG.call rfl (f := 22) (v := (.bool true)) (fun W hB => hAt TX hTX W (M1.below hB) (PV1.below hB)) (fun w => by first | rfl | (go_simp; done) | (simp [execOp, go_sem]; done)) ?_; simp only [sP]
      refine WG.pu rfl (v := (.bool false)) ?_; simp only [sP]
      refine WG.pu rfl (v := (.bool false)) ?_; simp only [sP]
      refine WG.nil ?_
      intro V2 X2
      have hnu := HNU.out
      have y8 : V2.cell? ⟨b8, 0, none⟩ = some (.string X0) := (C1.grown X2).cell 0
      have HN2 : Hid (N ≤ V2.heap.size) := Nat.le_trans (Nat.le_trans hnu.2.2.2.2.2.2.2.2.2.2.2.2.1 hsz) X2.size
      have HC2 : Hid (∀ V, Below N V2 V → IsS V b8 57 [.string X0, .func (.func 65) #[] #[.pointer (some ⟨bz, 0, none⟩), .pointer (some ⟨bp, 0, none⟩)], .func (.func 67) #[] #[.pointer (some ⟨bz, 0, none⟩), .pointer (some ⟨bs, 0, none⟩)], .func (.func 68) #[] #[.pointer (some ⟨bz, 0, none⟩), .pointer (some ⟨be, 0, none⟩)]]) := fun V hV => (hV.block b8 (by omega)).trans (C1.grown X2)
      have HP2 : Hid (∀ V, Below N V2 V → IsS V b3 28 [vt, vr, vl, vi, vj]) := fun V hV => (hV.block b3 (by omega)).trans (P1.grown X2)
      have HM2 : Hid (∀ V, Below N V2 V → MM V p bz bp bs be bt) := fun V hV => by
       have ag : ∀ k, W3.heap.size ≤ k → k < W4.heap.size → V.heap[k]? = W4.heap[k]? := fun k h1 h2 => (hV.block k (by omega)).trans ((X2.block k (by omega)).trans (HAG.out k h1 h2))
       exact (HK4.out.1.same ag).mm (HK4.out.2.same ag).mt
      have HBW : Hid (∀ V, Below N V2 V → Below w.heap.size w V) := fun V hV => (Below.then BW1 X2).trans (hV.mono (by omega))
      have HSV2 : Hid (STV V2 (stSt p) v1 v2 v3 v4 v5) := SV1.below X2
      have HS2 : Hid (IsS V2 b10 32 [v1, v2, v3, v4, v5, .int .i64 (-1)]) := S1.grown X2
      have HB10 : Hid (N ≤ b10) := hnu.2.2.2.2.2.2.2.2.2.2.1
      clear hnu hsz C1 P1 S1 SV1 M1 PV1 BW1 X2 HAG HNU HB0 HK4 hTx0
      go_wp2_with fail
      clear y8
      go_loopw [14, 15] (fun tv iv wr => ∃ (j : Nat) (s : ST) (XC : ByteArray) (v1 v2 v3 v4 v5 : Value), j ≤ nk ∧ iv = .int .i64 (j : Int) ∧ tv = .string XC ∧ Hid (XC = ⟨(textS s).toArray⟩ ∧ Fits (shpOf p) s ∧ Wid s ∧ plainB s = true ∧ s.lock = -1) ∧ Hid (STV wr s v1 v2 v3 v4 v5) ∧ Hid (IsS wr b10 32 [v1, v2, v3, v4, v5, .int .i64 (-1)]) ∧ Hid (Below N V2 wr)) (fun _ iv _ => nk - (intOf iv).toNat)
      case atStart => exact ⟨0, stSt p, X0, v1, v2, v3, v4, v5, Nat.zero_le _, rfl, rfl, ⟨HX0.out, HF0.out⟩, HSV2, HS2, Below.refl _ _⟩
      case round =>
       clear HSV2 HS2
       obtain ⟨j, s, XC, v1, v2, v3, v4, v5, hj, rfl, rfl, HI, HSV, HS, HFB⟩ := hrel
       have C0 := HC2.out wr HFB.out
       have P0 := HP2.out wr HFB.out
       have M0 := HM2.out wr HFB.out
       have PV0 := HP.out.below (HBW.out wr HFB.out)
       have hXs : XC.size ≤ 1099511627776 := by rw [HI.out.1]; exact HSz.out s HI.out.2.1 HI.out.2.2.1
       have ts1 : True := trivial
       have ts2 : True := trivial
       by_cases hlt : j < nk
       · have hji : (j : Int) < nk := by omega
         obtain ⟨kk, hkk⟩ : ∃ q, ks[j]? = some q := ⟨_, List.getElem?_eq_getElem (by rw [HNK.out]; exact hlt)⟩
         have HR0 : Hid (stepT p XC kk = stepK p.threads s kk) := by
          show stepT p XC kk = _
          unfold stepT
          rw [HI.out.1, HRd.out s HI.out.2.1 HI.out.2.2.1]
         have hStp0 := fun W (h : MM W p bz bp bs be bt) => hM2G XC hXs kk bz bp bs be bt W h
         have hRs0 := fun W (h1 : PGV W vt vr vl vi vj p) (h2 : STV W s v1 v2 v3 v4 v5) => hRsG s HI.out.2.1 HI.out.2.2.2.1 kk W v1 v2 v3 v4 v5 h1 h2
         rw [HR0.out] at hStp0
         obtain ⟨gk, okk, ek, hbk0, rk0⟩ := pkL_range (HK.out.below (HBW.out wr HFB.out)) hkk
         subst ek
         clear hkk HR0
         go_wp2_with (first
          | (clear ts1; refine wpList_loadW rfl 57 _ rfl rfl C0 _ Try.underlying57 rfl infoMc ?_)
          | (clear ts2; refine wpList_loadW rfl 28 _ rfl rfl P0 _ Try.underlying28 rfl infoPg ?_)
          | (go_at_call 22; refine (hAt XC hXs _ M0 PV0).mono ?_; rintro e W2 ⟨rfl, X2⟩))
         have C2 := C0.grown X2
         have M2 := M0.below X2
         have hbk : gk < W2.heap.size := Nat.lt_of_lt_of_le hbk0 X2.size
         have rk : W2.rangeAt gk (okk + j * 3) (pkL kk) := range_below rk0 hbk0 X2
         have HSV2 : Hid (STV W2 s v1 v2 v3 v4 v5) := HSV.out.below X2
         have HS2 : Hid (IsS W2 b10 32 [v1, v2, v3, v4, v5, .int .i64 (-1)]) := HS.out.grown X2
         have HP20 : Hid (IsS W2 b3 28 [vt, vr, vl, vi, vj]) := P0.grown X2
         have HPV2 : Hid (PGV W2 vt vr vl vi vj p) := PV0.below X2
         have HF2 : Hid (Below N V2 W2) := HFB.out.trans (X2.mono (Nat.le_trans HN2.out HFB.out.size))
         have hbkW : True := trivial
         clear HSV HS HFB P0 PV0 C0 M0 X2 rk0
         cases hr : stepK p.threads s kk with
         | none =>
          simp only [hr, stpV_none] at hStp0
          have hRs := fun W h1 h2 => (hRs0 W h1 h2).mono fun e w' q => q.1 hr
          have hStp := hStp0
          clear hRs0 hStp0 hr
          refine grow_allW (by kernel_rfl) (by kernel_rfl) ?_
          refine WG.put rfl (v := (.pointer (some ⟨b8, 2, none⟩))) (fun w => by first | rfl | (go_simp; done) | (simp [go_sem, hji]; done) | (simp [execOp, go_sem, hji]; done)) ?_; simp only [sP]
          refine WG.load1 rfl 54 _ rfl rfl (C2) (v := (.func (.func 67) #[] #[.pointer (some ⟨bz, 0, none⟩), .pointer (some ⟨bs, 0, none⟩)])) rfl (fun w h => by simp [go_sem, h]) ?_; simp only [sP]
          refine WG.put rfl (v := (.string XC)) (fun w => by first | rfl | (go_simp; done) | (simp [go_sem, hji]; done) | (simp [execOp, go_sem, hji]; done)) ?_; simp only [sP]
          refine WG.put rfl (v := (.slice (some ⟨gk, okk, none⟩) nk ck)) (fun w => by first | rfl | (go_simp; done) | (simp [go_sem, hji]; done) | (simp [execOp, go_sem, hji]; done)) ?_; simp only [sP]
          refine WG.put rfl (v := (.int .i64 (j : Int))) (fun w => by first | rfl | (go_simp; done) | (simp [go_sem, hji]; done) | (simp [execOp, go_sem, hji]; done)) ?_; simp only [sP]
          refine WG.put rfl (v := (.pointer (some ⟨gk, okk + j * 3, none⟩))) (fun w => by first | rfl | (go_simp; done) | (simp [go_sem, hji]; done) | (simp [execOp, go_sem, hji]; done)) ?_; simp only [sP]
          refine WG.range rfl 68 _ rfl rfl (pkL kk) hbk rk _ Try.underlying68 rfl infoPk3 ?_; simp only [sP]
          refine WG.call rfl (f := 67) (v := (.tuple #[.string ⟨#[]⟩, .bool false])) (fun W hB => hStp W (M2.below hB)) (fun w => by first | rfl | (go_simp; done) | (simp [execOp, go_sem]; done)) ?_; simp only [sP]
          refine WG.put rfl (v := (.tuple #[.string ⟨#[]⟩, .bool false])) (fun w => by first | rfl | (go_simp; done) | (simp [go_sem, hji]; done) | (simp [execOp, go_sem, hji]; done)) ?_; simp only [sP]
          refine WG.put rfl (v := (.string ⟨#[]⟩)) (fun w => by first | rfl | (go_simp; done) | (simp [go_sem, hji]; done) | (simp [execOp, go_sem, hji]; done)) ?_; simp only [sP]
          refine WG.put rfl (v := (.bool false)) (fun w => by first | rfl | (go_simp; done) | (simp [go_sem, hji]; done) | (simp [execOp, go_sem, hji]; done)) ?_; simp only [sP]
          refine WG.put rfl (v := (.string ⟨#[]⟩)) (fun w => by first | rfl | (go_simp; done) | (simp [go_sem, hji]; done) | (simp [execOp, go_sem, hji]; done)) ?_; simp only [sP]
          refine WG.put rfl (v := (.bool false)) (fun w => by first | rfl | (go_simp; done) | (simp [go_sem, hji]; done) | (simp [execOp, go_sem, hji]; done)) ?_; simp only [sP]
          refine WG.nil ?_
          intro W3 X3
          have P3 := HP20.out.grown X3
          have S3 := HS2.out.grown X3
          have SV3 := HSV2.out.below X3
          have PV3 := HPV2.out.below X3
          have rk3 : ∀ V, Below W3.heap.size W3 V → V.rangeAt gk (okk + j * 3) (pkL kk) := fun V hV => range_below (range_below rk hbk X3) (Nat.lt_of_lt_of_le hbk X3.size) hV
          have HF3 : Hid (Below N V2 W3) := HF2.out.trans (X3.mono (Nat.le_trans HN2.out HF2.out.size))
          clear HP20 HS2 HSV2 HPV2 HF2 X3 rk C2 M2 hStp
          go_wp2_with fail
          refine region_invA 12 (fun a0 listed a' w' => ∃ x110 x111 x112 x113 x114 x115 x116 x109 x117 x118 x18 : Value, a' = (((((((((((a0.put (some 110) x110).put (some 111) x111).put (some 112) x112).put (some 113) x113).put (some 114) x114).put (some 115) x115).put (some 116) x116).put (some 109) x109).put (some 117) x117).put (some 118) x118).put (some 18) x18) ∧ Hid (Below W3.heap.size W3 w') ∧ (listed.getD 11 false = true → listed.getD 10 false = true) ∧ (listed.getD 0 false = true → x110 = (.agg [vt, vr, vl, vi, vj].toArray)) ∧ (listed.getD 1 false = true → x111 = (.agg [v1, v2, v3, v4, v5, .int .i64 (-1)].toArray)) ∧ (listed.getD 2 false = true → x112 = (.slice (some ⟨gk, okk, none⟩) nk ck)) ∧ (listed.getD 3 false = true → x113 = (.int .i64 (j : Int))) ∧ (listed.getD 4 false = true → x114 = (.pointer (some ⟨gk, okk + j * 3, none⟩))) ∧ (listed.getD 5 false = true → x115 = (.agg (pkL kk).toArray)) ∧ (listed.getD 6 false = true → x116 = (.tuple #[.agg zst.toArray, .bool false])) ∧ (listed.getD 7 false = true → x109 = (.tuple #[.agg zst.toArray, .bool false])) ∧ (listed.getD 8 false = true → x117 = (.agg zst.toArray)) ∧ (listed.getD 9 false = true → x118 = (.bool false)) ∧ (listed.getD 10 false = true → ∃ b18, x18 = .pointer (some ⟨b18, 0, none⟩) ∧ W3.heap.size ≤ b18 ∧ ∃ cs : List Value, cs.length = (zst : List Value).length ∧ IsS w' b18 32 cs) ∧ (listed.getD 11 false = true → ∃ b18, x18 = .pointer (some ⟨b18, 0, none⟩) ∧ IsS w' b18 32 zst)) (by kernel_rfl) (by kernel_rfl) ?i0n ?istepn ?iendn
          case i0n => exact ⟨_, _, _, _, _, _, _, _, _, _, _, by (try simp only [sP]) <;> rfl, below_drew bR, fun h => (not_rep h).elim, fun h => (not_rep h).elim, fun h => (not_rep h).elim, fun h => (not_rep h).elim, fun h => (not_rep h).elim, fun h => (not_rep h).elim, fun h => (not_rep h).elim, fun h => (not_rep h).elim, fun h => (not_rep h).elim, fun h => (not_rep h).elim, fun h => (not_rep h).elim, fun h => (not_rep h).elim, fun h => (not_rep h).elim⟩
          case istepn =>
           rintro i listed a' w' hi hr ⟨x110, x111, x112, x113, x114, x115, x116, x109, x117, x118, x18, rfl, HBw, m11_10, d0, d1, d2, d3, d4, d5, d6, d7, d8, d9, d10, d11⟩
           obtain ⟨hun, oj, hoj, hwt⟩ := mem_ready.1 hr
           simp only [sP]
           have hcase : i = 0 ∨ i = 1 ∨ i = 2 ∨ i = 3 ∨ i = 4 ∨ i = 5 ∨ i = 6 ∨ i = 7 ∨ i = 8 ∨ i = 9 ∨ i = 10 ∨ i = 11 := by omega
           rcases hcase with rfl | rfl | rfl | rfl | rfl | rfl | rfl | rfl | rfl | rfl | rfl | rfl
           · have hoj2 := hoj
             obtain rfl := oI hoj
             refine wpOp_value hoj2 rfl (v := (.agg [vt, vr, vl, vi, vj].toArray)) (w' := w') (exec_loadSX rfl rfl (P3.grown HBw.out) Try.underlying28 rfl infoPg) ?_
             exact ⟨(.agg [vt, vr, vl, vi, vj].toArray), x111, x112, x113, x114, x115, x116, x109, x117, x118, x18, by (try simp only [sP]) <;> rfl, Below.then HBw.out bR, fun h => keepT (m11_10 (kp h)), fun _ => rfl, d1 ∘ kq, d2 ∘ kq, d3 ∘ kq, d4 ∘ kq, d5 ∘ kq, d6 ∘ kq, d7 ∘ kq, d8 ∘ kq, d9 ∘ kq, fun h => (eE (d10 (kp h)) fun b h => ⟨b, h.1, h.2.1, eE h.2.2 fun cs h => ⟨cs, h.1, h.2.grown bR⟩⟩), fun h => (eE (d11 (kp h)) fun b h => ⟨b, h.1, h.2.grown bR⟩)⟩
           · have hoj2 := hoj
             obtain rfl := oI hoj
             refine wpOp_value hoj2 rfl (v := (.agg [v1, v2, v3, v4, v5, .int .i64 (-1)].toArray)) (w' := w') (exec_loadSX rfl rfl (S3.grown HBw.out) Try.underlying32 rfl infoSt) ?_
             exact ⟨x110, (.agg [v1, v2, v3, v4, v5, .int .i64 (-1)].toArray), x112, x113, x114, x115, x116, x109, x117, x118, x18, by (try simp only [sP]) <;> rfl, Below.then HBw.out bR, fun h => keepT (m11_10 (kp h)), d0 ∘ kq, fun _ => rfl, d2 ∘ kq, d3 ∘ kq, d4 ∘ kq, d5 ∘ kq, d6 ∘ kq, d7 ∘ kq, d8 ∘ kq, d9 ∘ kq, fun h => (eE (d10 (kp h)) fun b h => ⟨b, h.1, h.2.1, eE h.2.2 fun cs h => ⟨cs, h.1, h.2.grown bR⟩⟩), fun h => (eE (d11 (kp h)) fun b h => ⟨b, h.1, h.2.grown bR⟩)⟩
           · have hoj2 := hoj
             obtain rfl := oI hoj
             refine wpOp_value hoj2 rfl (v := (.slice (some ⟨gk, okk, none⟩) nk ck)) (w' := w') (by first | rfl | (go_simp; done) | (simp [go_sem]; done) | (simp [execOp, go_sem]; done)) ?_
             exact ⟨x110, x111, (.slice (some ⟨gk, okk, none⟩) nk ck), x113, x114, x115, x116, x109, x117, x118, x18, by (try simp only [sP]) <;> rfl, Below.then HBw.out bR, fun h => keepT (m11_10 (kp h)), d0 ∘ kq, d1 ∘ kq, fun _ => rfl, d3 ∘ kq, d4 ∘ kq, d5 ∘ kq, d6 ∘ kq, d7 ∘ kq, d8 ∘ kq, d9 ∘ kq, fun h => (eE (d10 (kp h)) fun b h => ⟨b, h.1, h.2.1, eE h.2.2 fun cs h => ⟨cs, h.1, h.2.grown bR⟩⟩), fun h => (eE (d11 (kp h)) fun b h => ⟨b, h.1, h.2.grown bR⟩)⟩
           · have hoj2 := hoj
             obtain rfl := oI hoj
             refine wpOp_value hoj2 rfl (v := (.int .i64 (j : Int))) (w' := w') (by first | rfl | (go_simp; done) | (simp [go_sem]; done) | (simp [execOp, go_sem]; done)) ?_
             exact ⟨x110, x111, x112, (.int .i64 (j : Int)), x114, x115, x116, x109, x117, x118, x18, by (try simp only [sP]) <;> rfl, Below.then HBw.out bR, fun h => keepT (m11_10 (kp h)), d0 ∘ kq, d1 ∘ kq, d2 ∘ kq, fun _ => rfl, d4 ∘ kq, d5 ∘ kq, d6 ∘ kq, d7 ∘ kq, d8 ∘ kq, d9 ∘ kq, fun h => (eE (d10 (kp h)) fun b h => ⟨b, h.1, h.2.1, eE h.2.2 fun cs h => ⟨cs, h.1, h.2.grown bR⟩⟩), fun h => (eE (d11 (kp h)) fun b h => ⟨b, h.1, h.2.grown bR⟩)⟩
           · have hoj2 := hoj
             obtain rfl := oI hoj
             have e2 := d2 (hwt ⟨2, .data⟩ (by simp) rfl)
             have e3 := d3 (hwt ⟨3, .data⟩ (by simp) rfl)
             subst e2 e3
             refine wpOp_value hoj2 rfl (v := (.pointer (some ⟨gk, okk + j * 3, none⟩))) (w' := w') (by first | (simp [execOp, go_sem, hji]; done) | rfl) ?_
             exact ⟨x110, x111, (.slice (some ⟨gk, okk, none⟩) nk ck), (.int .i64 (j : Int)), (.pointer (some ⟨gk, okk + j * 3, none⟩)), x115, x116, x109, x117, x118, x18, by (try simp only [sP]) <;> rfl, Below.then HBw.out bR, fun h => keepT (m11_10 (kp h)), d0 ∘ kq, d1 ∘ kq, d2 ∘ kq, d3 ∘ kq, fun _ => rfl, d5 ∘ kq, d6 ∘ kq, d7 ∘ kq, d8 ∘ kq, d9 ∘ kq, fun h => (eE (d10 (kp h)) fun b h => ⟨b, h.1, h.2.1, eE h.2.2 fun cs h => ⟨cs, h.1, h.2.grown bR⟩⟩), fun h => (eE (d11 (kp h)) fun b h => ⟨b, h.1, h.2.grown bR⟩)⟩
           · have hoj2 := hoj
             obtain rfl := oI hoj
             have e4 := d4 (hwt ⟨4, .data⟩ (by simp) rfl)
             subst e4
             refine wpOp_value hoj2 rfl (v := (.agg (pkL kk).toArray)) (w' := w') (exec_rangeP rfl rfl hbkW (rk3 _ HBw.out) Try.underlying68 rfl infoPk3) ?_
             exact ⟨x110, x111, x112, x113, (.pointer (some ⟨gk, okk + j * 3, none⟩)), (.agg (pkL kk).toArray), x116, x109, x117, x118, x18, by (try simp only [sP]) <;> rfl, Below.then HBw.out bR, fun h => keepT (m11_10 (kp h)), d0 ∘ kq, d1 ∘ kq, d2 ∘ kq, d3 ∘ kq, d4 ∘ kq, fun _ => rfl, d6 ∘ kq, d7 ∘ kq, d8 ∘ kq, d9 ∘ kq, fun h => (eE (d10 (kp h)) fun b h => ⟨b, h.1, h.2.1, eE h.2.2 fun cs h => ⟨cs, h.1, h.2.grown bR⟩⟩), fun h => (eE (d11 (kp h)) fun b h => ⟨b, h.1, h.2.grown bR⟩)⟩
           · have hoj2 := hoj
             obtain rfl := oI hoj
             have e0 := d0 (hwt ⟨0, .data⟩ (by simp) rfl)
             have e1 := d1 (hwt ⟨1, .data⟩ (by simp) rfl)
             have e5 := d5 (hwt ⟨5, .data⟩ (by simp) rfl)
             subst e0 e1 e5
             refine wpOp_call hoj2 rfl (f := 23) (args := #[(.agg [vt, vr, vl, vi, vj].toArray), (.agg [v1, v2, v3, v4, v5, .int .i64 (-1)].toArray), (.agg (pkL kk).toArray)]) (by first | rfl | (go_simp; done) | (simp [go_sem]; done) | (simp [execOp, go_sem]; done)) ?_
             refine (hRs w' (PV3.below HBw.out) (SV3.below HBw.out)).mono ?_
             rintro e w4 ⟨rfl, B4⟩
             refine ⟨_, rfl, ?_⟩
             exact ⟨(.agg [vt, vr, vl, vi, vj].toArray), (.agg [v1, v2, v3, v4, v5, .int .i64 (-1)].toArray), x112, x113, x114, (.agg (pkL kk).toArray), _, x109, x117, x118, x18, by (try simp only [sP]) <;> rfl, Below.then HBw.out B4, fun h => keepT (m11_10 (kp h)), d0 ∘ kq, d1 ∘ kq, d2 ∘ kq, d3 ∘ kq, d4 ∘ kq, d5 ∘ kq, fun _ => rfl, d7 ∘ kq, d8 ∘ kq, d9 ∘ kq, fun h => (eE (d10 (kp h)) fun b h => ⟨b, h.1, h.2.1, eE h.2.2 fun cs h => ⟨cs, h.1, h.2.grown B4⟩⟩), fun h => (eE (d11 (kp h)) fun b h => ⟨b, h.1, h.2.grown B4⟩)⟩
           · have hoj2 := hoj
             obtain rfl := oI hoj
             have e6 := d6 (hwt ⟨6, .data⟩ (by simp) rfl)
             subst e6
             refine wpOp_value hoj2 rfl (v := (.tuple #[.agg zst.toArray, .bool false])) (w' := w') (by first | rfl | (go_simp; done) | (simp [go_sem]; done) | (simp [execOp, go_sem]; done)) ?_
             exact ⟨x110, x111, x112, x113, x114, x115, (.tuple #[.agg zst.toArray, .bool false]), (.tuple #[.agg zst.toArray, .bool false]), x117, x118, x18, by (try simp only [sP]) <;> rfl, Below.then HBw.out bR, fun h => keepT (m11_10 (kp h)), d0 ∘ kq, d1 ∘ kq, d2 ∘ kq, d3 ∘ kq, d4 ∘ kq, d5 ∘ kq, d6 ∘ kq, fun _ => rfl, d8 ∘ kq, d9 ∘ kq, fun h => (eE (d10 (kp h)) fun b h => ⟨b, h.1, h.2.1, eE h.2.2 fun cs h => ⟨cs, h.1, h.2.grown bR⟩⟩), fun h => (eE (d11 (kp h)) fun b h => ⟨b, h.1, h.2.grown bR⟩)⟩
           · have hoj2 := hoj
             obtain rfl := oI hoj
             have e7 := d7 (hwt ⟨7, .data⟩ (by simp) rfl)
             subst e7
             refine wpOp_value hoj2 rfl (v := (.agg zst.toArray)) (w' := w') (by first | rfl | (go_simp; done) | (simp [go_sem]; done) | (simp [execOp, go_sem]; done)) ?_
             exact ⟨x110, x111, x112, x113, x114, x115, x116, (.tuple #[.agg zst.toArray, .bool false]), (.agg zst.toArray), x118, x18, by (try simp only [sP]) <;> rfl, Below.then HBw.out bR, fun h => keepT (m11_10 (kp h)), d0 ∘ kq, d1 ∘ kq, d2 ∘ kq, d3 ∘ kq, d4 ∘ kq, d5 ∘ kq, d6 ∘ kq, d7 ∘ kq, fun _ => rfl, d9 ∘ kq, fun h => (eE (d10 (kp h)) fun b h => ⟨b, h.1, h.2.1, eE h.2.2 fun cs h => ⟨cs, h.1, h.2.grown bR⟩⟩), fun h => (eE (d11 (kp h)) fun b h => ⟨b, h.1, h.2.grown bR⟩)⟩
           · have hoj2 := hoj
             obtain rfl := oI hoj
             have e7 := d7 (hwt ⟨7, .data⟩ (by simp) rfl)
             subst e7
             refine wpOp_value hoj2 rfl (v := (.bool false)) (w' := w') (by first | rfl | (go_simp; done) | (simp [go_sem]; done) | (simp [execOp, go_sem]; done)) ?_
             exact ⟨x110, x111, x112, x113, x114, x115, x116, (.tuple #[.agg zst.toArray, .bool false]), x117, (.bool false), x18, by (try simp only [sP]) <;> rfl, Below.then HBw.out bR, fun h => keepT (m11_10 (kp h)), d0 ∘ kq, d1 ∘ kq, d2 ∘ kq, d3 ∘ kq, d4 ∘ kq, d5 ∘ kq, d6 ∘ kq, d7 ∘ kq, d8 ∘ kq, fun _ => rfl, fun h => (eE (d10 (kp h)) fun b h => ⟨b, h.1, h.2.1, eE h.2.2 fun cs h => ⟨cs, h.1, h.2.grown bR⟩⟩), fun h => (eE (d11 (kp h)) fun b h => ⟨b, h.1, h.2.grown bR⟩)⟩
           · have hoj2 := hoj
             obtain rfl := oI hoj
             refine wpOp_value hoj2 rfl (run_allocS 32 zst zeroSt rfl _ w') ?_
             have B9 := F_b (Fresh.alloc w' (.cells (zst : List Value).toArray 32))
             exact ⟨x110, x111, x112, x113, x114, x115, x116, x109, x117, x118, _, by (try simp only [sP]) <;> rfl, Below.then HBw.out B9, fun h => keepT (m11_10 (kp h)), d0 ∘ kq, d1 ∘ kq, d2 ∘ kq, d3 ∘ kq, d4 ∘ kq, d5 ∘ kq, d6 ∘ kq, d7 ∘ kq, d8 ∘ kq, d9 ∘ kq, fun _ => ⟨_, rfl, HBw.out.size, zst, rfl, IsS.new w' 32 zst⟩, fun h => absurd (m11_10 (kp h)) (by rw [getD_both hun]; simp)⟩
           · have hoj2 := hoj
             obtain rfl := oI hoj
             have e10 := d10 (hwt ⟨10, .data⟩ (by simp) rfl)
             have e8 := d8 (hwt ⟨8, .data⟩ (by simp) rfl)
             obtain ⟨b18, rfl, hb18, cs9, hl9, I9⟩ := e10
             subst e8
             refine wpOp_storeW hoj2 rfl 32 _ _ rfl rfl zst rfl I9 (by rw [hl9]) infoSt zst_one ?_
             intro W6 U6 I6
             exact ⟨x110, x111, x112, x113, x114, x115, x116, x109, _, x118, _, by (try simp only [sP]) <;> rfl, U6.trans HBw.out hb18, fun _ => keepT (hwt ⟨10, .data⟩ (by simp) rfl), d0 ∘ kq, d1 ∘ kq, d2 ∘ kq, d3 ∘ kq, d4 ∘ kq, d5 ∘ kq, d6 ∘ kq, d7 ∘ kq, d8 ∘ kq, d9 ∘ kq, fun h => ⟨b18, rfl, hb18, zst, (by rfl), I6⟩, fun _ => ⟨b18, rfl, I6⟩⟩
          case iendn =>
           rintro a' w' ⟨x110, x111, x112, x113, x114, x115, x116, x109, x117, x118, x18, rfl, HBw, m11_10, d0, d1, d2, d3, d4, d5, d6, d7, d8, d9, d10, d11⟩
           replace d0 := d0 rfl
           replace d1 := d1 rfl
           replace d2 := d2 rfl
           replace d3 := d3 rfl
           replace d4 := d4 rfl
           replace d5 := d5 rfl
           replace d6 := d6 rfl
           replace d7 := d7 rfl
           replace d8 := d8 rfl
           replace d9 := d9 rfl
           replace d10 := d10 rfl
           replace d11 := d11 rfl
           clear m11_10
           simp only [sP]
           simp only [List.drop_succ_cons, List.drop_zero]
           obtain ⟨b18, ex18, J18⟩ := d11
           have X4 := HBw.out
           have HSV4 : Hid (STV w' s v1 v2 v3 v4 v5) := SV3.below X4
           have HS4 : Hid (IsS w' b10 32 [v1, v2, v3, v4, v5, .int .i64 (-1)]) := S3.grown X4
           have HF4 : Hid (Below N V2 w') := HF3.out.trans (X4.mono (Nat.le_trans HN2.out HF3.out.size))
           subst d0 d1 d2 d3 d4 d5 d6 d7 d8 d9 ex18
           clear HBw d10 J18 X4 P3 S3 SV3 PV3 HF3 rk3
           go_wp2_with fail
           go_roundw
           case rel => exact ⟨j + 1, s, XC, v1, v2, v3, v4, v5, by omega, by go_num, rfl, HI, HSV4, HS4, HF4⟩
           case measure => simp [intOf]; omega
         | some s' =>
          obtain ⟨hf', hw', hl', hp'⟩ := HKeep.out s s' kk HI.out.2.1 HI.out.2.2.1 hr
          obtain ⟨Y, hY⟩ : ∃ Y : ByteArray, Y = ⟨(textS s').toArray⟩ := ⟨_, rfl⟩
          simp only [hr, stpV_some, ← hY] at hStp0
          have hRs := fun W h1 h2 => (hRs0 W h1 h2).mono fun e w' q => q.2 s' hr
          have hTx1 := fun W u1 u2 u3 u4 u5 (h : STV W s' u1 u2 u3 u4 u5) => hTxG s' hf' hw' W u1 u2 u3 u4 u5 h
          rw [HI.out.2.2.2.2] at hl'
          simp only [← hY, hl'] at hTx1
          have HI' : Hid (Y = ⟨(textS s').toArray⟩ ∧ Fits (shpOf p) s' ∧ Wid s' ∧ plainB s' = true ∧ s'.lock = -1) := ⟨hY, hf', hw', hp', hl'⟩
          have hStp := hStp0
          clear hRs0 hStp0 hr hf' hw' hl' hp' hY
          refine grow_allW (by kernel_rfl) (by kernel_rfl) ?_
          refine WG.put rfl (v := (.pointer (some ⟨b8, 2, none⟩))) (fun w => by first | rfl | (go_simp; done) | (simp [go_sem, hji]; done) | (simp [execOp, go_sem, hji]; done)) ?_; simp only [sP]
          refine WG.load1 rfl 54 _ rfl rfl (C2) (v := (.func (.func 67) #[] #[.pointer (some ⟨bz, 0, none⟩), .pointer (some ⟨bs, 0, none⟩)])) rfl (fun w h => by simp [go_sem, h]) ?_; simp only [sP]
          refine WG.put rfl (v := (.string XC)) (fun w => by first | rfl | (go_simp; done) | (simp [go_sem, hji]; done) | (simp [execOp, go_sem, hji]; done)) ?_; simp only [sP]
          refine WG.put rfl (v := (.slice (some ⟨gk, okk, none⟩) nk ck)) (fun w => by first | rfl | (go_simp; done) | (simp [go_sem, hji]; done) | (simp [execOp, go_sem, hji]; done)) ?_; simp only [sP]
          refine WG.put rfl (v := (.int .i64 (j : Int))) (fun w => by first | rfl | (go_simp; done) | (simp [go_sem, hji]; done) | (simp [execOp, go_sem, hji]; done)) ?_; simp only [sP]
          refine WG.put rfl (v := (.pointer (some ⟨gk, okk + j * 3, none⟩))) (fun w => by first | rfl | (go_simp; done) | (simp [go_sem, hji]; done) | (simp [execOp, go_sem, hji]; done)) ?_; simp only [sP]
          refine WG.range rfl 68 _ rfl rfl (pkL kk) hbk rk _ Try.underlying68 rfl infoPk3 ?_; simp only [sP]
          refine WG.call rfl (f := 67) (v := (.tuple #[.string Y, .bool true])) (fun W hB => hStp W (M2.below hB)) (fun w => by first | rfl | (go_simp; done) | (simp [execOp, go_sem]; done)) ?_; simp only [sP]
          refine WG.put rfl (v := (.tuple #[.string Y, .bool true])) (fun w => by first | rfl | (go_simp; done) | (simp [go_sem, hji]; done) | (simp [execOp, go_sem, hji]; done)) ?_; simp only [sP]
          refine WG.put rfl (v := (.string Y)) (fun w => by first | rfl | (go_simp; done) | (simp [go_sem, hji]; done) | (simp [execOp, go_sem, hji]; done)) ?_; simp only [sP]
          refine WG.put rfl (v := (.bool true)) (fun w => by first | rfl | (go_simp; done) | (simp [go_sem, hji]; done) | (simp [execOp, go_sem, hji]; done)) ?_; simp only [sP]
          refine WG.put rfl (v := (.string Y)) (fun w => by first | rfl | (go_simp; done) | (simp [go_sem, hji]; done) | (simp [execOp, go_sem, hji]; done)) ?_; simp only [sP]
          refine WG.put rfl (v := (.bool true)) (fun w => by first | rfl | (go_simp; done) | (simp [go_sem, hji]; done) | (simp [execOp, go_sem, hji]; done)) ?_; simp only [sP]
          refine WG.nil ?_
          intro W3 X3
          have P3 := HP20.out.grown X3
          have S3 := HS2.out.grown X3
          have SV3 := HSV2.out.below X3
          have PV3 := HPV2.out.below X3
          have rk3 : ∀ V, Below W3.heap.size W3 V → V.rangeAt gk (okk + j * 3) (pkL kk) := fun V hV => range_below (range_below rk hbk X3) (Nat.lt_of_lt_of_le hbk X3.size) hV
          have HF3 : Hid (Below N V2 W3) := HF2.out.trans (X3.mono (Nat.le_trans HN2.out HF2.out.size))
          clear HP20 HS2 HSV2 HPV2 HF2 X3 rk C2 M2 hStp
          go_wp2_with fail
          refine region_invA 12 (fun a0 listed a' w' => ∃ x110 x111 x112 x113 x114 x115 x116 x109 x117 x118 x18 : Value, a' = (((((((((((a0.put (some 110) x110).put (some 111) x111).put (some 112) x112).put (some 113) x113).put (some 114) x114).put (some 115) x115).put (some 116) x116).put (some 109) x109).put (some 117) x117).put (some 118) x118).put (some 18) x18) ∧ Hid (Below W3.heap.size W3 w') ∧ (listed.getD 7 false = true → listed.getD 6 false = true) ∧ (listed.getD 8 false = true → listed.getD 7 false = true) ∧ (listed.getD 11 false = true → listed.getD 10 false = true) ∧ (listed.getD 11 false = true → listed.getD 8 false = true) ∧ (listed.getD 0 false = true → x110 = (.agg [vt, vr, vl, vi, vj].toArray)) ∧ (listed.getD 1 false = true → x111 = (.agg [v1, v2, v3, v4, v5, .int .i64 (-1)].toArray)) ∧ (listed.getD 2 false = true → x112 = (.slice (some ⟨gk, okk, none⟩) nk ck)) ∧ (listed.getD 3 false = true → x113 = (.int .i64 (j : Int))) ∧ (listed.getD 4 false = true → x114 = (.pointer (some ⟨gk, okk + j * 3, none⟩))) ∧ (listed.getD 5 false = true → x115 = (.agg (pkL kk).toArray)) ∧ (listed.getD 6 false = true → ∃ u1 u2 u3 u4 u5, x116 = .tuple #[.agg #[u1, u2, u3, u4, u5, .int .i64 (-1)], .bool true] ∧ STk w' s' u1 u2 u3 u4 u5) ∧ (listed.getD 7 false = true → x109 = x116) ∧ (listed.getD 8 false = true → ∃ u1 u2 u3 u4 u5, x109 = .tuple #[.agg #[u1, u2, u3, u4, u5, .int .i64 (-1)], .bool true] ∧ x117 = .agg #[u1, u2, u3, u4, u5, .int .i64 (-1)] ∧ ∀ v ∈ ([u1, u2, u3, u4, u5, .int .i64 (-1)] : List Value), v.oneCell' = true) ∧ (listed.getD 9 false = true → x118 = .bool true) ∧ (listed.getD 10 false = true → ∃ b18, x18 = .pointer (some ⟨b18, 0, none⟩) ∧ W3.heap.size ≤ b18 ∧ ∃ cs : List Value, cs.length = (zst : List Value).length ∧ IsS w' b18 32 cs) ∧ (listed.getD 11 false = true → ∃ b18 u1 u2 u3 u4 u5, x18 = .pointer (some ⟨b18, 0, none⟩) ∧ x117 = .agg #[u1, u2, u3, u4, u5, .int .i64 (-1)] ∧ IsS w' b18 32 [u1, u2, u3, u4, u5, .int .i64 (-1)])) (by kernel_rfl) (by kernel_rfl) ?i0s ?isteps ?iends
          case i0s => exact ⟨_, _, _, _, _, _, _, _, _, _, _, by (try simp only [sP]) <;> rfl, below_drew bR, fun h => (not_rep h).elim, fun h => (not_rep h).elim, fun h => (not_rep h).elim, fun h => (not_rep h).elim, fun h => (not_rep h).elim, fun h => (not_rep h).elim, fun h => (not_rep h).elim, fun h => (not_rep h).elim, fun h => (not_rep h).elim, fun h => (not_rep h).elim, fun h => (not_rep h).elim, fun h => (not_rep h).elim, fun h => (not_rep h).elim, fun h => (not_rep h).elim, fun h => (not_rep h).elim, fun h => (not_rep h).elim⟩
          case isteps =>
           rintro i listed a' w' hi hr ⟨x110, x111, x112, x113, x114, x115, x116, x109, x117, x118, x18, rfl, HBw, m7_6, m8_7, m11_10, m11_8, d0, d1, d2, d3, d4, d5, d6, d7, d8, d9, d10, d11⟩
           obtain ⟨hun, oj, hoj, hwt⟩ := mem_ready.1 hr
           simp only [sP]
           have hcase : i = 0 ∨ i = 1 ∨ i = 2 ∨ i = 3 ∨ i = 4 ∨ i = 5 ∨ i = 6 ∨ i = 7 ∨ i = 8 ∨ i = 9 ∨ i = 10 ∨ i = 11 := by omega
           rcases hcase with rfl | rfl | rfl | rfl | rfl | rfl | rfl | rfl | rfl | rfl | rfl | rfl
           · have hoj2 := hoj
             obtain rfl := oI hoj
             refine wpOp_value hoj2 rfl (v := (.agg [vt, vr, vl, vi, vj].toArray)) (w' := w') (exec_loadSX rfl rfl (P3.grown HBw.out) Try.underlying28 rfl infoPg) ?_
             exact ⟨(.agg [vt, vr, vl, vi, vj].toArray), x111, x112, x113, x114, x115, x116, x109, x117, x118, x18, by (try simp only [sP]) <;> rfl, Below.then HBw.out bR, fun h => keepT (m7_6 (kp h)), fun h => keepT (m8_7 (kp h)), fun h => keepT (m11_10 (kp h)), fun h => keepT (m11_8 (kp h)), fun _ => rfl, d1 ∘ kq, d2 ∘ kq, d3 ∘ kq, d4 ∘ kq, d5 ∘ kq, fun h => (eE (d6 (kp h)) fun u1 h => eE h fun u2 h => eE h fun u3 h => eE h fun u4 h => eE h fun u5 h => ⟨u1, u2, u3, u4, u5, h.1, h.2.below bR⟩), d7 ∘ kq, d8 ∘ kq, d9 ∘ kq, fun h => (eE (d10 (kp h)) fun b h => ⟨b, h.1, h.2.1, eE h.2.2 fun cs h => ⟨cs, h.1, h.2.grown bR⟩⟩), fun h => (eE (d11 (kp h)) fun b18 h => (eE h fun u1 h => eE h fun u2 h => eE h fun u3 h => eE h fun u4 h => eE h fun u5 h => ⟨b18, u1, u2, u3, u4, u5, h.1, h.2.1, h.2.2.grown bR⟩))⟩
           · have hoj2 := hoj
             obtain rfl := oI hoj
             refine wpOp_value hoj2 rfl (v := (.agg [v1, v2, v3, v4, v5, .int .i64 (-1)].toArray)) (w' := w') (exec_loadSX rfl rfl (S3.grown HBw.out) Try.underlying32 rfl infoSt) ?_
             exact ⟨x110, (.agg [v1, v2, v3, v4, v5, .int .i64 (-1)].toArray), x112, x113, x114, x115, x116, x109, x117, x118, x18, by (try simp only [sP]) <;> rfl, Below.then HBw.out bR, fun h => keepT (m7_6 (kp h)), fun h => keepT (m8_7 (kp h)), fun h => keepT (m11_10 (kp h)), fun h => keepT (m11_8 (kp h)), d0 ∘ kq, fun _ => rfl, d2 ∘ kq, d3 ∘ kq, d4 ∘ kq, d5 ∘ kq, fun h => (eE (d6 (kp h)) fun u1 h => eE h fun u2 h => eE h fun u3 h => eE h fun u4 h => eE h fun u5 h => ⟨u1, u2, u3, u4, u5, h.1, h.2.below bR⟩), d7 ∘ kq, d8 ∘ kq, d9 ∘ kq, fun h => (eE (d10 (kp h)) fun b h => ⟨b, h.1, h.2.1, eE h.2.2 fun cs h => ⟨cs, h.1, h.2.grown bR⟩⟩), fun h => (eE (d11 (kp h)) fun b18 h => (eE h fun u1 h => eE h fun u2 h => eE h fun u3 h => eE h fun u4 h => eE h fun u5 h => ⟨b18, u1, u2, u3, u4, u5, h.1, h.2.1, h.2.2.grown bR⟩))⟩
           · have hoj2 := hoj
             obtain rfl := oI hoj
             refine wpOp_value hoj2 rfl (v := (.slice (some ⟨gk, okk, none⟩) nk ck)) (w' := w') (by first | rfl | (go_simp; done) | (simp [go_sem]; done) | (simp [execOp, go_sem]; done)) ?_
             exact ⟨x110, x111, (.slice (some ⟨gk, okk, none⟩) nk ck), x113, x114, x115, x116, x109, x117, x118, x18, by (try simp only [sP]) <;> rfl, Below.then HBw.out bR, fun h => keepT (m7_6 (kp h)), fun h => keepT (m8_7 (kp h)), fun h => keepT (m11_10 (kp h)), fun h => keepT (m11_8 (kp h)), d0 ∘ kq, d1 ∘ kq, fun _ => rfl, d3 ∘ kq, d4 ∘ kq, d5 ∘ kq, fun h => (eE (d6 (kp h)) fun u1 h => eE h fun u2 h => eE h fun u3 h => eE h fun u4 h => eE h fun u5 h => ⟨u1, u2, u3, u4, u5, h.1, h.2.below bR⟩), d7 ∘ kq, d8 ∘ kq, d9 ∘ kq, fun h => (eE (d10 (kp h)) fun b h => ⟨b, h.1, h.2.1, eE h.2.2 fun cs h => ⟨cs, h.1, h.2.grown bR⟩⟩), fun h => (eE (d11 (kp h)) fun b18 h => (eE h fun u1 h => eE h fun u2 h => eE h fun u3 h => eE h fun u4 h => eE h fun u5 h => ⟨b18, u1, u2, u3, u4, u5, h.1, h.2.1, h.2.2.grown bR⟩))⟩
           · have hoj2 := hoj
             obtain rfl := oI hoj
             refine wpOp_value hoj2 rfl (v := (.int .i64 (j : Int))) (w' := w') (by first | rfl | (go_simp; done) | (simp [go_sem]; done) | (simp [execOp, go_sem]; done)) ?_
             exact ⟨x110, x111, x112, (.int .i64 (j : Int)), x114, x115, x116, x109, x117, x118, x18, by (try simp only [sP]) <;> rfl, Below.then HBw.out bR, fun h => keepT (m7_6 (kp h)), fun h => keepT (m8_7 (kp h)), fun h => keepT (m11_10 (kp h)), fun h => keepT (m11_8 (kp h)), d0 ∘ kq, d1 ∘ kq, d2 ∘ kq, fun _ => rfl, d4 ∘ kq, d5 ∘ kq, fun h => (eE (d6 (kp h)) fun u1 h => eE h fun u2 h => eE h fun u3 h => eE h fun u4 h => eE h fun u5 h => ⟨u1, u2, u3, u4, u5, h.1, h.2.below bR⟩), d7 ∘ kq, d8 ∘ kq, d9 ∘ kq, fun h => (eE (d10 (kp h)) fun b h => ⟨b, h.1, h.2.1, eE h.2.2 fun cs h => ⟨cs, h.1, h.2.grown bR⟩⟩), fun h => (eE (d11 (kp h)) fun b18 h => (eE h fun u1 h => eE h fun u2 h => eE h fun u3 h => eE h fun u4 h => eE h fun u5 h => ⟨b18, u1, u2, u3, u4, u5, h.1, h.2.1, h.2.2.grown bR⟩))⟩
           · have hoj2 := hoj
             obtain rfl := oI hoj
             have e2 := d2 (hwt ⟨2, .data⟩ (by simp) rfl)
             have e3 := d3 (hwt ⟨3, .data⟩ (by simp) rfl)
             subst e2 e3
             refine wpOp_value hoj2 rfl (v := (.pointer (some ⟨gk, okk + j * 3, none⟩))) (w' := w') (by first | (simp [execOp, go_sem, hji]; done) | rfl) ?_
             exact ⟨x110, x111, (.slice (some ⟨gk, okk, none⟩) nk ck), (.int .i64 (j : Int)), (.pointer (some ⟨gk, okk + j * 3, none⟩)), x115, x116, x109, x117, x118, x18, by (try simp only [sP]) <;> rfl, Below.then HBw.out bR, fun h => keepT (m7_6 (kp h)), fun h => keepT (m8_7 (kp h)), fun h => keepT (m11_10 (kp h)), fun h => keepT (m11_8 (kp h)), d0 ∘ kq, d1 ∘ kq, d2 ∘ kq, d3 ∘ kq, fun _ => rfl, d5 ∘ kq, fun h => (eE (d6 (kp h)) fun u1 h => eE h fun u2 h => eE h fun u3 h => eE h fun u4 h => eE h fun u5 h => ⟨u1, u2, u3, u4, u5, h.1, h.2.below bR⟩), d7 ∘ kq, d8 ∘ kq, d9 ∘ kq, fun h => (eE (d10 (kp h)) fun b h => ⟨b, h.1, h.2.1, eE h.2.2 fun cs h => ⟨cs, h.1, h.2.grown bR⟩⟩), fun h => (eE (d11 (kp h)) fun b18 h => (eE h fun u1 h => eE h fun u2 h => eE h fun u3 h => eE h fun u4 h => eE h fun u5 h => ⟨b18, u1, u2, u3, u4, u5, h.1, h.2.1, h.2.2.grown bR⟩))⟩
           · have hoj2 := hoj
             obtain rfl := oI hoj
             have e4 := d4 (hwt ⟨4, .data⟩ (by simp) rfl)
             subst e4
             refine wpOp_value hoj2 rfl (v := (.agg (pkL kk).toArray)) (w' := w') (exec_rangeP rfl rfl hbkW (rk3 _ HBw.out) Try.underlying68 rfl infoPk3) ?_
             exact ⟨x110, x111, x112, x113, (.pointer (some ⟨gk, okk + j * 3, none⟩)), (.agg (pkL kk).toArray), x116, x109, x117, x118, x18, by (try simp only [sP]) <;> rfl, Below.then HBw.out bR, fun h => keepT (m7_6 (kp h)), fun h => keepT (m8_7 (kp h)), fun h => keepT (m11_10 (kp h)), fun h => keepT (m11_8 (kp h)), d0 ∘ kq, d1 ∘ kq, d2 ∘ kq, d3 ∘ kq, d4 ∘ kq, fun _ => rfl, fun h => (eE (d6 (kp h)) fun u1 h => eE h fun u2 h => eE h fun u3 h => eE h fun u4 h => eE h fun u5 h => ⟨u1, u2, u3, u4, u5, h.1, h.2.below bR⟩), d7 ∘ kq, d8 ∘ kq, d9 ∘ kq, fun h => (eE (d10 (kp h)) fun b h => ⟨b, h.1, h.2.1, eE h.2.2 fun cs h => ⟨cs, h.1, h.2.grown bR⟩⟩), fun h => (eE (d11 (kp h)) fun b18 h => (eE h fun u1 h => eE h fun u2 h => eE h fun u3 h => eE h fun u4 h => eE h fun u5 h => ⟨b18, u1, u2, u3, u4, u5, h.1, h.2.1, h.2.2.grown bR⟩))⟩
           · have hoj2 := hoj
             obtain rfl := oI hoj
             have e0 := d0 (hwt ⟨0, .data⟩ (by simp) rfl)
             have e1 := d1 (hwt ⟨1, .data⟩ (by simp) rfl)
             have e5 := d5 (hwt ⟨5, .data⟩ (by simp) rfl)
             subst e0 e1 e5
             refine wpOp_call hoj2 rfl (f := 23) (args := #[(.agg [vt, vr, vl, vi, vj].toArray), (.agg [v1, v2, v3, v4, v5, .int .i64 (-1)].toArray), (.agg (pkL kk).toArray)]) (by first | rfl | (go_simp; done) | (simp [go_sem]; done) | (simp [execOp, go_sem]; done)) ?_
             refine (hRs w' (PV3.below HBw.out) (SV3.below HBw.out)).mono ?_
             rintro e w4 ⟨u1, u2, u3, u4, u5, rfl, K4, B4⟩
             refine ⟨_, rfl, ?_⟩
             exact ⟨(.agg [vt, vr, vl, vi, vj].toArray), (.agg [v1, v2, v3, v4, v5, .int .i64 (-1)].toArray), x112, x113, x114, (.agg (pkL kk).toArray), _, x109, x117, x118, x18, by (try simp only [sP]) <;> rfl, Below.then HBw.out B4, fun h => keepT (m7_6 (kp h)), fun h => keepT (m8_7 (kp h)), fun h => keepT (m11_10 (kp h)), fun h => keepT (m11_8 (kp h)), d0 ∘ kq, d1 ∘ kq, d2 ∘ kq, d3 ∘ kq, d4 ∘ kq, d5 ∘ kq, fun _ => ⟨u1, u2, u3, u4, u5, rfl, K4⟩, fun h => absurd (m7_6 (kp h)) (by rw [getD_both hun]; simp), d8 ∘ kq, d9 ∘ kq, fun h => (eE (d10 (kp h)) fun b h => ⟨b, h.1, h.2.1, eE h.2.2 fun cs h => ⟨cs, h.1, h.2.grown B4⟩⟩), fun h => (eE (d11 (kp h)) fun b18 h => (eE h fun u1 h => eE h fun u2 h => eE h fun u3 h => eE h fun u4 h => eE h fun u5 h => ⟨b18, u1, u2, u3, u4, u5, h.1, h.2.1, h.2.2.grown B4⟩))⟩
           · have hoj2 := hoj
             obtain rfl := oI hoj
             have e6 := d6 (hwt ⟨6, .data⟩ (by simp) rfl)
             refine wpOp_value hoj2 rfl (v := x116) (w' := w') (by first | rfl | (go_simp; done) | (simp [go_sem]; done) | (simp [execOp, go_sem]; done)) ?_
             exact ⟨x110, x111, x112, x113, x114, x115, x116, x116, x117, x118, x18, by (try simp only [sP]) <;> rfl, Below.then HBw.out bR, fun _ => keepT (hwt ⟨6, .data⟩ (by simp) rfl), fun h => keepT (m8_7 (kp h)), fun h => keepT (m11_10 (kp h)), fun h => keepT (m11_8 (kp h)), d0 ∘ kq, d1 ∘ kq, d2 ∘ kq, d3 ∘ kq, d4 ∘ kq, d5 ∘ kq, fun h => (eE (d6 (kp h)) fun u1 h => eE h fun u2 h => eE h fun u3 h => eE h fun u4 h => eE h fun u5 h => ⟨u1, u2, u3, u4, u5, h.1, h.2.below bR⟩), fun _ => rfl, fun h => absurd (m8_7 (kp h)) (by rw [getD_both hun]; simp), d9 ∘ kq, fun h => (eE (d10 (kp h)) fun b h => ⟨b, h.1, h.2.1, eE h.2.2 fun cs h => ⟨cs, h.1, h.2.grown bR⟩⟩), fun h => (eE (d11 (kp h)) fun b18 h => (eE h fun u1 h => eE h fun u2 h => eE h fun u3 h => eE h fun u4 h => eE h fun u5 h => ⟨b18, u1, u2, u3, u4, u5, h.1, h.2.1, h.2.2.grown bR⟩))⟩
           · have hoj2 := hoj
             obtain rfl := oI hoj
             have e7 := d7 (hwt ⟨7, .data⟩ (by simp) rfl)
             obtain ⟨u1, u2, u3, u4, u5, hT, hK6⟩ := d6 (m7_6 (hwt ⟨7, .data⟩ (by simp) rfl))
             have e109 := e7.trans hT
             have hone6 := st_one6 hK6
             refine wpOp_value hoj2 rfl (v := .agg #[u1, u2, u3, u4, u5, .int .i64 (-1)]) (w' := w') (by rw [e109]; first | rfl | (go_simp; done) | (simp [go_sem]; done) | (simp [execOp, go_sem]; done)) ?_
             exact ⟨x110, x111, x112, x113, x114, x115, x116, x109, _, x118, x18, by (try simp only [sP]) <;> rfl, Below.then HBw.out bR, fun h => keepT (m7_6 (kp h)), fun _ => keepT (hwt ⟨7, .data⟩ (by simp) rfl), fun h => keepT (m11_10 (kp h)), fun h => keepT (m11_8 (kp h)), d0 ∘ kq, d1 ∘ kq, d2 ∘ kq, d3 ∘ kq, d4 ∘ kq, d5 ∘ kq, fun h => (eE (d6 (kp h)) fun u1 h => eE h fun u2 h => eE h fun u3 h => eE h fun u4 h => eE h fun u5 h => ⟨u1, u2, u3, u4, u5, h.1, h.2.below bR⟩), d7 ∘ kq, fun _ => ⟨u1, u2, u3, u4, u5, e109, rfl, hone6⟩, d9 ∘ kq, fun h => (eE (d10 (kp h)) fun b h => ⟨b, h.1, h.2.1, eE h.2.2 fun cs h => ⟨cs, h.1, h.2.grown bR⟩⟩), fun h => absurd (m11_8 (kp h)) (by rw [getD_both hun]; simp)⟩
           · have hoj2 := hoj
             obtain rfl := oI hoj
             have e7 := d7 (hwt ⟨7, .data⟩ (by simp) rfl)
             obtain ⟨u1, u2, u3, u4, u5, hT, -⟩ := d6 (m7_6 (hwt ⟨7, .data⟩ (by simp) rfl))
             have e109 := e7.trans hT
             refine wpOp_value hoj2 rfl (v := .bool true) (w' := w') (by rw [e109]; first | rfl | (go_simp; done) | (simp [go_sem]; done) | (simp [execOp, go_sem]; done)) ?_
             exact ⟨x110, x111, x112, x113, x114, x115, x116, x109, x117, _, x18, by (try simp only [sP]) <;> rfl, Below.then HBw.out bR, fun h => keepT (m7_6 (kp h)), fun h => keepT (m8_7 (kp h)), fun h => keepT (m11_10 (kp h)), fun h => keepT (m11_8 (kp h)), d0 ∘ kq, d1 ∘ kq, d2 ∘ kq, d3 ∘ kq, d4 ∘ kq, d5 ∘ kq, fun h => (eE (d6 (kp h)) fun u1 h => eE h fun u2 h => eE h fun u3 h => eE h fun u4 h => eE h fun u5 h => ⟨u1, u2, u3, u4, u5, h.1, h.2.below bR⟩), d7 ∘ kq, d8 ∘ kq, fun _ => rfl, fun h => (eE (d10 (kp h)) fun b h => ⟨b, h.1, h.2.1, eE h.2.2 fun cs h => ⟨cs, h.1, h.2.grown bR⟩⟩), fun h => (eE (d11 (kp h)) fun b18 h => (eE h fun u1 h => eE h fun u2 h => eE h fun u3 h => eE h fun u4 h => eE h fun u5 h => ⟨b18, u1, u2, u3, u4, u5, h.1, h.2.1, h.2.2.grown bR⟩))⟩
           · have hoj2 := hoj
             obtain rfl := oI hoj
             refine wpOp_value hoj2 rfl (run_allocS 32 zst zeroSt rfl _ w') ?_
             have B9 := F_b (Fresh.alloc w' (.cells (zst : List Value).toArray 32))
             exact ⟨x110, x111, x112, x113, x114, x115, x116, x109, x117, x118, _, by (try simp only [sP]) <;> rfl, Below.then HBw.out B9, fun h => keepT (m7_6 (kp h)), fun h => keepT (m8_7 (kp h)), fun h => keepT (m11_10 (kp h)), fun h => keepT (m11_8 (kp h)), d0 ∘ kq, d1 ∘ kq, d2 ∘ kq, d3 ∘ kq, d4 ∘ kq, d5 ∘ kq, fun h => (eE (d6 (kp h)) fun u1 h => eE h fun u2 h => eE h fun u3 h => eE h fun u4 h => eE h fun u5 h => ⟨u1, u2, u3, u4, u5, h.1, h.2.below B9⟩), d7 ∘ kq, d8 ∘ kq, d9 ∘ kq, fun _ => ⟨_, rfl, HBw.out.size, zst, rfl, IsS.new w' 32 zst⟩, fun h => absurd (m11_10 (kp h)) (by rw [getD_both hun]; simp)⟩
           · have hoj2 := hoj
             obtain rfl := oI hoj
             have e10 := d10 (hwt ⟨10, .data⟩ (by simp) rfl)
             have e8 := d8 (hwt ⟨8, .data⟩ (by simp) rfl)
             obtain ⟨b18, rfl, hb18, cs9, hl9, I9⟩ := e10
             obtain ⟨u1, u2, u3, u4, u5, e109, rfl, hone6⟩ := e8
             refine wpOp_storeW hoj2 rfl 32 _ _ rfl rfl [u1, u2, u3, u4, u5, .int .i64 (-1)] rfl I9 (by rw [hl9]; rfl) infoSt hone6 ?_
             intro W6 U6 I6
             exact ⟨x110, x111, x112, x113, x114, x115, x116, x109, _, x118, _, by (try simp only [sP]) <;> rfl, U6.trans HBw.out hb18, fun h => keepT (m7_6 (kp h)), fun h => keepT (m8_7 (kp h)), fun _ => keepT (hwt ⟨10, .data⟩ (by simp) rfl), fun _ => keepT (hwt ⟨8, .data⟩ (by simp) rfl), d0 ∘ kq, d1 ∘ kq, d2 ∘ kq, d3 ∘ kq, d4 ∘ kq, d5 ∘ kq, fun h => (eE (d6 (kp h)) fun u1 h => eE h fun u2 h => eE h fun u3 h => eE h fun u4 h => eE h fun u5 h => ⟨u1, u2, u3, u4, u5, h.1, h.2.upd2 I9 U6 I6⟩), d7 ∘ kq, d8 ∘ kq, d9 ∘ kq, fun h => ⟨b18, rfl, hb18, [u1, u2, u3, u4, u5, .int .i64 (-1)], rfl, I6⟩, fun _ => ⟨b18, u1, u2, u3, u4, u5, rfl, rfl, I6⟩⟩
          case iends =>
           rintro a' w' ⟨x110, x111, x112, x113, x114, x115, x116, x109, x117, x118, x18, rfl, HBw, m7_6, m8_7, m11_10, m11_8, d0, d1, d2, d3, d4, d5, d6, d7, d8, d9, d10, d11⟩
           replace d0 := d0 rfl
           replace d1 := d1 rfl
           replace d2 := d2 rfl
           replace d3 := d3 rfl
           replace d4 := d4 rfl
           replace d5 := d5 rfl
           replace d6 := d6 rfl
           replace d7 := d7 rfl
           replace d8 := d8 rfl
           replace d9 := d9 rfl
           replace d10 := d10 rfl
           replace d11 := d11 rfl
           clear m7_6 m8_7 m11_10 m11_8
           simp only [sP]
           simp only [List.drop_succ_cons, List.drop_zero]
           obtain ⟨u1, u2, u3, u4, u5, e116, K4⟩ := d6
           obtain ⟨b18, w1, w2, w3, w4, w5, ex18, e117, J18⟩ := d11
           obtain ⟨z1, z2, z3, z4, z5', e109, e117b, -⟩ := d8
           have eqr := e117.symm.trans e117b
           cases eqr
           have eqq := (d7.trans e116).symm.trans e109
           cases eqq
           clear e117b
           have X4 := HBw.out
           have S4 := S3.grown X4
           have P4 := P3.grown X4
           have hone6 := st_one6 K4
           have F4 : Below N V2 w' := HF3.out.trans (X4.mono (Nat.le_trans HN2.out HF3.out.size))
           have ex109 := e109
           subst d0 d1 d2 d3 d4 d5
           rw [e116] at d7
           subst e116 d9 ex18 e117 d7
           clear HBw d10 X4 P3 S3 SV3 PV3 HF3 rk3 ex109 e109
           have tv1 : True := trivial
           have tv2 : True := trivial
           have tv3 : True := trivial
           have tv4 : True := trivial
           go_wp2_with (first
            | (clear tv1; refine wpList_loadW rfl 32 _ rfl rfl J18 _ Try.underlying32 rfl infoSt ?_)
            | (clear tv2; refine wpList_storeW rfl 32 _ _ rfl rfl [u1, u2, u3, u4, u5, .int .i64 (-1)] rfl S4 rfl infoSt hone6 ?_; intro W5 U5 S5; have SV5 := K4.upd S4 U5; have P5 := isS_updT P4 S4 (by decide) U5; have F5 := U5.trans F4 HB10.out; clear U5 S4 P4 J18)
            | (clear tv3; refine wpList_loadW rfl 28 _ rfl rfl P5 _ Try.underlying28 rfl infoPg ?_)
            | (clear tv4; refine wpList_loadW rfl 32 _ rfl rfl S5 _ Try.underlying32 rfl infoSt ?_)
            | (go_at_call 21; refine (hTx1 _ _ _ _ _ _ SV5).mono ?_; rintro e W6 ⟨rfl, X6⟩; have HSV6 : Hid (STV W6 s' u1 u2 u3 u4 u5) := SV5.below X6; have HS6 : Hid (IsS W6 b10 32 [u1, u2, u3, u4, u5, .int .i64 (-1)]) := S5.grown X6; have HF6 : Hid (Below N V2 W6) := F5.trans (X6.mono (Nat.le_trans HN2.out F5.size)); clear SV5 S5 F5 X6 P5))
           go_roundw
           case rel => exact ⟨j + 1, s', Y, u1, u2, u3, u4, u5, by omega, by go_num, rfl, HI', HSV6, HS6, HF6⟩
           case measure => simp [intOf]; omega
       · have hji : ¬ (j : Int) < nk := by omega
         have Bw := HBW.out wr HFB.out
         go_wp2_with (first
          | (clear ts1; refine wpList_loadW rfl 57 _ rfl rfl C0 _ Try.underlying57 rfl infoMc ?_)
          | (clear ts2; refine wpList_loadW rfl 28 _ rfl rfl P0 _ Try.underlying28 rfl infoPg ?_)
          | (go_at_call 22; refine (hAt XC hXs _ M0 PV0).mono ?_; rintro e W2 ⟨rfl, X2⟩))
         go_ret
         exact ⟨rfl, Below.then Bw X2⟩
 · have hst0 : stSt p = ST0 := by unfold stSt; rw [if_neg hv0]
   have hSt := fun W (h : PGV W vt vr vl vi vj p) => rstart_any p hf vt vr vl vi vj W h
   have hNew' := fun W a1 a2 a3 a4 a5 h => (hNew W a1 a2 a3 a4 a5 h).mono fun e w' q => q.1 hv0
   rw [hst0] at hSt
   obtain ⟨ev, hev⟩ : ∃ e, validV p = e := ⟨_, rfl⟩
   simp only [hev] at hSt hNew'
   rw [hev] at hv0
   have e1 : (ev == 0) = false := by simp [hv0]
   have e2 : (ev != 0) = true := by simp [hv0]
   have hzl : ST0.lock = 0 := rfl
   simp only [hzl] at hSt
   clear hp hf hpw hnk hk20 hK hst0 hev hNew hzl
   go_enter Try.func4, Try.ntmps4
   go_wp2_with (first
    | (clear t1; refine wpList_boxS rfl 28 _ rfl [vt, vr, vl, vi, vj] rfl ?_; intro W0 b3 F0 P0; have B0 := F_b F0; clear F0)
    | (clear t2; refine wpList_loadW rfl 28 _ rfl rfl P0 _ Try.underlying28 rfl infoPg ?_)
    | (go_at_call 9; refine (hCopy _ (HP.out.below B0)).mono ?_; rintro e W1 ⟨⟨c1, c2, c3, c4, c5, rfl, O1⟩, X1⟩; have hone7 := one5 O1.t.cell O1.r.cell (own_cell O1.l) O1.i.cell (own_cell O1.j); have P1 := P0.grown X1; have B1 := Below.then B0 X1; clear X1 P0 hCopy B0)
    | (clear t3; refine wpList_allocS rfl 28 rfl z5 zeroPg ?_; intro W2 b7 F2 I2; have P2 := P1.fresh F2; have O2 := O1.below (F_b F2); have B2 := F2.trans B1 B1.size; have hb7 : W1.heap.size ≤ b7 := Nat.le_of_eq F2.at'.symm; have n37 : b3 ≠ b7 := (by have := P1.lt; omega); clear F2 P1)
    | (clear t4; refine wpList_storeW rfl 28 _ _ rfl rfl [c1, c2, c3, c4, c5] rfl I2 rfl infoPg hone7 ?_; intro W3 U3 C3; have P3 := P2.upd U3 n37; have O3 := O2.upd I2 U3 (by decide); have B3 := U3.trans B2 (Nat.le_trans B1.size hb7); clear U3 P2 I2 B2 O2)
    | (clear t5; refine wpList_loadW rfl 28 _ rfl rfl C3 _ Try.underlying28 rfl infoPg ?_)
    | (go_at_call 19; refine (hNew' _ _ _ _ _ _ O3.pgv).mono ?_; rintro e W4 ⟨rfl, X4⟩; have P4 := P3.grown X4; have B4 := Below.then B3 X4; clear P3 C3 X4 hNew')
    | (clear t6; refine wpList_allocS rfl 57 rfl zmc zeroMc ?_; intro W5 b8 F5 I5; have P5 := P4.fresh F5; have B5 := F5.trans B4 B4.size; have hb8 : w.heap.size ≤ b8 := Nat.le_trans B4.size (Nat.le_of_eq F5.at'.symm); clear F5 P4)
    | (clear t7; refine wpList_storeW rfl 57 _ _ rfl rfl zmc rfl I5 rfl infoMc zmc_one ?_; intro W6 U6 M6; have P6 := isS_updT P5 I5 (by decide) U6; have B6 := U6.trans B5 hb8; clear U6 P5 I5)
    | (clear t8; refine wpList_loadW rfl 28 _ rfl rfl P6 _ Try.underlying28 rfl infoPg ?_)
    | (go_at_call 16; refine (hSt _ (HP.out.below B6)).mono ?_; rintro e W7 ⟨v1, v2, v3, v4, v5, rfl, SF7, X7⟩; have hone := stv_one 0 SF7; have M7 := M6.grown X7; have B7 := Below.then B6 X7; clear P6 M6 X7 hSt)
    | (clear t9; refine wpList_allocS rfl 32 rfl zst zeroSt ?_; intro W8 b10 F8 I8; have M8 := M7.fresh F8; have B8 := F8.trans B7 B7.size; have hb10 : w.heap.size ≤ b10 := Nat.le_trans B7.size (Nat.le_of_eq F8.at'.symm); clear F8 M7)
    | (clear ta; refine wpList_storeW rfl 32 _ _ rfl rfl [v1, v2, v3, v4, v5, .int .i64 0] rfl I8 rfl infoSt hone ?_; intro W9 U9 S9; have M9 := isS_updT M8 I8 (by decide) U9; have B9 := U9.trans B8 hb10; clear U9 M8 I8)
    | (clear tb; refine wpList_loadGW rfl 57 _ rfl rfl M9 _ Try.underlying57 rfl infoMc ?_)
    | (go_at_call 20; refine (right_no _).mono ?_; rintro e V0 ⟨rfl, XR⟩; have MV := M9.grown XR; have y0 : V0.cell? ⟨b8, 0, none⟩ = some (.string ⟨#[]⟩) := MV.cell 0; have BE := Below.then B9 XR; clear MV M9 XR))
   go_ret
   exact ⟨rfl, BE⟩
end Go.Proofs.Ytegpnicajlndlaa

/- LW2 -/
import Derived.Test.YtegpnicajlndlaaQbs
namespace Go.Proofs.Ytegpnicajlndlaa
open Go.RowKit M
set_option linter.unusedSimpArgs false
set_option linter.unusedVariables false
theorem stpV_none : stpV none = .tuple #[.string ⟨#[]⟩, .bool false] := rfl
theorem endV_none : endV none = .tuple #[.agg (finL []).toArray, .bool false] := rfl
theorem stpV_some (s : ST) : stpV (some s) = .tuple #[.string ⟨(textS s).toArray⟩, .bool true] := rfl
theorem endV_some (s : ST) : endV (some s) = .tuple #[.agg (finL (s.regs.flatten ++ s.mem)).toArray, .bool true] := rfl
theorem build_pk1 {w : World} {op : Oper} {a : Act} {x : Operand} (ho : op.op = .build 68 #[(1, x)]) (hx : a.eval x = .int .i64 1) : (execOp a.eval op).run Try.prog w = .ok (.value (.agg #[.int .i64 0, .int .i64 1, .int .i64 0])) w := by
 have h : Try.t68.zero = some (.agg #[.int .i64 0, .int .i64 0, .int .i64 0]) := by kernel_rfl
 generalize a.eval = ev at hx ⊢
 unfold execOp
 simp [ho, hx, go_sem, zeroValue, h]
theorem wpList_valueG {w : World} {ops : Array Oper} {rest : List Oper} {op : Oper} {a : Act} {Q : Exit → Act → World → Prop} {v : Value} (hw : Region.wanted op (yielded ops a.tmps) = true) (hr : (execOp a.eval op).run Try.prog w = .ok (.value v) w) (h : wpList Try.prog ops Q rest (a.put op.dst v) w) : wpList Try.prog ops Q (op :: rest) a w := by
 refine wpList_step fun K hK => ?_
 rw [if_pos hw]
 unfold Oper.wp
 rw [hr]
 exact hK _ _ h
section
variable {w : World} {ops : Array Oper} {rest : List Oper} {op : Oper} {a : Act} {Q : Exit → Act → World → Prop}
theorem wpList_loadO {b o t : Nat} {cs : List Value} {v : Value} (hgd : op.guard = none) (ty : TypeId) (x : Operand) (ho : op.op = .load ty x) (hx : a.eval x = .pointer (some ⟨b, o, none⟩)) (I : IsS w b t cs) (hv : cs[o]? = some v)
    (hl : ∀ w, w.cell? ⟨b, o, none⟩ = some v → (Instr.loadAt ty (.pointer (some ⟨b, o, none⟩))).run Try.prog w = .ok v w) (h : wpList Try.prog ops Q rest (a.put op.dst v) w) : wpList Try.prog ops Q (op :: rest) a w := by
 refine wpList_plain hgd fun K hK => ?_
 unfold Oper.wp execOp
 simp only [ho, hx, Sem.run_bind, hl w ((I.cell o).trans hv), Result.andThen_ok, Sem.run_pure]
 exact hK _ _ h
theorem wpList_storeM {b o t : Nat} {cs : List Value} (hgd : op.guard = none) (ty : TypeId) (x y : Operand) (ho : op.op = .store ty x y) (hx : a.eval x = .pointer (some ⟨b, o, none⟩)) (vs : List Value) (hy : a.eval y = .agg vs.toArray) (hc : IsS w b t cs) (hk : o + vs.length ≤ cs.length)
    (hf : (Try.prog.info? ty).map (·.size) = some vs.length) (h1 : ∀ v ∈ vs, v.oneCell' = true) (h : ∀ W cs', Upd w W b → cs'.length = cs.length → IsS W b t cs' → wpList Try.prog ops Q rest (a.put op.dst undef) W) : wpList Try.prog ops Q (op :: rest) a w := by
 refine wpList_store_mid hgd ty x y ho b o vs.toArray hx hy (hc.there o _ (by simpa using hk)) (by simpa using hf) (all_oneCell_toArray h1) ?_
 have := h _ _ (Upd.setCells b vs o w) (putL_len ..) (IsS.setL vs o cs w hc)
 simpa using this
end
theorem own_any3 {W : World} {B g t n c : Nat} {cs : List Value} (hB : B ≤ g) (I : IsS W g t cs) (hc : n ≤ c) (hm : c ≤ maxLen) (hl : cs.length = c * 3) : W.ownsRow B t 3 (.slice (some ⟨g, 0, none⟩) n c) n (cs.take (n * 3)) := by
 refine ⟨by rw [List.length_take]; omega, .inr ⟨g, c, cs.toArray, rfl, hB, I, hc, hm, by simp [hl], by simp⟩⟩
theorem own_opn3 {w : World} {B t n : Nat} {v : Value} {xs : List Value} (h : w.ownsRow B t 3 v n xs) (h0 : 0 < n) :
    ∃ g c cs, v = .slice (some ⟨g, 0, none⟩) n c ∧ B ≤ g ∧ IsS w g t cs ∧ n ≤ c ∧ c ≤ maxLen ∧ cs.length = c * 3 := by
 rcases h.2 with ⟨_, h1⟩ | ⟨g, cap, cur, hv, hg, hh, hc, hm, hs, ht⟩
 · omega
 · exact ⟨g, cap, cur.toList, hv, hg, by unfold IsS; rw [hh], hc, hm, by simpa using hs⟩
theorem pk_one3 {x : Int} : ∀ v ∈ [Value.int .i64 x, .int .i64 0, .int .i64 0], v.oneCell' = true := by
 intro v hv
 simp only [List.mem_cons, List.not_mem_nil, or_false] at hv
 rcases hv with rfl | rfl | rfl <;> rfl
theorem build_pk0 {w : World} {op : Oper} {a : Act} {x : Operand} {n : Int} (ho : op.op = .build 68 #[(0, x)]) (hx : a.eval x = .int .i64 n) : (execOp a.eval op).run Try.prog w = .ok (.value (.agg #[.int .i64 n, .int .i64 0, .int .i64 0])) w := by
 have h : Try.t68.zero = some (.agg #[.int .i64 0, .int .i64 0, .int .i64 0]) := by kernel_rfl
 generalize a.eval = ev at hx ⊢
 unfold execOp
 simp [ho, hx, go_sem, zeroValue, h]
theorem rend2_any (p : PG) (hv : Vld p) (hf : p.Few) (s : ST) (hfit : Fits (shpOf p) s) (vt vr vl vi vj v1 v2 v3 v4 v5 : Value) (w : World) (hp : PGV w vt vr vl vi vj p) (hS : STV w s v1 v2 v3 v4 v5) :
    Calls Try.prog 30 #[.agg #[vt, vr, vl, vi, vj], v3, v4] w fun e w' => e = .returned (.agg (finL (s.regs.flatten ++ s.mem)).toArray) ∧ Below w.heap.size w w' := by
 obtain ⟨hI, _⟩ := inv_fits hv hfit
 have hfw := few_fits hv hfit
 obtain ⟨ar, cr, rfl⟩ := hp.r.form
 obtain ⟨al, cl, rfl, _, _⟩ := id hp.l
 obtain ⟨ai, ci, rfl⟩ := hS.rg.form
 obtain ⟨aj, cj, rfl, sj, _⟩ := id hS.mm
 rw [← end_self hv hI]
 exact end_any p.regs p.locs s.regs s.mem hf.r hf.rr hf.l hfw.rg hfw.rr hfw.mm vt vi vj ar cr al cl ai ci aj cj w hp.r hS.rg sj
set_option maxRecDepth 100000 in
set_option maxHeartbeats 8000000 in
theorem at_any (p : PG) (hv0 : validV p = 0) (hf : p.Few) (hpw : PWid p) (T : ByteArray) (hT : T.size ≤ 1099511627776) (X : ByteArray) (bz bp bs be bt : Nat) (vt vr vl vi vj : Value) (w : World) (hM : MM w p bz bp bs be bt) (hp : PGV w vt vr vl vi vj p) :
    Calls Try.prog 22 #[.agg #[.string X, .func (.func 65) #[] #[.pointer (some ⟨bz, 0, none⟩), .pointer (some ⟨bp, 0, none⟩)], .func (.func 67) #[] #[.pointer (some ⟨bz, 0, none⟩), .pointer (some ⟨bs, 0, none⟩)], .func (.func 68) #[] #[.pointer (some ⟨bz, 0, none⟩), .pointer (some ⟨be, 0, none⟩)]], .agg #[vt, vr, vl, vi, vj], .string T] w fun e w' => e = .returned (.bool true) ∧ Below w.heap.size w w' := by
 have hv := vld_of hv0
 have hfin0 : (finL []).length = 49 := finL_len (by simp)
 have hRd := fun W (h : PGV W vt vr vl vi vj p) => rread_any p hf T hT vt vr vl vi vj W h
 have h1 := fun W (h : MM W p bz bp bs be bt) => mach1_any p hv hf T hT bz bp bs be bt W h
 have h2 := fun W (h : MM W p bz bp bs be bt) => mach2_any p hv hf hpw T hT (0, 1, 0) bz bp bs be bt W h
 have h3 := fun W (h : MM W p bz bp bs be bt) => mach3_any p hv hf T hT bz bp bs be bt W h
 have HM : Hid (MM w p bz bp bs be bt) := hM
 have HP : Hid (PGV w vt vr vl vi vj p) := hp
 have t1 : True := trivial
 have t2 : True := trivial
 have t3 : True := trivial
 have t4 : True := trivial
 have t5 : True := trivial
 have t6 : True := trivial
 have t7 : True := trivial
 have t8 : True := trivial
 have t9 : True := trivial
 have ta : True := trivial
 have tb : True := trivial
 have tc : True := trivial
 have td : True := trivial
 have te : True := trivial
 cases hrd : readS T (shpOf p) with
 | none =>
  have e1 : picksT p T = [] := by unfold picksT; rw [hrd]
  have e2 : stepT p T (0, 1, 0) = none := by unfold stepT; rw [hrd]
  have e3 : endT p T = none := by unfold endT; rw [hrd]
  simp only [e1] at h1
  simp only [e2] at h2
  simp only [e3] at h3
  have hRd' := fun W h => (hRd W h).mono fun e w' q => (q.2 hv0).1 hrd
  simp only [stpV_none] at h2
  simp only [endV_none] at h3
  clear hM hp hf hpw hT hv hv0 hRd hrd e1 e2 e3
  go_enter Try.func22, Try.ntmps22
  go_wp2_with (first
   | (clear t1; refine wpList_boxS rfl 57 _ rfl [.string X, .func (.func 65) #[] #[.pointer (some ⟨bz, 0, none⟩), .pointer (some ⟨bp, 0, none⟩)], .func (.func 67) #[] #[.pointer (some ⟨bz, 0, none⟩), .pointer (some ⟨bs, 0, none⟩)], .func (.func 68) #[] #[.pointer (some ⟨bz, 0, none⟩), .pointer (some ⟨be, 0, none⟩)]] rfl ?_; intro W0 b3 F0 C0; have B0 := F_b F0; clear F0)
   | (clear t2; refine wpList_boxS rfl 28 _ rfl [vt, vr, vl, vi, vj] rfl ?_; intro W1 b4 F1 P1; have C1 := C0.fresh F1; have B1 := F1.trans B0 B0.size; clear F1 C0)
   | (clear t3; refine wpList_loadW rfl 28 _ rfl rfl P1 _ Try.underlying28 rfl infoPg ?_)
   | (go_at_call 14; refine (hRd' _ (HP.out.below B1)).mono ?_; rintro e W2 ⟨rfl, X2⟩; have C2 := C1.grown X2; have B2 := Below.then B1 X2; clear C1 P1 X2 hRd')
   | (clear t4; refine wpList_allocS rfl 32 rfl zst zeroSt ?_; intro W3 b7 F3 I3; have C3 := C2.fresh F3; have B3 := F3.trans B2 B2.size; have hb7 : w.heap.size ≤ b7 := Nat.le_trans B2.size (Nat.le_of_eq F3.at'.symm); clear F3 C2)
   | (clear t5; refine wpList_storeW rfl 32 _ _ rfl rfl zst rfl I3 rfl infoSt zst_one ?_; intro W4 U4 I4; have C4 := isS_updT C3 I3 (by decide) U4; have B4 := U4.trans B3 hb7; have M4 := HM.out.below B4; clear U4 C3 I3 I4)
   | (clear t6; refine wpList_loadO rfl 53 _ rfl rfl C4 (v := .func (.func 65) #[] #[.pointer (some ⟨bz, 0, none⟩), .pointer (some ⟨bp, 0, none⟩)]) rfl (fun w h => by simp [go_sem, h]) ?_)
   | (go_at_call 65; refine (h1 _ M4).mono ?_; rintro e W5 ⟨v, rfl, O5, X5⟩; obtain ⟨av, cv, ev⟩ := own_form O5; simp only [List.length_nil] at ev; subst ev; have C5 := C4.grown X5; have B5 := Below.then B4 X5; have M5 := M4.below X5; clear C4 X5 M4 h1)
   | (clear t7; refine wpList_loadO rfl 55 _ rfl rfl C5 (v := .func (.func 68) #[] #[.pointer (some ⟨bz, 0, none⟩), .pointer (some ⟨be, 0, none⟩)]) rfl (fun w h => by simp [go_sem, h]) ?_)
   | (go_at_call 68; refine (h3 _ M5).mono ?_; rintro e W6 ⟨rfl, X6⟩; have C6 := C5.grown X6; have B6 := Below.then B5 X6; have M6 := M5.below X6; clear C5 X6 M5 h3)
   | (clear t8; refine wpList_allocS rfl 80 rfl (finL []) zeroFin ?_; intro W7 b10 F7 G7; have C7 := C6.fresh F7; have B7 := F7.trans B6 B6.size; have hb10 : w.heap.size ≤ b10 := Nat.le_trans B6.size (Nat.le_of_eq F7.at'.symm); clear F7 C6)
   | (clear t9; refine wpList_storeW rfl 80 _ _ rfl rfl (finL []) rfl G7 rfl (by rw [hfin0]; exact infoFin) (finL_one _) ?_; intro W8 U8 G8; have C8 := isS_updT C7 G7 (by decide) U8; have B8 := U8.trans B7 hb10; have M8 := HM.out.below B8; clear U8 C7 G7)
   | (clear ta; refine wpList_loadO rfl 54 _ rfl rfl C8 (v := .func (.func 67) #[] #[.pointer (some ⟨bz, 0, none⟩), .pointer (some ⟨bs, 0, none⟩)]) rfl (fun w h => by simp [go_sem, h]) ?_)
   | (clear tb; refine wpList_valueX rfl (build_pk1 rfl rfl) ?_)
   | (go_at_call 67; refine (h2 _ M8).mono ?_; rintro e W9 ⟨rfl, X9⟩; have G9 := G8.grown X9; have B9 := Below.then B8 X9; clear C8 X9 M8 h2)
   | (clear tc; refine wpList_loadGW rfl 80 _ rfl rfl G9 _ Try.underlying80 rfl (by rw [hfin0]; exact infoFin) ?_)
   | (clear td; refine wpList_valueG rfl (build0Fin rfl) ?_)
   | (clear te; refine wpList_valueG rfl (exec_eqF (vs := []) (by simp) rfl rfl rfl) ?_))
  go_ret
  exact ⟨rfl, B9⟩
 | some s =>
  have hfit := (readS_some hrd).1
  have e1 : (shpOf p).ins.length = p.threads.length := (shp_len hv).1
  have hfw := few_fits hv hfit
  have h48 := vals_48 hv hfit
  have hfl : (finL (s.regs.flatten ++ s.mem)).length = 49 := finL_len h48
  obtain ⟨hI, hLe⟩ := inv_fits hv hfit
  have hRd' := fun W h => (hRd W h).mono fun e w' q => (q.2 hv0).2 s hrd
  obtain ⟨at0, ct, evt⟩ := hp.t.form
  subst evt
  have hPk := fun W v1 v2 v3 v4 v5 (q1 : RowsV W (.slice at0 p.threads.length ct) op5L p.threads) (q2 : STV W s v1 v2 v3 v4 v5) => rpicksG_any p.threads s p.threads.length ct at0 hfw (by rw [hfit.pc, e1]) (by rw [hfit.ph, e1]) (by rw [hfit.bf, e1]) rfl hf.tt vr vl vi vj v1 v2 v3 v4 v5 W q1 q2
  have hEn := fun W v1 v2 v3 v4 v5 (q1 : RowsV W (.slice at0 p.threads.length ct) op5L p.threads) (q2 : STV W s v1 v2 v3 v4 v5) => rends_any p.threads s p.threads.length ct at0 hfw (by rw [hfit.pc, e1]) (by rw [hfit.ph, e1]) (by rw [hfit.bf, e1]) rfl hf.tt hLe vr vl vi vj v1 v2 v3 v4 v5 W q1 q2
  have hEnd := fun W {v1 v2 v3 v4 v5 : Value} (q1 : PGV W (.slice at0 p.threads.length ct) vr vl vi vj p) (q2 : STV W s v1 v2 v3 v4 v5) => rend2_any p hv hf s hfit _ vr vl vi vj v1 v2 v3 v4 v5 W q1 q2
  obtain ⟨L, hL⟩ : ∃ l, picksS p.threads s p.threads.length = l := ⟨_, rfl⟩
  have hLl : L.length ≤ 1048576 := by
   rw [← hL]; unfold picksS; split
   · exact Nat.le_trans (pks_len _ _ _) hf.t
   · simp
  have e5 : picksT p T = L := by unfold picksT; rw [hrd]; exact hL
  obtain ⟨nk, hnk⟩ : ∃ k, L.length = k := ⟨_, rfl⟩
  have hnk20 : nk ≤ 1048576 := by rw [← hnk]; exact hLl
  have hSame := fun W a1 a2 c1 c2 q1 q2 => samePicks_any L nk hnk hnk20 a1 a2 c1 c2 W q1 q2
  simp only [e5, hnk] at h1
  simp only [hL, hnk] at hPk
  have inkI : (nk : Int) ≤ 1048576 := by omega
  obtain ⟨eb, heb⟩ : ∃ b, (plainB s && doneB p.threads s.pc) = b := ⟨_, rfl⟩
  simp only [heb] at hEn
  have e6 : endT p T = if eb then some s else none := by unfold endT; rw [hrd]; simp only [heb]
  rw [e6] at h3
  obtain ⟨vals, hvals⟩ : ∃ l, s.regs.flatten ++ s.mem = l := ⟨_, rfl⟩
  rw [hvals] at hfl h48
  simp only [hvals] at hEnd
  obtain ⟨lk, hlk⟩ : ∃ k, s.lock = k := ⟨_, rfl⟩
  simp only [hlk] at hRd' hPk hEn
  obtain ⟨n, hn⟩ : ∃ n, p.threads.length = n := ⟨_, rfl⟩
  rw [hn] at HP
  simp only [hn] at hRd' hPk hEn hEnd ⊢
  cases eb with
  | true =>
   simp only [if_true, endV_some, hvals] at h3
   clear hM hp hf hpw hT hv hv0 hRd hrd hfit e1 hfw hI hLe hL hLl e5 hnk heb e6 hvals hlk hn h2
   go_enter Try.func22, Try.ntmps22
   go_wp2_with (first
    | (clear t1; refine wpList_boxS rfl 57 _ rfl [.string X, .func (.func 65) #[] #[.pointer (some ⟨bz, 0, none⟩), .pointer (some ⟨bp, 0, none⟩)], .func (.func 67) #[] #[.pointer (some ⟨bz, 0, none⟩), .pointer (some ⟨bs, 0, none⟩)], .func (.func 68) #[] #[.pointer (some ⟨bz, 0, none⟩), .pointer (some ⟨be, 0, none⟩)]] rfl ?_; intro W0 b3 F0 C0; have B0 := F_b F0; clear F0)
    | (clear t2; refine wpList_boxS rfl 28 _ rfl [.slice at0 n ct, vr, vl, vi, vj] rfl ?_; intro W1 b4 F1 P1; have C1 := C0.fresh F1; have B1 := F1.trans B0 B0.size; clear F1 C0)
    | (clear t3; refine wpList_loadW rfl 28 _ rfl rfl P1 _ Try.underlying28 rfl infoPg ?_)
    | (go_at_call 14; refine (hRd' _ (HP.out.below B1)).mono ?_; rintro e W2 ⟨v1, v2, v3, v4, v5, rfl, SF, X2⟩; have SV2 := SF.stv; have hone := stv_one lk SV2; have C2 := C1.grown X2; have P2 := P1.grown X2; have B2 := Below.then B1 X2; clear C1 P1 X2 hRd' SF)
    | (clear t4; refine wpList_allocS rfl 32 rfl zst zeroSt ?_; intro W3 b7 F3 I3; have C3 := C2.fresh F3; have P3 := P2.fresh F3; have B3 := F3.trans B2 B2.size; have X3 := F_b F3; have hb7 : W2.heap.size ≤ b7 := Nat.le_of_eq F3.at'.symm; clear F3 C2 P2)
    | (clear t5; refine wpList_storeW rfl 32 _ _ rfl rfl [v1, v2, v3, v4, v5, .int .i64 lk] rfl I3 rfl infoSt hone ?_; intro W4 U4 S4; have SV4 := SV2.below (U4.trans X3 hb7); have C4 := isS_updT C3 I3 (by decide) U4; have P4 := isS_updT P3 I3 (by decide) U4; have B4 := U4.trans B3 (Nat.le_trans B2.size hb7); have M4 := HM.out.below B4; have hb3 := C4.lt; clear U4 C3 P3 I3 X3 SV2)
    | (clear t6; refine wpList_loadO rfl 53 _ rfl rfl C4 (v := .func (.func 65) #[] #[.pointer (some ⟨bz, 0, none⟩), .pointer (some ⟨bp, 0, none⟩)]) rfl (fun w h => by simp [go_sem, h]) ?_)
    | (go_at_call 65; refine (h1 _ M4).mono ?_; rintro e W5 ⟨v, rfl, O5, X5⟩; obtain ⟨al, cl, ev⟩ := own_form O5; subst ev; have C5 := C4.grown X5; have P5 := P4.grown X5; have S5 := S4.grown X5; have SV5 := SV4.below X5; have B5 := Below.then B4 X5; have M5 := M4.below X5; have hz5 := X5.size; clear C4 P4 S4 SV4 X5 M4)
    | (clear t7; refine wpList_loadO rfl 55 _ rfl rfl C5 (v := .func (.func 68) #[] #[.pointer (some ⟨bz, 0, none⟩), .pointer (some ⟨be, 0, none⟩)]) rfl (fun w h => by simp [go_sem, h]) ?_)
    | (go_at_call 68; refine (h3 _ M5).mono ?_; rintro e W6 ⟨rfl, X6⟩; have C6 := C5.grown X6; have P6 := P5.grown X6; have S6 := S5.grown X6; have SV6 := SV5.below X6; have B6 := Below.then B5 X6; have Q6 := X6; clear C5 P5 S5 SV5 X6 M5 h3)
    | (clear t8; refine wpList_allocS rfl 80 rfl (finL []) zeroFin ?_; intro W7 b10 F7 G7; have C7 := C6.fresh F7; have P7 := P6.fresh F7; have S7 := S6.fresh F7; have SV7x := SV6; have X7 := F_b F7; have hb10y : W6.heap.size ≤ b10 := Nat.le_of_eq F7.at'.symm; have B7 := F7.trans B6 B6.size; have Q7 := Below.then Q6 (F_b F7); have hb10 : W5.heap.size ≤ b10 := Nat.le_trans Q6.size (Nat.le_of_eq F7.at'.symm); clear F7 C6 P6 S6 Q6)
    | (clear t9; refine wpList_storeW rfl 80 _ _ rfl rfl (finL vals) rfl G7 (by rw [hfin0, hfl]) (by rw [hfl]; exact infoFin) (finL_one _) ?_; intro W8 U8 G8; have C8 := isS_updT C7 G7 (by decide) U8; have P8 := isS_updT P7 G7 (by decide) U8; have S8 := isS_updT S7 G7 (by decide) U8; have Q8 := U8.trans Q7 hb10; have B8 := Below.then B5 Q8; have SV8 := SV7x.below (U8.trans X7 hb10y); clear U8 C7 P7 S7 G7 Q7)
    | (clear ta; refine wpList_loadW rfl 28 _ rfl rfl P8 _ Try.underlying28 rfl infoPg ?_)
    | (clear tb; refine wpList_loadW rfl 32 _ rfl rfl S8 _ Try.underlying32 rfl infoSt ?_)
    | (go_at_call 59; refine (hPk _ _ _ _ _ _ (HP.out.below B8).t SV8).mono ?_; rintro e Wp ⟨u, rfl, Op, Xp⟩; obtain ⟨aw, cw, eu⟩ := own_form Op; subst eu; have Opx := own_raise Op Q8.size; have Cp := C8.grown Xp; have Pp := P8.grown Xp; have Sp := S8.grown Xp; have Gp := G8.grown Xp; have SVp := SV8.below Xp; have Bp := Below.then B8 Xp; have Qp := Below.then Q8 Xp; clear C8 P8 S8 G8 SV8 Xp Op hPk)
    | (clear tc; refine wpList_loadW rfl 28 _ rfl rfl Pp _ Try.underlying28 rfl infoPg ?_)
    | (clear td; refine wpList_loadW rfl 32 _ rfl rfl Sp _ Try.underlying32 rfl infoSt ?_)
    | (go_at_call 60; refine (hEn _ _ _ _ _ _ (HP.out.below Bp).t SVp).mono ?_; rintro e W9 ⟨rfl, X9⟩; have O9 := own_below O5 (Below.then Qp X9); have Ow9 := own_below Opx X9; have C9 := Cp.grown X9; have P9 := Pp.grown X9; have S9 := Sp.grown X9; have G9 := Gp.grown X9; have SV9 := SVp.below X9; have B9 := Below.then Bp X9; have Q9 := Below.then Qp X9; clear Cp Pp Sp Gp SVp X9 Opx hEn))
   obtain ⟨_, _, eqa, sgl, _⟩ := own_row O9
   cases eqa
   obtain ⟨_, _, eqb, sgw, _⟩ := own_row Ow9
   cases eqb
   obtain ⟨x0, x1, x2, x3, x4, x5⟩ := st6 S9
   refine grow_allW (by kernel_rfl) (by kernel_rfl) ?_
   refine WG.pu rfl (v := (.slice al nk cl)) ?_; simp only [sP]
   refine WG.pu rfl (v := (.slice aw nk cw)) ?_; simp only [sP]
   refine WG.call rfl (f := 61) (v := (.bool true)) (fun W hB => hSame W al aw cl cw (sgl.below hB) (sgw.below hB)) (fun w => by first | rfl | (go_simp; done) | (simp [execOp, go_sem]; done)) ?_; simp only [sP]
   refine WG.pu rfl (v := (.bool false)) ?_; simp only [sP]
   refine WG.pu rfl (v := (.bool false)) ?_; simp only [sP]
   refine WG.pu rfl (v := (.bool true)) ?_; simp only [sP]
   refine WG.pu rfl (v := (.bool true)) ?_; simp only [sP]
   refine WG.pu rfl (v := (.bool false)) ?_; simp only [sP]
   refine WG.pu rfl (v := (.bool false)) ?_; simp only [sP]
   refine WG.pu rfl (v := (.bool false)) ?_; simp only [sP]
   refine WG.pu rfl (v := (.bool true)) ?_; simp only [sP]
   refine WG.pu rfl (v := (.bool true)) ?_; simp only [sP]
   refine WG.row rfl 80 _ rfl rfl G9 (finL vals) rfl _ Try.underlying80 rfl (by rw [hfl]; exact infoFin) ?_; simp only [sP]
   refine WG.row rfl 28 _ rfl rfl P9 [.slice at0 n ct, vr, vl, vi, vj] rfl _ Try.underlying28 rfl infoPg ?_; simp only [sP]
   refine WG.pu rfl (v := (.pointer (some ⟨b7, 2, none⟩))) ?_; simp only [sP]
   refine WG.load1 rfl 25 _ rfl rfl (S9) (v := v3) rfl (fun w h => by simp [go_sem, h]) ?_; simp only [sP]
   refine WG.pu rfl (v := (.pointer (some ⟨b7, 3, none⟩))) ?_; simp only [sP]
   refine WG.load1 rfl 26 _ rfl rfl (S9) (v := v4) rfl (fun w h => by simp [go_sem, h]) ?_; simp only [sP]
   refine WG.call rfl (f := 30) (v := (.agg (finL vals).toArray)) (fun W hB => hEnd W (HP.out.below (Below.then B9 hB)) (SV9.below hB)) (fun w => by first | rfl | (go_simp; done) | (simp [execOp, go_sem]; done)) ?_; simp only [sP]
   refine WG.put rfl (v := (.bool false)) (fun w => exec_neqF h48 rfl rfl rfl) ?_; simp only [sP]
   refine WG.pu rfl (v := (.bool false)) ?_; simp only [sP]
   refine WG.pu rfl (v := (.bool false)) ?_; simp only [sP]
   refine WG.pu rfl (v := (.bool false)) ?_; simp only [sP]
   refine WG.pu rfl (v := (.bool true)) ?_; simp only [sP]
   refine WG.pu rfl (v := (.bool false)) ?_; simp only [sP]
   refine WG.pu rfl (v := (.bool false)) ?_; simp only [sP]
   refine WG.skip rfl ?_; simp only [sP]
   refine WG.skip rfl ?_; simp only [sP]
   refine WG.skip rfl ?_; simp only [sP]
   refine WG.pu rfl (v := (.bool false)) ?_; simp only [sP]
   refine WG.pu rfl (v := (.bool false)) ?_; simp only [sP]
   refine WG.nil ?_
   intro WA XA
   have HOa : Hid (WA.ownsRow W4.heap.size 68 3 (.slice al nk cl) nk (L.flatMap pkE)) := own_below O9 XA
   have HOw : Hid (WA.ownsRow W5.heap.size 68 3 (.slice aw nk cw) nk (L.flatMap pkE)) := own_below Ow9 XA
   have HCa : Hid (IsS WA b3 57 [.string X, .func (.func 65) #[] #[.pointer (some ⟨bz, 0, none⟩), .pointer (some ⟨bp, 0, none⟩)], .func (.func 67) #[] #[.pointer (some ⟨bz, 0, none⟩), .pointer (some ⟨bs, 0, none⟩)], .func (.func 68) #[] #[.pointer (some ⟨bz, 0, none⟩), .pointer (some ⟨be, 0, none⟩)]]) := C9.grown XA
   have HBa : Hid (Below w.heap.size w WA) := Below.then B9 XA
   have HNa : Hid (b3 < W4.heap.size ∧ w.heap.size ≤ W4.heap.size ∧ W4.heap.size ≤ WA.heap.size ∧ W5.heap.size ≤ WA.heap.size ∧ ∀ k, (Value.slice al nk cl).ownBlock = some k → k < W5.heap.size) := ⟨hb3, B4.size, Nat.le_trans hz5 (Below.then Q9 XA).size, (Below.then Q9 XA).size, fun k hk => (own_lt O5 hk).2⟩
   clear O5 O9 Ow9 sgl sgw C9 P9 S9 G9 SV9 B9 Q9 XA x0 x1 x2 x3 x4 x5 hEnd hb3 B4 B5 Q8 Qp Bp B8 B6 B7 B3 B2 B1 B0 hz5 hone hb7 hb10
   go_wp2_with fail
   go_loopw [16] (fun i wr => ∃ j : Nat, j ≤ nk ∧ i = .int .i64 (j : Int) ∧ Hid (OutR W4.heap.size W5.heap.size WA wr) ∧ Hid (∃ xs, wr.ownsRow W4.heap.size 68 3 (.slice al nk cl) nk xs)) (fun i _ => nk - (intOf i).toNat)
   case atStart => exact ⟨0, Nat.zero_le _, rfl, OutR.refl _ _ _, ⟨_, HOa.out⟩⟩
   case round =>
    obtain ⟨j, hj, rfl, HO, HX⟩ := hrel
    by_cases hlt : j < nk
    · have hji : (j : Int) < nk := by omega
      obtain ⟨xs, ox⟩ := HX.out
      obtain ⟨g, c, cs, ev, hg, I, hc, hm, hl⟩ := own_opn3 ox (by omega)
      cases ev
      have hgi : g < W5.heap.size := HNa.out.2.2.2.2 g rfl
      have hjl : j * 3 + [Value.int .i64 (-1), .int .i64 0, .int .i64 0].length ≤ cs.length := by show j * 3 + 3 ≤ _; omega
      have HK : Hid (W4.heap.size ≤ g ∧ g < W5.heap.size ∧ nk ≤ cl ∧ cl ≤ maxLen ∧ cs.length = cl * 3) := ⟨hg, hgi, hc, hm, hl⟩
      clear ox HX hg hgi hc hm hl HOa
      have tq : True := trivial
      go_wp2_with (first
       | (clear tq; refine wpList_valueX rfl (build_pk0 rfl rfl) ?_)
       | (refine wpList_storeM rfl 68 _ _ rfl rfl [.int .i64 (-1), .int .i64 0, .int .i64 0] rfl I hjl infoPk3 pk_one3 ?_; intro WB cs' UB hlB IB))
      have HO2 : Hid (OutR W4.heap.size W5.heap.size WA WB) := HO.out.upd UB (.inl ⟨HK.out.1, HK.out.2.1⟩)
      have HX2 : Hid (∃ xs, WB.ownsRow W4.heap.size 68 3 (.slice (some ⟨g, 0, none⟩) nk cl) nk xs) := ⟨_, own_any3 HK.out.1 IB HK.out.2.2.1 HK.out.2.2.2.1 (by rw [hlB]; exact HK.out.2.2.2.2)⟩
      clear UB IB hlB I HK HO
      go_roundw
      case rel => exact ⟨j + 1, by omega, by go_num, HO2, HX2⟩
      case measure => simp [intOf]; omega
    · have hji : ¬ (j : Int) < nk := by omega
      have hna := HNa.out
      have C := HO.out.isS HCa.out (.inl hna.1)
      have Bw : Below w.heap.size w wr := HO.out.pre HBa.out (by omega) HBa.out.size
      have Mw := HM.out.below Bw
      have ow : wr.ownsRow W5.heap.size 68 3 (.slice aw nk cw) nk (L.flatMap pkE) := own_same HOw.out fun k hk => HO.out.block k (own_lt HOw.out hk).2 (.inr (own_lt HOw.out hk).1)
      clear hna HOa HOw HCa HBa HNa HO HX
      have tx : True := trivial
      go_wp2_with (first
       | (clear tx; refine wpList_loadO rfl 53 _ rfl rfl C (v := .func (.func 65) #[] #[.pointer (some ⟨bz, 0, none⟩), .pointer (some ⟨bp, 0, none⟩)]) rfl (fun w h => by simp [go_sem, h]) ?_)
       | (go_at_call 65; refine (h1 _ Mw).mono ?_; rintro e WX ⟨v', rfl, OX, XX⟩; obtain ⟨a2, c2, e2, s2, _⟩ := own_row OX; subst e2; obtain ⟨_, _, e3, s3, _⟩ := own_row (own_below ow XX); cases e3)
       | (go_at_call 61; refine (hSame _ _ _ _ _ s2 s3).mono ?_; rintro e WY ⟨rfl, XY⟩))
      go_ret
      exact ⟨rfl, Below.then (Below.then Bw XX) XY⟩
  | false =>
   simp only [Bool.false_eq_true, if_false, endV_none] at h3
   clear hM hp hf hpw hT hv hv0 hRd hrd hfit e1 hfw hI hLe hL hLl e5 hnk heb e6 hvals hlk hn h2
   go_enter Try.func22, Try.ntmps22
   go_wp2_with (first
    | (clear t1; refine wpList_boxS rfl 57 _ rfl [.string X, .func (.func 65) #[] #[.pointer (some ⟨bz, 0, none⟩), .pointer (some ⟨bp, 0, none⟩)], .func (.func 67) #[] #[.pointer (some ⟨bz, 0, none⟩), .pointer (some ⟨bs, 0, none⟩)], .func (.func 68) #[] #[.pointer (some ⟨bz, 0, none⟩), .pointer (some ⟨be, 0, none⟩)]] rfl ?_; intro W0 b3 F0 C0; have B0 := F_b F0; clear F0)
    | (clear t2; refine wpList_boxS rfl 28 _ rfl [.slice at0 n ct, vr, vl, vi, vj] rfl ?_; intro W1 b4 F1 P1; have C1 := C0.fresh F1; have B1 := F1.trans B0 B0.size; clear F1 C0)
    | (clear t3; refine wpList_loadW rfl 28 _ rfl rfl P1 _ Try.underlying28 rfl infoPg ?_)
    | (go_at_call 14; refine (hRd' _ (HP.out.below B1)).mono ?_; rintro e W2 ⟨v1, v2, v3, v4, v5, rfl, SF, X2⟩; have SV2 := SF.stv; have hone := stv_one lk SV2; have C2 := C1.grown X2; have P2 := P1.grown X2; have B2 := Below.then B1 X2; clear C1 P1 X2 hRd' SF)
    | (clear t4; refine wpList_allocS rfl 32 rfl zst zeroSt ?_; intro W3 b7 F3 I3; have C3 := C2.fresh F3; have P3 := P2.fresh F3; have B3 := F3.trans B2 B2.size; have X3 := F_b F3; have hb7 : W2.heap.size ≤ b7 := Nat.le_of_eq F3.at'.symm; clear F3 C2 P2)
    | (clear t5; refine wpList_storeW rfl 32 _ _ rfl rfl [v1, v2, v3, v4, v5, .int .i64 lk] rfl I3 rfl infoSt hone ?_; intro W4 U4 S4; have SV4 := SV2.below (U4.trans X3 hb7); have C4 := isS_updT C3 I3 (by decide) U4; have P4 := isS_updT P3 I3 (by decide) U4; have B4 := U4.trans B3 (Nat.le_trans B2.size hb7); have M4 := HM.out.below B4; have hb3 := C4.lt; clear U4 C3 P3 I3 X3 SV2)
    | (clear t6; refine wpList_loadO rfl 53 _ rfl rfl C4 (v := .func (.func 65) #[] #[.pointer (some ⟨bz, 0, none⟩), .pointer (some ⟨bp, 0, none⟩)]) rfl (fun w h => by simp [go_sem, h]) ?_)
    | (go_at_call 65; refine (h1 _ M4).mono ?_; rintro e W5 ⟨v, rfl, O5, X5⟩; obtain ⟨al, cl, ev⟩ := own_form O5; subst ev; have C5 := C4.grown X5; have P5 := P4.grown X5; have S5 := S4.grown X5; have SV5 := SV4.below X5; have B5 := Below.then B4 X5; have M5 := M4.below X5; have hz5 := X5.size; clear C4 P4 S4 SV4 X5 M4)
    | (clear t7; refine wpList_loadO rfl 55 _ rfl rfl C5 (v := .func (.func 68) #[] #[.pointer (some ⟨bz, 0, none⟩), .pointer (some ⟨be, 0, none⟩)]) rfl (fun w h => by simp [go_sem, h]) ?_)
    | (go_at_call 68; refine (h3 _ M5).mono ?_; rintro e W6 ⟨rfl, X6⟩; have C6 := C5.grown X6; have P6 := P5.grown X6; have S6 := S5.grown X6; have SV6 := SV5.below X6; have B6 := Below.then B5 X6; have Q6 := X6; clear C5 P5 S5 SV5 X6 M5 h3)
    | (clear t8; refine wpList_allocS rfl 80 rfl (finL []) zeroFin ?_; intro W7 b10 F7 G7; have C7 := C6.fresh F7; have P7 := P6.fresh F7; have S7 := S6.fresh F7; have SV7x := SV6; have X7 := F_b F7; have hb10y : W6.heap.size ≤ b10 := Nat.le_of_eq F7.at'.symm; have B7 := F7.trans B6 B6.size; have Q7 := Below.then Q6 (F_b F7); have hb10 : W5.heap.size ≤ b10 := Nat.le_trans Q6.size (Nat.le_of_eq F7.at'.symm); clear F7 C6 P6 S6 Q6)
    | (clear t9; refine wpList_storeW rfl 80 _ _ rfl rfl (finL []) rfl G7 rfl (by rw [hfin0]; exact infoFin) (finL_one _) ?_; intro W8 U8 G8; have C8 := isS_updT C7 G7 (by decide) U8; have P8 := isS_updT P7 G7 (by decide) U8; have S8 := isS_updT S7 G7 (by decide) U8; have Q8 := U8.trans Q7 hb10; have B8 := Below.then B5 Q8; have SV8 := SV7x.below (U8.trans X7 hb10y); clear U8 C7 P7 S7 G7 Q7)
    | (clear ta; refine wpList_loadW rfl 28 _ rfl rfl P8 _ Try.underlying28 rfl infoPg ?_)
    | (clear tb; refine wpList_loadW rfl 32 _ rfl rfl S8 _ Try.underlying32 rfl infoSt ?_)
    | (go_at_call 59; refine (hPk _ _ _ _ _ _ (HP.out.below B8).t SV8).mono ?_; rintro e Wp ⟨u, rfl, Op, Xp⟩; obtain ⟨aw, cw, eu⟩ := own_form Op; subst eu; have Opx := own_raise Op Q8.size; have Cp := C8.grown Xp; have Pp := P8.grown Xp; have Sp := S8.grown Xp; have Gp := G8.grown Xp; have SVp := SV8.below Xp; have Bp := Below.then B8 Xp; have Qp := Below.then Q8 Xp; clear C8 P8 S8 G8 SV8 Xp Op hPk)
    | (clear tc; refine wpList_loadW rfl 28 _ rfl rfl Pp _ Try.underlying28 rfl infoPg ?_)
    | (clear td; refine wpList_loadW rfl 32 _ rfl rfl Sp _ Try.underlying32 rfl infoSt ?_)
    | (go_at_call 60; refine (hEn _ _ _ _ _ _ (HP.out.below Bp).t SVp).mono ?_; rintro e W9 ⟨rfl, X9⟩; have O9 := own_below O5 (Below.then Qp X9); have Ow9 := own_below Opx X9; have C9 := Cp.grown X9; have P9 := Pp.grown X9; have S9 := Sp.grown X9; have G9 := Gp.grown X9; have SV9 := SVp.below X9; have B9 := Below.then Bp X9; have Q9 := Below.then Qp X9; clear Cp Pp Sp Gp SVp X9 Opx hEn))
   obtain ⟨_, _, eqa, sgl, _⟩ := own_row O9
   cases eqa
   obtain ⟨_, _, eqb, sgw, _⟩ := own_row Ow9
   cases eqb
   obtain ⟨x0, x1, x2, x3, x4, x5⟩ := st6 S9
   refine grow_allW (by kernel_rfl) (by kernel_rfl) ?_
   refine WG.pu rfl (v := (.slice al nk cl)) ?_; simp only [sP]
   refine WG.pu rfl (v := (.slice aw nk cw)) ?_; simp only [sP]
   refine WG.call rfl (f := 61) (v := (.bool true)) (fun W hB => hSame W al aw cl cw (sgl.below hB) (sgw.below hB)) (fun w => by first | rfl | (go_simp; done) | (simp [execOp, go_sem]; done)) ?_; simp only [sP]
   refine WG.pu rfl (v := (.bool false)) ?_; simp only [sP]
   refine WG.pu rfl (v := (.bool false)) ?_; simp only [sP]
   refine WG.pu rfl (v := (.bool false)) ?_; simp only [sP]
   refine WG.pu rfl (v := (.bool false)) ?_; simp only [sP]
   refine WG.pu rfl (v := (.bool false)) ?_; simp only [sP]
   refine WG.pu rfl (v := (.bool false)) ?_; simp only [sP]
   refine WG.pu rfl (v := (.bool false)) ?_; simp only [sP]
   refine WG.pu rfl (v := (.bool false)) ?_; simp only [sP]
   refine WG.pu rfl (v := (.bool false)) ?_; simp only [sP]
   refine WG.skip rfl ?_; simp only [sP]
   refine WG.skip rfl ?_; simp only [sP]
   refine WG.skip rfl ?_; simp only [sP]
   refine WG.skip rfl ?_; simp only [sP]
   refine WG.skip rfl ?_; simp only [sP]
   refine WG.skip rfl ?_; simp only [sP]
   refine WG.skip rfl ?_; simp only [sP]
   refine WG.skip rfl ?_; simp only [sP]
   refine WG.pu rfl (v := (.bool false)) ?_; simp only [sP]
   refine WG.pu rfl (v := (.bool false)) ?_; simp only [sP]
   refine WG.pu rfl (v := (.bool false)) ?_; simp only [sP]
   refine WG.pu rfl (v := (.bool false)) ?_; simp only [sP]
   refine WG.pu rfl (v := (.bool true)) ?_; simp only [sP]
   refine WG.pu rfl (v := (.bool true)) ?_; simp only [sP]
   refine WG.row rfl 80 _ rfl rfl G9 (finL []) rfl _ Try.underlying80 rfl (by rw [hfin0]; exact infoFin) ?_; simp only [sP]
   refine WG.put rfl (v := (.agg (finL []).toArray)) (fun w => build0Fin rfl) ?_; simp only [sP]
   refine WG.put rfl (v := (.bool false)) (fun w => exec_neqF (by simp) rfl rfl rfl) ?_; simp only [sP]
   refine WG.pu rfl (v := (.bool false)) ?_; simp only [sP]
   refine WG.pu rfl (v := (.bool false)) ?_; simp only [sP]
   refine WG.nil ?_
   intro WA XA
   have HOa : Hid (WA.ownsRow W4.heap.size 68 3 (.slice al nk cl) nk (L.flatMap pkE)) := own_below O9 XA
   have HOw : Hid (WA.ownsRow W5.heap.size 68 3 (.slice aw nk cw) nk (L.flatMap pkE)) := own_below Ow9 XA
   have HCa : Hid (IsS WA b3 57 [.string X, .func (.func 65) #[] #[.pointer (some ⟨bz, 0, none⟩), .pointer (some ⟨bp, 0, none⟩)], .func (.func 67) #[] #[.pointer (some ⟨bz, 0, none⟩), .pointer (some ⟨bs, 0, none⟩)], .func (.func 68) #[] #[.pointer (some ⟨bz, 0, none⟩), .pointer (some ⟨be, 0, none⟩)]]) := C9.grown XA
   have HBa : Hid (Below w.heap.size w WA) := Below.then B9 XA
   have HNa : Hid (b3 < W4.heap.size ∧ w.heap.size ≤ W4.heap.size ∧ W4.heap.size ≤ WA.heap.size ∧ W5.heap.size ≤ WA.heap.size ∧ ∀ k, (Value.slice al nk cl).ownBlock = some k → k < W5.heap.size) := ⟨hb3, B4.size, Nat.le_trans hz5 (Below.then Q9 XA).size, (Below.then Q9 XA).size, fun k hk => (own_lt O5 hk).2⟩
   clear O5 O9 Ow9 sgl sgw C9 P9 S9 G9 SV9 B9 Q9 XA x0 x1 x2 x3 x4 x5 hEnd hb3 B4 B5 Q8 Qp Bp B8 B6 B7 B3 B2 B1 B0 hz5 hone hb7 hb10
   go_wp2_with fail
   go_loopw [16] (fun i wr => ∃ j : Nat, j ≤ nk ∧ i = .int .i64 (j : Int) ∧ Hid (OutR W4.heap.size W5.heap.size WA wr) ∧ Hid (∃ xs, wr.ownsRow W4.heap.size 68 3 (.slice al nk cl) nk xs)) (fun i _ => nk - (intOf i).toNat)
   case atStart => exact ⟨0, Nat.zero_le _, rfl, OutR.refl _ _ _, ⟨_, HOa.out⟩⟩
   case round =>
    obtain ⟨j, hj, rfl, HO, HX⟩ := hrel
    by_cases hlt : j < nk
    · have hji : (j : Int) < nk := by omega
      obtain ⟨xs, ox⟩ := HX.out
      obtain ⟨g, c, cs, ev, hg, I, hc, hm, hl⟩ := own_opn3 ox (by omega)
      cases ev
      have hgi : g < W5.heap.size := HNa.out.2.2.2.2 g rfl
      have hjl : j * 3 + [Value.int .i64 (-1), .int .i64 0, .int .i64 0].length ≤ cs.length := by show j * 3 + 3 ≤ _; omega
      have HK : Hid (W4.heap.size ≤ g ∧ g < W5.heap.size ∧ nk ≤ cl ∧ cl ≤ maxLen ∧ cs.length = cl * 3) := ⟨hg, hgi, hc, hm, hl⟩
      clear ox HX hg hgi hc hm hl HOa
      have tq : True := trivial
      go_wp2_with (first
       | (clear tq; refine wpList_valueX rfl (build_pk0 rfl rfl) ?_)
       | (refine wpList_storeM rfl 68 _ _ rfl rfl [.int .i64 (-1), .int .i64 0, .int .i64 0] rfl I hjl infoPk3 pk_one3 ?_; intro WB cs' UB hlB IB))
      have HO2 : Hid (OutR W4.heap.size W5.heap.size WA WB) := HO.out.upd UB (.inl ⟨HK.out.1, HK.out.2.1⟩)
      have HX2 : Hid (∃ xs, WB.ownsRow W4.heap.size 68 3 (.slice (some ⟨g, 0, none⟩) nk cl) nk xs) := ⟨_, own_any3 HK.out.1 IB HK.out.2.2.1 HK.out.2.2.2.1 (by rw [hlB]; exact HK.out.2.2.2.2)⟩
      clear UB IB hlB I HK HO
      go_roundw
      case rel => exact ⟨j + 1, by omega, by go_num, HO2, HX2⟩
      case measure => simp [intOf]; omega
    · have hji : ¬ (j : Int) < nk := by omega
      have hna := HNa.out
      have C := HO.out.isS HCa.out (.inl hna.1)
      have Bw : Below w.heap.size w wr := HO.out.pre HBa.out (by omega) HBa.out.size
      have Mw := HM.out.below Bw
      have ow : wr.ownsRow W5.heap.size 68 3 (.slice aw nk cw) nk (L.flatMap pkE) := own_same HOw.out fun k hk => HO.out.block k (own_lt HOw.out hk).2 (.inr (own_lt HOw.out hk).1)
      clear hna HOa HOw HCa HBa HNa HO HX
      have tx : True := trivial
      go_wp2_with (first
       | (clear tx; refine wpList_loadO rfl 53 _ rfl rfl C (v := .func (.func 65) #[] #[.pointer (some ⟨bz, 0, none⟩), .pointer (some ⟨bp, 0, none⟩)]) rfl (fun w h => by simp [go_sem, h]) ?_)
       | (go_at_call 65; refine (h1 _ Mw).mono ?_; rintro e WX ⟨v', rfl, OX, XX⟩; obtain ⟨a2, c2, e2, s2, _⟩ := own_row OX; subst e2; obtain ⟨_, _, e3, s3, _⟩ := own_row (own_below ow XX); cases e3)
       | (go_at_call 61; refine (hSame _ _ _ _ _ s2 s3).mono ?_; rintro e WY ⟨rfl, XY⟩))
      go_ret
      exact ⟨rfl, Below.then (Below.then Bw XX) XY⟩
end Go.Proofs.Ytegpnicajlndlaa

/- CS6 -/
import Derived.Test.YtegpnicajlndlaaCS5
import Derived.Lib.BufferRead
namespace Go.Proofs.Ytegpnicajlndlaa
open Go.RowKit M
set_option linter.unusedSimpArgs false
set_option linter.unusedVariables false
theorem zero149 (w : World) : (zeroValue 149).run Try.prog w = .ok (.slice none 0 0) w := Try.zeroValue149 w
theorem wpList_allocSl {w : World} {ops : Array Oper} {rest : List Oper} {op : Oper} {a : Act} {Q : Exit → Act → World → Prop} (hgd : op.guard = none) (ty : TypeId) (ho : op.op = .alloc ty) (hz : ∀ w, (zeroValue ty).run Try.prog w = .ok (.slice none 0 0) w)
    (h : ∀ W b, Fresh w W b → IsS W b ty [.slice none 0 0] → wpList Try.prog ops Q rest (a.put op.dst (.pointer (some ⟨b, 0, none⟩))) W) : wpList Try.prog ops Q (op :: rest) a w := by
 refine wpList_plain hgd fun K hK => ?_
 unfold Oper.wp execOp
 simp [ho, go_sem, hz]
 exact hK _ _ (h _ _ (Fresh.alloc w _) (IsS.new w ty [.slice none 0 0]))
theorem conv_tx {W : World} {B : Nat} {v : Value} {l : List UInt8} (h : W.ownsRow B 5 1 v l.length (Lib.byteCells l)) : (convert 149 9 v).run Try.prog W = .ok (.string ⟨l.toArray⟩) W := by
 rcases h.2 with ⟨rfl, h0⟩ | ⟨g, cap, cur, rfl, _⟩
 · have e : l = [] := List.length_eq_zero_iff.1 h0
   subst e
   exact Lib.run_convert_nil_bytes (P := Try.prog) W 149 9 5 0 Try.underlying149 Try.underlying5 Try.underlying9
 · exact run_convert_bytes_back (P := Try.prog) W 149 9 5 ⟨g, 0, none⟩ cap l Try.underlying149 Try.underlying5 Try.underlying9 (fun j hj => h.cells (g := g) rfl j _ (by simp [Lib.byteCells, hj]))
theorem Tx.belowT {W W' : World} {B b : Nat} {l : List UInt8} (h : Tx W B b l) (hB : Below W.heap.size W W') : Tx W' B b l := by
 obtain ⟨v, h1, h2, h3, h4⟩ := h
 exact ⟨v, h1.grown hB, own_belowY h2 hB, h3, h4⟩
theorem Tx.updT {W W' : World} {B b c t : Nat} {cs : List Value} {l : List UInt8} (h : Tx W B b l) (U : Upd W W' c) (I : IsS W c t cs) (h1 : t ≠ 149) (h5 : (5 : Nat) ≠ t) : Tx W' B b l := by
 obtain ⟨v, g1, g2, g3, g4⟩ := h
 refine ⟨v, g1.upd U (fun e => ?_), own_upd g2 I U h5, g3, g4⟩
 subst e
 exact h1 (isS_ty I g1)
theorem TxF.fresh {W W' : World} {B b : Nat} (F : Fresh W W' b) (hB : B ≤ W.heap.size) : TxF B W W' := ⟨(F_b F).mono hB, fun k t cs hc _ _ => hc.grown (F_b F)⟩
theorem thV_of {s : ST} {i : Nat} {c d : Int} {r : List Int} (h1 : s.pc[i]? = some c) (h2 : s.ph[i]? = some d) (h3 : s.regs[i]? = some r) : thV s i = c :: d :: r := by unfold thV; rw [getDS_of h1, getDS_of h2, getDS_of h3]
set_option maxRecDepth 100000 in
set_option maxHeartbeats 8000000 in
theorem textOf_any (s : ST) (n : Nat) (hn : s.pc.length = n) (hf : s.Few) (hw : Wid s) (hl : s.ph.length = n ∧ s.regs.length = n ∧ s.buf.length = n) (vpc vph vrg vmm vbf : Value) (w : World) (hS : STV w s vpc vph vrg vmm vbf) :
    Calls Try.prog 43 #[.agg #[vpc, vph, vrg, vmm, vbf, .int .i64 s.lock]] w fun e w' => e = .returned (.string ⟨(textS s).toArray⟩) ∧ Below w.heap.size w w' := by
 have hnF : n ≤ 1048576 := by rw [← hn]; exact hf.pc
 have hmF := hf.mm
 obtain ⟨l1, l2, l3⟩ := hl
 have hpr : ∀ vs v, Pre s (vs ++ [v]) → I64 v ∧ (cod vs).length ≤ 1099511627776 := fun vs v h => pre_put hf ⟨by omega, by omega⟩ hw h
 obtain ⟨ap, cp, ep, SP, _⟩ := hS.pc
 obtain ⟨ah, ch, eh, SH, _⟩ := hS.ph
 obtain ⟨ag, cg, eg⟩ := hS.rg.form
 obtain ⟨am, cm, em, SM, _⟩ := hS.mm
 obtain ⟨ab, cb, eb⟩ := hS.bf.form
 rw [hn] at ep
 rw [l1] at eh
 rw [l2] at eg
 rw [l3] at eb
 subst ep eh eg em eb
 obtain ⟨nm, hnm⟩ : ∃ k, s.mem.length = k := ⟨_, rfl⟩
 obtain ⟨lk, hlk⟩ : ∃ k, s.lock = k := ⟨_, rfl⟩
 rw [hnm] at hS hmF ⊢
 rw [hlk]
 have HT : Hid (textS s = cod (thsV s n ++ s.mem ++ s.buf.flatMap bfV ++ [lk])) := by show _ = _; unfold textS cod valsS; rw [hn, hlk]; simp
 generalize hTT : textS s = TT at HT ⊢
 clear hTT
 have HS : Hid (STV w s (.slice ap n cp) (.slice ah n ch) (.slice ag n cg) (.slice am nm cm) (.slice ab n cb)) := hS
 have HSP : Hid (Seg w ap (s.pc.flatMap intE)) := SP
 have HSH : Hid (Seg w ah (s.ph.flatMap intE)) := SH
 have HSM : Hid (Seg w am (s.mem.flatMap intE)) := SM
 have HF : Hid (s.Few ∧ Wid s) := ⟨hf, hw⟩
 have HL : Hid (s.pc.length = n ∧ s.ph.length = n ∧ s.regs.length = n ∧ s.buf.length = n ∧ s.mem.length = nm ∧ s.lock = lk) := ⟨hn, l1, l2, l3, hnm, hlk⟩
 clear hS SP SH SM hf hw hn l1 l2 l3 hnm hlk
 have hnI : (n : Int) ≤ 1048576 := by omega
 have hmI : (nm : Int) ≤ 1048576 := by omega
 have t1 : True := trivial
 have t2 : True := trivial
 go_enter Try.func43, Try.ntmps43
 go_wp2_with (first
  | (clear t1; refine wpList_boxS rfl 32 _ rfl [.slice ap n cp, .slice ah n ch, .slice ag n cg, .slice am nm cm, .slice ab n cb, .int .i64 lk] rfl ?_; intro W0 b1 F0 C0; have B0 := F_b F0; clear F0)
  | (clear t2; refine wpList_allocSl rfl 149 rfl zero149 ?_; intro W1 b3 F1 I1; have C1 := C0.fresh F1; have B1 := F1.trans B0 B0.size; have hb3 : w.heap.size ≤ b3 := Nat.le_trans B0.size (Nat.le_of_eq F1.at'.symm); obtain ⟨x0, x1, x2, x3, x4, x5⟩ := st6 C1; clear F1 C0))
 have hB1 : w.heap.size ≤ W1.heap.size := B1.size
 have HB1 : Hid (Below w.heap.size w W1) := B1
 have HC1 : Hid (IsS W1 b1 32 [.slice ap n cp, .slice ah n ch, .slice ag n cg, .slice am nm cm, .slice ab n cb, .int .i64 lk]) := C1
 have HT1 : Hid (Tx W1 w.heap.size b3 (cod [])) := ⟨.slice none 0 0, I1, World.ownsRow_nil _ _ _ _, hb3, by intro e; cases e⟩
 have hput : ∀ vs v, Pre s (vs ++ [v]) → ∀ W, w.heap.size ≤ W.heap.size → Tx W w.heap.size b3 (cod vs) → Calls Try.prog 91 #[.int .i64 v, .pointer (some ⟨b3, 0, none⟩)] W fun e w' => e = .returned (.tuple #[]) ∧ Tx w' w.heap.size b3 (cod (vs ++ [v])) ∧ TxF w.heap.size W w' := fun vs v hp W hB hT => by
  obtain ⟨h1, h2⟩ := hpr vs v hp
  have := putc_any v h1 w.heap.size b3 (cod vs) h2 W hB hT
  rw [cod_snoc]
  exact this
 have hcell : ∀ W, TxF w.heap.size W1 W → IsS W b1 32 [.slice ap n cp, .slice ah n ch, .slice ag n cg, .slice am nm cm, .slice ab n cb, .int .i64 lk] := fun W h => h.keep _ _ _ HC1.out (by decide) (by decide)
 clear C1 I1 x0 x1 x2 x3 x4 x5 B0 B1 hpr
 go_loopw [18] (fun i wr => ∃ k : Nat, k ≤ n ∧ i = .int .i64 (k : Int) ∧ Hid (Tx wr w.heap.size b3 (cod (thsV s k))) ∧ Hid (TxF w.heap.size W1 wr)) (fun i _ => n - (intOf i).toNat)
 case atStart => exact ⟨0, by omega, rfl, HT1, TxF.refl _ _⟩
 case round =>
  obtain ⟨k, hk, rfl, HTx, HFr⟩ := hrel
  have T0 := HTx.out
  have F0 := HFr.out
  have C := hcell _ F0
  have B := HB1.out.trans F0.below
  by_cases hlt : k < n
  · have hki : (k : Int) < n := by omega
    obtain ⟨e1, e2, e3, e4, e5, e6⟩ := HL.out
    obtain ⟨pj, hpj⟩ : ∃ x, s.pc[k]? = some x := ⟨_, List.getElem?_eq_getElem (by omega)⟩
    obtain ⟨hj, hhj⟩ : ∃ x, s.ph[k]? = some x := ⟨_, List.getElem?_eq_getElem (by omega)⟩
    obtain ⟨rg, hrg⟩ : ∃ x, s.regs[k]? = some x := ⟨_, List.getElem?_eq_getElem (by omega)⟩
    have HPR : Hid (Pre s (thsV s k ++ (pj :: hj :: rg))) := by
     show Pre s _
     have := pre_ths s (i := k + 1) (by omega)
     rw [thsV_succ, thV_of hpj hhj hrg] at this
     exact this
    have HNX : Hid (thsV s (k + 1) = thsV s k ++ [pj] ++ [hj] ++ rg) := by show _ = _; rw [thsV_succ, thV_of hpj hhj hrg]; simp
    have pr1 : Pre s (thsV s k ++ [pj]) := by have := HPR.out; rw [show thsV s k ++ (pj :: hj :: rg) = thsV s k ++ [pj] ++ (hj :: rg) by simp] at this; exact this.left
    have pr2 : Pre s (thsV s k ++ [pj] ++ [hj]) := by have := HPR.out; rw [show thsV s k ++ (pj :: hj :: rg) = thsV s k ++ [pj] ++ [hj] ++ rg by simp] at this; exact this.left
    obtain ⟨bp, op, ep, hbp, yp⟩ := HSP.out.int hpj
    obtain ⟨bh, oh, eh, hbh, yh⟩ := HSH.out.int hhj
    obtain ⟨bg, og, aj, cj, eg, hbg, yg, SG, _⟩ := HS.out.rg.at k rg hrg
    subst ep eh eg
    obtain ⟨lr, hlr⟩ : ∃ q, rg.length = q := ⟨_, rfl⟩
    rw [hlr] at yg
    have hlr20 : lr ≤ 1048576 := by rw [← hlr]; exact flat_row HF.out.1.rr hrg
    have hlrI : (lr : Int) ≤ 1048576 := by omega
    have HLR : Hid (rg.length = lr) := hlr
    have HSG : Hid (Seg w aj (rg.flatMap intE)) := SG
    obtain ⟨x0, x1, x2, x3, x4, x5⟩ := st6 C
    have yp0 : wr.cell? ⟨bp, op + k, none⟩ = some (.int .i64 pj) := by rw [B.cell (p := ⟨bp, op + k, none⟩) hbp]; exact yp
    obtain ⟨V0, eV0⟩ : ∃ V, V = thsV s k := ⟨_, rfl⟩
    rw [← eV0] at T0 pr1 pr2 HPR HNX
    clear e1 e2 e3 e4 e5 e6 hpj hhj hrg hlr SG eV0 HTx HFr
    have ta : True := trivial
    have tb : True := trivial
    go_wp2_with (first
     | (clear ta; go_at_call 91; refine (hput V0 pj pr1 _ (Nat.le_trans hB1 F0.below.size) T0).mono ?_; rintro e W2 ⟨rfl, T2, F2x⟩; have F2 := F0.trans F2x; have C2 := hcell _ F2; have B2 := HB1.out.trans F2.below; clear F2x x0 x1 x2 x3 x4 x5 yp0 yp C F0 B T0; obtain ⟨x0, x1, x2, x3, x4, x5⟩ := st6 C2; have yh0 : W2.cell? ⟨bh, oh + k, none⟩ = some (.int .i64 hj) := (by rw [B2.cell (p := ⟨bh, oh + k, none⟩) hbh]; exact yh))
     | (clear tb; go_at_call 91; refine (hput (V0 ++ [pj]) hj pr2 _ (Nat.le_trans hB1 F2.below.size) T2).mono ?_; rintro e W3 ⟨rfl, T3, F3x⟩; have F3 := F2.trans F3x; have C3 := hcell _ F3; have B3 := HB1.out.trans F3.below; clear F3x x0 x1 x2 x3 x4 x5 yh0 yh C2 F2 B2 T2; obtain ⟨x0, x1, x2, x3, x4, x5⟩ := st6 C3; have yg0 : W3.cell? ⟨bg, og + k, none⟩ = some (.slice aj (lr : Nat) cj) := (by rw [B3.cell (p := ⟨bg, og + k, none⟩) hbg]; exact yg)))
    have HT3 : Hid (Tx W3 w.heap.size b3 (cod (V0 ++ [pj] ++ [hj] ++ rg.take 0))) := by show Tx _ _ _ _; simpa using T3
    have HF3 : Hid (TxF w.heap.size W1 W3) := F3
    clear T3 F3 C3 B3 x0 x1 x2 x3 x4 x5 yg0 yg pr1 pr2
    go_loopw [41] (fun i wr => ∃ q : Nat, q ≤ lr ∧ i = .int .i64 (q : Int) ∧ Hid (Tx wr w.heap.size b3 (cod (V0 ++ [pj] ++ [hj] ++ rg.take q))) ∧ Hid (TxF w.heap.size W1 wr)) (fun i _ => lr - (intOf i).toNat)
    case atStart => exact ⟨0, by omega, rfl, HT3, HF3⟩
    case round =>
     obtain ⟨q, hq, rfl, HTq, HFq⟩ := hrel
     by_cases hqt : q < lr
     · have hqi : (q : Int) < lr := by omega
       obtain ⟨x, hx⟩ : ∃ x, rg[q]? = some x := ⟨_, List.getElem?_eq_getElem (by rw [HLR.out]; exact hqt)⟩
       obtain ⟨bx, ox, ex, hbx, yx⟩ := HSG.out.int hx
       subst ex
       have Tq := HTq.out
       have Fq := HFq.out
       have Bq := HB1.out.trans Fq.below
       have yx0 : wr.cell? ⟨bx, ox + q, none⟩ = some (.int .i64 x) := by rw [Bq.cell (p := ⟨bx, ox + q, none⟩) hbx]; exact yx
       have prq : Pre s (V0 ++ [pj] ++ [hj] ++ rg.take q ++ [x]) := by
        have := HPR.out
        rw [show V0 ++ (pj :: hj :: rg) = V0 ++ [pj] ++ [hj] ++ rg.take q ++ [x] ++ rg.drop (q + 1) by
         rw [List.append_assoc _ [x], List.singleton_append, ← dropS_cons hx, List.append_assoc _ (rg.take q), List.take_append_drop]; simp] at this
        exact this.left
       have HTK : Hid (rg.take (q + 1) = rg.take q ++ [x]) := takeS_snoc hx
       clear hx yx
       obtain ⟨V1, eV1⟩ : ∃ V, V = V0 ++ [pj] ++ [hj] ++ rg.take q := ⟨_, rfl⟩
       rw [← eV1] at Tq prq
       have HV1 : Hid (V1 = V0 ++ [pj] ++ [hj] ++ rg.take q) := eV1
       clear eV1
       have tc : True := trivial
       go_wp2_with (clear tc; go_at_call 91; refine (hput V1 x prq _ (Nat.le_trans hB1 Fq.below.size) Tq).mono ?_; rintro e W4 ⟨rfl, T4, F4x⟩; have F4 := Fq.trans F4x; clear F4x)
       go_roundw
       case rel => exact ⟨q + 1, by omega, by go_num, (by show Tx _ _ _ _; rw [HTK.out, ← List.append_assoc, ← HV1.out]; exact T4), F4⟩
       case measure => simp [intOf]; omega
     · obtain rfl : q = lr := by omega
       have hqi : ¬ (q : Int) < q := by omega
       have Tq := HTq.out
       have Fq := HFq.out
       rw [List.take_of_length_le (by rw [HLR.out]; exact Nat.le_refl _), ← HNX.out] at Tq
       go_wp2_with fail
       go_roundw
       case rel => exact ⟨k + 1, by omega, by go_num, Tq, Fq⟩
       case measure => simp [intOf]; omega
  · obtain rfl : k = n := by omega
    have hki : ¬ (k : Int) < k := by omega
    obtain ⟨x0, x1, x2, x3, x4, x5⟩ := st6 C
    clear HTx HFr
    go_wp2_with fail
    have HT3 : Hid (Tx wr w.heap.size b3 (cod (thsV s k ++ s.mem.take 0))) := by show Tx _ _ _ _; simpa using T0
    have HF3 : Hid (TxF w.heap.size W1 wr) := F0
    clear T0 F0 C B x0 x1 x2 x3 x4 x5
    obtain ⟨WR, hWR⟩ : ∃ W, W = wr := ⟨_, rfl⟩
    subst hWR
    obtain ⟨V0, eV0⟩ : ∃ V, V = thsV s k := ⟨_, rfl⟩
    have HV0 : Hid (V0 = thsV s k) := eV0
    rw [← eV0] at HT3 HT
    clear eV0
    go_loopw [53] (fun i wr => ∃ q : Nat, q ≤ nm ∧ i = .int .i64 (q : Int) ∧ Hid (Tx wr w.heap.size b3 (cod (V0 ++ s.mem.take q))) ∧ Hid (TxF w.heap.size W1 wr)) (fun i _ => nm - (intOf i).toNat)
    case atStart => exact ⟨0, by omega, rfl, HT3, HF3⟩
    case round =>
     obtain ⟨q, hq, rfl, HTq, HFq⟩ := hrel
     have Tq := HTq.out
     have Fq := HFq.out
     have Bq := HB1.out.trans Fq.below
     by_cases hqt : q < nm
     · have hqi : (q : Int) < nm := by omega
       obtain ⟨x, hx⟩ : ∃ x, s.mem[q]? = some x := ⟨_, List.getElem?_eq_getElem (by rw [HL.out.2.2.2.2.1]; exact hqt)⟩
       obtain ⟨bx, ox, ex, hbx, yx⟩ := HSM.out.int hx
       subst ex
       have yx0 : wr.cell? ⟨bx, ox + q, none⟩ = some (.int .i64 x) := by rw [Bq.cell (p := ⟨bx, ox + q, none⟩) hbx]; exact yx
       have HTK : Hid (s.mem.take (q + 1) = s.mem.take q ++ [x]) := takeS_snoc hx
       have prq : Pre s (V0 ++ s.mem.take q ++ [x]) := by
        have := pre_mem s (q + 1)
        rw [HL.out.1, ← HV0.out, HTK.out, ← List.append_assoc] at this
        exact this
       clear hx yx
       obtain ⟨V1, eV1⟩ : ∃ V, V = V0 ++ s.mem.take q := ⟨_, rfl⟩
       rw [← eV1] at Tq prq
       have HV1 : Hid (V1 = V0 ++ s.mem.take q) := eV1
       clear eV1
       have tc : True := trivial
       go_wp2_with (clear tc; go_at_call 91; refine (hput V1 x prq _ (Nat.le_trans hB1 Fq.below.size) Tq).mono ?_; rintro e W4 ⟨rfl, T4, F4x⟩; have F4 := Fq.trans F4x; clear F4x)
       go_roundw
       case rel => exact ⟨q + 1, by omega, by go_num, (by show Tx _ _ _ _; rw [HTK.out, ← List.append_assoc, ← HV1.out]; exact T4), F4⟩
       case measure => simp [intOf]; omega
     · obtain rfl : q = nm := by omega
       have hqi : ¬ (q : Int) < q := by omega
       have C := hcell _ Fq
       obtain ⟨x0, x1, x2, x3, x4, x5⟩ := st6 C
       rw [List.take_of_length_le (by rw [HL.out.2.2.2.2.1]; exact Nat.le_refl _)] at Tq
       clear HTq HFq
       go_wp2_with fail
       have HT4 : Hid (Tx wr w.heap.size b3 (cod (V0 ++ s.mem ++ (s.buf.take 0).flatMap bfV))) := by show Tx _ _ _ _; simpa using Tq
       have HF4 : Hid (TxF w.heap.size W1 wr) := Fq
       clear Tq Fq C Bq x0 x1 x2 x3 x4 x5
       obtain ⟨WR2, hWR2⟩ : ∃ W, W = wr := ⟨_, rfl⟩
       subst hWR2
       go_loopw [64] (fun i wr => ∃ j : Nat, j ≤ k ∧ i = .int .i64 (j : Int) ∧ Hid (Tx wr w.heap.size b3 (cod (V0 ++ s.mem ++ (s.buf.take j).flatMap bfV))) ∧ Hid (TxF w.heap.size W1 wr)) (fun i _ => k - (intOf i).toNat)
       case atStart => exact ⟨0, by omega, rfl, HT4, HF4⟩
       case round =>
        obtain ⟨j, hj, rfl, HTj, HFj⟩ := hrel
        have Tj := HTj.out
        have Fj := HFj.out
        have Bj := HB1.out.trans Fj.below
        have Cj := hcell _ Fj
        by_cases hjt : j < k
        · have hji : (j : Int) < k := by omega
          obtain ⟨bf, hbf⟩ : ∃ x, s.buf[j]? = some x := ⟨_, List.getElem?_eq_getElem (by rw [HL.out.2.2.2.1]; exact hjt)⟩
          obtain ⟨bb, ob, aj, cj, eb, hbb, yb, SB, _⟩ := HS.out.bf.at j bf hbf
          subst eb
          obtain ⟨lb, hlb⟩ : ∃ q, bf.length = q := ⟨_, rfl⟩
          rw [hlb] at yb
          have hlb20 : lb ≤ 1048576 := by rw [← hlb]; exact flat_row HF.out.1.bb hbf
          have hlbI : (lb : Int) ≤ 1048576 := by omega
          have HLB : Hid (bf.length = lb) := hlb
          have HSB : Hid (Seg w aj (bf.flatMap wrE)) := SB
          have yb0 : wr.cell? ⟨bb, ob + j, none⟩ = some (.slice aj (lb : Nat) cj) := by rw [Bj.cell (p := ⟨bb, ob + j, none⟩) hbb]; exact yb
          have HPR : Hid (Pre s (V0 ++ s.mem ++ (s.buf.take j).flatMap bfV ++ ([(lb : Int)] ++ wrV bf))) := by
           show Pre s _
           have := pre_buf s (j + 1)
           rw [HL.out.1, ← HV0.out, takeS_snoc hbf, List.flatMap_append] at this
           simp only [List.flatMap_cons, List.flatMap_nil, List.append_nil] at this
           rw [← List.append_assoc] at this
           unfold bfV at this
           rw [hlb] at this
           exact this
          have HNX : Hid (V0 ++ s.mem ++ (s.buf.take (j + 1)).flatMap bfV = V0 ++ s.mem ++ (s.buf.take j).flatMap bfV ++ [(lb : Int)] ++ wrV bf) := by
           show _ = _
           rw [takeS_snoc hbf, List.flatMap_append]
           simp only [List.flatMap_cons, List.flatMap_nil, List.append_nil]
           unfold bfV
           rw [hlb]
           simp
          obtain ⟨V1, eV1⟩ : ∃ V, V = V0 ++ s.mem ++ (s.buf.take j).flatMap bfV := ⟨_, rfl⟩
          rw [← eV1] at Tj HPR HNX
          have pr1 : Pre s (V1 ++ [(lb : Int)]) := by have := HPR.out; rw [← List.append_assoc] at this; exact this.left
          clear hbf hlb SB yb eV1 HTj HFj Cj
          have ta : True := trivial
          go_wp2_with (clear ta; go_at_call 91; refine (hput V1 (lb : Int) pr1 _ (Nat.le_trans hB1 Fj.below.size) Tj).mono ?_; rintro e W2 ⟨rfl, T2, F2x⟩; have F2 := Fj.trans F2x; clear F2x Tj Fj Bj yb0)
          have HT2 : Hid (Tx W2 w.heap.size b3 (cod (V1 ++ [(lb : Int)] ++ wrV (bf.take 0)))) := by show Tx _ _ _ _; simpa [wrV] using T2
          have HF2 : Hid (TxF w.heap.size W1 W2) := F2
          clear T2 F2 pr1
          go_loopw [74] (fun i wr => ∃ q : Nat, q ≤ lb ∧ i = .int .i64 (q : Int) ∧ Hid (Tx wr w.heap.size b3 (cod (V1 ++ [(lb : Int)] ++ wrV (bf.take q)))) ∧ Hid (TxF w.heap.size W1 wr)) (fun i _ => lb - (intOf i).toNat)
          case atStart => exact ⟨0, by omega, rfl, HT2, HF2⟩
          case round =>
           obtain ⟨q, hq, rfl, HTq, HFq⟩ := hrel
           have Tq := HTq.out
           have Fq := HFq.out
           have Bq := HB1.out.trans Fq.below
           by_cases hqt : q < lb
           · have hqi : (q : Int) < lb := by omega
             obtain ⟨x, hx⟩ : ∃ x, bf[q]? = some x := ⟨_, List.getElem?_eq_getElem (by rw [HLB.out]; exact hqt)⟩
             obtain ⟨bx, ox, ex, hbx, hc⟩ := HSB.out.wr hx
             subst ex
             obtain ⟨xa, xb⟩ := x
             have hcx : ∀ (i : Nat) u, ([.int .i64 xa, .int .i64 xb] : List Value)[i]? = some u → wr.cell? ⟨bx, ox + q * 2 + i, none⟩ = some u := fun i u hu => by rw [Bq.cell (p := ⟨bx, ox + q * 2 + i, none⟩) hbx]; exact hc i u hu
             have HTK : Hid (wrV (bf.take (q + 1)) = wrV (bf.take q) ++ [xa] ++ [xb]) := by show _ = _; rw [takeS_snoc hx, wrV_snoc, List.append_assoc]
             have hpr0 : Pre s (V1 ++ [(lb : Int)] ++ wrV (bf.take q) ++ [xa] ++ [xb]) := by
              have := HPR.out
              rw [show V1 ++ ([(lb : Int)] ++ wrV bf) = V1 ++ [(lb : Int)] ++ wrV (bf.take q) ++ [xa] ++ [xb] ++ wrV (bf.drop (q + 1)) by
               have e : wrV bf = wrV (bf.take q) ++ ([xa] ++ ([xb] ++ wrV (bf.drop (q + 1)))) := by
                conv => lhs; rw [← List.take_append_drop q bf, dropS_cons hx]
                unfold wrV
                rw [List.flatMap_append, List.flatMap_cons]
                rfl
               rw [e]; simp] at this
              exact this.left
             clear hx hc
             obtain ⟨V2, eV2⟩ : ∃ V, V = V1 ++ [(lb : Int)] ++ wrV (bf.take q) := ⟨_, rfl⟩
             rw [← eV2] at Tq hpr0
             have HV2 : Hid (V2 = V1 ++ [(lb : Int)] ++ wrV (bf.take q)) := eV2
             have pra : Pre s (V2 ++ [xa]) := hpr0.left
             clear eV2 HTq HFq
             have ta : True := trivial
             have tb : True := trivial
             have tc : True := trivial
             have td : True := trivial
             go_wp2_with (first
              | (clear ta; refine wpList_loadX rfl 50 _ rfl rfl [.int .i64 xa, .int .i64 xb] hcx _ Try.underlying50 rfl infoWr ?_)
              | (clear tb; refine wpList_allocS rfl 50 rfl [.int .i64 0, .int .i64 0] zeroWr ?_; intro W3 b13 G3 I3; have T3 := Tq.belowT (F_b G3); have F3 := Fq.trans (TxF.fresh G3 (Nat.le_trans hB1 Fq.below.size)); have h13 : w.heap.size ≤ b13 := Nat.le_trans (Nat.le_trans hB1 Fq.below.size) (Nat.le_of_eq G3.at'.symm); have hn13 : wr.heap.size ≤ b13 := Nat.le_of_eq G3.at'.symm; clear G3)
              | (refine wpList_storeW rfl 50 _ _ rfl rfl [.int .i64 xa, .int .i64 xb] rfl I3 rfl infoWr (by intro v hv; simp at hv; rcases hv with rfl | rfl <;> rfl) ?_; intro W4 U4 I4; have T4 := T3.updT U4 I3 (by decide) (by decide); have F4 : TxF w.heap.size W1 W4 := ⟨U4.trans F3.below h13, fun kk tt cs hc h1 h5 => (F3.keep kk tt cs hc h1 h5).upd U4 (fun e => by have hlt := (Fq.keep kk tt cs hc h1 h5).lt; omega)⟩; obtain ⟨y0, y1⟩ := two_cells I4; clear U4)
              | (clear tc; go_at_call 91; refine (hput V2 xa pra _ (Nat.le_trans hB1 F4.below.size) T4).mono ?_; rintro e W5 ⟨rfl, T5, F5x⟩; have F5 := F4.trans F5x; have I5 := F5x.keep _ _ _ I4 (by decide) (by decide); clear y0 y1; obtain ⟨y0, y1⟩ := two_cells I5; clear F5x)
              | (clear td; go_at_call 91; refine (hput (V2 ++ [xa]) xb hpr0 _ (Nat.le_trans hB1 F5.below.size) T5).mono ?_; rintro e W6 ⟨rfl, T6, F6x⟩; have F6 := F5.trans F6x; clear F6x))
             go_roundw
             case rel => exact ⟨q + 1, by omega, by go_num, (by show Tx _ _ _ _; rw [HTK.out, ← List.append_assoc, ← List.append_assoc, ← HV2.out]; exact T6), F6⟩
             case measure => simp [intOf]; omega
           · obtain rfl : q = lb := by omega
             have hqi : ¬ (q : Int) < q := by omega
             rw [List.take_of_length_le (by rw [HLB.out]; exact Nat.le_refl _), ← HNX.out] at Tq
             go_wp2_with fail
             go_roundw
             case rel => exact ⟨j + 1, by omega, by go_num, Tq, Fq⟩
             case measure => simp [intOf]; omega
        · obtain rfl : j = k := by omega
          have hji : ¬ (j : Int) < j := by omega
          obtain ⟨x0, x1, x2, x3, x4, x5⟩ := st6 Cj
          rw [List.take_of_length_le (by rw [HL.out.2.2.2.1]; exact Nat.le_refl _)] at Tj
          have prl : Pre s (V0 ++ s.mem ++ s.buf.flatMap bfV ++ [lk]) := by
           have := pre_all s
           rw [HL.out.1, ← HV0.out, HL.out.2.2.2.2.2] at this
           exact this
          obtain ⟨V1, eV1⟩ : ∃ V, V = V0 ++ s.mem ++ s.buf.flatMap bfV := ⟨_, rfl⟩
          rw [← eV1] at Tj prl HT
          clear eV1 HTj HFj
          have ta : True := trivial
          have tb : True := trivial
          go_wp2_with (first
           | (clear ta; go_at_call 91; refine (hput V1 lk prl _ (Nat.le_trans hB1 Fj.below.size) Tj).mono ?_; rintro e W5 ⟨rfl, T5, F5x⟩; have F5 := Fj.trans F5x; obtain ⟨vv, I5, O5, _, _⟩ := T5; have y0 := I5.cell 0; have hcv := conv_tx O5; clear F5x))
          go_ret
          exact ⟨by rw [HT.out]; rfl, HB1.out.trans F5.below⟩
end Go.Proofs.Ytegpnicajlndlaa

/- Several texts in one: SC9, RG. -/
import Derived.Test.YtegpnicajlndlaaQay
import Derived.Test.YtegpnicajlndlaaQau
/- sc's Play. -/
namespace Go.Proofs.Ytegpnicajlndlaa
open Go.RowKit M
set_option linter.unusedSimpArgs false
set_option linter.unusedVariables false

theorem ret_ST {w : World} {b t k : Nat} {cs : List Value} {fn : Func} {p : Tmp} {R : Ending → World → Prop} {a : Act} (h : fn.results = #[.cell p t, .tmp k]) (hp : a.tmps.getD p undef = .pointer (some ⟨b, 0, none⟩))
    (hd : a.defers = []) (hc : IsS w b t cs) (d : TypeDesc) (hu : Try.prog.underlying t = some d) (hr : (match d with | .struct _ => true | .array _ _ => true | _ => false) = true) (hi : (Try.prog.info? t).map (·.size) = some cs.length) (v : Value) (hv : a.tmps.getD k undef = v) (hR : R (.returned (.tuple #[.agg cs.toArray, v])) w) : bodyPost Try.prog fn R .ret a w := by
  have hc' : w.heap[b]? = some (.cells cs.toArray t (0, 0)) := hc
  have hp' : a.tmps[p]?.getD undef = .pointer (some ⟨b, 0, none⟩) := by simpa using hp
  have hv' : a.tmps[k]?.getD undef = v := by simpa using hv
  refine ⟨hd, .tuple #[.agg cs.toArray, v], ?_, hR⟩
  simp [results, h, hp', hv', asAddr, run_loadVar_row w b t t cs.toArray (0, 0) d hc' hu (by cases d <;> simp_all) (by simpa using hi)]
theorem flat_le (m : Nat) : ∀ (l : List (List Int)), (∀ q ∈ l, q.length ≤ m) → l.flatten.length ≤ m * l.length
  | [], _ => by simp
  | q :: l, h => by
    rw [List.flatten_cons, List.length_append, List.length_cons, Nat.mul_succ]
    have h1 := h q (by simp)
    have h2 := flat_le m l fun x hx => h x (List.mem_cons_of_mem _ hx)
    omega
theorem inv_48 {p : PG} {pc : List Int} {regs : List (List Int)} {mem : List Int} (hv : Vld p) (hI : Inv p pc regs mem) : (regs.flatten ++ mem).length ≤ 48 := by
  have h1 := flat_le 8 regs fun q hq => by
    obtain ⟨i, hi⟩ := List.getElem?_of_mem hq
    have hl := (List.getElem?_eq_some_iff.1 hi).1
    have hr : p.regs[i]? = some (p.regs.getD i []) := by have := hv.rl; have := hI.rl; simp [show i < p.regs.length by omega]
    rw [hI.rs i _ _ hr hi]; exact hv.few i _ hr
  have h2 := hI.rl
  have h3 := hv.n4
  have h4 := hv.l16
  have h5 := hI.ml
  rw [List.length_append]
  have : 8 * regs.length ≤ 32 := by omega
  omega
/-- The final state of a run in an order; none: it is none of the weaves. -/
def playF (p : PG) (l : List Int) : Option (List Int) := match playS p.threads l (List.replicate p.threads.length 0) p.regInit p.locInit with
  | none => none
  | some t => if doneB p.threads t.1 then some (t.2.1.flatten ++ t.2.2) else none
noncomputable def playV (p : PG) (l : List Int) : Value := if validV p = 0 then (match playF p l with
  | none => .tuple #[.agg (finL []).toArray, .int .i64 150]
  | some vs => .tuple #[.agg (finL vs).toArray, .int .i64 0]) else .tuple #[.agg (finL []).toArray, .int .i64 (validV p)]
theorem build0Fin {w : World} {op : Oper} {a : Act} (ho : op.op = .build 80 #[]) : (execOp a.eval op).run Try.prog w = .ok (.value (.agg (finL []).toArray)) w := by
  have h : Try.t80.zero = some (.agg (finL []).toArray) := by kernel_rfl
  unfold execOp
  simp [ho, go_sem, zeroValue, h]
theorem wpList_b0Fin {w : World} {ops : Array Oper} {rest : List Oper} {op : Oper} {a : Act} {Q : Exit → Act → World → Prop} (hgd : op.guard = none) (ho : op.op = .build 80 #[]) (h : wpList Try.prog ops Q rest (a.put op.dst (.agg (finL []).toArray)) w) : wpList Try.prog ops Q (op :: rest) a w := by
  refine wpList_plain hgd fun K hK => ?_
  unfold Oper.wp
  rw [build0Fin ho]
  exact hK _ _ h
theorem st_one {v2 v3 : Value} {a b c : Option Addr} {n1 n2 n3 c1 c2 c3 : Nat} {z : Int} (h2 : v2.oneCell' = true) (h3 : v3.oneCell' = true) : ∀ v ∈ [Value.slice a n1 c1, .slice b n2 c2, v2, v3, .slice c n3 c3, .int .i64 z], v.oneCell' = true := by
  intro v hv
  simp only [List.mem_cons, List.not_mem_nil, or_false] at hv
  rcases hv with rfl | rfl | rfl | rfl | rfl | rfl
  · rfl
  · rfl
  · exact h2
  · exact h3
  · rfl
  · rfl
theorem OwnA.rows {w : World} {B : Nat} {v : Value} {vs : List Value} {xss : List (List Int)} (h : OwnA w B v vs xss) : RowsV w v intE xss := ⟨vs, h.len, own_row h.out, fun j u xs hu hx => own_row (h.row j u xs hu hx)⟩
theorem own_segI {w : World} {B t n m c : Nat} {a : Option Addr} {xs : List Value} (h : w.ownsRow B t 1 (.slice a n c) m xs) : Seg w a xs := by
  obtain ⟨a', c', e, hs, _⟩ := own_row h
  injection e with e1 e2 e3
  rw [e1]; exact hs
theorem isS_fr {w W : World} {vs : List Value} {b t : Nat} {cs : List Value} (h : IsS w b t cs) (F : Fr w W vs) (hb : ∀ v ∈ vs, v.ownBlock ≠ some b) : IsS W b t cs := (F.block b h.lt hb).trans h
theorem pg5 {v0 v1 v2 v3 v4 : Value} {W : World} {b t : Nat} (h : IsS W b t [v0, v1, v2, v3, v4]) : W.cell? ⟨b, 0, none⟩ = some v0 := h.cell 0
set_option maxRecDepth 100000 in
set_option maxHeartbeats 8000000 in
theorem play_any (p : PG) (hf : p.Few) (l : List Int) (no co : Nat) (ao : Option Addr) (hno : l.length = no) (hn : no ≤ 1048576) (vt vr vl vi vj : Value) (w : World) (hp : PGV w vt vr vl vi vj p) (hO : Seg w ao (l.flatMap intE)) :
    Calls Try.prog 32 #[.agg #[vt, vr, vl, vi, vj], .slice ao no co] w fun e w' => e = .returned (playV p l) ∧ Below w.heap.size w w' := by
  have hfin0 : (finL []).length = 49 := finL_len (by simp)
  have hVal := fun W (h : PGV W vt vr vl vi vj p) => valid_any p hf vt vr vl vi vj W h
  have hSt := fun W (h : PGV W vt vr vl vi vj p) => startOf_any p p.threads.length hf rfl vt vr vl vi vj W h
  have HP : Hid (PGV w vt vr vl vi vj p) := hp
  have HO : Hid (Seg w ao (l.flatMap intE)) := hO
  have HNO : Hid (l.length = no) := hno
  have t1 : True := trivial
  have t2 : True := trivial
  have hnI : (no : Int) ≤ 1048576 := by omega
  by_cases hv0 : validV p = 0
  · have hv := vld_of hv0
    have HE : Hid (playV p l = match playF p l with
      | none => .tuple #[.agg (finL []).toArray, .int .i64 150]
      | some vs => .tuple #[.agg (finL vs).toArray, .int .i64 0]) := by show _ = _; unfold playV; rw [if_pos hv0]
    rw [hv0] at hVal
    generalize playV p l = V at *
    obtain ⟨at0, ct, hvt⟩ := hp.t.form
    subst hvt
    have HT : Hid (RowsV w (.slice at0 p.threads.length ct) op5L p.threads) := hp.t
    have HTF : Hid (p.threads.flatten.length ≤ 1048576 ∧ p.threads.length ≤ 1048576) := ⟨hf.tt, hf.t⟩
    have tsome := fun pc regs mem (hI : Inv p pc regs mem) i B vpc vph vrg vmm vbf vlk vs W t (h : stepS p.threads pc regs mem i = some t) (hT : RowsV W (.slice at0 p.threads.length ct) op5L p.threads) (hS : StO W B vpc vrg vmm vs pc regs mem) => turn_some p hv hf pc regs mem hI i B ct at0 vpc vph vrg vmm vbf vlk vs W t h hT hS
    have tnone := fun pc regs mem (hI : Inv p pc regs mem) i B vpc vph vrg vmm vbf vlk W (h : stepS p.threads pc regs mem i = none) (hT : RowsV W (.slice at0 p.threads.length ct) op5L p.threads) (hS : W.ownsRow B 3 1 vpc pc.length (pc.flatMap intE)) => turn_none p hf pc regs mem hI i B ct at0 vpc vph vrg vmm vbf vlk W h hT hS
    have HV : Hid (Vld p) := hv
    obtain ⟨n, hn0⟩ : ∃ n, p.threads.length = n := ⟨_, rfl⟩
    have HN : Hid (p.threads.length = n) := hn0
    simp only [hn0] at hSt tsome tnone
    rw [hn0] at HT HP hVal ⊢
    clear hp hO hv hf hno hv0
    simp only [hn0] at hn0
    clear hn0
    go_enter Try.func32, Try.ntmps32
    go_wp2_with (first
      | (clear t1; refine wpList_boxS rfl 28 _ rfl [.slice at0 n ct, vr, vl, vi, vj] rfl ?_; intro W0 b2 F0 C0; have B0 := F_b F0; have hb2 : w.heap.size ≤ b2 := Nat.le_of_eq F0.at'.symm; clear F0; have t3 : True := trivial; have t4 : True := trivial)
      | (clear t2; refine wpList_allocS rfl 80 rfl (finL []) zeroFin ?_; intro W1 b4 F1 D1; have C1 := C0.fresh F1; have B1 := F1.trans B0 B0.size; have hb4 : w.heap.size ≤ b4 := Nat.le_trans B0.size (Nat.le_of_eq F1.at'.symm); have n24 : b2 ≠ b4 := (by have := C0.lt; have := F1.at'; omega); clear F1 C0)
      | (clear t3; refine wpList_loadW rfl 28 _ rfl rfl C1 _ Try.underlying28 rfl infoPg ?_)
      | (go_at_call 36; refine (hVal _ (HP.out.below B1)).mono ?_; rintro e W2 ⟨rfl, B2⟩; have C2 := C1.grown B2; have D2 := D1.grown B2; have B02 := Below.then B1 B2; clear hVal C1 D1)
      | (clear t4; refine wpList_loadW rfl 28 _ rfl rfl C2 _ Try.underlying28 rfl infoPg ?_)
      | (go_at_call 47; refine (hSt _ (HP.out.below B02)).mono ?_; rintro e W3 ⟨gp, gh, gb, vrg, vmm, vs, rfl, S3, _, _, B3⟩; have C3 := C2.grown B3; have D3 := D2.grown B3; have B03 := Below.then B02 B3; have t5 : True := trivial; clear hSt)
      | (clear t5; refine wpList_allocS rfl 32 rfl [.slice none 0 0, .slice none 0 0, .slice none 0 0, .slice none 0 0, .slice none 0 0, .int .i64 0] zeroSt ?_; intro W4 b7 F4 I4; have B34 := F_b F4; have C4 := C3.fresh F4; have D4 := D3.fresh F4; have B04 := F4.trans B03 B03.size; have h7 : W3.heap.size ≤ b7 := Nat.le_of_eq F4.at'.symm; have S4 := S3.below B34; clear F4; have t6 : True := trivial)
      | (clear t6; refine wpList_storeW rfl 32 _ _ rfl rfl [.slice (some ⟨gp, 0, none⟩) n n, .slice (some ⟨gh, 0, none⟩) n n, vrg, vmm, .slice (some ⟨gb, 0, none⟩) n n, .int .i64 (-1)] rfl I4 rfl infoSt (st_one (own_cell S3.rg.out) (own_cell S3.mm)) ?_; intro W5 U5 I5; have B35 := U5.trans B34 h7; have B05 := U5.trans B04 (Nat.le_trans B03.size h7); have S5 := S3.below B35; have C5 := C3.grown B35; have D5 := D3.grown B35; clear U5 I4 S4 C4 D4 B34))
    obtain ⟨ar, cr, hvr⟩ := own_form S3.rg.out
    obtain ⟨am, cm, hvm⟩ := own_form S3.mm
    obtain ⟨nm, hnm⟩ : ∃ k, p.locInit.length = k := ⟨_, rfl⟩
    rw [hnm] at hvm
    rw [HV.out.il, HN.out] at hvr
    subst hvr hvm
    have HNM : Hid (p.locs.length = nm) := by rw [← hnm]; exact HV.out.ll.symm
    have z02 := B02.size
    have hC2l := C2.lt
    have hD2l := D2.lt
    have HK : Hid (∀ v ∈ vs ++ [Value.slice am nm cm, .slice (some ⟨gp, 0, none⟩) n n], ∀ k, v.ownBlock = some k → W2.heap.size ≤ k ∧ k < W3.heap.size) := by
      intro v hv k hk
      rcases List.mem_append.1 hv with hv | hv
      · obtain ⟨j, hj⟩ := List.getElem?_of_mem hv
        exact S3.rg.range hj hk
      · simp only [List.mem_cons, List.not_mem_nil, or_false] at hv
        rcases hv with rfl | rfl
        · exact own_lt S3.mm hk
        · exact own_lt S3.pc hk
    have hkk : ∀ b, b < W2.heap.size ∨ W3.heap.size ≤ b → ∀ v ∈ vs ++ [Value.slice am nm cm, .slice (some ⟨gp, 0, none⟩) n n], v.ownBlock ≠ some b := fun b hb v hv e => by
      have := HK.out v hv b e
      omega
    have HS5 : Hid (StO W5 W2.heap.size (.slice (some ⟨gp, 0, none⟩) n n) (.slice ar n cr) (.slice am nm cm) vs (List.replicate n 0) p.regInit p.locInit) := S5
    have HC5 : Hid (IsS W5 b2 28 [.slice at0 n ct, vr, vl, vi, vj]) := C5
    have HD5 : Hid (IsS W5 b4 80 (finL [])) := D5
    have HI5 : Hid (IsS W5 b7 32 [.slice (some ⟨gp, 0, none⟩) n n, .slice (some ⟨gh, 0, none⟩) n n, .slice ar n cr, .slice am nm cm, .slice (some ⟨gb, 0, none⟩) n n, .int .i64 (-1)]) := I5
    have HB5 : Hid (Below w.heap.size w W5) := B05
    have HZ : Hid ((∀ b, b < W2.heap.size ∨ W3.heap.size ≤ b → ∀ v ∈ vs ++ [Value.slice am nm cm, .slice (some ⟨gp, 0, none⟩) n n], v.ownBlock ≠ some b) ∧ b2 < W2.heap.size ∧ b4 < W2.heap.size ∧ W3.heap.size ≤ b7 ∧ w.heap.size ≤ W2.heap.size) := ⟨hkk, hC2l, hD2l, h7, z02⟩
    clear S3 S5 C5 D5 I5 B05 C2 D2 C3 D3 hkk hnm B35 B3 B03 B04
    go_loopw [20] (fun i wr => ∃ (k : Nat) (t : List Int × List (List Int) × List Int), k ≤ no ∧ i = .int .i64 (k : Int) ∧ Hid (playS p.threads (l.take k) (List.replicate n 0) p.regInit p.locInit = some t) ∧ Hid (Inv p t.1 t.2.1 t.2.2) ∧ Hid (StO wr W2.heap.size (.slice (some ⟨gp, 0, none⟩) n n) (.slice ar n cr) (.slice am nm cm) vs t.1 t.2.1 t.2.2) ∧ Hid (IsS wr b2 28 [.slice at0 n ct, vr, vl, vi, vj]) ∧ Hid (IsS wr b4 80 (finL [])) ∧ Hid (IsS wr b7 32 [.slice (some ⟨gp, 0, none⟩) n n, .slice (some ⟨gh, 0, none⟩) n n, .slice ar n cr, .slice am nm cm, .slice (some ⟨gb, 0, none⟩) n n, .int .i64 (-1)]) ∧ Hid (Below w.heap.size w wr)) (fun i _ => no - (intOf i).toNat)
    case atStart => exact ⟨0, (List.replicate n 0, p.regInit, p.locInit), Nat.zero_le _, rfl, rfl, by have := inv_start HV.out; rw [HN.out] at this; exact this, HS5, HC5, HD5, HI5, HB5⟩
    case round =>
      clear HS5 HC5 HD5 HI5 HB5
      obtain ⟨k, t, hk, rfl, HPl, HIv, HS, HC, HD, HI, HB⟩ := hrel
      obtain ⟨pc, regs, mem⟩ := t
      have y2 : wr.cell? ⟨b2, 0, none⟩ = some (.slice at0 n ct) := HC.out.cell 0
      by_cases hlt : k < no
      · have hki : (k : Int) < no := by omega
        obtain ⟨q, hq⟩ : ∃ q, l[k]? = some q := ⟨_, List.getElem?_eq_getElem (by rw [HNO.out]; exact hlt)⟩
        obtain ⟨bo, oo, rfl, hbo, yo⟩ := (HO.out.below HB.out).int hq
        have HTK : Hid (l.take (k + 1) = l.take k ++ [q]) := take_at hq
        have HPN : playS p.threads (l.take (k + 1)) (List.replicate n 0) p.regInit p.locInit = stepS p.threads pc regs mem q := by rw [HTK.out, playS_snoc, HPl.out]
        cases hs : stepS p.threads pc regs mem q with
        | none =>
          have ht := tnone pc regs mem HIv.out q W2.heap.size (.slice (some ⟨gp, 0, none⟩) n n) (.slice (some ⟨gh, 0, none⟩) n n) (.slice ar n cr) (.slice am nm cm) (.slice (some ⟨gb, 0, none⟩) n n) (.int .i64 (-1)) wr hs (HT.out.below HB.out) HS.out.pc
          have HVv : Hid (V = .tuple #[.agg (finL []).toArray, .int .i64 150]) := by
            show _ = _
            have hpl : playS p.threads l (List.replicate n 0) p.regInit p.locInit = none := by
              rw [hs] at HPN
              have := playS_stop p.threads (l.take (k + 1)) (l.drop (k + 1)) _ _ _ HPN
              rw [List.take_append_drop] at this
              exact this
            have h2 : playF p l = none := by unfold playF; rw [HN.out, hpl]
            rw [HE.out, h2]
          have HD' := HD.out
          clear hs HPN hq tsome tnone
          have ta : True := trivial
          have tb : True := trivial
          go_wp2_with (first
            | (clear ta; refine wpList_loadW rfl 32 _ rfl rfl HI.out _ Try.underlying32 rfl infoSt ?_)
            | (go_at_call 75; refine ht.mono ?_; rintro e W7 ⟨rfl, B7⟩; have D7 := HD'.grown B7; have B07 := Below.then HB.out B7; clear ht y2 yo)
            | (clear tb; refine wpList_b0Fin rfl rfl ?_)
            | (refine wpList_storeW rfl 80 _ _ rfl rfl (finL []) rfl D7 rfl (by rw [hfin0]; exact infoFin) (finL_one _) ?_; intro W8 U8 D8; have B08 := U8.trans B07 hb4; clear D7 U8))
          exact ret_ST rfl rfl rfl D8 _ Try.underlying80 rfl (by rw [hfin0]; exact infoFin) _ rfl ⟨congrArg Ending.returned HVv.out.symm, B08⟩
        | some t' =>
          have ht := tsome pc regs mem HIv.out q W2.heap.size (.slice (some ⟨gp, 0, none⟩) n n) (.slice (some ⟨gh, 0, none⟩) n n) (.slice ar n cr) (.slice am nm cm) (.slice (some ⟨gb, 0, none⟩) n n) (.int .i64 (-1)) vs wr t' hs (HT.out.below HB.out) HS.out
          rw [hs] at HPN
          have HPN' : Hid (playS p.threads (l.take (k + 1)) (List.replicate n 0) p.regInit p.locInit = some t') := HPN
          have HIN' : Hid (Inv p t'.1 t'.2.1 t'.2.2) := inv_step HV.out HIv.out hs
          clear hs HPN hq tsome tnone
          have ta : True := trivial
          go_wp2_with (first
            | (clear ta; refine wpList_loadW rfl 32 _ rfl rfl HI.out _ Try.underlying32 rfl infoSt ?_)
            | (go_at_call 75; refine ht.mono ?_; rintro e W7 ⟨rfl, S7, F7⟩; clear ht y2 yo))
          go_roundw
          case rel =>
            obtain ⟨z1, z2, z3, z4, z5⟩ := HZ.out
            exact ⟨k + 1, t', by omega, by go_num, HPN', HIN', S7, isS_fr HC.out F7 (z1 b2 (.inl z2)), isS_fr HD.out F7 (z1 b4 (.inl z3)), isS_fr HI.out F7 (z1 b7 (.inr z4)), F7.below HB.out HB.out.size (fun v hv k hk => Nat.le_trans z5 (HK.out v hv k hk).1)⟩
          case measure => simp [intOf]; omega
      · have ek : k = no := by omega
        subst ek
        have hki : ¬ ((k : Int) < k) := by omega
        rw [List.take_of_length_le (by rw [HNO.out]; exact Nat.le_refl _)] at HPl
        have hpl : pc.length = n := by have := HIv.out.pl; rw [HN.out] at this; exact this
        have hrl : regs.length = n := by have := HIv.out.rl; rw [HN.out] at this; exact this
        have hml : mem.length = nm := by have := HIv.out.ml; rw [HNM.out] at this; exact this
        have hseg := own_segI HS.out.pc
        have hdn := done_any p.threads pc n ct n n at0 (some ⟨gp, 0, none⟩) (.slice (some ⟨gh, 0, none⟩) n n) (.slice ar n cr) (.slice am nm cm) (.slice (some ⟨gb, 0, none⟩) n n) (.int .i64 (-1)) wr HN.out hpl rfl (by rw [← HN.out]; exact HTF.out.2) HTF.out.1 (HT.out.below HB.out) hseg
        have h48 := inv_48 HV.out HIv.out
        have hfn := fun W (hB : Below wr.heap.size wr W) => finalOf_any regs mem (.slice (some ⟨gp, 0, none⟩) n n) (.slice (some ⟨gh, 0, none⟩) n n) (.slice (some ⟨gb, 0, none⟩) n n) (.int .i64 (-1)) ar am n cr nm cm (regs.flatten ++ mem).length W hrl hml (by rw [← HN.out]; exact HTF.out.2) rfl h48 (HS.out.rg.rows.below hB) ((own_row HS.out.mm).below hB)
        have hpf : playF p l = if doneB p.threads pc then some (regs.flatten ++ mem) else none := by unfold playF; rw [HN.out, HPl.out]
        have HD' := HD.out
        have HI' := HI.out
        have ta : True := trivial
        cases hd : doneB p.threads pc with
        | false =>
          have HVv : Hid (V = .tuple #[.agg (finL []).toArray, .int .i64 150]) := by show _ = _; rw [HE.out, hpf, hd]; rfl
          rw [hd] at hdn
          clear hd hpf hfn hseg tsome tnone
          have tb : True := trivial
          go_wp2_with (first
            | (clear ta; refine wpList_loadW rfl 32 _ rfl rfl HI' _ Try.underlying32 rfl infoSt ?_)
            | (go_at_call 76; refine hdn.mono ?_; rintro e W7 ⟨rfl, B7⟩; have D7 := HD'.grown B7; have B07 := Below.then HB.out B7; clear hdn y2)
            | (clear tb; refine wpList_b0Fin rfl rfl ?_)
            | (refine wpList_storeW rfl 80 _ _ rfl rfl (finL []) rfl D7 rfl (by rw [hfin0]; exact infoFin) (finL_one _) ?_; intro W8 U8 D8; have B08 := U8.trans B07 hb4; clear D7 U8))
          exact ret_ST rfl rfl rfl D8 _ Try.underlying80 rfl (by rw [hfin0]; exact infoFin) _ rfl ⟨congrArg Ending.returned HVv.out.symm, B08⟩
        | true =>
          have HVv : Hid (V = .tuple #[.agg (finL (regs.flatten ++ mem)).toArray, .int .i64 0]) := by show _ = _; rw [HE.out, hpf, hd]; rfl
          rw [hd] at hdn
          have hfl : (finL (regs.flatten ++ mem)).length = 49 := finL_len h48
          clear hd hpf hseg tsome tnone h48
          generalize regs.flatten ++ mem = vals at *
          go_wp2_with (first
            | (clear ta; refine wpList_loadW rfl 32 _ rfl rfl HI' _ Try.underlying32 rfl infoSt ?_; have tb : True := trivial)
            | (go_at_call 76; refine hdn.mono ?_; rintro e W7 ⟨rfl, B7⟩; have D7 := HD'.grown B7; have I7 := HI'.grown B7; have hfn7 := hfn W7 B7; have B07 := Below.then HB.out B7; clear hdn y2 hfn)
            | (clear tb; refine wpList_loadW rfl 32 _ rfl rfl I7 _ Try.underlying32 rfl infoSt ?_)
            | (go_at_call 69; refine hfn7.mono ?_; rintro e W8 ⟨rfl, B8⟩; have D8 := D7.grown B8; have B08 := Below.then B07 B8; clear hfn7 D7)
            | (refine wpList_storeW rfl 80 _ _ rfl rfl (finL vals) rfl D8 (by rw [hfin0, hfl]) (by rw [hfl]; exact infoFin) (finL_one _) ?_; intro W9 U9 D9; have B09 := U9.trans B08 hb4; clear D8 U9))
          exact ret_ST rfl rfl rfl D9 _ Try.underlying80 rfl (by rw [hfl]; exact infoFin) _ rfl ⟨congrArg Ending.returned HVv.out.symm, B09⟩
  · have HE : Hid (playV p l = .tuple #[.agg (finL []).toArray, .int .i64 (validV p)]) := by show _ = _; unfold playV; rw [if_neg hv0]
    generalize playV p l = V at *
    generalize validV p = E at *
    have hE0 : (E != 0) = true := by simpa using hv0
    have hE1 : (E == 0) = false := by simpa using hv0
    clear hp hO hSt hf hv0
    go_enter Try.func32, Try.ntmps32
    go_wp2_with (first
      | (clear t1; refine wpList_boxS rfl 28 _ rfl [vt, vr, vl, vi, vj] rfl ?_; intro W0 b2 F0 C0; have B0 := F_b F0; clear F0; have t3 : True := trivial; have t4 : True := trivial)
      | (clear t2; refine wpList_allocS rfl 80 rfl (finL []) zeroFin ?_; intro W1 b4 F1 D1; have C1 := C0.fresh F1; have B1 := F1.trans B0 B0.size; have hb4 : w.heap.size ≤ b4 := Nat.le_trans B0.size (Nat.le_of_eq F1.at'.symm); clear F1 C0)
      | (clear t3; refine wpList_loadW rfl 28 _ rfl rfl C1 _ Try.underlying28 rfl infoPg ?_)
      | (go_at_call 36; refine (hVal _ (HP.out.below B1)).mono ?_; rintro e W2 ⟨rfl, B2⟩; have D2 := D1.grown B2; have B02 := Below.then B1 B2; clear hVal C1 D1)
      | (clear t4; refine wpList_b0Fin rfl rfl ?_)
      | (refine wpList_storeW rfl 80 _ _ rfl rfl (finL []) rfl D2 rfl (by rw [hfin0]; exact infoFin) (finL_one _) ?_; intro W3 U3 D3; have B03 := U3.trans B02 hb4; clear D2))
    exact ret_ST rfl rfl rfl D3 _ Try.underlying80 rfl (by rw [hfin0]; exact infoFin) _ rfl ⟨congrArg Ending.returned HE.out.symm, B03⟩
end Go.Proofs.Ytegpnicajlndlaa
/- Appending to an empty slice makes a new row, and turns nothing. -/
namespace Go.Proofs.Ytegpnicajlndlaa
open Go.RowKit M
set_option linter.unusedSimpArgs false
set_option linter.unusedVariables false
theorem run_app0 {w : World} {t T k by' : Nat} {z : Value} (E : Elt t T k z by') (B b : Nat) (hown : w.ownsRow B t k (.slice (some ⟨b, 0, none⟩) 0 0) 0 []) (u : Value) (m : Nat) (cs : List Value) (hu : RowV w u m cs) (hl : cs.length = m * k) (h1 : ∀ x ∈ cs, x.oneCell' = true) (hn : m ≤ 4194304) (hB : B ≤ w.heap.size) (ty : TypeId) :
    ∃ v' w', (Builtin.append_ #[T, T] ty #[.slice (some ⟨b, 0, none⟩) 0 0, u]).run Try.prog w = .ok v' w' ∧ w'.ownsRow B t k v' m cs ∧ Below w.heap.size w w' := by
  obtain ⟨i0, hi, hz, hs, hby⟩ := E.info
  have hfew := E.few
  obtain ⟨ad, c, rfl, hT, hnil⟩ := hu
  by_cases hm : m = 0
  · subst hm
    have hcs : cs = [] := List.length_eq_zero_iff.1 (by rw [hl, Nat.zero_mul])
    subst hcs
    refine ⟨_, w, ?_, hown, Below.refl _ _⟩
    have hld : ∀ (x : Addr), (loadCells x 0).run Try.prog w = .ok #[] w := fun x => by simpa using run_loadCells_list (P := Try.prog) w x [] (by simp)
    cases ad with
    | none => simp [Builtin.append_, run_underlying E.und, sizeOf, typeInfo, hi, Builtin.lenOf, Builtin.firstCells, storeCells]
    | some x => simp [Builtin.append_, run_underlying E.und, sizeOf, typeInfo, hi, Builtin.lenOf, Builtin.firstCells, storeCells, hld]
  · have hpos := E.pos
    have : 0 < cs.length := by rw [hl]; exact Nat.mul_pos (by omega) hpos
    obtain ⟨b0, o0, rfl, _⟩ := hT 0 cs[0] (List.getElem?_eq_getElem this)
    have hnews : ∀ j y, cs[j]? = some y → w.cell? ((⟨b0, o0, none⟩ : Addr).add j) = some y := fun j y hj => by
      obtain ⟨b', o', e, _, hc⟩ := hT j y hj
      cases e
      rw [Addr.add_mid]
      exact hc
    have hb : (0 + m) * by' ≤ 140737488355328 := Nat.le_trans (Nat.mul_le_mul (by omega : 0 + m ≤ 4194304) hfew) (by decide)
    obtain ⟨v', w', hr, ho, hg, _⟩ := run_append_own (P := Try.prog) w B T ty t i0 z k by' E.und hi hz hs hby E.cells E.pos _ 0 [] hown ⟨b0, o0, none⟩ m c cs hl hnews h1 (by unfold maxLen; omega) hb hB
    have hfit : Builtin.nextslicecap (0 + m) 0 * i0.bytes ≤ 281474976710656 := by rw [Nat.zero_add, nextslicecap_zero (by omega), hby]; have := hb; rw [Nat.zero_add] at this; omega
    have hr2 := run_append_grow (P := Try.prog) (w := w) T ty t i0 z E.und hi hz ⟨b, 0, none⟩ 0 0 [] (by simp) (by simp) ⟨b0, o0, none⟩ m c cs (by rw [hs]; exact hl) hnews (by omega) (by omega) hfit
    rw [hr] at hr2
    injection hr2 with h2 h3
    refine ⟨v', w', hr, by rw [Nat.zero_add, List.nil_append] at ho; exact ho, ?_⟩
    rw [h3]
    exact (below_drew (Below.refl _ w)).alloc (Nat.le_refl _) _
end Go.Proofs.Ytegpnicajlndlaa

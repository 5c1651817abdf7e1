/- The reference's Play. -/
import Derived.Test.YtegpnicajlndlaaRA8
import Derived.Test.YtegpnicajlndlaaQF
import Derived.Test.YtegpnicajlndlaaFPE
namespace Go.Proofs.Ytegpnicajlndlaa
open Go.RowKit M
set_option linter.unusedSimpArgs false
set_option linter.unusedVariables false

theorem exec_loadS {w : World} {b t t' : Nat} {cs : List Value} {op : Oper} {a : Act} {p : Operand} {d : TypeDesc} (ho : op.op = .load t p) (hp : a.eval p = .pointer (some ⟨b, 0, none⟩)) (hc : IsS w b t' cs) (hu : Try.prog.underlying t = some d) (hd : d.isRow = true) (hi : (Try.prog.info? t).map (·.size) = some cs.length) : (execOp a.eval op).run Try.prog w = .ok (.value (.agg cs.toArray)) w := by
  have hr := run_loadAt_mid (P := Try.prog) w b 0 t cs d (fun i u hu => by rw [Nat.zero_add]; exact (hc.cell i).trans hu) hu hd hi
  unfold execOp
  simp only [ho, hp, Sem.run_bind, hr, Result.andThen_ok, Sem.run_pure]
theorem exec_bP1 {w : World} {op : Oper} {a : Act} {x : Operand} {q : Int} (ho : op.op = .build 68 #[(0, x), (1, .const (.int .i64 1))]) (hx : a.eval x = .int .i64 q) : (execOp a.eval op).run Try.prog w = .ok (.value (.agg #[.int .i64 q, .int .i64 1, .int .i64 0])) w := by
  have h : Try.t68.zero = some (.agg #[.int .i64 0, .int .i64 0, .int .i64 0]) := by kernel_rfl
  have hc : a.eval (.const (.int .i64 1)) = .int .i64 1 := rfl
  generalize a.eval = ev at hx hc ⊢
  unfold execOp
  simp [ho, hx, hc, go_sem, zeroValue, h]
theorem rowV_one {w : World} {v : Value} {n : Nat} {cs : List Value} (h : RowV w v n cs) : v.oneCell' = true := by obtain ⟨a, c, rfl, _⟩ := h; rfl
theorem rs_one {w : World} {vpc vph vrg vmm vbf : Value} {n : Nat} {pc : List Int} {regs : List (List Int)} {mem : List Int} {z : Int} (h : RS w vpc vph vrg vmm vbf n pc regs mem) : ∀ v ∈ [vpc, vph, vrg, vmm, vbf, .int .i64 z], v.oneCell' = true := by
  obtain ⟨a3, c3, e3⟩ := h.rg.form
  obtain ⟨a5, c5, e5⟩ := h.bf.form
  exact stc_one (rowV_one h.pc) (rowV_one h.ph) (by rw [e3]; rfl) (rowV_one h.mm) (by rw [e5]; rfl)
theorem RSk.upd {Z Z' : World} {b : Nat} {cs : List Value} {vpc vph vrg vmm vbf : Value} {n : Nat} {pc : List Int} {regs : List (List Int)} {mem : List Int} (h : RSk Z vpc vph vrg vmm vbf n pc regs mem) (I : IsS Z b 32 cs) (U : Upd Z Z' b) : RSk Z' vpc vph vrg vmm vbf n pc regs mem := fun W hW => h W fun k hk hl => by
  have ne : k ≠ b := fun e => hk cs (e ▸ I)
  have e := U.block k ne
  have hl' : k < Z'.heap.size := by
    rw [Array.getElem?_eq_getElem hl] at e
    exact (Array.getElem?_eq_some_iff.1 e).1
  exact (hW k (fun cs' I' => hk cs' (e.symm.trans I')) hl').trans e
theorem StepA.upd {ths : List (List Op5)} {n b : Nat} {cs : List Value} {pc : List Int} {regs : List (List Int)} {mem : List Int} {i : Int} {w W : World} {v : Value} (h : StepA ths n pc regs mem i w v) (I : IsS w b 32 cs) (U : Upd w W b) : StepA ths n pc regs mem i W v := by
  unfold StepA at h ⊢
  split at h
  · exact h
  · obtain ⟨vpc, vph, vrg, vmm, vbf, e, hr⟩ := h
    exact ⟨vpc, vph, vrg, vmm, vbf, e, hr.upd I U⟩
theorem StepA.six {ths : List (List Op5)} {n : Nat} {pc : List Int} {regs : List (List Int)} {mem : List Int} {i : Int} {w : World} {v : Value} (h : StepA ths n pc regs mem i w v) : ∃ vs : List Value, v = .agg vs.toArray ∧ vs.length = 6 ∧ ∀ u ∈ vs, u.oneCell' = true := by
  unfold StepA at h
  split at h
  · exact ⟨_, h, rfl, by simp [Value.oneCell']⟩
  · obtain ⟨vpc, vph, vrg, vmm, vbf, e, hr⟩ := h
    exact ⟨[vpc, vph, vrg, vmm, vbf, .int .i64 (-1)], e, rfl, rs_one (hr w (fun _ _ _ => rfl))⟩
theorem wpOp_storeW {ops : Array Oper} {Q : Exit → Act → World → Prop} {i : Nat} {o : Oper} {K : Act → World → Prop} {a : Act} {w : World} {b t : Nat} {cs : List Value} (hi : ops[i]? = some o) (hg : o.guard = none) (ty : TypeId) (x y : Operand) (ho : o.op = .store ty x y) (hx : a.eval x = .pointer (some ⟨b, 0, none⟩)) (vs : List Value) (hy : a.eval y = .agg vs.toArray) (hc : IsS w b t cs)
    (hk : vs.length = cs.length) (hf : (Try.prog.info? ty).map (·.size) = some vs.length) (h1 : ∀ v ∈ vs, v.oneCell' = true) (h : ∀ W, Upd w W b → IsS W b t vs → K (a.put o.dst undef) W) : wpOp Try.prog ops Q i K a w := by
  unfold wpOp
  rw [hi]
  simp only [Region.wanted, hg, if_true]
  refine Or.inl ?_
  refine wp_store_mid ty x y ho b 0 vs.toArray hx hy (hc.there 0 _ (by simp [hk])) (by simpa using hf) (all_oneCell_toArray h1) ?_
  have h2 := h _ (Upd.setCells b vs 0 w) (by have := IsS.setL vs 0 cs w hc; rw [putL_all hk] at this; exact this)
  simpa using h2
set_option maxRecDepth 100000 in
set_option maxHeartbeats 8000000 in
theorem rplay_any (p : PG) (hf : p.Few) (l : List Int) (no co : Nat) (ao : Option Addr) (hno : l.length = no) (hn : no ≤ 1048576) (vt vr vl vi vj : Value) (w : World) (hp : PGV w vt vr vl vi vj p) (hO : Seg w ao (l.flatMap intE)) :
    Calls Try.prog 33 #[.agg #[vt, vr, vl, vi, vj], .slice ao no co] w fun e w' => e = .returned (playV p l) ∧ Below w.heap.size w w' := by
  have hfin0 : (finL []).length = 49 := finL_len (by simp)
  have hVal := fun W (h : PGV W vt vr vl vi vj p) => rvalid_any p hf vt vr vl vi vj W h
  have hSt := fun W (h : PGV W vt vr vl vi vj p) => rfirst_any p p.threads.length hf rfl vt vr vl vi vj W h
  have HP : Hid (PGV w vt vr vl vi vj p) := hp
  have HO : Hid (Seg w ao (l.flatMap intE)) := hO
  have HNO : Hid (l.length = no) := hno
  have t1 : True := trivial
  have t2 : True := trivial
  have hnI : (no : Int) ≤ 1048576 := by omega
  by_cases hv0 : validV p = 0
  · have hv := vld_of hv0
    have HE : Hid (playV p l = match playF p l with
      | none => .tuple #[.agg (finL []).toArray, .int .i64 150]
      | some vs => .tuple #[.agg (finL vs).toArray, .int .i64 0]) := by show _ = _; unfold playV; rw [if_pos hv0]; cases playF p l <;> rfl
    rw [hv0] at hVal
    generalize playV p l = V at *
    obtain ⟨at0, ct, hvt⟩ := hp.t.form
    subst hvt
    have HT : Hid (RowsV w (.slice at0 p.threads.length ct) op5L p.threads) := hp.t
    have HF : Hid p.Few := hf
    have HV : Hid (Vld p) := hv
    obtain ⟨n, hn0⟩ : ∃ n, p.threads.length = n := ⟨_, rfl⟩
    have HN : Hid (p.threads.length = n) := hn0
    simp only [hn0] at hSt
    rw [hn0] at HT HP hVal ⊢
    clear hp hO hv hf hno hv0
    simp only [hn0] at hn0
    clear hn0
    go_enter Try.func33, Try.ntmps33
    go_wp2_with (first
      | (clear t1; refine wpList_boxS rfl 28 _ rfl [.slice at0 n ct, vr, vl, vi, vj] rfl ?_; intro W0 b2 F0 C0; have B0 := F_b F0; have hb2 : w.heap.size ≤ b2 := Nat.le_of_eq F0.at'.symm; clear F0; have t3 : True := trivial; have t4 : True := trivial)
      | (clear t2; refine wpList_allocS rfl 80 rfl (finL []) zeroFin ?_; intro W1 b4 F1 D1; have C1 := C0.fresh F1; have B1 := F1.trans B0 B0.size; have hb4 : w.heap.size ≤ b4 := Nat.le_trans B0.size (Nat.le_of_eq F1.at'.symm); have n24 : b2 ≠ b4 := (by have := C0.lt; have := F1.at'; omega); clear F1 C0)
      | (clear t3; refine wpList_loadW rfl 28 _ rfl rfl C1 _ Try.underlying28 rfl infoPg ?_)
      | (go_at_call 28; refine (hVal _ (HP.out.below B1)).mono ?_; rintro e W2 ⟨rfl, B2⟩; have C2 := C1.grown B2; have D2 := D1.grown B2; have B02 := Below.then B1 B2; clear hVal C1 D1)
      | (clear t4; refine wpList_loadW rfl 28 _ rfl rfl C2 _ Try.underlying28 rfl infoPg ?_)
      | (go_at_call 29; refine (hSt _ (HP.out.below B02)).mono ?_; rintro e W3 ⟨vpc, vph, vrg, vmm, vbf, rfl, S3, B3⟩; have C3 := C2.grown B3; have D3 := D2.grown B3; have B03 := Below.then B02 B3; have t5 : True := trivial; clear hSt)
      | (clear t5; refine wpList_allocS rfl 32 rfl [.slice none 0 0, .slice none 0 0, .slice none 0 0, .slice none 0 0, .slice none 0 0, .int .i64 0] zeroSt ?_; intro W4 b7 F4 I4; have B34 := F_b F4; have B04 := F4.trans B03 B03.size; have h7 : W3.heap.size ≤ b7 := Nat.le_of_eq F4.at'.symm; clear F4; have t6 : True := trivial)
      | (clear t6; refine wpList_storeW rfl 32 _ _ rfl rfl [vpc, vph, vrg, vmm, vbf, .int .i64 (-1)] rfl I4 rfl infoSt (rs_one S3) ?_; intro W5 U5 I5; have B35 := U5.trans B34 h7; have B05 := U5.trans B04 (Nat.le_trans B03.size h7); have S5 := S3.below B35; have C5 := C3.grown B35; have D5 := D3.grown B35; clear U5 I4 B34))
    have n47 : b4 ≠ b7 := by have := D3.lt; omega
    have n27 : b2 ≠ b7 := by have := C3.lt; omega
    have hb7 : w.heap.size ≤ b7 := Nat.le_trans B03.size h7
    obtain ⟨ap0, cp0, ah0, ch0, ar0, cr0, am0, cm0, ab0, cb0, e0, S5'⟩ := stv_of (t := (List.replicate n 0, p.regInit, p.locInit)) S5 (HV.out.il.trans HN.out)
    injection e0 with e0
    injection e0 with e0
    simp only [List.cons.injEq] at e0
    obtain ⟨rfl, rfl, rfl, rfl, rfl, _⟩ := e0
    have HS5 : Hid (∃ ap cp ah ch ar cr am cm ab cb, IsS W5 b7 32 [.slice ap n cp, .slice ah n ch, .slice ar n cr, .slice am p.locInit.length cm, .slice ab n cb, .int .i64 (-1)] ∧ RS W5 (.slice ap n cp) (.slice ah n ch) (.slice ar n cr) (.slice am p.locInit.length cm) (.slice ab n cb) n (List.replicate n 0) p.regInit p.locInit) := ⟨_, _, _, _, _, _, _, _, _, _, I5, S5'⟩
    have HC5 : Hid (IsS W5 b2 28 [.slice at0 n ct, vr, vl, vi, vj]) := C5
    have HD5 : Hid (IsS W5 b4 80 (finL [])) := D5
    have HB5 : Hid (Below w.heap.size w W5) := B05
    clear S3 S5 S5' C5 D5 I5 B05 C2 D2 C3 D3 B35 B3 B03 B04 h7
    go_loopw [8] (fun i wr => ∃ (k : Nat) (t : List Int × List (List Int) × List Int), k ≤ no ∧ i = .int .i64 (k : Int) ∧ Hid (playS p.threads (l.take k) (List.replicate n 0) p.regInit p.locInit = some t) ∧ Hid (Inv p t.1 t.2.1 t.2.2) ∧ Hid (LeI p.threads t.1) ∧ Hid (∃ ap cp ah ch ar cr am cm ab cb, IsS wr b7 32 [.slice ap n cp, .slice ah n ch, .slice ar n cr, .slice am t.2.2.length cm, .slice ab n cb, .int .i64 (-1)] ∧ RS wr (.slice ap n cp) (.slice ah n ch) (.slice ar n cr) (.slice am t.2.2.length cm) (.slice ab n cb) n t.1 t.2.1 t.2.2) ∧ Hid (IsS wr b2 28 [.slice at0 n ct, vr, vl, vi, vj]) ∧ Hid (IsS wr b4 80 (finL [])) ∧ Hid (Below w.heap.size w wr)) (fun i _ => no - (intOf i).toNat)
    case atStart => exact ⟨0, (List.replicate n 0, p.regInit, p.locInit), Nat.zero_le _, rfl, rfl, by have := inv_start HV.out; rw [HN.out] at this; exact this, le_start _ _, HS5, HC5, HD5, HB5⟩
    case round =>
      clear HS5 HC5 HD5 HB5
      obtain ⟨k, t, hk, rfl, HPl, HIv, HL, HQ, HC, HD, HB⟩ := hrel
      obtain ⟨pc, regs, mem⟩ := t
      obtain ⟨ap, cp, ah, ch, ar, cr, am, cm, ab, cb, HI0, HS0⟩ := HQ.out
      have HI : Hid (IsS wr b7 32 [.slice ap n cp, .slice ah n ch, .slice ar n cr, .slice am mem.length cm, .slice ab n cb, .int .i64 (-1)]) := HI0
      have HS : Hid (RS wr (.slice ap n cp) (.slice ah n ch) (.slice ar n cr) (.slice am mem.length cm) (.slice ab n cb) n pc regs mem) := HS0
      clear HQ HI0 HS0
      by_cases hlt : k < no
      · have hki : (k : Int) < no := by omega
        obtain ⟨q, hq⟩ : ∃ q, l[k]? = some q := ⟨_, List.getElem?_eq_getElem (by rw [HNO.out]; exact hlt)⟩
        obtain ⟨bo, oo, rfl, hbo, yo⟩ := (HO.out.below HB.out).int hq
        have HTK : Hid (l.take (k + 1) = l.take k ++ [q]) := take_at hq
        have HPN : playS p.threads (l.take (k + 1)) (List.replicate n 0) p.regInit p.locInit = stepS p.threads pc regs mem q := by rw [HTK.out, playS_snoc, HPl.out]
        obtain ⟨bb, hbb⟩ : ∃ b, b = (stepS p.threads pc regs mem q).isSome := ⟨_, rfl⟩
        obtain ⟨SA, hSAe⟩ : ∃ S, S = StepA p.threads n pc regs mem q := ⟨_, rfl⟩
        have hSA : ∀ {w W : World} {v : Value}, SA w v → Below w.heap.size w W → SA W v := fun h hB => by rw [hSAe] at h ⊢; exact h.below hB
        have hSU : ∀ {w W : World} {v : Value} {b : Nat} {cs : List Value}, SA w v → IsS w b 32 cs → Upd w W b → SA W v := fun h I U => by rw [hSAe] at h ⊢; exact h.upd I U
        have hSF : ∀ {w : World} {v : Value}, SA w v → ∃ vs : List Value, v = .agg vs.toArray ∧ vs.length = 6 ∧ ∀ u ∈ vs, u.oneCell' = true := fun h => by rw [hSAe] at h; exact h.six
        have hstp : ∀ W, Below wr.heap.size wr W → Calls Try.prog 23 #[(.agg [.slice at0 n ct, vr, vl, vi, vj].toArray), (.agg [.slice ap n cp, .slice ah n ch, .slice ar n cr, .slice am mem.length cm, .slice ab n cb, .int .i64 (-1)].toArray), .agg #[.int .i64 q, .int .i64 1, .int .i64 0]] W fun e w' => ∃ v, e = .returned (.tuple #[v, .bool bb]) ∧ SA w' v ∧ Below W.heap.size W w' := fun W hB => by
          rw [hbb, hSAe]
          exact rstep_any p HV.out HF.out pc regs mem HIv.out q n mem.length ct cp ch cr cm cb at0 ap ah ar am ab vr vl vi vj W HN.out rfl (HT.out.below (Below.then HB.out hB)) (HS.out.below hB)
        go_wp2
        refine region_invA 13 (fun a0 listed a' w' => ∃ x26 x27 x28 x29 x30 x31 x32 x33 x25 x34 x35 x9 : Value, a' = ((((((((((((a0.put (some 26) x26).put (some 27) x27).put (some 28) x28).put (some 29) x29).put (some 30) x30).put (some 31) x31).put (some 32) x32).put (some 33) x33).put (some 25) x25).put (some 34) x34).put (some 35) x35).put (some 9) x9) ∧ Hid (Below wr.heap.size wr w') ∧ (listed.getD 12 false = true → listed.getD 9 false = true) ∧ (listed.getD 12 false = true → listed.getD 11 false = true) ∧ (listed.getD 0 false = true → x26 = (.agg [.slice at0 n ct, vr, vl, vi, vj].toArray)) ∧ (listed.getD 1 false = true → x27 = (.agg [.slice ap n cp, .slice ah n ch, .slice ar n cr, .slice am mem.length cm, .slice ab n cb, .int .i64 (-1)].toArray)) ∧ (listed.getD 2 false = true → x28 = (.slice (some ⟨bo, oo, none⟩) no co)) ∧ (listed.getD 3 false = true → x29 = (.int .i64 (k : Int))) ∧ (listed.getD 4 false = true → x30 = (.pointer (some ⟨bo, oo + k, none⟩))) ∧ (listed.getD 5 false = true → x31 = (.int .i64 q)) ∧ (listed.getD 6 false = true → x32 = (.agg #[.int .i64 q, .int .i64 1, .int .i64 0])) ∧ (listed.getD 7 false = true → ∃ va, x33 = .tuple #[va, .bool bb] ∧ SA w' va) ∧ (listed.getD 8 false = true → ∃ va, x25 = .tuple #[va, .bool bb] ∧ SA w' va) ∧ (listed.getD 9 false = true → SA w' x34) ∧ (listed.getD 10 false = true → x35 = (.bool bb)) ∧ (listed.getD 11 false = true → ∃ b9, x9 = .pointer (some ⟨b9, 0, none⟩) ∧ wr.heap.size ≤ b9 ∧ ∃ cs : List Value, cs.length = 6 ∧ IsS w' b9 32 cs) ∧ (listed.getD 12 false = true → ∃ b9 vs9, x9 = .pointer (some ⟨b9, 0, none⟩) ∧ x34 = .agg (List.toArray vs9) ∧ vs9.length = 6 ∧ IsS w' b9 32 vs9)) (by kernel_rfl) (by kernel_rfl) ?i0p ?istepp ?iendp
        case i0p => exact ⟨_, _, _, _, _, _, _, _, _, _, _, _, by first | (simp only [Act.put, List.setIfInBounds_toArray, List.set_cons_succ, List.set_cons_zero]; done) | (simp only [Act.put, List.setIfInBounds_toArray, List.set_cons_succ, List.set_cons_zero]; rfl) | rfl, below_drew (Below.refl _ _), fun h => (not_rep h).elim, fun h => (not_rep h).elim, fun h => (not_rep h).elim, fun h => (not_rep h).elim, fun h => (not_rep h).elim, fun h => (not_rep h).elim, fun h => (not_rep h).elim, fun h => (not_rep h).elim, fun h => (not_rep h).elim, fun h => (not_rep h).elim, fun h => (not_rep h).elim, fun h => (not_rep h).elim, fun h => (not_rep h).elim, fun h => (not_rep h).elim, fun h => (not_rep h).elim⟩
        case istepp =>
          rintro i listed a' w' hi hr ⟨x26, x27, x28, x29, x30, x31, x32, x33, x25, x34, x35, x9, rfl, HBw, m12_9, m12_11, d0, d1, d2, d3, d4, d5, d6, d7, d8, d9, d10, d11, d12⟩
          obtain ⟨hun, oj, hoj, hwt⟩ := mem_ready.1 hr
          simp only [Act.put, List.setIfInBounds_toArray, List.set_cons_succ, List.set_cons_zero]
          have hcase : i = 0 ∨ i = 1 ∨ i = 2 ∨ i = 3 ∨ i = 4 ∨ i = 5 ∨ i = 6 ∨ i = 7 ∨ i = 8 ∨ i = 9 ∨ i = 10 ∨ i = 11 ∨ i = 12 := by omega
          rcases hcase with rfl | rfl | rfl | rfl | rfl | rfl | rfl | rfl | rfl | rfl | rfl | rfl | rfl
          · have hoj2 := hoj
            obtain rfl := Option.some.inj hoj
            refine wpOp_value hoj2 rfl (v := (.agg [.slice at0 n ct, vr, vl, vi, vj].toArray)) (w' := w') (exec_loadS rfl rfl (HC.out.grown HBw.out) Try.underlying28 rfl infoPg) ?_
            exact ⟨(.agg [.slice at0 n ct, vr, vl, vi, vj].toArray), x27, x28, x29, x30, x31, x32, x33, x25, x34, x35, x9, by first | (simp only [Act.put, List.setIfInBounds_toArray, List.set_cons_succ, List.set_cons_zero]; done) | (simp only [Act.put, List.setIfInBounds_toArray, List.set_cons_succ, List.set_cons_zero]; rfl) | rfl, Below.then HBw.out (Below.refl _ _), fun h => keepT (m12_9 (keep (by decide) h)), fun h => keepT (m12_11 (keep (by decide) h)), fun _ => rfl, fun h => (d1 (keep (by decide) h)), fun h => (d2 (keep (by decide) h)), fun h => (d3 (keep (by decide) h)), fun h => (d4 (keep (by decide) h)), fun h => (d5 (keep (by decide) h)), fun h => (d6 (keep (by decide) h)), fun h => (Exists.elim (d7 (keep (by decide) h)) fun b h => ⟨b, h.1, hSA h.2 (Below.refl _ _)⟩), fun h => (Exists.elim (d8 (keep (by decide) h)) fun b h => ⟨b, h.1, hSA h.2 (Below.refl _ _)⟩), fun h => (hSA (d9 (keep (by decide) h)) (Below.refl _ _)), fun h => (d10 (keep (by decide) h)), fun h => (Exists.elim (d11 (keep (by decide) h)) fun b h => ⟨b, h.1, h.2.1, Exists.elim h.2.2 fun cs h => ⟨cs, h.1, h.2.grown (Below.refl _ _)⟩⟩), fun h => (Exists.elim (d12 (keep (by decide) h)) fun b h => Exists.elim h fun c h => ⟨b, c, h.1, h.2.1, h.2.2.1, h.2.2.2.grown (Below.refl _ _)⟩)⟩
          · have hoj2 := hoj
            obtain rfl := Option.some.inj hoj
            refine wpOp_value hoj2 rfl (v := (.agg [.slice ap n cp, .slice ah n ch, .slice ar n cr, .slice am mem.length cm, .slice ab n cb, .int .i64 (-1)].toArray)) (w' := w') (exec_loadS rfl rfl (HI.out.grown HBw.out) Try.underlying32 rfl infoSt) ?_
            exact ⟨x26, (.agg [.slice ap n cp, .slice ah n ch, .slice ar n cr, .slice am mem.length cm, .slice ab n cb, .int .i64 (-1)].toArray), x28, x29, x30, x31, x32, x33, x25, x34, x35, x9, by first | (simp only [Act.put, List.setIfInBounds_toArray, List.set_cons_succ, List.set_cons_zero]; done) | (simp only [Act.put, List.setIfInBounds_toArray, List.set_cons_succ, List.set_cons_zero]; rfl) | rfl, Below.then HBw.out (Below.refl _ _), fun h => keepT (m12_9 (keep (by decide) h)), fun h => keepT (m12_11 (keep (by decide) h)), fun h => (d0 (keep (by decide) h)), fun _ => rfl, fun h => (d2 (keep (by decide) h)), fun h => (d3 (keep (by decide) h)), fun h => (d4 (keep (by decide) h)), fun h => (d5 (keep (by decide) h)), fun h => (d6 (keep (by decide) h)), fun h => (Exists.elim (d7 (keep (by decide) h)) fun b h => ⟨b, h.1, hSA h.2 (Below.refl _ _)⟩), fun h => (Exists.elim (d8 (keep (by decide) h)) fun b h => ⟨b, h.1, hSA h.2 (Below.refl _ _)⟩), fun h => (hSA (d9 (keep (by decide) h)) (Below.refl _ _)), fun h => (d10 (keep (by decide) h)), fun h => (Exists.elim (d11 (keep (by decide) h)) fun b h => ⟨b, h.1, h.2.1, Exists.elim h.2.2 fun cs h => ⟨cs, h.1, h.2.grown (Below.refl _ _)⟩⟩), fun h => (Exists.elim (d12 (keep (by decide) h)) fun b h => Exists.elim h fun c h => ⟨b, c, h.1, h.2.1, h.2.2.1, h.2.2.2.grown (Below.refl _ _)⟩)⟩
          · have hoj2 := hoj
            obtain rfl := Option.some.inj hoj
            refine wpOp_value hoj2 rfl (v := (.slice (some ⟨bo, oo, none⟩) no co)) (w' := w') (by first | rfl | (go_simp; done) | (simp [go_sem]; done) | (simp [execOp, go_sem]; done)) ?_
            exact ⟨x26, x27, (.slice (some ⟨bo, oo, none⟩) no co), x29, x30, x31, x32, x33, x25, x34, x35, x9, by first | (simp only [Act.put, List.setIfInBounds_toArray, List.set_cons_succ, List.set_cons_zero]; done) | (simp only [Act.put, List.setIfInBounds_toArray, List.set_cons_succ, List.set_cons_zero]; rfl) | rfl, Below.then HBw.out (Below.refl _ _), fun h => keepT (m12_9 (keep (by decide) h)), fun h => keepT (m12_11 (keep (by decide) h)), fun h => (d0 (keep (by decide) h)), fun h => (d1 (keep (by decide) h)), fun _ => rfl, fun h => (d3 (keep (by decide) h)), fun h => (d4 (keep (by decide) h)), fun h => (d5 (keep (by decide) h)), fun h => (d6 (keep (by decide) h)), fun h => (Exists.elim (d7 (keep (by decide) h)) fun b h => ⟨b, h.1, hSA h.2 (Below.refl _ _)⟩), fun h => (Exists.elim (d8 (keep (by decide) h)) fun b h => ⟨b, h.1, hSA h.2 (Below.refl _ _)⟩), fun h => (hSA (d9 (keep (by decide) h)) (Below.refl _ _)), fun h => (d10 (keep (by decide) h)), fun h => (Exists.elim (d11 (keep (by decide) h)) fun b h => ⟨b, h.1, h.2.1, Exists.elim h.2.2 fun cs h => ⟨cs, h.1, h.2.grown (Below.refl _ _)⟩⟩), fun h => (Exists.elim (d12 (keep (by decide) h)) fun b h => Exists.elim h fun c h => ⟨b, c, h.1, h.2.1, h.2.2.1, h.2.2.2.grown (Below.refl _ _)⟩)⟩
          · have hoj2 := hoj
            obtain rfl := Option.some.inj hoj
            refine wpOp_value hoj2 rfl (v := (.int .i64 (k : Int))) (w' := w') (by first | rfl | (go_simp; done) | (simp [go_sem]; done) | (simp [execOp, go_sem]; done)) ?_
            exact ⟨x26, x27, x28, (.int .i64 (k : Int)), x30, x31, x32, x33, x25, x34, x35, x9, by first | (simp only [Act.put, List.setIfInBounds_toArray, List.set_cons_succ, List.set_cons_zero]; done) | (simp only [Act.put, List.setIfInBounds_toArray, List.set_cons_succ, List.set_cons_zero]; rfl) | rfl, Below.then HBw.out (Below.refl _ _), fun h => keepT (m12_9 (keep (by decide) h)), fun h => keepT (m12_11 (keep (by decide) h)), fun h => (d0 (keep (by decide) h)), fun h => (d1 (keep (by decide) h)), fun h => (d2 (keep (by decide) h)), fun _ => rfl, fun h => (d4 (keep (by decide) h)), fun h => (d5 (keep (by decide) h)), fun h => (d6 (keep (by decide) h)), fun h => (Exists.elim (d7 (keep (by decide) h)) fun b h => ⟨b, h.1, hSA h.2 (Below.refl _ _)⟩), fun h => (Exists.elim (d8 (keep (by decide) h)) fun b h => ⟨b, h.1, hSA h.2 (Below.refl _ _)⟩), fun h => (hSA (d9 (keep (by decide) h)) (Below.refl _ _)), fun h => (d10 (keep (by decide) h)), fun h => (Exists.elim (d11 (keep (by decide) h)) fun b h => ⟨b, h.1, h.2.1, Exists.elim h.2.2 fun cs h => ⟨cs, h.1, h.2.grown (Below.refl _ _)⟩⟩), fun h => (Exists.elim (d12 (keep (by decide) h)) fun b h => Exists.elim h fun c h => ⟨b, c, h.1, h.2.1, h.2.2.1, h.2.2.2.grown (Below.refl _ _)⟩)⟩
          · have hoj2 := hoj
            obtain rfl := Option.some.inj hoj
            have e2 := d2 (hwt ⟨2, .data⟩ (by simp) rfl)
            have e3 := d3 (hwt ⟨3, .data⟩ (by simp) rfl)
            subst e2
            subst e3
            refine wpOp_value hoj2 rfl (v := (.pointer (some ⟨bo, oo + k, none⟩))) (w' := w') (by first | (simp [execOp, go_sem, hki]; done) | rfl) ?_
            exact ⟨x26, x27, (.slice (some ⟨bo, oo, none⟩) no co), (.int .i64 (k : Int)), (.pointer (some ⟨bo, oo + k, none⟩)), x31, x32, x33, x25, x34, x35, x9, by first | (simp only [Act.put, List.setIfInBounds_toArray, List.set_cons_succ, List.set_cons_zero]; done) | (simp only [Act.put, List.setIfInBounds_toArray, List.set_cons_succ, List.set_cons_zero]; rfl) | rfl, Below.then HBw.out (Below.refl _ _), fun h => keepT (m12_9 (keep (by decide) h)), fun h => keepT (m12_11 (keep (by decide) h)), fun h => (d0 (keep (by decide) h)), fun h => (d1 (keep (by decide) h)), fun h => (d2 (keep (by decide) h)), fun h => (d3 (keep (by decide) h)), fun _ => rfl, fun h => (d5 (keep (by decide) h)), fun h => (d6 (keep (by decide) h)), fun h => (Exists.elim (d7 (keep (by decide) h)) fun b h => ⟨b, h.1, hSA h.2 (Below.refl _ _)⟩), fun h => (Exists.elim (d8 (keep (by decide) h)) fun b h => ⟨b, h.1, hSA h.2 (Below.refl _ _)⟩), fun h => (hSA (d9 (keep (by decide) h)) (Below.refl _ _)), fun h => (d10 (keep (by decide) h)), fun h => (Exists.elim (d11 (keep (by decide) h)) fun b h => ⟨b, h.1, h.2.1, Exists.elim h.2.2 fun cs h => ⟨cs, h.1, h.2.grown (Below.refl _ _)⟩⟩), fun h => (Exists.elim (d12 (keep (by decide) h)) fun b h => Exists.elim h fun c h => ⟨b, c, h.1, h.2.1, h.2.2.1, h.2.2.2.grown (Below.refl _ _)⟩)⟩
          · have hoj2 := hoj
            obtain rfl := Option.some.inj hoj
            have e4 := d4 (hwt ⟨4, .data⟩ (by simp) rfl)
            subst e4
            refine wpOp_cell hoj2 rfl 3 _ rfl rfl (v := (.int .i64 q)) (ldcI w' (by rw [HBw.out.cell (p := ⟨bo, oo + k, none⟩) hbo]; exact yo)) ?_
            exact ⟨x26, x27, x28, x29, (.pointer (some ⟨bo, oo + k, none⟩)), (.int .i64 q), x32, x33, x25, x34, x35, x9, by first | (simp only [Act.put, List.setIfInBounds_toArray, List.set_cons_succ, List.set_cons_zero]; done) | (simp only [Act.put, List.setIfInBounds_toArray, List.set_cons_succ, List.set_cons_zero]; rfl) | rfl, Below.then HBw.out (Below.refl _ _), fun h => keepT (m12_9 (keep (by decide) h)), fun h => keepT (m12_11 (keep (by decide) h)), fun h => (d0 (keep (by decide) h)), fun h => (d1 (keep (by decide) h)), fun h => (d2 (keep (by decide) h)), fun h => (d3 (keep (by decide) h)), fun h => (d4 (keep (by decide) h)), fun _ => rfl, fun h => (d6 (keep (by decide) h)), fun h => (Exists.elim (d7 (keep (by decide) h)) fun b h => ⟨b, h.1, hSA h.2 (Below.refl _ _)⟩), fun h => (Exists.elim (d8 (keep (by decide) h)) fun b h => ⟨b, h.1, hSA h.2 (Below.refl _ _)⟩), fun h => (hSA (d9 (keep (by decide) h)) (Below.refl _ _)), fun h => (d10 (keep (by decide) h)), fun h => (Exists.elim (d11 (keep (by decide) h)) fun b h => ⟨b, h.1, h.2.1, Exists.elim h.2.2 fun cs h => ⟨cs, h.1, h.2.grown (Below.refl _ _)⟩⟩), fun h => (Exists.elim (d12 (keep (by decide) h)) fun b h => Exists.elim h fun c h => ⟨b, c, h.1, h.2.1, h.2.2.1, h.2.2.2.grown (Below.refl _ _)⟩)⟩
          · have hoj2 := hoj
            obtain rfl := Option.some.inj hoj
            have e5 := d5 (hwt ⟨5, .data⟩ (by simp) rfl)
            subst e5
            refine wpOp_value hoj2 rfl (v := (.agg #[.int .i64 q, .int .i64 1, .int .i64 0])) (w' := w') (by exact exec_bP1 rfl rfl) ?_
            exact ⟨x26, x27, x28, x29, x30, (.int .i64 q), (.agg #[.int .i64 q, .int .i64 1, .int .i64 0]), x33, x25, x34, x35, x9, by first | (simp only [Act.put, List.setIfInBounds_toArray, List.set_cons_succ, List.set_cons_zero]; done) | (simp only [Act.put, List.setIfInBounds_toArray, List.set_cons_succ, List.set_cons_zero]; rfl) | rfl, Below.then HBw.out (Below.refl _ _), fun h => keepT (m12_9 (keep (by decide) h)), fun h => keepT (m12_11 (keep (by decide) h)), fun h => (d0 (keep (by decide) h)), fun h => (d1 (keep (by decide) h)), fun h => (d2 (keep (by decide) h)), fun h => (d3 (keep (by decide) h)), fun h => (d4 (keep (by decide) h)), fun h => (d5 (keep (by decide) h)), fun _ => rfl, fun h => (Exists.elim (d7 (keep (by decide) h)) fun b h => ⟨b, h.1, hSA h.2 (Below.refl _ _)⟩), fun h => (Exists.elim (d8 (keep (by decide) h)) fun b h => ⟨b, h.1, hSA h.2 (Below.refl _ _)⟩), fun h => (hSA (d9 (keep (by decide) h)) (Below.refl _ _)), fun h => (d10 (keep (by decide) h)), fun h => (Exists.elim (d11 (keep (by decide) h)) fun b h => ⟨b, h.1, h.2.1, Exists.elim h.2.2 fun cs h => ⟨cs, h.1, h.2.grown (Below.refl _ _)⟩⟩), fun h => (Exists.elim (d12 (keep (by decide) h)) fun b h => Exists.elim h fun c h => ⟨b, c, h.1, h.2.1, h.2.2.1, h.2.2.2.grown (Below.refl _ _)⟩)⟩
          · have hoj2 := hoj
            obtain rfl := Option.some.inj hoj
            have e0 := d0 (hwt ⟨0, .data⟩ (by simp) rfl)
            have e1 := d1 (hwt ⟨1, .data⟩ (by simp) rfl)
            have e6 := d6 (hwt ⟨6, .data⟩ (by simp) rfl)
            subst e0 e1 e6
            refine wpOp_call hoj2 rfl (f := 23) (args := #[(.agg [.slice at0 n ct, vr, vl, vi, vj].toArray), (.agg [.slice ap n cp, .slice ah n ch, .slice ar n cr, .slice am mem.length cm, .slice ab n cb, .int .i64 (-1)].toArray), (.agg #[.int .i64 q, .int .i64 1, .int .i64 0])]) (by first | rfl | (go_simp; done) | (simp [execOp, go_sem]; done)) ?_
            refine (hstp w' HBw.out).mono ?_
            rintro e w4 ⟨va, rfl, hva, B4⟩
            refine ⟨_, rfl, ?_⟩
            exact ⟨(.agg [.slice at0 n ct, vr, vl, vi, vj].toArray), (.agg [.slice ap n cp, .slice ah n ch, .slice ar n cr, .slice am mem.length cm, .slice ab n cb, .int .i64 (-1)].toArray), x28, x29, x30, x31, (.agg #[.int .i64 q, .int .i64 1, .int .i64 0]), _, x25, x34, x35, x9, by first | (simp only [Act.put, List.setIfInBounds_toArray, List.set_cons_succ, List.set_cons_zero]; done) | (simp only [Act.put, List.setIfInBounds_toArray, List.set_cons_succ, List.set_cons_zero]; rfl) | rfl, Below.then HBw.out B4, fun h => keepT (m12_9 (keep (by decide) h)), fun h => keepT (m12_11 (keep (by decide) h)), fun h => (d0 (keep (by decide) h)), fun h => (d1 (keep (by decide) h)), fun h => (d2 (keep (by decide) h)), fun h => (d3 (keep (by decide) h)), fun h => (d4 (keep (by decide) h)), fun h => (d5 (keep (by decide) h)), fun h => (d6 (keep (by decide) h)), fun _ => ⟨va, rfl, hva⟩, fun h => (Exists.elim (d8 (keep (by decide) h)) fun b h => ⟨b, h.1, hSA h.2 B4⟩), fun h => (hSA (d9 (keep (by decide) h)) B4), fun h => (d10 (keep (by decide) h)), fun h => (Exists.elim (d11 (keep (by decide) h)) fun b h => ⟨b, h.1, h.2.1, Exists.elim h.2.2 fun cs h => ⟨cs, h.1, h.2.grown B4⟩⟩), fun h => (Exists.elim (d12 (keep (by decide) h)) fun b h => Exists.elim h fun c h => ⟨b, c, h.1, h.2.1, h.2.2.1, h.2.2.2.grown B4⟩)⟩
          · have hoj2 := hoj
            obtain rfl := Option.some.inj hoj
            have e7 := d7 (hwt ⟨7, .data⟩ (by simp) rfl)
            obtain ⟨va, rfl, hva⟩ := e7
            refine wpOp_value hoj2 rfl (v := .tuple #[va, .bool bb]) (w' := w') (by first | rfl | (go_simp; done) | (simp [execOp, go_sem]; done)) ?_
            exact ⟨x26, x27, x28, x29, x30, x31, x32, _, _, x34, x35, x9, by first | (simp only [Act.put, List.setIfInBounds_toArray, List.set_cons_succ, List.set_cons_zero]; done) | (simp only [Act.put, List.setIfInBounds_toArray, List.set_cons_succ, List.set_cons_zero]; rfl) | rfl, Below.then HBw.out (Below.refl _ _), fun h => keepT (m12_9 (keep (by decide) h)), fun h => keepT (m12_11 (keep (by decide) h)), fun h => (d0 (keep (by decide) h)), fun h => (d1 (keep (by decide) h)), fun h => (d2 (keep (by decide) h)), fun h => (d3 (keep (by decide) h)), fun h => (d4 (keep (by decide) h)), fun h => (d5 (keep (by decide) h)), fun h => (d6 (keep (by decide) h)), fun h => (Exists.elim (d7 (keep (by decide) h)) fun b h => ⟨b, h.1, hSA h.2 (Below.refl _ _)⟩), fun _ => ⟨va, rfl, hva⟩, fun h => (hSA (d9 (keep (by decide) h)) (Below.refl _ _)), fun h => (d10 (keep (by decide) h)), fun h => (Exists.elim (d11 (keep (by decide) h)) fun b h => ⟨b, h.1, h.2.1, Exists.elim h.2.2 fun cs h => ⟨cs, h.1, h.2.grown (Below.refl _ _)⟩⟩), fun h => (Exists.elim (d12 (keep (by decide) h)) fun b h => Exists.elim h fun c h => ⟨b, c, h.1, h.2.1, h.2.2.1, h.2.2.2.grown (Below.refl _ _)⟩)⟩
          · have hoj2 := hoj
            obtain rfl := Option.some.inj hoj
            have e8 := d8 (hwt ⟨8, .data⟩ (by simp) rfl)
            obtain ⟨va, rfl, hva⟩ := e8
            refine wpOp_value hoj2 rfl (v := va) (w' := w') (by first | rfl | (go_simp; done) | (simp [execOp, go_sem]; done)) ?_
            exact ⟨x26, x27, x28, x29, x30, x31, x32, x33, _, _, x35, x9, by first | (simp only [Act.put, List.setIfInBounds_toArray, List.set_cons_succ, List.set_cons_zero]; done) | (simp only [Act.put, List.setIfInBounds_toArray, List.set_cons_succ, List.set_cons_zero]; rfl) | rfl, Below.then HBw.out (Below.refl _ _), fun h => keepT (m12_9 (keep (by decide) h)), fun h => keepT (m12_11 (keep (by decide) h)), fun h => (d0 (keep (by decide) h)), fun h => (d1 (keep (by decide) h)), fun h => (d2 (keep (by decide) h)), fun h => (d3 (keep (by decide) h)), fun h => (d4 (keep (by decide) h)), fun h => (d5 (keep (by decide) h)), fun h => (d6 (keep (by decide) h)), fun h => (Exists.elim (d7 (keep (by decide) h)) fun b h => ⟨b, h.1, hSA h.2 (Below.refl _ _)⟩), fun h => (Exists.elim (d8 (keep (by decide) h)) fun b h => ⟨b, h.1, hSA h.2 (Below.refl _ _)⟩), fun _ => hva, fun h => (d10 (keep (by decide) h)), fun h => (Exists.elim (d11 (keep (by decide) h)) fun b h => ⟨b, h.1, h.2.1, Exists.elim h.2.2 fun cs h => ⟨cs, h.1, h.2.grown (Below.refl _ _)⟩⟩), fun h => absurd (m12_9 (keep (by decide) h)) (by rw [getD_both hun]; simp)⟩
          · have hoj2 := hoj
            obtain rfl := Option.some.inj hoj
            have e8 := d8 (hwt ⟨8, .data⟩ (by simp) rfl)
            obtain ⟨va, rfl, hva⟩ := e8
            refine wpOp_value hoj2 rfl (v := .bool bb) (w' := w') (by first | rfl | (go_simp; done) | (simp [execOp, go_sem]; done)) ?_
            exact ⟨x26, x27, x28, x29, x30, x31, x32, x33, _, x34, _, x9, by first | (simp only [Act.put, List.setIfInBounds_toArray, List.set_cons_succ, List.set_cons_zero]; done) | (simp only [Act.put, List.setIfInBounds_toArray, List.set_cons_succ, List.set_cons_zero]; rfl) | rfl, Below.then HBw.out (Below.refl _ _), fun h => keepT (m12_9 (keep (by decide) h)), fun h => keepT (m12_11 (keep (by decide) h)), fun h => (d0 (keep (by decide) h)), fun h => (d1 (keep (by decide) h)), fun h => (d2 (keep (by decide) h)), fun h => (d3 (keep (by decide) h)), fun h => (d4 (keep (by decide) h)), fun h => (d5 (keep (by decide) h)), fun h => (d6 (keep (by decide) h)), fun h => (Exists.elim (d7 (keep (by decide) h)) fun b h => ⟨b, h.1, hSA h.2 (Below.refl _ _)⟩), fun h => (Exists.elim (d8 (keep (by decide) h)) fun b h => ⟨b, h.1, hSA h.2 (Below.refl _ _)⟩), fun h => (hSA (d9 (keep (by decide) h)) (Below.refl _ _)), fun _ => rfl, fun h => (Exists.elim (d11 (keep (by decide) h)) fun b h => ⟨b, h.1, h.2.1, Exists.elim h.2.2 fun cs h => ⟨cs, h.1, h.2.grown (Below.refl _ _)⟩⟩), fun h => (Exists.elim (d12 (keep (by decide) h)) fun b h => Exists.elim h fun c h => ⟨b, c, h.1, h.2.1, h.2.2.1, h.2.2.2.grown (Below.refl _ _)⟩)⟩
          · have hoj2 := hoj
            obtain rfl := Option.some.inj hoj
            refine wpOp_value hoj2 rfl (run_allocS 32 [.slice none 0 0, .slice none 0 0, .slice none 0 0, .slice none 0 0, .slice none 0 0, .int .i64 0] zeroSt rfl _ w') ?_
            have B9 := F_b (Fresh.alloc w' (.cells ([.slice none 0 0, .slice none 0 0, .slice none 0 0, .slice none 0 0, .slice none 0 0, .int .i64 0] : List Value).toArray 32))
            exact ⟨x26, x27, x28, x29, x30, x31, x32, x33, x25, x34, x35, _, by first | (simp only [Act.put, List.setIfInBounds_toArray, List.set_cons_succ, List.set_cons_zero]; done) | (simp only [Act.put, List.setIfInBounds_toArray, List.set_cons_succ, List.set_cons_zero]; rfl) | rfl, Below.then HBw.out B9, fun h => keepT (m12_9 (keep (by decide) h)), fun h => keepT (m12_11 (keep (by decide) h)), fun h => (d0 (keep (by decide) h)), fun h => (d1 (keep (by decide) h)), fun h => (d2 (keep (by decide) h)), fun h => (d3 (keep (by decide) h)), fun h => (d4 (keep (by decide) h)), fun h => (d5 (keep (by decide) h)), fun h => (d6 (keep (by decide) h)), fun h => (Exists.elim (d7 (keep (by decide) h)) fun b h => ⟨b, h.1, hSA h.2 B9⟩), fun h => (Exists.elim (d8 (keep (by decide) h)) fun b h => ⟨b, h.1, hSA h.2 B9⟩), fun h => (hSA (d9 (keep (by decide) h)) B9), fun h => (d10 (keep (by decide) h)), fun _ => ⟨_, rfl, HBw.out.size, [.slice none 0 0, .slice none 0 0, .slice none 0 0, .slice none 0 0, .slice none 0 0, .int .i64 0], rfl, IsS.new w' 32 [.slice none 0 0, .slice none 0 0, .slice none 0 0, .slice none 0 0, .slice none 0 0, .int .i64 0]⟩, fun h => absurd (m12_11 (keep (by decide) h)) (by rw [getD_both hun]; simp)⟩
          · have hoj2 := hoj
            obtain rfl := Option.some.inj hoj
            have e11 := d11 (hwt ⟨11, .data⟩ (by simp) rfl)
            have e9 := d9 (hwt ⟨9, .data⟩ (by simp) rfl)
            obtain ⟨b9, rfl, hb9, cs9, hl9, I9⟩ := e11
            obtain ⟨vs9, rfl, hvl, hv1⟩ := hSF e9
            refine wpOp_storeW hoj2 rfl 32 _ _ rfl rfl vs9 rfl I9 (by rw [hvl, hl9]) (by rw [hvl]; exact infoSt) hv1 ?_
            intro W6 U6 I6
            exact ⟨x26, x27, x28, x29, x30, x31, x32, x33, x25, _, x35, _, by first | (simp only [Act.put, List.setIfInBounds_toArray, List.set_cons_succ, List.set_cons_zero]; done) | (simp only [Act.put, List.setIfInBounds_toArray, List.set_cons_succ, List.set_cons_zero]; rfl) | rfl, U6.trans HBw.out hb9, fun _ => keepT (hwt ⟨9, .data⟩ (by simp) rfl), fun _ => keepT (hwt ⟨11, .data⟩ (by simp) rfl), fun h => (d0 (keep (by decide) h)), fun h => (d1 (keep (by decide) h)), fun h => (d2 (keep (by decide) h)), fun h => (d3 (keep (by decide) h)), fun h => (d4 (keep (by decide) h)), fun h => (d5 (keep (by decide) h)), fun h => (d6 (keep (by decide) h)), fun h => (Exists.elim (d7 (keep (by decide) h)) fun b h => ⟨b, h.1, hSU h.2 I9 U6⟩), fun h => (Exists.elim (d8 (keep (by decide) h)) fun b h => ⟨b, h.1, hSU h.2 I9 U6⟩), fun h => (hSU (d9 (keep (by decide) h)) I9 U6), fun h => (d10 (keep (by decide) h)), fun h => ⟨b9, rfl, hb9, vs9, hvl, I6⟩, fun _ => ⟨b9, vs9, rfl, rfl, hvl, I6⟩⟩
        case iendp =>
          rintro a' w' ⟨x26, x27, x28, x29, x30, x31, x32, x33, x25, x34, x35, x9, rfl, HBw, m12_9, m12_11, d0, d1, d2, d3, d4, d5, d6, d7, d8, d9, d10, d11, d12⟩
          replace d0 := d0 rfl
          replace d1 := d1 rfl
          replace d2 := d2 rfl
          replace d3 := d3 rfl
          replace d4 := d4 rfl
          replace d5 := d5 rfl
          replace d6 := d6 rfl
          replace d7 := d7 rfl
          replace d8 := d8 rfl
          replace d9 := d9 rfl
          replace d10 := d10 rfl
          replace d11 := d11 rfl
          replace d12 := d12 rfl
          clear m12_9 m12_11
          simp only [Act.put, List.setIfInBounds_toArray, List.set_cons_succ, List.set_cons_zero]
          simp only [List.drop_succ_cons, List.drop_zero]
          obtain ⟨va, rfl, _⟩ := d7
          obtain ⟨vb, rfl, _⟩ := d8
          obtain ⟨b9, vs9, e9, e34, hvl, I6⟩ := d12
          subst e9 e34
          obtain ⟨b9', eb, hb9, _⟩ := d11
          injection eb with eb
          injection eb with eb
          injection eb with eb
          subst eb
          subst d0 d1 d2 d3 d4 d5 d6 d10
          have Bw := HBw.out
          clear HBw
          have ta : True := trivial
          have tb : True := trivial
          have HD' := HD.out.grown Bw
          have HI' := HI.out.grown Bw
          have HC' := HC.out.grown Bw
          have B0w := Below.then HB.out Bw
          have n97 : b7 ≠ b9 := by have := HI.out.lt; omega
          have n94 : b4 ≠ b9 := by have := HD.out.lt; omega
          have n92 : b2 ≠ b9 := by have := HC.out.lt; omega
          rw [hSAe] at d9
          rw [hbb] at *
          unfold StepA at d9
          cases hs : stepS p.threads pc regs mem q with
          | none =>
            rw [hs] at d9
            clear d9
            have hb9' : w.heap.size ≤ b9 := Nat.le_trans HB.out.size hb9
            have HVv : Hid (V = .tuple #[.agg (finL []).toArray, .int .i64 150]) := by
              show _ = _
              have hpl : playS p.threads l (List.replicate n 0) p.regInit p.locInit = none := by
                rw [hs] at HPN
                have := playS_stop p.threads (l.take (k + 1)) (l.drop (k + 1)) _ _ _ HPN
                rw [List.take_append_drop] at this
                exact this
              have h2 : playF p l = none := by unfold playF; rw [HN.out, hpl]
              rw [HE.out, h2]
            clear HPN hq hs
            go_wp2_with (first
              | (clear tb; refine wpList_b0Fin rfl rfl ?_)
              | (refine wpList_storeW rfl 80 _ _ rfl rfl (finL []) rfl HD' rfl (by rw [hfin0]; exact infoFin) (finL_one _) ?_; intro W8 U8 D8; have B08 := U8.trans B0w hb4; clear HD' U8))
            exact ret_ST rfl rfl rfl D8 _ Try.underlying80 rfl (by rw [hfin0]; exact infoFin) _ rfl ⟨congrArg Ending.returned HVv.out.symm, B08⟩
          | some t' =>
            rw [hs] at d9
            simp only at d9
            obtain ⟨vpc, vph, vrg, vmm, vbf, ev9, hRk⟩ := d9
            have ev : vs9 = [vpc, vph, vrg, vmm, vbf, .int .i64 (-1)] := by injection ev9 with h1; injection h1
            subst ev
            rw [hs] at HPN
            have HPN' : Hid (playS p.threads (l.take (k + 1)) (List.replicate n 0) p.regInit p.locInit = some t') := HPN
            have HIN' : Hid (Inv p t'.1 t'.2.1 t'.2.2) := inv_step HV.out HIv.out hs
            have HLN' : Hid (LeI p.threads t'.1) := le_step HV.out HIv.out HL.out hs
            have hR0 := hRk w' (fun _ _ _ => rfl)
            have hone := rs_one (z := -1) hR0
            have hb9' : w.heap.size ≤ b9 := Nat.le_trans HB.out.size hb9
            clear hs HPN hq
            go_wp2_with (first
              | (clear tb; refine wpList_loadW rfl 32 _ rfl rfl I6 _ Try.underlying32 rfl infoSt ?_)
              | (refine wpList_storeW rfl 32 _ _ rfl rfl [vpc, vph, vrg, vmm, vbf, .int .i64 (-1)] rfl HI' rfl infoSt hone ?_; intro W7 U7 I7; have D7 := HD'.upd U7 n47; have C7 := HC'.upd U7 n27; have B07 := U7.trans B0w hb7))
            go_roundw
            case rel =>
              have hR7 := hRk W7 (fun i hi hl => U7.block i (fun e => hi _ (e ▸ HI')))
              have hl : t'.2.1.length = n := by have := HIN'.out.rl; rw [HN.out] at this; exact this
              obtain ⟨ap', cp', ah', ch', ar', cr', am', cm', ab', cb', e, hr⟩ := stv_of hR7 hl
              injection e with e
              injection e with e
              simp only [List.cons.injEq] at e
              obtain ⟨rfl, rfl, rfl, rfl, rfl, _⟩ := e
              exact ⟨k + 1, t', by omega, by go_num, HPN', HIN', HLN', ⟨ap', cp', ah', ch', ar', cr', am', cm', ab', cb', I7, hr⟩, C7, D7, B07⟩
            case measure => simp [intOf]; omega
      · have ek : k = no := by omega
        subst ek
        have hki : ¬ ((k : Int) < k) := by omega
        rw [List.take_of_length_le (by rw [HNO.out]; exact Nat.le_refl _)] at HPl
        have hpl : pc.length = n := by have := HIv.out.pl; rw [HN.out] at this; exact this
        have hrl : regs.length = n := by have := HIv.out.rl; rw [HN.out] at this; exact this
        have h48 : (regs.flatten ++ mem).length ≤ 48 := inv_48 HV.out HIv.out
        have h48' : regs.flatten.length + mem.length ≤ 48 := by rw [← List.length_append]; exact h48
        have hnn : n ≤ 1048576 := by rw [← HN.out]; exact HF.out.t
        have hes : (allR p.regs regs p.regs.length ++ padTo p.locs.length mem).take 48 = regs.flatten ++ mem := end_self HV.out HIv.out
        obtain ⟨ar1, cr1, e1⟩ := HP.out.r.form
        obtain ⟨al1, cl1, e2, _⟩ := HP.out.l
        subst e1 e2
        have hdn := fun W (hB : Below wr.heap.size wr W) => rdone_any p.threads pc n ct cp at0 ap (.slice ar1 p.regs.length cr1) (.slice al1 p.locs.length cl1) vi vj (.slice ah n ch) (.slice ar n cr) (.slice am mem.length cm) (.slice ab n cb) (.int .i64 (-1)) W HN.out hpl (by rw [← HN.out]; exact HF.out.t) HF.out.tt HL.out (HT.out.below (Below.then HB.out hB)) (row_seg (HS.out.below hB).pc)
        have hfn := fun W (hB : Below wr.heap.size wr W) => end_any p.regs p.locs regs mem HF.out.r HF.out.rr HF.out.l (by rw [hrl]; exact hnn) (by omega) (by omega) (.slice at0 n ct) vi vj ar1 cr1 al1 cl1 ar cr am cm W (HP.out.r.below (Below.then HB.out hB)) (by rw [hrl]; exact (HS.out.below hB).rg) (row_seg (HS.out.below hB).mm)
        rw [hes] at hfn
        rw [hrl] at hfn
        have hpf : playF p l = if doneB p.threads pc then some (regs.flatten ++ mem) else none := by unfold playF; rw [HN.out, HPl.out]
        have HD' := HD.out
        have HI' := HI.out
        have HC' := HC.out
        have ta : True := trivial
        have tc : True := trivial
        cases hd : doneB p.threads pc with
        | false =>
          have HVv : Hid (V = .tuple #[.agg (finL []).toArray, .int .i64 150]) := by show _ = _; rw [HE.out, hpf, hd]; rfl
          rw [hd] at hdn
          clear hd hpf hfn hes h48 h48'
          have tb : True := trivial
          go_wp2_with (first
            | (clear tc; refine wpList_loadW rfl 28 _ rfl rfl HC' _ Try.underlying28 rfl infoPg ?_)
            | (clear ta; refine wpList_loadW rfl 32 _ rfl rfl HI' _ Try.underlying32 rfl infoSt ?_)
            | (go_at_call 77; refine (hdn _ (Below.refl _ _)).mono ?_; rintro e W7 ⟨rfl, B7⟩; have D7 := HD'.grown B7; have B07 := Below.then HB.out B7; clear hdn)
            | (clear tb; refine wpList_b0Fin rfl rfl ?_)
            | (refine wpList_storeW rfl 80 _ _ rfl rfl (finL []) rfl D7 rfl (by rw [hfin0]; exact infoFin) (finL_one _) ?_; intro W8 U8 D8; have B08 := U8.trans B07 hb4; clear D7 U8))
          exact ret_ST rfl rfl rfl D8 _ Try.underlying80 rfl (by rw [hfin0]; exact infoFin) _ rfl ⟨congrArg Ending.returned HVv.out.symm, B08⟩
        | true =>
          have HVv : Hid (V = .tuple #[.agg (finL (regs.flatten ++ mem)).toArray, .int .i64 0]) := by show _ = _; rw [HE.out, hpf, hd]; rfl
          rw [hd] at hdn
          have hfl : (finL (regs.flatten ++ mem)).length = 49 := finL_len h48
          clear hd hpf hes h48 h48'
          generalize regs.flatten ++ mem = vals at *
          have tb : True := trivial
          go_wp2_with (first
            | (clear tc; refine wpList_loadW rfl 28 _ rfl rfl HC' _ Try.underlying28 rfl infoPg ?_)
            | (clear ta; refine wpList_loadW rfl 32 _ rfl rfl HI' _ Try.underlying32 rfl infoSt ?_)
            | (go_at_call 77; refine (hdn _ (Below.refl _ _)).mono ?_; rintro e W7 ⟨rfl, B7⟩; have D7 := HD'.grown B7; have C7 := HC'.grown B7; have hfn7 := hfn W7 B7; have B07 := Below.then HB.out B7; have q2 : W7.cell? ⟨b7, 2, none⟩ = some (.slice ar n cr) := (HI'.grown B7).cell 2; have q3 : W7.cell? ⟨b7, 3, none⟩ = some (.slice am mem.length cm) := (HI'.grown B7).cell 3; clear hdn hfn)
            | (clear tb; refine wpList_loadW rfl 28 _ rfl rfl C7 _ Try.underlying28 rfl infoPg ?_)
            | (go_at_call 30; refine hfn7.mono ?_; rintro e W8 ⟨rfl, B8⟩; have D8 := D7.grown B8; have B08 := Below.then B07 B8; clear hfn7 D7 q2 q3)
            | (refine wpList_storeW rfl 80 _ _ rfl rfl (finL vals) rfl D8 (by rw [hfin0, hfl]) (by rw [hfl]; exact infoFin) (finL_one _) ?_; intro W9 U9 D9; have B09 := U9.trans B08 hb4; clear D8 U9))
          exact ret_ST rfl rfl rfl D9 _ Try.underlying80 rfl (by rw [hfl]; exact infoFin) _ rfl ⟨congrArg Ending.returned HVv.out.symm, B09⟩
  · have HE : Hid (playV p l = .tuple #[.agg (finL []).toArray, .int .i64 (validV p)]) := by show _ = _; unfold playV; rw [if_neg hv0]
    generalize playV p l = V at *
    generalize validV p = E at *
    have hE0 : (E != 0) = true := by simpa using hv0
    have hE1 : (E == 0) = false := by simpa using hv0
    clear hp hO hSt hf hv0
    go_enter Try.func33, Try.ntmps33
    go_wp2_with (first
      | (clear t1; refine wpList_boxS rfl 28 _ rfl [vt, vr, vl, vi, vj] rfl ?_; intro W0 b2 F0 C0; have B0 := F_b F0; clear F0; have t3 : True := trivial; have t4 : True := trivial)
      | (clear t2; refine wpList_allocS rfl 80 rfl (finL []) zeroFin ?_; intro W1 b4 F1 D1; have C1 := C0.fresh F1; have B1 := F1.trans B0 B0.size; have hb4 : w.heap.size ≤ b4 := Nat.le_trans B0.size (Nat.le_of_eq F1.at'.symm); clear F1 C0)
      | (clear t3; refine wpList_loadW rfl 28 _ rfl rfl C1 _ Try.underlying28 rfl infoPg ?_)
      | (go_at_call 28; refine (hVal _ (HP.out.below B1)).mono ?_; rintro e W2 ⟨rfl, B2⟩; have D2 := D1.grown B2; have B02 := Below.then B1 B2; clear hVal C1 D1)
      | (clear t4; refine wpList_b0Fin rfl rfl ?_)
      | (refine wpList_storeW rfl 80 _ _ rfl rfl (finL []) rfl D2 rfl (by rw [hfin0]; exact infoFin) (finL_one _) ?_; intro W3 U3 D3; have B03 := U3.trans B02 hb4; clear D2))
    exact ret_ST rfl rfl rfl D3 _ Try.underlying80 rfl (by rw [hfin0]; exact infoFin) _ rfl ⟨congrArg Ending.returned HE.out.symm, B03⟩
end Go.Proofs.Ytegpnicajlndlaa

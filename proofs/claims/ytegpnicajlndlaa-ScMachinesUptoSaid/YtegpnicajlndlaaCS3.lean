/- CS3 -/
import Derived.Test.YtegpnicajlndlaaCS2
import Derived.Test.YtegpnicajlndlaaQax
namespace Go.Proofs.Ytegpnicajlndlaa
open Go.RowKit M
set_option linter.unusedSimpArgs false
set_option linter.unusedVariables false
theorem ldcSS {b o : Nat} {v : Value} (w : World) (h : w.cell? ⟨b, o, none⟩ = some v) : (Instr.loadAt 23 (.pointer (some ⟨b, o, none⟩))).run Try.prog w = .ok v w := by simp [go_sem, h]
theorem ldcS1 {b o : Nat} {v : Value} (w : World) (h : w.cell? ⟨b, o, none⟩ = some v) : (Instr.loadAt 24 (.pointer (some ⟨b, o, none⟩))).run Try.prog w = .ok v w := by simp [go_sem, h]
theorem infoIs : (Try.prog.info? 29).map (·.size) = some 1 := by kernel_rfl
theorem prog3 {v0 v1 v2 v3 v4 : Value} {W : World} {b t : Nat} (h : IsS W b t [v0, v1, v2, v3, v4]) : W.cell? ⟨b, 0, none⟩ = some v0 ∧ W.cell? ⟨b, 1, none⟩ = some v1 ∧ W.cell? ⟨b, 2, none⟩ = some v2 := ⟨h.cell 0, h.cell 1, h.cell 2⟩
theorem natI_snoc (l : List Nat) (x : Nat) : natI (l ++ [x]) = natI l ++ [(x : Int)] := by simp [natI]
theorem ret_SX {w : World} {b t : Nat} {cs : List Value} {fn : Func} {p : Tmp} {R : Ending → World → Prop} {a : Act} (h : fn.results = #[.cell p t]) (hp : a.tmps.getD p undef = .pointer (some ⟨b, 0, none⟩))
    (hd : a.defers = []) (hc : IsS w b t cs) (d : TypeDesc) (hu : Try.prog.underlying t = some d) (hr : (match d with | .struct _ => true | .array _ _ => true | _ => false) = true) (hi : (Try.prog.info? t).map (·.size) = some cs.length) (hR : R (.returned (.agg cs.toArray)) w) : bodyPost Try.prog fn R .ret a w := by
 have hc' : w.heap[b]? = some (.cells cs.toArray t (0, 0)) := hc
 have hp' : a.tmps[p]?.getD undef = .pointer (some ⟨b, 0, none⟩) := by simpa using hp
 refine ⟨hd, .agg cs.toArray, ?_, hR⟩
 simp [results, h, hp', asAddr, run_loadVar_row w b t t cs.toArray (0, 0) d hc' hu (by cases d <;> simp_all) (by simpa using hi)]
theorem own_belowY {w W : World} {B t k n : Nat} {v : Value} {xs : List Value} (h : w.ownsRow B t k v n xs) (hB : Below w.heap.size w W) : W.ownsRow B t k v n xs := own_same h fun g hk => hB.block g (own_lt h hk).2
theorem one_own {w : World} {B t k n : Nat} {v : Value} {xs : List Value} (h : w.ownsRow B t k v n xs) : v.oneCell' = true := by
 rcases h.2 with ⟨rfl, _⟩ | ⟨g, cap, cur, rfl, _⟩ <;> rfl
def shpOf (p : PG) : Shp := ⟨p.threads.map List.length, p.regs.map List.length, p.locs.length⟩
theorem build_shp {w : World} {op : Oper} {a : Act} {x : Operand} {n : Int} (ho : op.op = .build 105 #[(2, x)]) (hx : a.eval x = .int .i64 n) : (execOp a.eval op).run Try.prog w = .ok (.value (.agg [.slice none 0 0, .slice none 0 0, .int .i64 n].toArray)) w := by
 have h : Try.t105.zero = some (.agg #[.slice none 0 0, .slice none 0 0, .int .i64 0]) := by kernel_rfl
 generalize a.eval = ev at hx ⊢
 unfold execOp
 simp [ho, hx, go_sem, zeroValue, h]
theorem wpList_valueX {w : World} {ops : Array Oper} {rest : List Oper} {op : Oper} {a : Act} {Q : Exit → Act → World → Prop} {v : Value} (hgd : op.guard = none) (hr : (execOp a.eval op).run Try.prog w = .ok (.value v) w) (h : wpList Try.prog ops Q rest (a.put op.dst v) w) : wpList Try.prog ops Q (op :: rest) a w := by
 refine wpList_plain hgd fun K hK => ?_
 unfold Oper.wp
 rw [hr]
 exact hK _ _ h
set_option maxRecDepth 100000 in
set_option maxHeartbeats 8000000 in
theorem shapeOf_any (p : PG) (n nl : Nat) (hf : p.Few) (hv : Vld p) (hn : p.threads.length = n) (hnl : p.locs.length = nl) (vt vr vl vi vj : Value) (w : World) (hp : PGV w vt vr vl vi vj p) :
    Calls Try.prog 41 #[.agg #[vt, vr, vl, vi, vj]] w fun e w' => ∃ u1 u2, e = .returned (.agg #[u1, u2, .int .i64 (nl : Int)]) ∧ w'.ownsRow w.heap.size 3 1 u1 n ((natI (shpOf p).ins).flatMap intE) ∧ w'.ownsRow w.heap.size 3 1 u2 n ((natI (shpOf p).rgs).flatMap intE) ∧ Below w.heap.size w w' := by
 have hnF : n ≤ 1048576 := by rw [← hn]; exact hf.t
 have hlF : nl ≤ 1048576 := by rw [← hnl]; exact hf.l
 have hrn : p.regs.length = n := by rw [← hn]; exact hv.rl
 obtain ⟨at0, ct, hvt⟩ := hp.t.form
 obtain ⟨ar, cr, hvr⟩ := hp.r.form
 obtain ⟨al, cl, hvl, _, _⟩ := hp.l
 rw [hn] at hvt
 rw [hrn] at hvr
 rw [hnl] at hvl
 subst hvt hvr hvl
 have HP : Hid (PGV w (.slice at0 n ct) (.slice ar n cr) (.slice al nl cl) vi vj p) := hp
 have HN : Hid (p.threads.length = n ∧ p.regs.length = n ∧ p.Few) := ⟨hn, hrn, hf⟩
 obtain ⟨z, hz⟩ : ∃ z, z = shpOf p := ⟨_, rfl⟩
 have HZ : Hid (z = shpOf p) := hz
 rw [← hz]
 clear hp hn hrn hf hv hz hnl
 have hnI : (n : Int) ≤ 1048576 := by omega
 have hlI : (nl : Int) ≤ 1048576 := by omega
 have t1 : True := trivial
 have t2 : True := trivial
 have t3 : True := trivial
 have t4 : True := trivial
 go_enter Try.func41, Try.ntmps41
 go_wp2_with (first
  | (clear t1; refine wpList_boxS rfl 28 _ rfl [.slice at0 n ct, .slice ar n cr, .slice al nl cl, vi, vj] rfl ?_; intro W0 b1 F0 C0; have B0 := F_b F0; clear F0)
  | (clear t2; refine wpList_allocS rfl 105 rfl [.slice none 0 0, .slice none 0 0, .int .i64 0] zeroShp ?_; intro W1 b2 F1 Z1; have C1 := C0.fresh F1; have B1 := F1.trans B0 B0.size; have n12 : b1 ≠ b2 := (by have := C0.lt; have := F1.at'; omega); have hb2 : w.heap.size ≤ b2 := Nat.le_trans B0.size (Nat.le_of_eq F1.at'.symm); obtain ⟨c0, c1, c2⟩ := prog3 C1; clear F1 C0)
  | (clear t3; refine wpList_valueX rfl (build_shp rfl rfl) ?_)
  | (clear t4; refine wpList_allocS rfl 105 rfl [.slice none 0 0, .slice none 0 0, .int .i64 0] zeroShp ?_; intro W2 b3 F2 H2; have C2 := C1.fresh F2; have Z2 := Z1.fresh F2; have B2 := F2.trans B1 B1.size; have n13 : b1 ≠ b3 := (by have := C1.lt; have := F2.at'; omega); have n23 : b2 ≠ b3 := (by have := Z1.lt; have := F2.at'; omega); have hb3 : w.heap.size ≤ b3 := Nat.le_trans B1.size (Nat.le_of_eq F2.at'.symm); clear F2 c0 c1 c2)
  | (refine wpList_storeW rfl 105 _ _ rfl rfl [.slice none 0 0, .slice none 0 0, .int .i64 (nl : Int)] rfl H2 rfl infoShp (by intro v hv; simp at hv; rcases hv with rfl | rfl <;> rfl) ?_; intro W3 U3 H3; have C3 := C2.upd U3 n13; have Z3 := Z2.upd U3 n23; have B3 := U3.trans B2 hb3; obtain ⟨c0, c1, c2⟩ := prog3 C3; clear U3 H2))
 have HB3 : Hid (Below w.heap.size w W3) := B3
 have HC3 : Hid (IsS W3 b1 28 [.slice at0 n ct, .slice ar n cr, .slice al nl cl, vi, vj]) := C3
 have HZ3 : Hid (IsS W3 b2 105 [.slice none 0 0, .slice none 0 0, .int .i64 0]) := Z3
 have HH3 : Hid (IsS W3 b3 105 [.slice none 0 0, .slice none 0 0, .int .i64 (nl : Int)]) := H3
 clear B3 C3 Z3 H3 c0 c1 c2 B0 B1 B2 C1 C2 Z1 Z2
 go_loopw [13] (fun i wr => ∃ (k : Nat) (v1 v2 : Value), k ≤ n ∧ i = .int .i64 (k : Int) ∧ Hid (wr.ownsRow w.heap.size 3 1 v1 k ((natI (z.ins.take k)).flatMap intE)) ∧ Hid (wr.ownsRow w.heap.size 3 1 v2 k ((natI (z.rgs.take k)).flatMap intE)) ∧ Hid (Apart v1 v2) ∧ Hid (IsS wr b3 105 [v1, v2, .int .i64 (nl : Int)]) ∧ Hid (IsS wr b1 28 [.slice at0 n ct, .slice ar n cr, .slice al nl cl, vi, vj]) ∧ Hid (IsS wr b2 105 [.slice none 0 0, .slice none 0 0, .int .i64 0]) ∧ Hid (Below w.heap.size w wr)) (fun i _ => n - (intOf i).toNat)
 case atStart => exact ⟨0, .slice none 0 0, .slice none 0 0, by omega, rfl, World.ownsRow_nil _ _ _ _, World.ownsRow_nil _ _ _ _, apart_nil _ _ _, HH3, HC3, HZ3, HB3⟩
 case round =>
  clear HH3 HC3 HZ3 HB3
  obtain ⟨k, v1, v2, hk, rfl, HO1, HO2, HA, HH, HC, HZz, HB⟩ := hrel
  by_cases hlt : k < n
  · have hki : (k : Int) < n := by omega
    obtain ⟨hn, hrn, hf⟩ := HN.out
    obtain ⟨th, hth⟩ : ∃ x, p.threads[k]? = some x := ⟨_, List.getElem?_eq_getElem (by omega)⟩
    obtain ⟨rg, hrg⟩ : ∃ x, p.regs[k]? = some x := ⟨_, List.getElem?_eq_getElem (by omega)⟩
    have PV := HP.out
    obtain ⟨bt, ot, aj0, cj0, et, hbt, yt, _, _⟩ := PV.t.at k th hth
    obtain ⟨br, orr, aj, cj, er, hbr, yr, _, _⟩ := PV.r.at k rg hrg
    obtain ⟨lt0, hlt0⟩ : ∃ q, th.length = q := ⟨_, rfl⟩
    obtain ⟨lr, hlr⟩ : ∃ q, rg.length = q := ⟨_, rfl⟩
    rw [hlt0] at yt
    rw [hlr] at yr
    subst et er
    have yt' : wr.cell? ⟨bt, ot + k, none⟩ = some (.slice aj0 (lt0 : Nat) cj0) := by rw [HB.out.cell (p := ⟨bt, ot + k, none⟩) hbt]; exact yt
    have ht20 : (lt0 : Int) ≤ 1048576 := by have : lt0 ≤ 1048576 := (by rw [← hlt0]; exact flat_row hf.tt hth); omega
    have hr20 : (lr : Int) ≤ 1048576 := by have : lr ≤ 1048576 := (by rw [← hlr]; exact flat_row hf.rr hrg); omega
    have HIK : Hid (z.ins[k]? = some lt0 ∧ z.rgs[k]? = some lr) := by
     show _ ∧ _
     rw [HZ.out]
     unfold shpOf
     simp [hth, hrg, hlt0, hlr]
    have O := HO1.out
    have P := HO2.out
    have A := HA.out
    have H := HH.out
    have C := HC.out
    have Z := HZz.out
    have B := HB.out
    have h3 := three_cells H
    obtain ⟨z0, z1, z2⟩ := h3
    clear HO1 HO2 HA HH HC HZz HB PV hth hrg hlt0 hlr hn hrn hf
    have t5 : True := trivial
    have t6 : True := trivial
    have t7 : True := trivial
    go_wp2_with (first
     | (clear t5; refine wpList_build1E eIntI rfl _ rfl (.int .i64 (lt0 : Int)) rfl rfl ?_; intro W2 g2 F2 I2; have B2 := F2.trans B B.size; have C2 := C.fresh F2; have Z2 := Z.fresh F2; have H2 := H.fresh F2; have O2 := own_belowY O (F_b F2); have P2 := own_belowY P (F_b F2); clear z0 z1 z2 F2)
     | (clear t6; at_builtin; refine wpList_appW eIntI rfl _ _ rfl w.heap.size _ k ((natI (z.ins.take k)).flatMap intE) rfl O2 g2 [.int .i64 (lt0 : Int)] rfl I2 rfl (by intro v hv; simp at hv; subst hv; rfl) (by omega) B2.size ?_; intro v3 W3 O3 G3 WH3; have B3 := grown_below B2 B2.size O2 G3; have C3 := isS_grow C2 O2 G3 (by decide); have H3 := isS_grow H2 O2 G3 (by decide); have Z3 := isS_grow Z2 O2 G3 (by decide); have P3 := own_apart O2 P2 A.symm G3; have A3 := (WH3.apart P2 A.symm).symm; clear G3 WH3 O2 P2 I2)
     | (clear t7; refine wpList_store1 rfl 29 _ _ rfl rfl v3 rfl H3 (by simp) infoIs (one_own O3) ?_; intro W5 U5 H5x; have H5 : IsS W5 b3 105 [v3, v2, .int .i64 (nl : Int)] := H5x; have C5 := C3.upd U5 n13; have Z5 := Z3.upd U5 n23; have B5 := U5.trans B3 hb3; have O5 := own_upd O3 H3 U5 (by decide); have P5 := own_upd P3 H3 U5 (by decide)))
    have yr5 : W5.cell? ⟨br, orr + k, none⟩ = some (.slice aj (lr : Nat) cj) := by rw [B5.cell (p := ⟨br, orr + k, none⟩) hbr]; exact yr
    have hbr5 : br < W5.heap.size := Nat.lt_of_lt_of_le hbr B5.size
    have A5 : Apart v3 v2 := A3
    clear yr yt yt' O P A H C Z B2 C2 Z2 H2 B3 C3 Z3 H3 O3 P3 U5 H5x A3
    refine region_invA 9 (fun a0 listed a' w' => ∃ x25 x26 x27 x28 x29 x30 x31 x32 x33 : Value, a' = (((((((((a0.put (some 25) x25).put (some 26) x26).put (some 27) x27).put (some 28) x28).put (some 29) x29).put (some 30) x30).put (some 31) x31).put (some 32) x32).put (some 33) x33) ∧ Hid (Below W5.heap.size W5 w') ∧ (listed.getD 0 false = true → x25 = (.pointer (some ⟨b3, 1, none⟩))) ∧ (listed.getD 1 false = true → x26 = v2) ∧ (listed.getD 2 false = true → x27 = (.pointer (some ⟨b1, 1, none⟩))) ∧ (listed.getD 3 false = true → x28 = (.slice (some ⟨br, orr, none⟩) n cr)) ∧ (listed.getD 4 false = true → x29 = (.int .i64 (k : Int))) ∧ (listed.getD 5 false = true → x30 = (.pointer (some ⟨br, orr + k, none⟩))) ∧ (listed.getD 6 false = true → x31 = (.slice aj (lr : Nat) cj)) ∧ (listed.getD 7 false = true → x32 = (.int .i64 ((lr : Nat) : Int))) ∧ (listed.getD 8 false = true → ∃ g, x33 = .slice (some ⟨g, 0, none⟩) 1 1 ∧ W5.heap.size ≤ g ∧ IsS w' g 3 [.int .i64 (lr : Int)])) (by kernel_rfl) (by kernel_rfl) ?i0 ?istep ?iend
    case i0 => exact ⟨_, _, _, _, _, _, _, _, _, by (try simp only [sP]) <;> rfl, below_drew bR, fun h => (not_rep h).elim, fun h => (not_rep h).elim, fun h => (not_rep h).elim, fun h => (not_rep h).elim, fun h => (not_rep h).elim, fun h => (not_rep h).elim, fun h => (not_rep h).elim, fun h => (not_rep h).elim, fun h => (not_rep h).elim⟩
    case istep =>
     rintro i listed a' w' hi hr ⟨x25, x26, x27, x28, x29, x30, x31, x32, x33, rfl, HBw, d0, d1, d2, d3, d4, d5, d6, d7, d8⟩
     obtain ⟨hun, oj, hoj, hwt⟩ := mem_ready.1 hr
     simp only [sP]
     have hcase : i = 0 ∨ i = 1 ∨ i = 2 ∨ i = 3 ∨ i = 4 ∨ i = 5 ∨ i = 6 ∨ i = 7 ∨ i = 8 := by omega
     rcases hcase with rfl | rfl | rfl | rfl | rfl | rfl | rfl | rfl | rfl
     · have hoj2 := hoj
       obtain rfl := oI hoj
       refine wpOp_value hoj2 rfl (v := (.pointer (some ⟨b3, 1, none⟩))) (w' := w') (by first | rfl | (go_simp; done) | (simp [go_sem]; done) | (simp [execOp, go_sem]; done)) ?_
       exact ⟨(.pointer (some ⟨b3, 1, none⟩)), x26, x27, x28, x29, x30, x31, x32, x33, by (try simp only [sP]) <;> rfl, Below.then HBw.out bR, fun _ => rfl, d1 ∘ kq, d2 ∘ kq, d3 ∘ kq, d4 ∘ kq, d5 ∘ kq, d6 ∘ kq, d7 ∘ kq, fun h => (eE (d8 (kp h)) fun b h => ⟨b, h.1, h.2.1, h.2.2.grown bR⟩)⟩
     · have hoj2 := hoj
       obtain rfl := oI hoj
       have e0 := d0 (hwt ⟨0, .data⟩ (by simp) rfl)
       subst e0
       refine wpOp_cell hoj2 rfl 29 _ rfl rfl (v := v2) (ldcIs w' ((H5.grown HBw.out).cell 1)) ?_
       exact ⟨(.pointer (some ⟨b3, 1, none⟩)), v2, x27, x28, x29, x30, x31, x32, x33, by (try simp only [sP]) <;> rfl, Below.then HBw.out bR, d0 ∘ kq, fun _ => rfl, d2 ∘ kq, d3 ∘ kq, d4 ∘ kq, d5 ∘ kq, d6 ∘ kq, d7 ∘ kq, fun h => (eE (d8 (kp h)) fun b h => ⟨b, h.1, h.2.1, h.2.2.grown bR⟩)⟩
     · have hoj2 := hoj
       obtain rfl := oI hoj
       refine wpOp_value hoj2 rfl (v := (.pointer (some ⟨b1, 1, none⟩))) (w' := w') (by first | rfl | (go_simp; done) | (simp [go_sem]; done) | (simp [execOp, go_sem]; done)) ?_
       exact ⟨x25, x26, (.pointer (some ⟨b1, 1, none⟩)), x28, x29, x30, x31, x32, x33, by (try simp only [sP]) <;> rfl, Below.then HBw.out bR, d0 ∘ kq, d1 ∘ kq, fun _ => rfl, d3 ∘ kq, d4 ∘ kq, d5 ∘ kq, d6 ∘ kq, d7 ∘ kq, fun h => (eE (d8 (kp h)) fun b h => ⟨b, h.1, h.2.1, h.2.2.grown bR⟩)⟩
     · have hoj2 := hoj
       obtain rfl := oI hoj
       have e2 := d2 (hwt ⟨2, .data⟩ (by simp) rfl)
       subst e2
       refine wpOp_cell hoj2 rfl 23 _ rfl rfl (v := (.slice (some ⟨br, orr, none⟩) n cr)) (ldcSS w' ((C5.grown HBw.out).cell 1)) ?_
       exact ⟨x25, x26, (.pointer (some ⟨b1, 1, none⟩)), (.slice (some ⟨br, orr, none⟩) n cr), x29, x30, x31, x32, x33, by (try simp only [sP]) <;> rfl, Below.then HBw.out bR, d0 ∘ kq, d1 ∘ kq, d2 ∘ kq, fun _ => rfl, d4 ∘ kq, d5 ∘ kq, d6 ∘ kq, d7 ∘ kq, fun h => (eE (d8 (kp h)) fun b h => ⟨b, h.1, h.2.1, h.2.2.grown bR⟩)⟩
     · have hoj2 := hoj
       obtain rfl := oI hoj
       refine wpOp_value hoj2 rfl (v := (.int .i64 (k : Int))) (w' := w') (by first | rfl | (go_simp; done) | (simp [go_sem]; done) | (simp [execOp, go_sem]; done)) ?_
       exact ⟨x25, x26, x27, x28, (.int .i64 (k : Int)), x30, x31, x32, x33, by (try simp only [sP]) <;> rfl, Below.then HBw.out bR, d0 ∘ kq, d1 ∘ kq, d2 ∘ kq, d3 ∘ kq, fun _ => rfl, d5 ∘ kq, d6 ∘ kq, d7 ∘ kq, fun h => (eE (d8 (kp h)) fun b h => ⟨b, h.1, h.2.1, h.2.2.grown bR⟩)⟩
     · have hoj2 := hoj
       obtain rfl := oI hoj
       have e3 := d3 (hwt ⟨3, .data⟩ (by simp) rfl)
       have e4 := d4 (hwt ⟨4, .data⟩ (by simp) rfl)
       subst e3 e4
       refine wpOp_value hoj2 rfl (v := (.pointer (some ⟨br, orr + k, none⟩))) (w' := w') (by first | (simp [execOp, go_sem, hki]; done) | rfl) ?_
       exact ⟨x25, x26, x27, (.slice (some ⟨br, orr, none⟩) n cr), (.int .i64 (k : Int)), (.pointer (some ⟨br, orr + k, none⟩)), x31, x32, x33, by (try simp only [sP]) <;> rfl, Below.then HBw.out bR, d0 ∘ kq, d1 ∘ kq, d2 ∘ kq, d3 ∘ kq, d4 ∘ kq, fun _ => rfl, d6 ∘ kq, d7 ∘ kq, fun h => (eE (d8 (kp h)) fun b h => ⟨b, h.1, h.2.1, h.2.2.grown bR⟩)⟩
     · have hoj2 := hoj
       obtain rfl := oI hoj
       have e5 := d5 (hwt ⟨5, .data⟩ (by simp) rfl)
       subst e5
       refine wpOp_cell hoj2 rfl 24 _ rfl rfl (v := (.slice aj (lr : Nat) cj)) (ldcS1 w' (by rw [HBw.out.cell (p := ⟨br, orr + k, none⟩) hbr5]; exact yr5)) ?_
       exact ⟨x25, x26, x27, x28, x29, (.pointer (some ⟨br, orr + k, none⟩)), (.slice aj (lr : Nat) cj), x32, x33, by (try simp only [sP]) <;> rfl, Below.then HBw.out bR, d0 ∘ kq, d1 ∘ kq, d2 ∘ kq, d3 ∘ kq, d4 ∘ kq, d5 ∘ kq, fun _ => rfl, d7 ∘ kq, fun h => (eE (d8 (kp h)) fun b h => ⟨b, h.1, h.2.1, h.2.2.grown bR⟩)⟩
     · have hoj2 := hoj
       obtain rfl := oI hoj
       have e6 := d6 (hwt ⟨6, .data⟩ (by simp) rfl)
       subst e6
       refine wpOp_value hoj2 rfl (v := (.int .i64 ((lr : Nat) : Int))) (w' := w') (by first | rfl | (go_simp; done) | (simp [go_sem]; done) | (simp [execOp, go_sem]; done)) ?_
       exact ⟨x25, x26, x27, x28, x29, x30, (.slice aj (lr : Nat) cj), (.int .i64 ((lr : Nat) : Int)), x33, by (try simp only [sP]) <;> rfl, Below.then HBw.out bR, d0 ∘ kq, d1 ∘ kq, d2 ∘ kq, d3 ∘ kq, d4 ∘ kq, d5 ∘ kq, d6 ∘ kq, fun _ => rfl, fun h => (eE (d8 (kp h)) fun b h => ⟨b, h.1, h.2.1, h.2.2.grown bR⟩)⟩
     · have hoj2 := hoj
       obtain rfl := oI hoj
       have e7 := d7 (hwt ⟨7, .data⟩ (by simp) rfl)
       subst e7
       refine wpOp_value hoj2 rfl (exec_build1 eIntI _ rfl (.int .i64 (lr : Int)) rfl rfl) ?_
       have B9 := F_b (Fresh.alloc w' (.cells #[.int .i64 (lr : Int)] 3))
       exact ⟨x25, x26, x27, x28, x29, x30, x31, (.int .i64 (lr : Int)), _, by (try simp only [sP]) <;> rfl, Below.then HBw.out B9, d0 ∘ kq, d1 ∘ kq, d2 ∘ kq, d3 ∘ kq, d4 ∘ kq, d5 ∘ kq, d6 ∘ kq, d7 ∘ kq, fun _ => ⟨_, rfl, HBw.out.size, IsS.new w' 3 [.int .i64 (lr : Int)]⟩⟩
    case iend =>
     rintro a' w' ⟨x25, x26, x27, x28, x29, x30, x31, x32, x33, rfl, HBw, d0, d1, d2, d3, d4, d5, d6, d7, d8⟩
     replace d0 := d0 rfl
     replace d1 := d1 rfl
     replace d2 := d2 rfl
     replace d3 := d3 rfl
     replace d4 := d4 rfl
     replace d5 := d5 rfl
     replace d6 := d6 rfl
     replace d7 := d7 rfl
     replace d8 := d8 rfl
     simp only [sP]
     simp only [List.drop_succ_cons, List.drop_zero]
     obtain ⟨g9, e9, hg9, I9⟩ := d8
     subst e9
     subst d0 d2 d3 d4 d5 d6 d7
     have hx26 := d1
     subst hx26
     have Bw := HBw.out
     clear HBw d1
     have H6 := H5.grown Bw
     have C6 := C5.grown Bw
     have Z6 := Z5.grown Bw
     have O6 := own_belowY O5 Bw
     have P6 := own_belowY P5 Bw
     have B06 := Below.then B5 Bw
     have tz : True := trivial
     go_wp2_with (first
      | (clear tz; at_builtin; refine wpList_appW eIntI rfl _ _ rfl w.heap.size _ k ((natI (z.rgs.take k)).flatMap intE) rfl P6 g9 [.int .i64 (lr : Int)] rfl I9 rfl (by intro v hv; simp at hv; subst hv; rfl) (by omega) B06.size ?_; intro v7 W7 P7 G7 WH7; have B07 := grown_below B06 B06.size P6 G7; have C7 := isS_grow C6 P6 G7 (by decide); have H7 := isS_grow H6 P6 G7 (by decide); have Z7 := isS_grow Z6 P6 G7 (by decide); have O7 := own_apart P6 O6 A5 G7; have A7 := WH7.apart O6 A5; clear G7 WH7 P6 O6 I9)
      | (refine wpList_store1 rfl 29 _ _ rfl rfl v7 rfl H7 (by simp) infoIs (one_own P7) ?_; intro W8 U8 H8x; have H8 : IsS W8 b3 105 [v3, v7, .int .i64 (nl : Int)] := H8x; have C8 := C7.upd U8 n13; have Z8 := Z7.upd U8 n23; have B08 := U8.trans B07 hb3; have O8 := own_upd O7 H7 U8 (by decide); have P8 := own_upd P7 H7 U8 (by decide)))
     go_roundw
     case rel =>
      refine ⟨k + 1, v3, v7, by omega, by go_num, ?_, ?_, A7, H8, C8, Z8, B08⟩
      · show W8.ownsRow _ _ _ _ _ _
        rw [takeS_snoc HIK.out.1, natI_snoc, List.flatMap_append]; exact O8
      · show W8.ownsRow _ _ _ _ _ _
        rw [takeS_snoc HIK.out.2, natI_snoc, List.flatMap_append]; exact P8
     case measure => simp [intOf]; omega
  · obtain rfl : k = n := by omega
    have hki : ¬ (k : Int) < k := by omega
    obtain ⟨hn, hrn, hf⟩ := HN.out
    have e1 : z.ins.take k = z.ins := List.take_of_length_le (by rw [HZ.out]; unfold shpOf; simp [hn])
    have e2 : z.rgs.take k = z.rgs := List.take_of_length_le (by rw [HZ.out]; unfold shpOf; simp [hrn])
    rw [e1] at HO1
    rw [e2] at HO2
    have H := HH.out
    have Z := HZz.out
    have ht : ∀ v ∈ [v1, v2, .int .i64 (nl : Int)], v.oneCell' = true := by
     intro v hv
     simp only [List.mem_cons, List.not_mem_nil, or_false] at hv
     rcases hv with rfl | rfl | rfl
     · exact one_own HO1.out
     · exact one_own HO2.out
     · rfl
    clear hn hrn hf e1 e2
    go_wp2_with (first
     | (refine wpList_loadW rfl 105 _ rfl rfl H _ Try.underlying105 rfl infoShp ?_)
     | (refine wpList_storeW rfl 105 _ _ rfl rfl [v1, v2, .int .i64 (nl : Int)] rfl Z rfl infoShp ht ?_; intro W4 U4 Z4; have B4 := U4.trans HB.out hb2))
    refine ret_SX rfl rfl rfl Z4 _ Try.underlying105 rfl infoShp ?_
    exact ⟨v1, v2, rfl, own_upd HO1.out Z U4 (by decide), own_upd HO2.out Z U4 (by decide), B4⟩
end Go.Proofs.Ytegpnicajlndlaa

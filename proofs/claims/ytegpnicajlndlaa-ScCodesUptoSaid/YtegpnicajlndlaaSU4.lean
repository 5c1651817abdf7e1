/- ScCodes: the law. -/
import Derived.Test.YtegpnicajlndlaaQbt
import Derived.Test.YtegpnicajlndlaaCPX
import Derived.Test.YtegpnicajlndlaaSB9
import Derived.Test.YtegpnicajlndlaaRC11
namespace Go.Proofs.Ytegpnicajlndlaa
open Go.RowKit M
set_option linter.unusedSimpArgs false
set_option linter.unusedVariables false

theorem infoW1 : (Try.prog.info? 48).map (·.size) = some 1 := by kernel_rfl
/-- A state in rows of its own. -/
structure STO (W : World) (B : Nat) (s : ST) (v1 v2 v3 v4 v5 : Value) : Prop where
  pc : W.ownsRow B 3 1 v1 s.pc.length (s.pc.flatMap intE)
  ph : W.ownsRow B 3 1 v2 s.ph.length (s.ph.flatMap intE)
  rg : ∃ vs, OwnA W B v3 vs s.regs
  mm : W.ownsRow B 2 1 v4 s.mem.length (s.mem.flatMap intE)
  bf : ∃ bs : List Value, bs.length = s.buf.length ∧ W.ownsRow B 48 1 v5 bs.length bs ∧ ∀ (j : Nat) u l, bs[j]? = some u → s.buf[j]? = some l → W.ownsRow B 50 2 u l.length (l.flatMap wrE)
section
variable {W W' : World} {B B' b t' : Nat} {s : ST} {v1 v2 v3 v4 v5 : Value} {cs : List Value}
theorem STO.stv (h : STO W B s v1 v2 v3 v4 v5) : STV W s v1 v2 v3 v4 v5 := by
  obtain ⟨vs, o⟩ := h.rg
  obtain ⟨bs, hl, o2, o3⟩ := h.bf
  exact ⟨own_row h.pc, own_row h.ph, o.rows, own_row h.mm, own_rowsW hl o2 o3⟩
theorem STO.map (h : STO W B s v1 v2 v3 v4 v5) (up : ∀ {t z n : Nat} {v : Value} {xs : List Value}, W.ownsRow B t z v n xs → t ∈ [3, 2, 26, 48, 50] → W'.ownsRow B' t z v n xs) : STO W' B' s v1 v2 v3 v4 v5 := by
  obtain ⟨vs, o⟩ := h.rg
  obtain ⟨bs, hl, o2, o3⟩ := h.bf
  exact ⟨up h.pc (by simp), up h.ph (by simp), ⟨vs, o.len, up o.out (by simp), fun j u xs hu hx => up (o.row j u xs hu hx) (by simp), o.apart⟩, up h.mm (by simp), ⟨bs, hl, up o2 (by simp), fun j u l hu hx => up (o3 j u l hu hx) (by simp)⟩⟩
theorem STO.below (h : STO W B s v1 v2 v3 v4 v5) (hB : Below W.heap.size W W') : STO W' B s v1 v2 v3 v4 v5 := h.map fun o _ => own_below o hB
theorem STO.raise (h : STO W B' s v1 v2 v3 v4 v5) (hb : B ≤ B') : STO W B s v1 v2 v3 v4 v5 := h.map fun o _ => own_raise o hb
theorem STO.updT (h : STO W B s v1 v2 v3 v4 v5) (I : IsS W b t' cs) (U : Upd W W' b) (ht : ∀ t ∈ [3, 2, 26, 48, 50], t ≠ t') : STO W' B s v1 v2 v3 v4 v5 := h.map fun o hm => own_upd o I U (ht _ hm)
end
theorem copyS_any (s : ST) (hf : s.Few) (vpc vph vrg vmm vbf : Value) (w : World) (hS : STV w s vpc vph vrg vmm vbf) :
    Calls Try.prog 10 #[.agg #[vpc, vph, vrg, vmm, vbf, .int .i64 s.lock]] w fun e w' => ∃ u1 u2 u3 u4 u5, e = .returned (.agg #[u1, u2, u3, u4, u5, .int .i64 s.lock]) ∧ STO w' w.heap.size s u1 u2 u3 u4 u5 ∧ Below w.heap.size w w' := by
  refine (rcopyS_any s hf vpc vph vrg vmm vbf w hS).mono fun e w' h => ?_
  obtain ⟨u1, u2, u3, u4, u5, h1, ⟨b3, vs, bs, h2⟩, h3⟩ := h
  exact ⟨u1, u2, u3, u4, u5, h1, ⟨h2.pc, h2.ph, ⟨vs, h2.rg⟩, h2.mm, ⟨bs, h2.bl, h2.bf, h2.be⟩⟩, h3⟩
set_option maxRecDepth 100000 in
set_option maxHeartbeats 16000000 in
theorem scCodes_any (p : PG) (hf : p.Few) (s : ST) (hs : s.Few) (hw : Wid s) (X : ByteArray) (hX : X.size ≤ 1099511627776) (vt vr vl vi vj vpc vph vrg vmm vbf : Value) (w : World) (hp : PGV w vt vr vl vi vj p) (hS : STV w s vpc vph vrg vmm vbf) :
    Calls Try.prog 3 #[.agg #[vt, vr, vl, vi, vj], .agg #[vpc, vph, vrg, vmm, vbf, .int .i64 s.lock], .string X] w fun e w' => e = .returned (.bool true) ∧ Below w.heap.size w w' := by
  have hCopy := fun W (h : PGV W vt vr vl vi vj p) => copyO_any p hf vt vr vl vi vj W h
  have hCopyS := fun W (h : STV W s vpc vph vrg vmm vbf) => copyS_any s hs vpc vph vrg vmm vbf W h
  have hCode := fun W a1 a2 a3 a4 a5 e1 e2 e3 e4 e5 (h : PGV W a1 a2 a3 a4 a5 p) (h' : STV W s e1 e2 e3 e4 e5) => code_any p hf s hs hw a1 a2 a3 a4 a5 e1 e2 e3 e4 e5 W h h'
  have hCodeR := fun W (h : PGV W vt vr vl vi vj p) (h' : STV W s vpc vph vrg vmm vbf) => rcode_any p hf s hs hw vt vr vl vi vj vpc vph vrg vmm vbf W h h'
  have hRead := fun W a1 a2 a3 a4 a5 (h : PGV W a1 a2 a3 a4 a5 p) => read2_any p hf X hX a1 a2 a3 a4 a5 W h
  have hReadR := fun W (h : PGV W vt vr vl vi vj p) => rread2_any p hf X hX vt vr vl vi vj W h
  have hStart := fun W a1 a2 a3 a4 a5 (h : PGV W a1 a2 a3 a4 a5 p) => start_any p hf a1 a2 a3 a4 a5 W h
  have hStartR := fun W (h : PGV W vt vr vl vi vj p) => rstart_any p hf vt vr vl vi vj W h
  have hSame := fun W a1 a2 a3 a4 a5 e1 e2 e3 e4 e5 (h : STV W (rdSt p X) a1 a2 a3 a4 a5) (h' : STV W (rdSt p X) e1 e2 e3 e4 e5) => sameStates_any (rdSt p X) (few_rd p X) a1 a2 a3 a4 a5 e1 e2 e3 e4 e5 W h h'
  have hSameX := fun W a1 a2 a3 a4 a5 e1 e2 e3 e4 e5 (h : STV W (stSt p) a1 a2 a3 a4 a5) (h' : STV W (stSt p) e1 e2 e3 e4 e5) => sameStates_any (stSt p) (few_st p hf) a1 a2 a3 a4 a5 e1 e2 e3 e4 e5 W h h'
  have hSameS := fun W a1 a2 a3 a4 a5 (h : STV W s a1 a2 a3 a4 a5) (h' : STV W s vpc vph vrg vmm vbf) => sameStates_any s hs a1 a2 a3 a4 a5 vpc vph vrg vmm vbf W h h'
  have hSameP := fun W a1 a2 a3 a4 a5 (h : PGV W a1 a2 a3 a4 a5 p) (h' : PGV W vt vr vl vi vj p) => sameP_any p hf a1 a2 a3 a4 a5 vt vr vl vi vj W h h'
  have HP : Hid (PGV w vt vr vl vi vj p) := hp
  have HS : Hid (STV w s vpc vph vrg vmm vbf) := hS
  have HFR : Hid ((rdSt p X).Few ∧ (rdSt p X).buf.length = (rdSt p X).pc.length ∧ (rdSt p X).regs.length = (rdSt p X).pc.length) := ⟨few_rd p X, rd_lens p X⟩
  have HFS : Hid (stSt p).Few := few_st p hf
  obtain ⟨lk, hlk⟩ : ∃ k, s.lock = k := ⟨_, rfl⟩
  obtain ⟨C, hC⟩ : ∃ C : ByteArray, C = ⟨(codeT p s).toArray⟩ := ⟨_, rfl⟩
  obtain ⟨cn, hcn⟩ : ∃ k, codeN p s = k := ⟨_, rfl⟩
  obtain ⟨ra, hra⟩ : ∃ k, rdSt p X = k := ⟨_, rfl⟩
  obtain ⟨rn, hrn⟩ : ∃ k, rdN p X = k := ⟨_, rfl⟩
  obtain ⟨sx, hsx⟩ : ∃ k, stSt p = k := ⟨_, rfl⟩
  obtain ⟨ev, hev⟩ : ∃ k, validV p = k := ⟨_, rfl⟩
  obtain ⟨rl, hrl⟩ : ∃ k, ra.lock = k := ⟨_, rfl⟩
  obtain ⟨sl, hsl⟩ : ∃ k, sx.lock = k := ⟨_, rfl⟩
  simp only [hlk] at hCopyS hCode hCodeR hSameS ⊢
  simp only [← hC, hcn] at hCode hCodeR
  simp only [hra, hrn, hrl] at hRead hReadR hSame HFR
  simp only [hsx, hev, hsl] at hStart hStartR hSameX HFS
  clear hp hS hf hs hw hX hlk hC hcn hra hrn hsx hev hrl hsl
  have t1 : True := trivial
  have t2 : True := trivial
  go_enter Try.func3, Try.ntmps3
  go_wp2_with (first
    | (clear t1; refine wpList_boxS rfl 28 _ rfl [vt, vr, vl, vi, vj] rfl ?_; intro W0 b3 F0 P0; have B0 := F_b F0; clear F0)
    | (clear t2; refine wpList_boxS rfl 32 _ rfl [vpc, vph, vrg, vmm, vbf, .int .i64 lk] rfl ?_; intro W1 b4 F1 S1; have P1 := P0.fresh F1; have B1 := F1.trans B0 B0.size; clear F1 P0 B0))
  refine region_invA 6 (fun a0 listed a' w' => ∃ x27 x28 x29 x30 x7 x8 : Value, a' = ((((((a0.put (some 27) x27).put (some 28) x28).put (some 29) x29).put (some 30) x30).put (some 7) x7).put (some 8) x8) ∧ Hid (Below W1.heap.size W1 w') ∧ (listed.getD 0 false = true → x27 = (.agg [vt, vr, vl, vi, vj].toArray)) ∧ (listed.getD 1 false = true → ∃ c1 c2 c3 c4 c5, x28 = .agg #[c1, c2, c3, c4, c5] ∧ PGO w' W1.heap.size c1 c2 c3 c4 c5 p) ∧ (listed.getD 2 false = true → x29 = (.agg [vpc, vph, vrg, vmm, vbf, .int .i64 lk].toArray)) ∧ (listed.getD 3 false = true → ∃ f1 f2 f3 f4 f5, x30 = .agg #[f1, f2, f3, f4, f5, .int .i64 lk] ∧ STO w' W1.heap.size s f1 f2 f3 f4 f5) ∧ (listed.getD 4 false = true → ∃ b7, x7 = .pointer (some ⟨b7, 0, none⟩) ∧ W1.heap.size ≤ b7 ∧ ∃ cs : List Value, cs.length = (z5 : List Value).length ∧ IsS w' b7 28 cs) ∧ (listed.getD 5 false = true → ∃ b8, x8 = .pointer (some ⟨b8, 0, none⟩) ∧ W1.heap.size ≤ b8 ∧ ∃ cs : List Value, cs.length = (zst : List Value).length ∧ IsS w' b8 32 cs)) (by kernel_rfl) (by kernel_rfl) ?i0 ?istep ?iend
  case i0 => exact ⟨_, _, _, _, _, _, by first | (simp only [Act.put, List.setIfInBounds_toArray, List.set_cons_succ, List.set_cons_zero]; done) | (simp only [Act.put, List.setIfInBounds_toArray, List.set_cons_succ, List.set_cons_zero]; rfl) | rfl, below_drew (Below.refl _ _), fun h => (not_rep h).elim, fun h => (not_rep h).elim, fun h => (not_rep h).elim, fun h => (not_rep h).elim, fun h => (not_rep h).elim, fun h => (not_rep h).elim⟩
  case istep =>
    rintro i listed a' w' hi hr ⟨x27, x28, x29, x30, x7, x8, rfl, HBw, d0, d1, d2, d3, d4, d5⟩
    obtain ⟨hun, oj, hoj, hwt⟩ := mem_ready.1 hr
    simp only [Act.put, List.setIfInBounds_toArray, List.set_cons_succ, List.set_cons_zero]
    have hcase : i = 0 ∨ i = 1 ∨ i = 2 ∨ i = 3 ∨ i = 4 ∨ i = 5 := by omega
    rcases hcase with rfl | rfl | rfl | rfl | rfl | rfl
    · have hoj2 := hoj
      obtain rfl := Option.some.inj hoj
      refine wpOp_value hoj2 rfl (v := (.agg [vt, vr, vl, vi, vj].toArray)) (w' := w') (exec_loadSX rfl rfl (P1.grown HBw.out) Try.underlying28 rfl infoPg) ?_
      exact ⟨(.agg [vt, vr, vl, vi, vj].toArray), x28, x29, x30, x7, x8, by first | (simp only [Act.put, List.setIfInBounds_toArray, List.set_cons_succ, List.set_cons_zero]; done) | (simp only [Act.put, List.setIfInBounds_toArray, List.set_cons_succ, List.set_cons_zero]; rfl) | rfl, Below.then HBw.out (Below.refl _ _), fun _ => rfl, fun h => (Exists.elim (d1 (keep (by decide) h)) fun c1 h => Exists.elim h fun c2 h => Exists.elim h fun c3 h => Exists.elim h fun c4 h => Exists.elim h fun c5 h => ⟨c1, c2, c3, c4, c5, h.1, h.2.below (Below.refl _ _)⟩), fun h => (d2 (keep (by decide) h)), fun h => (Exists.elim (d3 (keep (by decide) h)) fun c1 h => Exists.elim h fun c2 h => Exists.elim h fun c3 h => Exists.elim h fun c4 h => Exists.elim h fun c5 h => ⟨c1, c2, c3, c4, c5, h.1, h.2.below (Below.refl _ _)⟩), fun h => (Exists.elim (d4 (keep (by decide) h)) fun b h => ⟨b, h.1, h.2.1, Exists.elim h.2.2 fun cs h => ⟨cs, h.1, h.2.grown (Below.refl _ _)⟩⟩), fun h => (Exists.elim (d5 (keep (by decide) h)) fun b h => ⟨b, h.1, h.2.1, Exists.elim h.2.2 fun cs h => ⟨cs, h.1, h.2.grown (Below.refl _ _)⟩⟩)⟩
    · have hoj2 := hoj
      obtain rfl := Option.some.inj hoj
      have e0 := d0 (hwt ⟨0, .data⟩ (by simp) rfl)
      subst e0
      refine wpOp_call hoj2 rfl (f := 9) (args := #[.agg [vt, vr, vl, vi, vj].toArray]) (by first | rfl | (go_simp; done) | (simp [go_sem]; done) | (simp [execOp, go_sem]; done)) ?_
      refine (hCopy w' (HP.out.below (Below.then B1 HBw.out))).mono ?_
      rintro e w4 ⟨⟨c1, c2, c3, c4, c5, rfl, O4⟩, B4⟩
      refine ⟨_, rfl, ?_⟩
      exact ⟨(.agg [vt, vr, vl, vi, vj].toArray), _, x29, x30, x7, x8, by first | (simp only [Act.put, List.setIfInBounds_toArray, List.set_cons_succ, List.set_cons_zero]; done) | (simp only [Act.put, List.setIfInBounds_toArray, List.set_cons_succ, List.set_cons_zero]; rfl) | rfl, Below.then HBw.out B4, fun h => (d0 (keep (by decide) h)), fun _ => ⟨c1, c2, c3, c4, c5, rfl, O4.raise HBw.out.size⟩, fun h => (d2 (keep (by decide) h)), fun h => (Exists.elim (d3 (keep (by decide) h)) fun c1 h => Exists.elim h fun c2 h => Exists.elim h fun c3 h => Exists.elim h fun c4 h => Exists.elim h fun c5 h => ⟨c1, c2, c3, c4, c5, h.1, h.2.below B4⟩), fun h => (Exists.elim (d4 (keep (by decide) h)) fun b h => ⟨b, h.1, h.2.1, Exists.elim h.2.2 fun cs h => ⟨cs, h.1, h.2.grown B4⟩⟩), fun h => (Exists.elim (d5 (keep (by decide) h)) fun b h => ⟨b, h.1, h.2.1, Exists.elim h.2.2 fun cs h => ⟨cs, h.1, h.2.grown B4⟩⟩)⟩
    · have hoj2 := hoj
      obtain rfl := Option.some.inj hoj
      refine wpOp_value hoj2 rfl (v := (.agg [vpc, vph, vrg, vmm, vbf, .int .i64 lk].toArray)) (w' := w') (exec_loadSX rfl rfl (S1.grown HBw.out) Try.underlying32 rfl infoSt) ?_
      exact ⟨x27, x28, (.agg [vpc, vph, vrg, vmm, vbf, .int .i64 lk].toArray), x30, x7, x8, by first | (simp only [Act.put, List.setIfInBounds_toArray, List.set_cons_succ, List.set_cons_zero]; done) | (simp only [Act.put, List.setIfInBounds_toArray, List.set_cons_succ, List.set_cons_zero]; rfl) | rfl, Below.then HBw.out (Below.refl _ _), fun h => (d0 (keep (by decide) h)), fun h => (Exists.elim (d1 (keep (by decide) h)) fun c1 h => Exists.elim h fun c2 h => Exists.elim h fun c3 h => Exists.elim h fun c4 h => Exists.elim h fun c5 h => ⟨c1, c2, c3, c4, c5, h.1, h.2.below (Below.refl _ _)⟩), fun _ => rfl, fun h => (Exists.elim (d3 (keep (by decide) h)) fun c1 h => Exists.elim h fun c2 h => Exists.elim h fun c3 h => Exists.elim h fun c4 h => Exists.elim h fun c5 h => ⟨c1, c2, c3, c4, c5, h.1, h.2.below (Below.refl _ _)⟩), fun h => (Exists.elim (d4 (keep (by decide) h)) fun b h => ⟨b, h.1, h.2.1, Exists.elim h.2.2 fun cs h => ⟨cs, h.1, h.2.grown (Below.refl _ _)⟩⟩), fun h => (Exists.elim (d5 (keep (by decide) h)) fun b h => ⟨b, h.1, h.2.1, Exists.elim h.2.2 fun cs h => ⟨cs, h.1, h.2.grown (Below.refl _ _)⟩⟩)⟩
    · have hoj2 := hoj
      obtain rfl := Option.some.inj hoj
      have e2 := d2 (hwt ⟨2, .data⟩ (by simp) rfl)
      subst e2
      refine wpOp_call hoj2 rfl (f := 10) (args := #[.agg [vpc, vph, vrg, vmm, vbf, .int .i64 lk].toArray]) (by first | rfl | (go_simp; done) | (simp [go_sem]; done) | (simp [execOp, go_sem]; done)) ?_
      refine (hCopyS w' (HS.out.below (Below.then B1 HBw.out))).mono ?_
      rintro e w4 ⟨f1, f2, f3, f4, f5, rfl, O4, B4⟩
      refine ⟨_, rfl, ?_⟩
      exact ⟨x27, x28, (.agg [vpc, vph, vrg, vmm, vbf, .int .i64 lk].toArray), _, x7, x8, by first | (simp only [Act.put, List.setIfInBounds_toArray, List.set_cons_succ, List.set_cons_zero]; done) | (simp only [Act.put, List.setIfInBounds_toArray, List.set_cons_succ, List.set_cons_zero]; rfl) | rfl, Below.then HBw.out B4, fun h => (d0 (keep (by decide) h)), fun h => (Exists.elim (d1 (keep (by decide) h)) fun c1 h => Exists.elim h fun c2 h => Exists.elim h fun c3 h => Exists.elim h fun c4 h => Exists.elim h fun c5 h => ⟨c1, c2, c3, c4, c5, h.1, h.2.below B4⟩), fun h => (d2 (keep (by decide) h)), fun _ => ⟨f1, f2, f3, f4, f5, rfl, O4.raise HBw.out.size⟩, fun h => (Exists.elim (d4 (keep (by decide) h)) fun b h => ⟨b, h.1, h.2.1, Exists.elim h.2.2 fun cs h => ⟨cs, h.1, h.2.grown B4⟩⟩), fun h => (Exists.elim (d5 (keep (by decide) h)) fun b h => ⟨b, h.1, h.2.1, Exists.elim h.2.2 fun cs h => ⟨cs, h.1, h.2.grown B4⟩⟩)⟩
    · have hoj2 := hoj
      obtain rfl := Option.some.inj hoj
      refine wpOp_value hoj2 rfl (run_allocS 28 z5 zeroPg rfl _ w') ?_
      have B9 := F_b (Fresh.alloc w' (.cells (z5 : List Value).toArray 28))
      exact ⟨x27, x28, x29, x30, _, x8, by first | (simp only [Act.put, List.setIfInBounds_toArray, List.set_cons_succ, List.set_cons_zero]; done) | (simp only [Act.put, List.setIfInBounds_toArray, List.set_cons_succ, List.set_cons_zero]; rfl) | rfl, Below.then HBw.out B9, fun h => (d0 (keep (by decide) h)), fun h => (Exists.elim (d1 (keep (by decide) h)) fun c1 h => Exists.elim h fun c2 h => Exists.elim h fun c3 h => Exists.elim h fun c4 h => Exists.elim h fun c5 h => ⟨c1, c2, c3, c4, c5, h.1, h.2.below B9⟩), fun h => (d2 (keep (by decide) h)), fun h => (Exists.elim (d3 (keep (by decide) h)) fun c1 h => Exists.elim h fun c2 h => Exists.elim h fun c3 h => Exists.elim h fun c4 h => Exists.elim h fun c5 h => ⟨c1, c2, c3, c4, c5, h.1, h.2.below B9⟩), fun _ => ⟨_, rfl, HBw.out.size, z5, rfl, IsS.new w' 28 z5⟩, fun h => (Exists.elim (d5 (keep (by decide) h)) fun b h => ⟨b, h.1, h.2.1, Exists.elim h.2.2 fun cs h => ⟨cs, h.1, h.2.grown B9⟩⟩)⟩
    · have hoj2 := hoj
      obtain rfl := Option.some.inj hoj
      refine wpOp_value hoj2 rfl (run_allocS 32 zst zeroSt rfl _ w') ?_
      have B9 := F_b (Fresh.alloc w' (.cells (zst : List Value).toArray 32))
      exact ⟨x27, x28, x29, x30, x7, _, by first | (simp only [Act.put, List.setIfInBounds_toArray, List.set_cons_succ, List.set_cons_zero]; done) | (simp only [Act.put, List.setIfInBounds_toArray, List.set_cons_succ, List.set_cons_zero]; rfl) | rfl, Below.then HBw.out B9, fun h => (d0 (keep (by decide) h)), fun h => (Exists.elim (d1 (keep (by decide) h)) fun c1 h => Exists.elim h fun c2 h => Exists.elim h fun c3 h => Exists.elim h fun c4 h => Exists.elim h fun c5 h => ⟨c1, c2, c3, c4, c5, h.1, h.2.below B9⟩), fun h => (d2 (keep (by decide) h)), fun h => (Exists.elim (d3 (keep (by decide) h)) fun c1 h => Exists.elim h fun c2 h => Exists.elim h fun c3 h => Exists.elim h fun c4 h => Exists.elim h fun c5 h => ⟨c1, c2, c3, c4, c5, h.1, h.2.below B9⟩), fun h => (Exists.elim (d4 (keep (by decide) h)) fun b h => ⟨b, h.1, h.2.1, Exists.elim h.2.2 fun cs h => ⟨cs, h.1, h.2.grown B9⟩⟩), fun _ => ⟨_, rfl, HBw.out.size, zst, rfl, IsS.new w' 32 zst⟩⟩
  case iend =>
    rintro a' w' ⟨x27, x28, x29, x30, x7, x8, rfl, HBw, d0, d1, d2, d3, d4, d5⟩
    replace d0 := d0 rfl
    replace d1 := d1 rfl
    replace d2 := d2 rfl
    replace d3 := d3 rfl
    replace d4 := d4 rfl
    replace d5 := d5 rfl
    simp only [Act.put, List.setIfInBounds_toArray, List.set_cons_succ, List.set_cons_zero]
    simp only [List.drop_succ_cons, List.drop_zero]
    obtain ⟨c1, c2, c3, c4, c5, e28, O2⟩ := d1
    obtain ⟨f1, f2, f3, f4, f5, e30, S2⟩ := d3
    obtain ⟨b7, e7, hb7x, cs7, hl7, I7⟩ := d4
    obtain ⟨b8, e8, hb8x, cs8, hl8, I8⟩ := d5
    subst e28 e30 e7 e8 d0 d2
    have B2 := Below.then B1 HBw.out
    have P2 := P1.grown HBw.out
    have T2 := S1.grown HBw.out
    have hb7 : w.heap.size ≤ b7 := Nat.le_trans B1.size hb7x
    have hb8 : w.heap.size ≤ b8 := Nat.le_trans B1.size hb8x
    have n37 : b3 ≠ b7 := by have := P1.lt; omega
    have n47 : b4 ≠ b7 := by have := S1.lt; omega
    have n38 : b3 ≠ b8 := by have := P1.lt; omega
    have n48 : b4 ≠ b8 := by have := S1.lt; omega
    have n87 : b8 ≠ b7 := fun e => by subst e; exact absurd (isS_ty I8 I7) (by decide)
    have hone7 : ∀ v ∈ [c1, c2, c3, c4, c5], v.oneCell' = true := one5 O2.t.cell O2.r.cell (own_cell O2.l) O2.i.cell (own_cell O2.j)
    have hone8 := stv_one lk S2.stv
    clear HBw hb7x hb8x
    have t3 : True := trivial
    have t4 : True := trivial
    have ta1 : True := trivial
    have ta2 : True := trivial
    have ta3 : True := trivial
    have tb1 : True := trivial
    have tb2 : True := trivial
    have tb3 : True := trivial
    have tc1 : True := trivial
    have tc2 : True := trivial
    have tc3 : True := trivial
    have tc4 : True := trivial
    have td1 : True := trivial
    have td2 : True := trivial
    have td3 : True := trivial
    have td4 : True := trivial
    have te1 : True := trivial
    have te2 : True := trivial
    have te3 : True := trivial
    have te4 : True := trivial
    have tf1 : True := trivial
    have tf2 : True := trivial
    have tf3 : True := trivial
    have tf4 : True := trivial
    have tg1 : True := trivial
    have tg2 : True := trivial
    have tg3 : True := trivial
    have tg4 : True := trivial
    have th1 : True := trivial
    have th2 : True := trivial
    have th3 : True := trivial
    have ti1 : True := trivial
    have ti2 : True := trivial
    have ti3 : True := trivial
    have tj1 : True := trivial
    have tj2 : True := trivial
    have tj3 : True := trivial
    have tk1 : True := trivial
    have tk2 : True := trivial
    have tk3 : True := trivial
    have tl1 : True := trivial
    have tl2 : True := trivial
    have tl3 : True := trivial
    go_wp2_with (first
      | (clear t3; refine wpList_storeW rfl 28 _ _ rfl rfl [c1, c2, c3, c4, c5] rfl I7 (by rw [hl7]; rfl) infoPg hone7 ?_; intro W3 U3 C3; have O3 := O2.upd I7 U3 (by decide); have S3 := S2.updT I7 U3 (by decide); have I8b := I8.upd U3 n87; have P3 := P2.upd U3 n37; have T3 := T2.upd U3 n47; have B3 := U3.trans B2 hb7; clear U3 I7 O2 S2 P2 T2 B2 I8)
      | (clear t4; refine wpList_storeW rfl 32 _ _ rfl rfl [f1, f2, f3, f4, f5, .int .i64 lk] rfl I8b (by rw [hl8]; rfl) infoSt hone8 ?_; intro W4 U4 D4; have O4 := (O3.upd I8b U4 (by decide)).pgv; have S4 := (S3.updT I8b U4 (by decide)).stv; have C4 := C3.upd U4 (Ne.symm n87); have P4 := P3.upd U4 n38; have T4 := T3.upd U4 n48; have QW := U4.trans B3 hb8; have Q4 := Below.refl W4.heap.size W4; have hW4 := QW.size; clear U4 I8b O3 S3 P3 T3 B3 C3)
      | (clear ta1; refine wpList_loadW rfl 28 _ rfl rfl (C4) _ Try.underlying28 rfl infoPg ?_)
      | (clear ta2; refine wpList_loadW rfl 32 _ rfl rfl (D4) _ Try.underlying32 rfl infoSt ?_)
      | (clear ta3; go_at_call 11; refine (hCode _ _ _ _ _ _ _ _ _ _ _ O4 S4).mono ?_; rintro e W5 ⟨rfl, X5⟩; replace QW := Below.then QW X5; replace Q4 := Below.then Q4 X5; clear X5)
      | (clear tb1; refine wpList_loadW rfl 28 _ rfl rfl (P4.grown Q4) _ Try.underlying28 rfl infoPg ?_)
      | (clear tb2; refine wpList_loadW rfl 32 _ rfl rfl (T4.grown Q4) _ Try.underlying32 rfl infoSt ?_)
      | (clear tb3; go_at_call 12; refine (hCodeR _ (HP.out.below QW) (HS.out.below QW)).mono ?_; rintro e W6 ⟨rfl, X6⟩; replace QW := Below.then QW X6; replace Q4 := Below.then Q4 X6; have hWa := Q4.size; clear X6)
      | (clear tc1; refine wpList_loadW rfl 28 _ rfl rfl (C4.grown Q4) _ Try.underlying28 rfl infoPg ?_)
      | (clear tc2; go_at_call 13; refine (hRead _ _ _ _ _ _ (O4.below Q4)).mono ?_; rintro e Wa ⟨v1, v2, v3, v4, v5, vs, bs, rfl, SA, XA⟩; have hone13 := stv_one rl SA.stv; have hszA := XA.size; replace QW := Below.then QW XA; replace Q4 := Below.then Q4 XA; clear XA)
      | (clear tc3; refine wpList_allocS rfl 32 rfl zst zeroSt ?_; intro Wa1 b13 Fa Ia; have ha13 : Wa.heap.size ≤ b13 := Nat.le_of_eq Fa.at'.symm)
      | (clear tc4; refine wpList_storeW rfl 32 _ _ rfl rfl [v1, v2, v3, v4, v5, .int .i64 rl] rfl Ia rfl infoSt hone13 ?_; intro Wa2 Ua Ja; have XA2 : Below Wa.heap.size Wa Wa2 := Ua.trans (F_b Fa) (Nat.le_of_eq Fa.at'.symm); have QA := XA2; replace QW := Below.then QW XA2; replace Q4 := Below.then Q4 XA2; have QJ := Below.refl Wa2.heap.size Wa2; have hWb := QA.size; clear XA2 Ua Fa Ia)
      | (clear td1; refine wpList_loadW rfl 28 _ rfl rfl (C4.grown Q4) _ Try.underlying28 rfl infoPg ?_)
      | (clear td2; go_at_call 13; refine (hRead _ _ _ _ _ _ (O4.below Q4)).mono ?_; rintro e Wb ⟨y1, y2, y3, y4, y5, ys, zs, rfl, SBx, XB⟩; have SB := SBx.stf; have hone15 := stv_one rl SBx.stv; have hszB := XB.size; replace QW := Below.then QW XB; replace Q4 := Below.then Q4 XB; replace QA := Below.then QA XB; replace QJ := Below.then QJ XB; clear XB SBx)
      | (clear td3; refine wpList_allocS rfl 32 rfl zst zeroSt ?_; intro Wb1 b15 Fb Ib; have ha15 : Wb.heap.size ≤ b15 := Nat.le_of_eq Fb.at'.symm)
      | (clear td4; refine wpList_storeW rfl 32 _ _ rfl rfl [y1, y2, y3, y4, y5, .int .i64 rl] rfl Ib rfl infoSt hone15 ?_; intro Wb2 Ub Jb; have XB2 : Below Wb.heap.size Wb Wb2 := Ub.trans (F_b Fb) (Nat.le_of_eq Fb.at'.symm); have QB := XB2; replace QW := Below.then QW XB2; replace Q4 := Below.then Q4 XB2; replace QA := Below.then QA XB2; replace QJ := Below.then QJ XB2; have QK := Below.refl Wb2.heap.size Wb2; have hlb2 := QB.size; clear XB2 Ub Fb Ib)
      | (clear te1; refine wpList_loadW rfl 28 _ rfl rfl (P4.grown Q4) _ Try.underlying28 rfl infoPg ?_)
      | (clear te2; go_at_call 14; refine (hReadR _ (HP.out.below QW)).mono ?_; rintro e Wc ⟨u1, u2, u3, u4, u5, rfl, SC, XC⟩; have hone17 := stv_one rl SC.stv; have hszC := XC.size; replace QW := Below.then QW XC; replace Q4 := Below.then Q4 XC; replace QA := Below.then QA XC; replace QJ := Below.then QJ XC; replace QB := Below.then QB XC; replace QK := Below.then QK XC; clear XC)
      | (clear te3; refine wpList_allocS rfl 32 rfl zst zeroSt ?_; intro Wc1 b17 Fc Ic; have ha17 : Wc.heap.size ≤ b17 := Nat.le_of_eq Fc.at'.symm)
      | (clear te4; refine wpList_storeW rfl 32 _ _ rfl rfl [u1, u2, u3, u4, u5, .int .i64 rl] rfl Ic rfl infoSt hone17 ?_; intro Wc2 Uc Jc; have XC2 : Below Wc.heap.size Wc Wc2 := Uc.trans (F_b Fc) (Nat.le_of_eq Fc.at'.symm); have QC := XC2; replace QW := Below.then QW XC2; replace Q4 := Below.then Q4 XC2; replace QA := Below.then QA XC2; replace QJ := Below.then QJ XC2; replace QB := Below.then QB XC2; replace QK := Below.then QK XC2; have QL := Below.refl Wc2.heap.size Wc2; have hlc2 := QC.size; clear XC2 Uc Fc Ic)
      | (clear tf1; refine wpList_loadW rfl 28 _ rfl rfl (C4.grown Q4) _ Try.underlying28 rfl infoPg ?_)
      | (clear tf2; go_at_call 15; refine (hStart _ _ _ _ _ _ (O4.below Q4)).mono ?_; rintro e Wd ⟨p1, p2, p3, p4, p5, rfl, SD, OD, XD⟩; have hone19 := stv_one sl SD; have hldx := XD.size; replace QW := Below.then QW XD; replace Q4 := Below.then Q4 XD; replace QA := Below.then QA XD; replace QJ := Below.then QJ XD; replace QB := Below.then QB XD; replace QK := Below.then QK XD; replace QC := Below.then QC XD; replace QL := Below.then QL XD; clear XD)
      | (clear tf3; refine wpList_allocS rfl 32 rfl zst zeroSt ?_; intro Wd1 b19 Fd Id; have ha19 : Wd.heap.size ≤ b19 := Nat.le_of_eq Fd.at'.symm)
      | (clear tf4; refine wpList_storeW rfl 32 _ _ rfl rfl [p1, p2, p3, p4, p5, .int .i64 sl] rfl Id rfl infoSt hone19 ?_; intro Wd2 Ud Jd; have XD2 : Below Wd.heap.size Wd Wd2 := Ud.trans (F_b Fd) (Nat.le_of_eq Fd.at'.symm); have QD := XD2; replace QW := Below.then QW XD2; replace Q4 := Below.then Q4 XD2; replace QA := Below.then QA XD2; replace QJ := Below.then QJ XD2; replace QB := Below.then QB XD2; replace QK := Below.then QK XD2; replace QC := Below.then QC XD2; replace QL := Below.then QL XD2; have QM := Below.refl Wd2.heap.size Wd2; clear XD2 Ud Fd Id)
      | (clear tg1; refine wpList_loadW rfl 28 _ rfl rfl (P4.grown Q4) _ Try.underlying28 rfl infoPg ?_)
      | (clear tg2; go_at_call 16; refine (hStartR _ (HP.out.below QW)).mono ?_; rintro e We ⟨q1, q2, q3, q4, q5, rfl, SE, XE⟩; have hone21 := stv_one sl SE; replace QW := Below.then QW XE; replace Q4 := Below.then Q4 XE; replace QA := Below.then QA XE; replace QJ := Below.then QJ XE; replace QB := Below.then QB XE; replace QK := Below.then QK XE; replace QC := Below.then QC XE; replace QL := Below.then QL XE; replace QD := Below.then QD XE; replace QM := Below.then QM XE; clear XE)
      | (clear tg3; refine wpList_allocS rfl 32 rfl zst zeroSt ?_; intro We1 b21 Fe Ie)
      | (clear tg4; refine wpList_storeW rfl 32 _ _ rfl rfl [q1, q2, q3, q4, q5, .int .i64 sl] rfl Ie rfl infoSt hone21 ?_; intro We2 Ue Je; have XE2 : Below We.heap.size We We2 := Ue.trans (F_b Fe) (Nat.le_of_eq Fe.at'.symm); have QE := XE2; replace QW := Below.then QW XE2; replace Q4 := Below.then Q4 XE2; replace QA := Below.then QA XE2; replace QJ := Below.then QJ XE2; replace QB := Below.then QB XE2; replace QK := Below.then QK XE2; replace QC := Below.then QC XE2; replace QL := Below.then QL XE2; replace QD := Below.then QD XE2; replace QM := Below.then QM XE2; have QN := Below.refl We2.heap.size We2; clear XE2 Ue Fe Ie)
      | (clear th1; refine wpList_loadGW rfl 32 _ rfl rfl (Ja.grown QJ) _ Try.underlying32 rfl infoSt ?_)
      | (clear th2; refine wpList_loadGW rfl 32 _ rfl rfl (Jc.grown QL) _ Try.underlying32 rfl infoSt ?_)
      | (clear th3; go_at_call 17; refine (hSame _ _ _ _ _ _ _ _ _ _ _ (SA.stv.below QA) (SC.stv.below QC)).mono ?_; rintro e V1 ⟨rfl, XV⟩; replace QW := Below.then QW XV; replace Q4 := Below.then Q4 XV; replace QA := Below.then QA XV; replace QJ := Below.then QJ XV; replace QB := Below.then QB XV; replace QK := Below.then QK XV; replace QC := Below.then QC XV; replace QL := Below.then QL XV; replace QD := Below.then QD XV; replace QM := Below.then QM XV; replace QE := Below.then QE XV; replace QN := Below.then QN XV; clear XV)
      | (clear ti1; refine wpList_loadGW rfl 32 _ rfl rfl (Jb.grown QK) _ Try.underlying32 rfl infoSt ?_)
      | (clear ti2; refine wpList_loadGW rfl 32 _ rfl rfl (Jc.grown QL) _ Try.underlying32 rfl infoSt ?_)
      | (clear ti3; go_at_call 17; refine (hSame _ _ _ _ _ _ _ _ _ _ _ (SB.stv.below QB) (SC.stv.below QC)).mono ?_; rintro e V2 ⟨rfl, XV⟩; replace QW := Below.then QW XV; replace Q4 := Below.then Q4 XV; replace QA := Below.then QA XV; replace QJ := Below.then QJ XV; replace QB := Below.then QB XV; replace QK := Below.then QK XV; replace QC := Below.then QC XV; replace QL := Below.then QL XV; replace QD := Below.then QD XV; replace QM := Below.then QM XV; replace QE := Below.then QE XV; replace QN := Below.then QN XV; clear XV)
      | (clear tj1; refine wpList_loadGW rfl 32 _ rfl rfl (Jd.grown QM) _ Try.underlying32 rfl infoSt ?_)
      | (clear tj2; refine wpList_loadGW rfl 32 _ rfl rfl (Je.grown QN) _ Try.underlying32 rfl infoSt ?_)
      | (clear tj3; go_at_call 17; refine (hSameX _ _ _ _ _ _ _ _ _ _ _ (SD.below QD) (SE.below QE)).mono ?_; rintro e V3 ⟨rfl, XV⟩; replace QW := Below.then QW XV; replace Q4 := Below.then Q4 XV; replace QA := Below.then QA XV; replace QJ := Below.then QJ XV; replace QB := Below.then QB XV; replace QK := Below.then QK XV; replace QC := Below.then QC XV; replace QL := Below.then QL XV; replace QD := Below.then QD XV; replace QM := Below.then QM XV; replace QE := Below.then QE XV; replace QN := Below.then QN XV; clear XV)
      | (clear tk1; refine wpList_loadGW rfl 28 _ rfl rfl (C4.grown Q4) _ Try.underlying28 rfl infoPg ?_)
      | (clear tk2; refine wpList_loadGW rfl 28 _ rfl rfl (P4.grown Q4) _ Try.underlying28 rfl infoPg ?_)
      | (clear tk3; go_at_call 18; refine (hSameP _ _ _ _ _ _ (O4.below Q4) (HP.out.below QW)).mono ?_; rintro e V4 ⟨rfl, XV⟩; replace QW := Below.then QW XV; replace Q4 := Below.then Q4 XV; replace QA := Below.then QA XV; replace QJ := Below.then QJ XV; replace QB := Below.then QB XV; replace QK := Below.then QK XV; replace QC := Below.then QC XV; replace QL := Below.then QL XV; replace QD := Below.then QD XV; replace QM := Below.then QM XV; replace QE := Below.then QE XV; replace QN := Below.then QN XV; clear XV)
      | (clear tl1; refine wpList_loadGW rfl 32 _ rfl rfl (D4.grown Q4) _ Try.underlying32 rfl infoSt ?_)
      | (clear tl2; refine wpList_loadGW rfl 32 _ rfl rfl (T4.grown Q4) _ Try.underlying32 rfl infoSt ?_)
      | (clear tl3; go_at_call 17; refine (hSameS _ _ _ _ _ _ (S4.below Q4) (HS.out.below QW)).mono ?_; rintro e V5 ⟨rfl, XV⟩; replace QW := Below.then QW XV; replace Q4 := Below.then Q4 XV; replace QA := Below.then QA XV; replace QJ := Below.then QJ XV; replace QB := Below.then QB XV; replace QK := Below.then QK XV; replace QC := Below.then QC XV; replace QL := Below.then QL XV; replace QD := Below.then QD XV; replace QM := Below.then QM XV; replace QE := Below.then QE XV; replace QN := Below.then QN XV; clear XV))
    obtain ⟨n, hn⟩ : ∃ k, ra.pc.length = k := ⟨_, rfl⟩
    obtain ⟨n4, hn4⟩ : ∃ k, ra.mem.length = k := ⟨_, rfl⟩
    obtain ⟨ls, hls⟩ : ∃ k, ra.regs.map List.length = k := ⟨_, rfl⟩
    obtain ⟨n9, hn9⟩ : ∃ k, sx.mem.length = k := ⟨_, rfl⟩
    obtain ⟨lo, hlo⟩ : ∃ k, k = W6.heap.size := ⟨_, rfl⟩
    obtain ⟨hi, hhi⟩ : ∃ k, k = Wa.heap.size := ⟨_, rfl⟩
    obtain ⟨lox, hlox⟩ : ∃ k, k = Wc2.heap.size := ⟨_, rfl⟩
    obtain ⟨hix, hhix⟩ : ∃ k, k = Wd.heap.size := ⟨_, rfl⟩
    have hAO := AO.start SA HFR.out.1 QA HFR.out.2.1
    rw [hn, hn4, hls, ← hlo, ← hhi] at hAO
    have hg1 := SA.pc
    have hg3 := SA.rg.out
    have hg4 := SA.mm
    have hg5 := SA.bf
    rw [hn] at hg1
    rw [HFR.out.2.2, hn] at hg3
    rw [hn4] at hg4
    rw [SA.bl, HFR.out.2.1, hn] at hg5
    rw [hn9, ← hlox] at OD
    obtain ⟨k1, g1, ev1⟩ := own_form hg1
    obtain ⟨k3, g3, ev3⟩ := own_form hg3
    obtain ⟨k4, g4, ev4⟩ := own_form hg4
    obtain ⟨k5, g5, ev5⟩ := own_form hg5
    obtain ⟨k9, g9, ev9⟩ := own_form OD
    have hJa := Ja.grown QJ
    have hJb := Jb.grown QK
    have hJc := Jc.grown QL
    have hJd := Jd.grown QM
    have hC4 := C4.grown Q4
    have hP4 := P4.grown Q4
    subst ev1 ev3 ev4 ev5 ev9
    have HAO : Hid (AO V5 V5 lo hi (.slice k1 n g1) (.slice k3 n g3) (.slice k4 n4 g4) (.slice k5 n g5) vs bs n n4 0 ls) := hAO
    have HJ : Hid (IsS V5 b13 32 [.slice k1 n g1, v2, .slice k3 n g3, .slice k4 n4 g4, .slice k5 n g5, .int .i64 rl]) := hJa
    have HJb : Hid (IsS V5 b15 32 [y1, y2, y3, y4, y5, .int .i64 rl]) := hJb
    have HJc : Hid (IsS V5 b17 32 [u1, u2, u3, u4, u5, .int .i64 rl]) := hJc
    have HJd : Hid (IsS V5 b19 32 [p1, p2, p3, .slice k9 n9 g9, p5, .int .i64 sl]) := hJd
    have HC4 : Hid (IsS V5 b7 28 [c1, c2, c3, c4, c5]) := hC4
    have HP4 : Hid (IsS V5 b3 28 [vt, vr, vl, vi, vj]) := hP4
    have HOD : Hid (Wd.ownsRow lox 2 1 (.slice k9 n9 g9) n9 (sx.mem.flatMap intE) ∧ sx.mem.length = n9 ∧ Below Wd.heap.size Wd V5) := ⟨OD, hn9, QD⟩
    have HGX : Hid (∀ k, (Value.slice k9 n9 g9).ownBlock = some k → k < hix) := fun k hk => by rw [hhix]; exact (own_lt OD hk).2
    have HQW : Hid (Below w.heap.size w V5) := QW
    have HQ4 : Hid (Below W4.heap.size W4 V5) := Q4
    have HQB : Hid (Below Wb.heap.size Wb V5) := QB
    have HQC : Hid (Below Wc.heap.size Wc V5) := QC
    have HSB : Hid (STF Wb Wa2.heap.size ra y1 y2 y3 y4 y5) := SB
    have HSC : Hid (STF Wc Wb2.heap.size ra u1 u2 u3 u4 u5) := SC
    have HO4 : Hid (PGV W4 c1 c2 c3 c4 c5 p) := O4
    have hb13 : Hid (hi ≤ b13) := by show hi ≤ b13; rw [hhi]; exact ha13
    have HLS : Hid (ls.length = n) := by show ls.length = n; rw [← hls, List.length_map, ← hn]; exact HFR.out.2.2
    have HNB : Hid (n ≤ 1048576 ∧ n4 ≤ 1048576 ∧ n9 ≤ 1048576) := ⟨by rw [← hn]; exact HFR.out.1.pc, by rw [← hn4]; exact HFR.out.1.mm, by rw [← hn9]; exact HFS.out.mm⟩
    have hlsb : Hid (∀ (j m : Nat), ls[j]? = some m → m ≤ 1048576) := fun j m hm => by
      rw [← hls, List.getElem?_map] at hm
      cases hr : ra.regs[j]? with
      | none => rw [hr] at hm; cases hm
      | some x => rw [hr] at hm; cases hm; exact flat_row HFR.out.1.rr hr
    have HNU : Hid (w.heap.size ≤ W4.heap.size ∧ W4.heap.size ≤ lo ∧ lo ≤ hi ∧ hi ≤ Wa2.heap.size ∧ Wa2.heap.size ≤ Wb.heap.size ∧ Wb.heap.size ≤ Wb2.heap.size ∧ Wb2.heap.size ≤ Wc.heap.size ∧ Wc.heap.size ≤ lox ∧ lox ≤ hix ∧ hix ≤ V5.heap.size ∧ Wb.heap.size ≤ b15 ∧ b15 < Wb2.heap.size ∧ Wc.heap.size ≤ b17 ∧ b17 < lox ∧ hix ≤ b19 ∧ b7 < W4.heap.size ∧ b3 < W4.heap.size) := by
      show _ ∧ _
      have z1 := Jb.lt
      have z2 := Jc.lt
      have z3 := C4.lt
      have z4 := P4.lt
      have z5 := QD.size
      omega
    have hlo0 : lo ≤ V5.heap.size := by have := HNU.out; omega
    have in4 : (n4 : Int) ≤ 1048576 := by have := HNB.out; omega
    have inn : (n : Int) ≤ 1048576 := by have := HNB.out; omega
    have in9 : (n9 : Int) ≤ 1048576 := by have := HNB.out; omega
    clear hAO hg1 hg3 hg4 hg5 hJa hJb hJc hJd hC4 hP4 OD QW Q4 QA QJ QB QK QC QL QD QM QE QN SA SB SC SD SE O4 S4 C4 P4 T4 D4 Ja Jb Jc Jd Je hn hn4 hls hn9 hlo hhi hlox hhix ha13 ha15 ha17 ha19 HFR HFS hW4 hWa hWb hlb2 hlc2 hldx hCode hCodeR hRead hReadR hStart hStartR hSameX hSameS hCopy hCopyS hone7 hone8 hone13 hone15 hone17 hone19 hone21 hszA hszB hszC
    go_loopw [23] (fun i wr => ∃ j : Nat, j ≤ n4 ∧ i = .int .i64 (j : Int) ∧ Hid (AO V5 wr lo hi (.slice k1 n g1) (.slice k3 n g3) (.slice k4 n4 g4) (.slice k5 n g5) vs bs n n4 0 ls)) (fun i _ => n4 - (intOf i).toNat)
    case atStart => exact ⟨0, Nat.zero_le _, rfl, HAO⟩
    case round =>
      clear HAO
      obtain ⟨j, hj, rfl, HA⟩ := hrel
      have J := HA.out.out.isS HJ.out (.inr hb13.out)
      have yc3 : wr.cell? ⟨b13, 3, none⟩ = some (.slice k4 n4 g4) := J.cell 3
      clear J
      by_cases hlt : j < n4
      · have hji : (j : Int) < n4 := by omega
        obtain ⟨g, c, cs, x, ev, hc, I, hl, hx, hA⟩ := HA.out.mem hlt
        cases ev
        have yx : wr.cell? ⟨g, j, none⟩ = some (.int .i64 x) := (I.cell j).trans hx
        have hjl : j < cs.length := by omega
        have HAf : Hid (∀ (y : Int) (W' : World), Upd wr W' g → IsS W' g 2 (cs.set j (.int .i64 y)) → AO V5 W' lo hi (.slice k1 n g1) (.slice k3 n g3) (.slice (some ⟨g, 0, none⟩) n4 g4) (.slice k5 n g5) vs bs n n4 0 ls) := hA
        clear hA hx hl HA
        go_wp2_with (first
          | (refine wpList_store1 rfl 2 _ _ rfl rfl _ rfl I hjl info2' rfl ?_; intro W5 U5 I5))
        have HA2 := HAf.out _ _ U5 I5
        clear HAf U5 I5 I yx yc3
        go_roundw
        case rel => exact ⟨j + 1, by omega, by go_num, HA2⟩
        case measure => simp [intOf]; omega
      · have hji : ¬ (j : Int) < n4 := by omega
        go_wp2_with fail
        clear yc3 hlt hji
        obtain ⟨V6, hV6⟩ : ∃ W, W = wr := ⟨_, rfl⟩
        subst hV6
        go_loopw [24] (fun i wr => ∃ (j : Nat) (bs : List Value), j ≤ n ∧ i = .int .i64 (j : Int) ∧ Hid (AO V5 wr lo hi (.slice k1 n g1) (.slice k3 n g3) (.slice k4 n4 g4) (.slice k5 n g5) vs bs n n4 j ls)) (fun i _ => n - (intOf i).toNat)
        case atStart => exact ⟨0, bs, Nat.zero_le _, rfl, HA⟩
        case round =>
          clear HA
          obtain ⟨j, bs', hj, rfl, HA⟩ := hrel
          have J := HA.out.out.isS HJ.out (.inr hb13.out)
          have yc0 : wr.cell? ⟨b13, 0, none⟩ = some (.slice k1 n g1) := J.cell 0
          clear J
          by_cases hlt : j < n
          · have hji : (j : Int) < n := by omega
            obtain ⟨m2, hm2⟩ : ∃ m, ls[j]? = some m := ⟨_, List.getElem?_eq_getElem (by rw [HLS.out]; exact hlt)⟩
            have HM2 : Hid (ls[j]? = some m2) := hm2
            have hm20 : m2 ≤ 1048576 := hlsb.out j m2 hm2
            have im2 : (m2 : Int) ≤ 1048576 := by omega
            obtain ⟨g, c, cs, x, ev, hc, I, hl, hx, hA⟩ := HA.out.place hlt
            cases ev
            have yx : wr.cell? ⟨g, j, none⟩ = some (.int .i64 x) := (I.cell j).trans hx
            have hjl : j < cs.length := by omega
            have HAf : Hid (∀ (y : Int) (W' : World), Upd wr W' g → IsS W' g 3 (cs.set j (.int .i64 y)) → AO V5 W' lo hi (.slice (some ⟨g, 0, none⟩) n g1) (.slice k3 n g3) (.slice k4 n4 g4) (.slice k5 n g5) vs bs' n n4 j ls) := hA
            clear hA hx hl hm2 HA
            go_wp2_with (first
              | (refine wpList_store1 rfl 3 _ _ rfl rfl _ rfl I hjl info3' rfl ?_; intro W5 U5 I5))
            have HA5 : Hid (AO V5 W5 lo hi (.slice (some ⟨g, 0, none⟩) n g1) (.slice k3 n g3) (.slice k4 n4 g4) (.slice k5 n g5) vs bs' n n4 j ls) := HAf.out _ _ U5 I5
            clear HAf U5 I5 I yx yc0
            have J5 := HA5.out.out.isS HJ.out (.inr hb13.out)
            obtain ⟨gb, c5, cs5, u, m, xs, ev5, hc5, I5b, hl5, hx5, hbu, hm, o⟩ := HA5.out.buf hlt
            cases ev5
            obtain ⟨au, cu, eu⟩ := own_form o
            subst eu
            have n13 : (Value.slice au m cu).ownBlock ≠ some b13 := isS_own_ne o J5 (by decide)
            have n5k : (Value.slice au m cu).ownBlock ≠ some gb := isS_own_ne o I5b (by decide)
            have hj5 : j < cs5.length := by omega
            have hlo5 : lo ≤ W5.heap.size := Nat.le_trans hlo0 HA5.out.out.size
            refine region_invA 11 (fun a0 listed a' w' => ∃ x147 x148 x149 x150 x151 x152 x153 x154 x155 x156 x157 : Value, a' = (((((((((((a0.put (some 147) x147).put (some 148) x148).put (some 149) x149).put (some 150) x150).put (some 151) x151).put (some 152) x152).put (some 153) x153).put (some 154) x154).put (some 155) x155).put (some 156) x156).put (some 157) x157) ∧ Hid (W5.grownBy w' (Value.slice au m cu).ownBlock) ∧ (listed.getD 10 false = false → w'.ownsRow lo 50 2 (.slice au m cu) m xs) ∧ (listed.getD 0 false = true → x147 = (.pointer (some ⟨b13, 4, none⟩))) ∧ (listed.getD 1 false = true → x148 = (.slice (some ⟨gb, 0, none⟩) n g5)) ∧ (listed.getD 2 false = true → x149 = (.int .i64 (j : Int))) ∧ (listed.getD 3 false = true → x150 = (.pointer (some ⟨b13, 4, none⟩))) ∧ (listed.getD 4 false = true → x151 = (.slice (some ⟨gb, 0, none⟩) n g5)) ∧ (listed.getD 5 false = true → x152 = (.int .i64 (j : Int))) ∧ (listed.getD 6 false = true → x153 = (.pointer (some ⟨gb, j, none⟩))) ∧ (listed.getD 7 false = true → x154 = (.slice au m cu)) ∧ (listed.getD 8 false = true → x155 = (.agg #[.int .i64 (-1), .int .i64 0])) ∧ (listed.getD 9 false = true → ∃ bq, x156 = .slice (some ⟨bq, 0, none⟩) 1 1 ∧ W5.heap.size ≤ bq ∧ IsS w' bq 50 [Value.int .i64 (-1), .int .i64 0]) ∧ (listed.getD 10 false = true → ∃ g' cap, x157 = .slice (some ⟨g', 0, none⟩) (m + 1) cap ∧ w'.ownsRow lo 50 2 (.slice (some ⟨g', 0, none⟩) (m + 1) cap) (m + 1) (xs ++ [Value.int .i64 (-1), .int .i64 0]) ∧ ((Value.slice au m cu).ownBlock = some g' ∨ W5.heap.size ≤ g'))) (by kernel_rfl) (by kernel_rfl) ?i0z ?istepz ?iendz
            case i0z => exact ⟨_, _, _, _, _, _, _, _, _, _, _, by first | (simp only [Act.put, List.setIfInBounds_toArray, List.set_cons_succ, List.set_cons_zero]; done) | (simp only [Act.put, List.setIfInBounds_toArray, List.set_cons_succ, List.set_cons_zero]; rfl) | rfl, gb_drew _ _, fun _ => o, fun h => (not_rep h).elim, fun h => (not_rep h).elim, fun h => (not_rep h).elim, fun h => (not_rep h).elim, fun h => (not_rep h).elim, fun h => (not_rep h).elim, fun h => (not_rep h).elim, fun h => (not_rep h).elim, fun h => (not_rep h).elim, fun h => (not_rep h).elim, fun h => (not_rep h).elim⟩
            case istepz =>
              rintro i listed a' w' hi hr ⟨x147, x148, x149, x150, x151, x152, x153, x154, x155, x156, x157, rfl, HBw, hpre, d0, d1, d2, d3, d4, d5, d6, d7, d8, d9, d10⟩
              obtain ⟨hun, oj, hoj, hwt⟩ := mem_ready.1 hr
              simp only [Act.put, List.setIfInBounds_toArray, List.set_cons_succ, List.set_cons_zero]
              have hcase : i = 0 ∨ i = 1 ∨ i = 2 ∨ i = 3 ∨ i = 4 ∨ i = 5 ∨ i = 6 ∨ i = 7 ∨ i = 8 ∨ i = 9 ∨ i = 10 := by omega
              rcases hcase with rfl | rfl | rfl | rfl | rfl | rfl | rfl | rfl | rfl | rfl | rfl
              · have hoj2 := hoj
                obtain rfl := Option.some.inj hoj
                refine wpOp_value hoj2 rfl (v := (.pointer (some ⟨b13, 4, none⟩))) (w' := w') (by first | rfl | (go_simp; done) | (simp [go_sem]; done) | (simp [execOp, go_sem]; done)) ?_
                exact ⟨(.pointer (some ⟨b13, 4, none⟩)), x148, x149, x150, x151, x152, x153, x154, x155, x156, x157, by first | (simp only [Act.put, List.setIfInBounds_toArray, List.set_cons_succ, List.set_cons_zero]; done) | (simp only [Act.put, List.setIfInBounds_toArray, List.set_cons_succ, List.set_cons_zero]; rfl) | rfl, HBw, fun h => hpre (keepG (by decide) h), fun _ => rfl, fun h => (d1 (keep (by decide) h)), fun h => (d2 (keep (by decide) h)), fun h => (d3 (keep (by decide) h)), fun h => (d4 (keep (by decide) h)), fun h => (d5 (keep (by decide) h)), fun h => (d6 (keep (by decide) h)), fun h => (d7 (keep (by decide) h)), fun h => (d8 (keep (by decide) h)), fun h => (d9 (keep (by decide) h)), fun h => (d10 (keep (by decide) h))⟩
              · have hoj2 := hoj
                obtain rfl := Option.some.inj hoj
                have e0 := d0 (hwt ⟨0, .data⟩ (by simp) rfl)
                subst e0
                refine wpOp_cell hoj2 rfl 30 _ rfl rfl (v := (.slice (some ⟨gb, 0, none⟩) n g5)) (by have h : w'.cell? ⟨_, _, none⟩ = some (.slice (some ⟨gb, 0, none⟩) n g5) := (isS_gb J5 HBw.out n13).cell 4; simp [go_sem, h]) ?_
                exact ⟨(.pointer (some ⟨b13, 4, none⟩)), (.slice (some ⟨gb, 0, none⟩) n g5), x149, x150, x151, x152, x153, x154, x155, x156, x157, by first | (simp only [Act.put, List.setIfInBounds_toArray, List.set_cons_succ, List.set_cons_zero]; done) | (simp only [Act.put, List.setIfInBounds_toArray, List.set_cons_succ, List.set_cons_zero]; rfl) | rfl, HBw, fun h => hpre (keepG (by decide) h), fun h => (d0 (keep (by decide) h)), fun _ => rfl, fun h => (d2 (keep (by decide) h)), fun h => (d3 (keep (by decide) h)), fun h => (d4 (keep (by decide) h)), fun h => (d5 (keep (by decide) h)), fun h => (d6 (keep (by decide) h)), fun h => (d7 (keep (by decide) h)), fun h => (d8 (keep (by decide) h)), fun h => (d9 (keep (by decide) h)), fun h => (d10 (keep (by decide) h))⟩
              · have hoj2 := hoj
                obtain rfl := Option.some.inj hoj
                refine wpOp_value hoj2 rfl (v := (.int .i64 (j : Int))) (w' := w') (by first | rfl | (go_simp; done) | (simp [go_sem]; done) | (simp [execOp, go_sem]; done)) ?_
                exact ⟨x147, x148, (.int .i64 (j : Int)), x150, x151, x152, x153, x154, x155, x156, x157, by first | (simp only [Act.put, List.setIfInBounds_toArray, List.set_cons_succ, List.set_cons_zero]; done) | (simp only [Act.put, List.setIfInBounds_toArray, List.set_cons_succ, List.set_cons_zero]; rfl) | rfl, HBw, fun h => hpre (keepG (by decide) h), fun h => (d0 (keep (by decide) h)), fun h => (d1 (keep (by decide) h)), fun _ => rfl, fun h => (d3 (keep (by decide) h)), fun h => (d4 (keep (by decide) h)), fun h => (d5 (keep (by decide) h)), fun h => (d6 (keep (by decide) h)), fun h => (d7 (keep (by decide) h)), fun h => (d8 (keep (by decide) h)), fun h => (d9 (keep (by decide) h)), fun h => (d10 (keep (by decide) h))⟩
              · have hoj2 := hoj
                obtain rfl := Option.some.inj hoj
                refine wpOp_value hoj2 rfl (v := (.pointer (some ⟨b13, 4, none⟩))) (w' := w') (by first | rfl | (go_simp; done) | (simp [go_sem]; done) | (simp [execOp, go_sem]; done)) ?_
                exact ⟨x147, x148, x149, (.pointer (some ⟨b13, 4, none⟩)), x151, x152, x153, x154, x155, x156, x157, by first | (simp only [Act.put, List.setIfInBounds_toArray, List.set_cons_succ, List.set_cons_zero]; done) | (simp only [Act.put, List.setIfInBounds_toArray, List.set_cons_succ, List.set_cons_zero]; rfl) | rfl, HBw, fun h => hpre (keepG (by decide) h), fun h => (d0 (keep (by decide) h)), fun h => (d1 (keep (by decide) h)), fun h => (d2 (keep (by decide) h)), fun _ => rfl, fun h => (d4 (keep (by decide) h)), fun h => (d5 (keep (by decide) h)), fun h => (d6 (keep (by decide) h)), fun h => (d7 (keep (by decide) h)), fun h => (d8 (keep (by decide) h)), fun h => (d9 (keep (by decide) h)), fun h => (d10 (keep (by decide) h))⟩
              · have hoj2 := hoj
                obtain rfl := Option.some.inj hoj
                have e3 := d3 (hwt ⟨3, .data⟩ (by simp) rfl)
                subst e3
                refine wpOp_cell hoj2 rfl 30 _ rfl rfl (v := (.slice (some ⟨gb, 0, none⟩) n g5)) (by have h : w'.cell? ⟨_, _, none⟩ = some (.slice (some ⟨gb, 0, none⟩) n g5) := (isS_gb J5 HBw.out n13).cell 4; simp [go_sem, h]) ?_
                exact ⟨x147, x148, x149, (.pointer (some ⟨b13, 4, none⟩)), (.slice (some ⟨gb, 0, none⟩) n g5), x152, x153, x154, x155, x156, x157, by first | (simp only [Act.put, List.setIfInBounds_toArray, List.set_cons_succ, List.set_cons_zero]; done) | (simp only [Act.put, List.setIfInBounds_toArray, List.set_cons_succ, List.set_cons_zero]; rfl) | rfl, HBw, fun h => hpre (keepG (by decide) h), fun h => (d0 (keep (by decide) h)), fun h => (d1 (keep (by decide) h)), fun h => (d2 (keep (by decide) h)), fun h => (d3 (keep (by decide) h)), fun _ => rfl, fun h => (d5 (keep (by decide) h)), fun h => (d6 (keep (by decide) h)), fun h => (d7 (keep (by decide) h)), fun h => (d8 (keep (by decide) h)), fun h => (d9 (keep (by decide) h)), fun h => (d10 (keep (by decide) h))⟩
              · have hoj2 := hoj
                obtain rfl := Option.some.inj hoj
                refine wpOp_value hoj2 rfl (v := (.int .i64 (j : Int))) (w' := w') (by first | rfl | (go_simp; done) | (simp [go_sem]; done) | (simp [execOp, go_sem]; done)) ?_
                exact ⟨x147, x148, x149, x150, x151, (.int .i64 (j : Int)), x153, x154, x155, x156, x157, by first | (simp only [Act.put, List.setIfInBounds_toArray, List.set_cons_succ, List.set_cons_zero]; done) | (simp only [Act.put, List.setIfInBounds_toArray, List.set_cons_succ, List.set_cons_zero]; rfl) | rfl, HBw, fun h => hpre (keepG (by decide) h), fun h => (d0 (keep (by decide) h)), fun h => (d1 (keep (by decide) h)), fun h => (d2 (keep (by decide) h)), fun h => (d3 (keep (by decide) h)), fun h => (d4 (keep (by decide) h)), fun _ => rfl, fun h => (d6 (keep (by decide) h)), fun h => (d7 (keep (by decide) h)), fun h => (d8 (keep (by decide) h)), fun h => (d9 (keep (by decide) h)), fun h => (d10 (keep (by decide) h))⟩
              · have hoj2 := hoj
                obtain rfl := Option.some.inj hoj
                have e4 := d4 (hwt ⟨4, .data⟩ (by simp) rfl)
                have e5 := d5 (hwt ⟨5, .data⟩ (by simp) rfl)
                subst e4 e5
                refine wpOp_value hoj2 rfl (v := (.pointer (some ⟨gb, j, none⟩))) (w' := w') (by first | (simp [execOp, go_sem, hji]; done) | rfl) ?_
                exact ⟨x147, x148, x149, x150, (.slice (some ⟨gb, 0, none⟩) n g5), (.int .i64 (j : Int)), (.pointer (some ⟨gb, j, none⟩)), x154, x155, x156, x157, by first | (simp only [Act.put, List.setIfInBounds_toArray, List.set_cons_succ, List.set_cons_zero]; done) | (simp only [Act.put, List.setIfInBounds_toArray, List.set_cons_succ, List.set_cons_zero]; rfl) | rfl, HBw, fun h => hpre (keepG (by decide) h), fun h => (d0 (keep (by decide) h)), fun h => (d1 (keep (by decide) h)), fun h => (d2 (keep (by decide) h)), fun h => (d3 (keep (by decide) h)), fun h => (d4 (keep (by decide) h)), fun h => (d5 (keep (by decide) h)), fun _ => rfl, fun h => (d7 (keep (by decide) h)), fun h => (d8 (keep (by decide) h)), fun h => (d9 (keep (by decide) h)), fun h => (d10 (keep (by decide) h))⟩
              · have hoj2 := hoj
                obtain rfl := Option.some.inj hoj
                have e6 := d6 (hwt ⟨6, .data⟩ (by simp) rfl)
                subst e6
                refine wpOp_cell hoj2 rfl 48 _ rfl rfl (v := (.slice au m cu)) (by have h : w'.cell? ⟨_, _, none⟩ = some (.slice au m cu) := ((isS_gb I5b HBw.out n5k).cell j).trans hx5; simp [go_sem, h]) ?_
                exact ⟨x147, x148, x149, x150, x151, x152, (.pointer (some ⟨gb, j, none⟩)), (.slice au m cu), x155, x156, x157, by first | (simp only [Act.put, List.setIfInBounds_toArray, List.set_cons_succ, List.set_cons_zero]; done) | (simp only [Act.put, List.setIfInBounds_toArray, List.set_cons_succ, List.set_cons_zero]; rfl) | rfl, HBw, fun h => hpre (keepG (by decide) h), fun h => (d0 (keep (by decide) h)), fun h => (d1 (keep (by decide) h)), fun h => (d2 (keep (by decide) h)), fun h => (d3 (keep (by decide) h)), fun h => (d4 (keep (by decide) h)), fun h => (d5 (keep (by decide) h)), fun h => (d6 (keep (by decide) h)), fun _ => rfl, fun h => (d8 (keep (by decide) h)), fun h => (d9 (keep (by decide) h)), fun h => (d10 (keep (by decide) h))⟩
              · have hoj2 := hoj
                obtain rfl := Option.some.inj hoj
                refine wpOp_value hoj2 rfl (v := (.agg #[.int .i64 (-1), .int .i64 0])) (w' := w') (by first | rfl | (go_simp; done) | (simp [execOp, go_sem, zeroWr]; done)) ?_
                exact ⟨x147, x148, x149, x150, x151, x152, x153, x154, (.agg #[.int .i64 (-1), .int .i64 0]), x156, x157, by first | (simp only [Act.put, List.setIfInBounds_toArray, List.set_cons_succ, List.set_cons_zero]; done) | (simp only [Act.put, List.setIfInBounds_toArray, List.set_cons_succ, List.set_cons_zero]; rfl) | rfl, HBw, fun h => hpre (keepG (by decide) h), fun h => (d0 (keep (by decide) h)), fun h => (d1 (keep (by decide) h)), fun h => (d2 (keep (by decide) h)), fun h => (d3 (keep (by decide) h)), fun h => (d4 (keep (by decide) h)), fun h => (d5 (keep (by decide) h)), fun h => (d6 (keep (by decide) h)), fun h => (d7 (keep (by decide) h)), fun _ => rfl, fun h => (d9 (keep (by decide) h)), fun h => (d10 (keep (by decide) h))⟩
              · have hoj2 := hoj
                obtain rfl := Option.some.inj hoj
                have e8 := d8 (hwt ⟨8, .data⟩ (by simp) rfl)
                subst e8
                refine wpOp_value hoj2 rfl (exec_build2 eWr _ rfl (.int .i64 (-1)) (.int .i64 0) rfl) ?_
                have B9 := F_b (Fresh.alloc w' (.cells #[Value.int .i64 (-1), .int .i64 0] 50))
                exact ⟨x147, x148, x149, x150, x151, x152, x153, x154, (.agg #[.int .i64 (-1), .int .i64 0]), _, x157, by first | (simp only [Act.put, List.setIfInBounds_toArray, List.set_cons_succ, List.set_cons_zero]; done) | (simp only [Act.put, List.setIfInBounds_toArray, List.set_cons_succ, List.set_cons_zero]; rfl) | rfl, gb_below HBw.out B9, fun h => (own_below (hpre (keepG (by decide) h)) B9), fun h => (d0 (keep (by decide) h)), fun h => (d1 (keep (by decide) h)), fun h => (d2 (keep (by decide) h)), fun h => (d3 (keep (by decide) h)), fun h => (d4 (keep (by decide) h)), fun h => (d5 (keep (by decide) h)), fun h => (d6 (keep (by decide) h)), fun h => (d7 (keep (by decide) h)), fun h => (d8 (keep (by decide) h)), fun _ => ⟨_, rfl, HBw.out.size, IsS.new w' 50 [Value.int .i64 (-1), .int .i64 0]⟩, fun h => (Exists.elim (d10 (keep (by decide) h)) fun g' h => Exists.elim h fun cap h => ⟨g', cap, h.1, own_below h.2.1 B9, h.2.2⟩)⟩
              · have hoj2 := hoj
                obtain rfl := Option.some.inj hoj
                have e7 := d7 (hwt ⟨7, .data⟩ (by simp) rfl)
                have e9 := d9 (hwt ⟨9, .data⟩ (by simp) rfl)
                have hpre0 := hpre (getD_both hun)
                obtain ⟨bq, e9x, hbq, Iq⟩ := e9
                subst e7 e9x
                obtain ⟨g', cap, w9, hrun, O', O4, hat⟩ := run_appZ eWr lo (.slice au m cu) m xs hpre0 bq 1 1 [Value.int .i64 (-1), .int .i64 0] Iq rfl (by simp [Value.oneCell']) (by omega) (by omega) (Nat.le_trans hlo5 HBw.out.size) 48
                refine wpOp_value hoj2 rfl (exec_app _ _ rfl rfl rfl hrun) ?_
                have hat' : (Value.slice au m cu).ownBlock = some g' ∨ W5.heap.size ≤ g' := hat.imp id (fun e => by rw [e]; exact HBw.out.size)
                exact ⟨x147, x148, x149, x150, x151, x152, x153, (.slice au m cu), x155, (.slice (some ⟨bq, 0, none⟩) 1 1), _, by first | (simp only [Act.put, List.setIfInBounds_toArray, List.set_cons_succ, List.set_cons_zero]; done) | (simp only [Act.put, List.setIfInBounds_toArray, List.set_cons_succ, List.set_cons_zero]; rfl) | rfl, gb_trans HBw.out O4, fun h => absurd h (by rw [nowU hun]; simp), fun h => (d0 (keep (by decide) h)), fun h => (d1 (keep (by decide) h)), fun h => (d2 (keep (by decide) h)), fun h => (d3 (keep (by decide) h)), fun h => (d4 (keep (by decide) h)), fun h => (d5 (keep (by decide) h)), fun h => (d6 (keep (by decide) h)), fun h => (d7 (keep (by decide) h)), fun h => (d8 (keep (by decide) h)), fun h => (Exists.elim (d9 (keep (by decide) h)) fun bq h => ⟨bq, h.1, h.2.1, isS_gb h.2.2 O4 (fun e => by have := (own_lt o e).2; have := h.2.1; omega)⟩), fun _ => ⟨g', cap, rfl, O', hat'⟩⟩
            case iendz =>
              rintro a' w' ⟨x147, x148, x149, x150, x151, x152, x153, x154, x155, x156, x157, rfl, HBw, hpre, d0, d1, d2, d3, d4, d5, d6, d7, d8, d9, d10⟩
              replace d0 := d0 rfl
              replace d1 := d1 rfl
              replace d2 := d2 rfl
              replace d3 := d3 rfl
              replace d4 := d4 rfl
              replace d5 := d5 rfl
              replace d6 := d6 rfl
              replace d7 := d7 rfl
              replace d8 := d8 rfl
              replace d9 := d9 rfl
              replace d10 := d10 rfl
              clear hpre
              simp only [Act.put, List.setIfInBounds_toArray, List.set_cons_succ, List.set_cons_zero]
              simp only [List.drop_succ_cons, List.drop_zero]
              obtain ⟨bq, e9, -, -⟩ := d9
              obtain ⟨g', cap, e10, O10, hat⟩ := d10
              subst d0 d1 d2 d3 d4 d5 d6 d7 d8 e9 e10
              have OW := HBw.out
              have I6 : IsS w' gb 48 cs5 := isS_gb I5b OW n5k
              clear HBw
              go_wp2_with (first
                | (refine wpList_store1 rfl 48 _ _ rfl rfl (.slice (some ⟨g', 0, none⟩) (m + 1) cap) rfl I6 hj5 infoW1 rfl ?_; intro W8 U8 I8))
              have HA8 : Hid (AO V5 W8 lo hi (.slice (some ⟨g, 0, none⟩) n g1) (.slice k3 n g3) (.slice k4 n4 g4) (.slice (some ⟨gb, 0, none⟩) n g5) vs (bs'.set j (.slice (some ⟨g', 0, none⟩) (m + 1) cap)) n n4 (j + 1) ls) := HA5.out.grow rfl hl5 I5b hbu hm o OW O10 (fun k hk1 => by cases hk1; exact hat) U8 I8
              clear O10 OW U8 I8 I6 I5b o hat HA5 hbu hx5 hl5
              go_loopw [25] (fun i wr => ∃ q : Nat, q ≤ m2 ∧ i = .int .i64 (q : Int) ∧ Hid (AO V5 wr lo hi (.slice (some ⟨g, 0, none⟩) n g1) (.slice k3 n g3) (.slice k4 n4 g4) (.slice (some ⟨gb, 0, none⟩) n g5) vs (bs'.set j (.slice (some ⟨g', 0, none⟩) (m + 1) cap)) n n4 (j + 1) ls)) (fun i _ => m2 - (intOf i).toNat)
              case atStart => exact ⟨0, Nat.zero_le _, rfl, HA8⟩
              case round =>
                clear HA8
                obtain ⟨q, hq, rfl, HA⟩ := hrel
                have J := HA.out.out.isS HJ.out (.inr hb13.out)
                have yc2 : wr.cell? ⟨b13, 2, none⟩ = some (.slice k3 n g3) := J.cell 2
                clear J
                obtain ⟨gr, cr, ar, cr', ev3, hvj, hcell⟩ := HA.out.regs HM2.out
                rw [HLS.out] at ev3
                cases ev3
                by_cases hlq : q < m2
                · have hqi : (q : Int) < m2 := by omega
                  obtain ⟨gq, csq, xq, ea, hcq, Iq, hlcq, hxq, hA⟩ := HA.out.reg HM2.out hvj hlq
                  subst ea
                  have yq : wr.cell? ⟨gq, q, none⟩ = some (.int .i64 xq) := (Iq.cell q).trans hxq
                  have hql : q < csq.length := by omega
                  have HAf : Hid (∀ (y : Int) (W' : World), Upd wr W' gq → IsS W' gq 2 (csq.set q (.int .i64 y)) → AO V5 W' lo hi (.slice (some ⟨g, 0, none⟩) n g1) (.slice (some ⟨gr, 0, none⟩) n g3) (.slice k4 n4 g4) (.slice (some ⟨gb, 0, none⟩) n g5) vs (bs'.set j (.slice (some ⟨g', 0, none⟩) (m + 1) cap)) n n4 (j + 1) ls) := hA
                  clear hA hxq hlcq hvj HA
                  go_wp2_with (first
                    | (refine wpList_store1 rfl 2 _ _ rfl rfl _ rfl Iq hql info2' rfl ?_; intro W9 U9 I9))
                  have HA9 := HAf.out _ _ U9 I9
                  clear HAf U9 I9 Iq yq hcell yc2
                  go_roundw
                  case rel => exact ⟨q + 1, by omega, by go_num, HA9⟩
                  case measure => simp [intOf]; omega
                · have hqi : ¬ (q : Int) < m2 := by omega
                  go_wp2_with fail
                  clear hcell yc2
                  go_roundw
                  case rel => exact ⟨j + 1, _, by omega, by go_num, HA⟩
                  case measure => simp [intOf]; omega
          · have hji : ¬ (j : Int) < n := by omega
            go_wp2_with fail
            clear yc0 hlt hji
            obtain ⟨V7, hV7⟩ : ∃ W, W = wr := ⟨_, rfl⟩
            subst hV7
            have HOut : Hid (OutR lo hi V5 V7) := HA.out.out
            clear HA HJ
            have HX0 : Hid (OutR lox hix V7 V7 ∧ ∃ xs : List Int, xs.length = n9 ∧ V7.ownsRow lox 2 1 (.slice k9 n9 g9) n9 (xs.flatMap intE)) := by
              refine ⟨OutR.refl _ _ _, sx.mem, HOD.out.2.1, own_same (own_below HOD.out.1 HOD.out.2.2) fun k hk => HOut.out.block k (own_lt (own_below HOD.out.1 HOD.out.2.2) hk).2 (.inr ?_)⟩
              have h1 := (own_lt HOD.out.1 hk).1
              have h2 := HNU.out
              omega
            go_loopw [26] (fun i wr => ∃ j : Nat, j ≤ n9 ∧ i = .int .i64 (j : Int) ∧ Hid (OutR lox hix V7 wr ∧ ∃ xs : List Int, xs.length = n9 ∧ wr.ownsRow lox 2 1 (.slice k9 n9 g9) n9 (xs.flatMap intE))) (fun i _ => n9 - (intOf i).toNat)
            case atStart => exact ⟨0, Nat.zero_le _, rfl, HX0⟩
            case round =>
              clear HX0
              obtain ⟨j, hj, rfl, HA⟩ := hrel
              have hnu := HNU.out
              have J := HA.out.1.isS (HOut.out.isS HJd.out (.inr (by omega))) (.inr (by omega))
              have yc3 : wr.cell? ⟨b19, 3, none⟩ = some (.slice k9 n9 g9) := J.cell 3
              clear J hnu
              by_cases hlt : j < n9
              · have hji : (j : Int) < n9 := by omega
                obtain ⟨hO, xs, hxl, ho⟩ := HA.out
                obtain ⟨g, c, cs, ev, hg, I, ht, hc, hm, hs⟩ := own_opn ho (by omega)
                cases ev
                have hgi : g < hix := HGX.out g rfl
                have hjl : j < cs.length := by omega
                have HN2 : Hid (OutR lox hix V7 wr ∧ lox ≤ g ∧ g < hix ∧ cs.take n9 = xs.flatMap intE ∧ n9 ≤ g9 ∧ g9 ≤ maxLen ∧ cs.length = g9 ∧ xs.length = n9) := ⟨hO, hg, hgi, ht, hc, hm, hs, hxl⟩
                clear hO ho ht hs hxl hg hgi hc hm HA
                go_wp2_with (first
                  | (refine wpList_store1 rfl 2 _ _ rfl rfl (.int .i64 99) rfl I hjl info2' rfl ?_; intro W5 U5 I5))
                have HA2 : Hid (OutR lox hix V7 W5 ∧ ∃ xs : List Int, xs.length = n9 ∧ W5.ownsRow lox 2 1 (.slice (some ⟨g, 0, none⟩) n9 g9) n9 (xs.flatMap intE)) := by
                  obtain ⟨q1, q2, q3, q4, q5, q6, q7, q8⟩ := HN2.out
                  exact ⟨q1.upd U5 (.inl ⟨q2, q3⟩), xs.set j 99, by rw [List.length_set]; exact q8, put_own q2 (by rw [Nat.zero_add]; exact I5) q4 q5 q6 q7⟩
                clear U5 I5 I yc3 HN2
                go_roundw
                case rel => exact ⟨j + 1, by omega, by go_num, HA2⟩
                case measure => simp [intOf]; omega
              · have hji : ¬ (j : Int) < n9 := by omega
                have hnu := HNU.out
                have O1 := HOut.out
                have O2 := HA.out.1
                have s1 := O1.size
                have j15 := O2.isS (O1.isS HJb.out (.inr (by omega))) (.inl (by omega))
                have j17 := O2.isS (O1.isS HJc.out (.inr (by omega))) (.inl (by omega))
                have j7 := O2.isS (O1.isS HC4.out (.inl (by omega))) (.inl (by omega))
                have j3 := O2.isS (O1.isS HP4.out (.inl (by omega))) (.inl (by omega))
                have bw : Below w.heap.size w wr := O2.pre (O1.pre HQW.out (by omega) (by omega)) (by omega) (by omega)
                have b4w : Below W4.heap.size W4 wr := O2.pre (O1.pre HQ4.out (by omega) (by omega)) (by omega) (by omega)
                have sb : STV wr ra y1 y2 y3 y4 y5 := HSB.out wr fun k h1 h2 => (O2.block k (by omega) (.inl (by omega))).trans ((O1.block k (by omega) (.inr (by omega))).trans (HQB.out.block k h2))
                have sc : STV wr ra u1 u2 u3 u4 u5 := HSC.out wr fun k h1 h2 => (O2.block k (by omega) (.inl (by omega))).trans ((O1.block k (by omega) (.inr (by omega))).trans (HQC.out.block k h2))
                have pc := HO4.out.below b4w
                have pp := HP.out.below bw
                clear O1 O2 s1 hnu HA HOut HJb HJc HJd HC4 HP4 HQW HQ4 HQB HQC HSB HSC HO4 HOD HNU HNB b4w
                have tz1 : True := trivial
                have tz2 : True := trivial
                have tz3 : True := trivial
                have tz4 : True := trivial
                have tz5 : True := trivial
                go_wp2_with (first
                  | (clear tz1; refine wpList_loadW rfl 32 _ rfl rfl j15 _ Try.underlying32 rfl infoSt ?_)
                  | (clear tz2; refine wpList_loadW rfl 32 _ rfl rfl j17 _ Try.underlying32 rfl infoSt ?_)
                  | (clear tz3; go_at_call 17; refine (hSame _ _ _ _ _ _ _ _ _ _ _ sb sc).mono ?_; rintro e WX ⟨rfl, BX⟩)
                  | (clear tz4; refine wpList_loadGW rfl 28 _ rfl rfl (j7.grown BX) _ Try.underlying28 rfl infoPg ?_)
                  | (clear tz5; refine wpList_loadGW rfl 28 _ rfl rfl (j3.grown BX) _ Try.underlying28 rfl infoPg ?_)
                  | (go_at_call 18; refine (hSameP _ _ _ _ _ _ (pc.below BX) (pp.below BX)).mono ?_; rintro e WY ⟨rfl, BY⟩))
                go_ret
                exact ⟨rfl, Below.then (Below.then bw BX) BY⟩
end Go.Proofs.Ytegpnicajlndlaa

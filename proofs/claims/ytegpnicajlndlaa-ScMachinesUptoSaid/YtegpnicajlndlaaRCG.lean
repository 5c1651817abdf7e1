/- RCG -/
import Derived.Test.YtegpnicajlndlaaQbj
import Derived.Test.YtegpnicajlndlaaQav
namespace Go.Proofs.Ytegpnicajlndlaa
open Go.RowKit M
set_option linter.unusedSimpArgs false
set_option linter.unusedVariables false
theorem wrE_len (l : List (Int × Int)) : (l.flatMap wrE).length = 2 * l.length := by
 induction l with
 | nil => rfl
 | cons x l ih => rw [List.flatMap_cons, List.length_append, ih, List.length_cons]; simp [wrE]; omega
theorem wrE_one (l : List (Int × Int)) : ∀ x ∈ l.flatMap wrE, x.oneCell' = true := by
 intro x hx
 obtain ⟨y, _, hy⟩ := List.mem_flatMap.1 hx
 simp only [wrE, List.mem_cons, List.not_mem_nil, or_false] at hy
 rcases hy with rfl | rfl <;> rfl
structure CpG (w W : World) (b3 : Nat) (vpc vph vrg vmm vbf : Value) (vs bs : List Value) (n1 n2 n4 : Nat) (lk : Int) (s : ST) (done : List (List (Int × Int))) : Prop where
 pc : W.ownsRow w.heap.size 3 1 vpc n1 (s.pc.flatMap intE)
 ph : W.ownsRow w.heap.size 3 1 vph n2 (s.ph.flatMap intE)
 ap : 0 < n2 → ∀ k, vph.ownBlock = some k → vpc.ownBlock ≠ some k
 rg : OwnA W w.heap.size vrg vs s.regs
 mm : W.ownsRow w.heap.size 2 1 vmm n4 (s.mem.flatMap intE)
 am : 0 < n4 → ∀ (j : Nat) u k, vs[j]? = some u → u.ownBlock = some k → vmm.ownBlock ≠ some k
 bf : W.ownsRow w.heap.size 48 1 vbf bs.length bs
 bl : bs.length = done.length
 be : ∀ (j : Nat) u l, bs[j]? = some u → done[j]? = some l → W.ownsRow w.heap.size 50 2 u l.length (l.flatMap wrE)
 st : IsS W b3 32 [vpc, vph, vrg, vmm, vbf, .int .i64 lk]
 hb : w.heap.size ≤ b3
section
variable {w W W' : World} {b3 : Nat} {vpc vph vrg vmm vbf vbf' : Value} {vs bs bs' : List Value} {n1 n2 n4 : Nat} {lk : Int} {s : ST} {dn dn' : List (List (Int × Int))}
theorem CpG.keep (h : CpG w W b3 vpc vph vrg vmm vbf vs bs n1 n2 n4 lk s dn)
    (hk : ∀ (t s : Nat) (u : Value) (m : Nat) (xs : List Value), W.ownsRow w.heap.size t s u m xs → t ≠ 48 → t ≠ 32 → ∀ k, u.ownBlock = some k → W'.heap[k]? = W.heap[k]?) (hb : W'.ownsRow w.heap.size 48 1 vbf' bs'.length bs') (hbl : bs'.length = dn'.length) (hbe : ∀ (j : Nat) u l, bs'[j]? = some u → dn'[j]? = some l → W'.ownsRow w.heap.size 50 2 u l.length (l.flatMap wrE)) (hst : IsS W' b3 32 [vpc, vph, vrg, vmm, vbf', .int .i64 lk]) : CpG w W' b3 vpc vph vrg vmm vbf' vs bs' n1 n2 n4 lk s dn' :=
 ⟨own_same h.pc (hk _ _ _ _ _ h.pc (by decide) (by decide)), own_same h.ph (hk _ _ _ _ _ h.ph (by decide) (by decide)), h.ap, ⟨h.rg.len, own_same h.rg.out (hk _ _ _ _ _ h.rg.out (by decide) (by decide)), fun j u xs hu hx => own_same (h.rg.row j u xs hu hx) (hk _ _ _ _ _ (h.rg.row j u xs hu hx) (by decide) (by decide)), h.rg.apart⟩, own_same h.mm (hk _ _ _ _ _ h.mm (by decide) (by decide)), h.am, hb, hbl, hbe, hst, h.hb⟩
theorem CpG.below (h : CpG w W b3 vpc vph vrg vmm vbf vs bs n1 n2 n4 lk s dn) (hB : Below W.heap.size W W') : CpG w W' b3 vpc vph vrg vmm vbf vs bs n1 n2 n4 lk s dn :=
 h.keep (fun t s u m xs ho _ _ k hk => hB.block k (own_lt ho hk).2) (own_below h.bf hB) h.bl (fun j u l hu hl => own_below (h.be j u l hu hl) hB) (h.st.grown hB)
end
set_option maxRecDepth 100000 in
set_option maxHeartbeats 4000000 in
theorem rscg_any (s : ST) (hf : s.Few) (ap ah ar am ab : Option Addr) (n1 n2 n3 n4 n5 cp ch cr cm cb : Nat) (lk : Int) (w : World) (h1 : s.pc.length = n1) (h2 : s.ph.length = n2) (h3 : s.regs.length = n3) (h4 : s.mem.length = n4) (h5 : s.buf.length = n5)
    (hS : STV w s (.slice ap n1 cp) (.slice ah n2 ch) (.slice ar n3 cr) (.slice am n4 cm) (.slice ab n5 cb)) :
    Calls Try.prog 10 #[.agg #[.slice ap n1 cp, .slice ah n2 ch, .slice ar n3 cr, .slice am n4 cm, .slice ab n5 cb, .int .i64 lk]] w fun e w' => ∃ vpc vph vrg vmm vbf, e = .returned (.agg #[vpc, vph, vrg, vmm, vbf, .int .i64 lk]) ∧ (∃ b3 vs bs, CpG w w' b3 vpc vph vrg vmm vbf vs bs n1 n2 n4 lk s s.buf) ∧ Below w.heap.size w w' := by
 have hC1 := fun W (h : RowsV W (.slice ar s.regs.length cr) intE s.regs) => rcopyA_any s.regs hf.rg hf.rr ar cr W h
 rw [h3] at hC1
 have g1 := hf.pc
 have g2 := hf.ph
 have g4 := hf.mm
 have g5 := hf.bf
 have HFB : Hid (s.buf.flatten.length ≤ 1048576) := hf.bb
 rw [h1] at g1
 rw [h2] at g2
 rw [h4] at g4
 rw [h5] at g5
 have HP : Hid (RowV w (.slice ap n1 cp) n1 (s.pc.flatMap intE)) := by have := hS.pc; rw [h1] at this; exact this
 have HH : Hid (RowV w (.slice ah n2 ch) n2 (s.ph.flatMap intE)) := by have := hS.ph; rw [h2] at this; exact this
 have HR : Hid (RowsV w (.slice ar n3 cr) intE s.regs) := hS.rg
 have HM : Hid (RowV w (.slice am n4 cm) n4 (s.mem.flatMap intE)) := by have := hS.mm; rw [h4] at this; exact this
 have HBf : Hid (RowsV w (.slice ab n5 cb) wrE s.buf) := hS.bf
 have HN : Hid (s.pc.length = n1 ∧ s.ph.length = n2 ∧ s.regs.length = n3 ∧ s.mem.length = n4 ∧ s.buf.length = n5) := ⟨h1, h2, h3, h4, h5⟩
 have hnI : (n5 : Int) ≤ 1048576 := by omega
 clear hS h1 h2 h3 h4 h5 hf
 have t1 : True := trivial
 have t2 : True := trivial
 have t3 : True := trivial
 go_enter Try.func10, Try.ntmps10
 go_wp2_with (first
  | (clear t1; refine wpList_boxS rfl 32 _ rfl [.slice ap n1 cp, .slice ah n2 ch, .slice ar n3 cr, .slice am n4 cm, .slice ab n5 cb, .int .i64 lk] rfl ?_; intro W0 b1 F0 C0; have B0 := F_b F0)
  | (clear t2; refine wpList_allocS rfl 32 rfl [.slice none 0 0, .slice none 0 0, .slice none 0 0, .slice none 0 0, .slice none 0 0, .int .i64 0] zeroSt ?_; intro W1 b2 F1 D1; have C1 := C0.fresh F1; have B1 := F1.trans B0 B0.size; have hb2 : w.heap.size ≤ b2 := Nat.le_trans B0.size (Nat.le_of_eq F1.at'.symm); have n12 : b1 ≠ b2 := (by have := C0.lt; have := F1.at'; omega); clear F0 F1 C0))
 refine region_invA 19 (fun a0 listed a' w' => ∃ vs : List Value, ∃ x5 x6 x7 x8 x9 x10 x11 x12 x13 x14 x15 x16 x17 x18 x19 x20 x21 x22 x3 : Value, a' = (((((((((((((((((((a0.put (some 5) x5).put (some 6) x6).put (some 7) x7).put (some 8) x8).put (some 9) x9).put (some 10) x10).put (some 11) x11).put (some 12) x12).put (some 13) x13).put (some 14) x14).put (some 15) x15).put (some 16) x16).put (some 17) x17).put (some 18) x18).put (some 19) x19).put (some 20) x20).put (some 21) x21).put (some 22) x22).put (some 3) x3) ∧ Hid (Below W1.heap.size W1 w') ∧ (listed.getD 7 false = true → listed.getD 3 false = true) ∧ (listed.getD 14 false = true → listed.getD 10 false = true) ∧ (listed.getD 17 false = true → listed.getD 3 false = true) ∧ (listed.getD 17 false = true → listed.getD 7 false = true) ∧ (listed.getD 17 false = true → listed.getD 10 false = true) ∧ (listed.getD 17 false = true → listed.getD 14 false = true) ∧ (listed.getD 17 false = true → listed.getD 16 false = true) ∧ (listed.getD 0 false = true → ∃ g, x5 = .slice (some ⟨g, 0, none⟩) 0 0 ∧ w'.ownsRow W1.heap.size 3 1 (.slice (some ⟨g, 0, none⟩) 0 0) 0 []) ∧ (listed.getD 1 false = true → x6 = (.pointer (some ⟨b1, 0, none⟩))) ∧ (listed.getD 2 false = true → x7 = (.slice ap n1 cp)) ∧ (listed.getD 3 false = true → w'.ownsRow W1.heap.size 3 1 x8 n1 (s.pc.flatMap intE)) ∧ (listed.getD 4 false = true → ∃ g, x9 = .slice (some ⟨g, 0, none⟩) 0 0 ∧ w'.ownsRow W1.heap.size 3 1 (.slice (some ⟨g, 0, none⟩) 0 0) 0 []) ∧ (listed.getD 5 false = true → x10 = (.pointer (some ⟨b1, 1, none⟩))) ∧ (listed.getD 6 false = true → x11 = (.slice ah n2 ch)) ∧ (listed.getD 7 false = true → w'.ownsRow W1.heap.size 3 1 x12 n2 (s.ph.flatMap intE) ∧ (0 < n2 → ∀ k, x12.ownBlock = some k → x8.ownBlock ≠ some k)) ∧ (listed.getD 8 false = true → x13 = (.pointer (some ⟨b1, 2, none⟩))) ∧ (listed.getD 9 false = true → x14 = (.slice ar n3 cr)) ∧ (listed.getD 10 false = true → OwnA w' W1.heap.size x15 vs s.regs) ∧ (listed.getD 11 false = true → ∃ g, x16 = .slice (some ⟨g, 0, none⟩) 0 0 ∧ w'.ownsRow W1.heap.size 2 1 (.slice (some ⟨g, 0, none⟩) 0 0) 0 []) ∧ (listed.getD 12 false = true → x17 = (.pointer (some ⟨b1, 3, none⟩))) ∧ (listed.getD 13 false = true → x18 = (.slice am n4 cm)) ∧ (listed.getD 14 false = true → w'.ownsRow W1.heap.size 2 1 x19 n4 (s.mem.flatMap intE) ∧ (0 < n4 → ∀ (j : Nat) u k, vs[j]? = some u → u.ownBlock = some k → x19.ownBlock ≠ some k)) ∧ (listed.getD 15 false = true → x20 = (.pointer (some ⟨b1, 5, none⟩))) ∧ (listed.getD 16 false = true → x21 = (.int .i64 lk)) ∧ (listed.getD 17 false = true → x22 = .agg #[x8, x12, x15, x19, .slice none 0 0, .int .i64 lk]) ∧ (listed.getD 18 false = true → ∃ b3, x3 = .pointer (some ⟨b3, 0, none⟩) ∧ W1.heap.size ≤ b3 ∧ IsS w' b3 32 [.slice none 0 0, .slice none 0 0, .slice none 0 0, .slice none 0 0, .slice none 0 0, .int .i64 0])) (by kernel_rfl) (by kernel_rfl) ?i0 ?istep ?iend
 case i0 => exact ⟨[], _, _, _, _, _, _, _, _, _, _, _, _, _, _, _, _, _, _, _, by (try simp only [sP]) <;> rfl, below_drew bR, fun h => (not_rep h).elim, fun h => (not_rep h).elim, fun h => (not_rep h).elim, fun h => (not_rep h).elim, fun h => (not_rep h).elim, fun h => (not_rep h).elim, fun h => (not_rep h).elim, fun h => (not_rep h).elim, fun h => (not_rep h).elim, fun h => (not_rep h).elim, fun h => (not_rep h).elim, fun h => (not_rep h).elim, fun h => (not_rep h).elim, fun h => (not_rep h).elim, fun h => (not_rep h).elim, fun h => (not_rep h).elim, fun h => (not_rep h).elim, fun h => (not_rep h).elim, fun h => (not_rep h).elim, fun h => (not_rep h).elim, fun h => (not_rep h).elim, fun h => (not_rep h).elim, fun h => (not_rep h).elim, fun h => (not_rep h).elim, fun h => (not_rep h).elim, fun h => (not_rep h).elim⟩
 case istep =>
  rintro i listed a' w' hi hr ⟨vs, x5, x6, x7, x8, x9, x10, x11, x12, x13, x14, x15, x16, x17, x18, x19, x20, x21, x22, x3, rfl, HBw, m7_3, m14_10, m17_3, m17_7, m17_10, m17_14, m17_16, d0, d1, d2, d3, d4, d5, d6, d7, d8, d9, d10, d11, d12, d13, d14, d15, d16, d17, d18⟩
  obtain ⟨hun, oj, hoj, hwt⟩ := mem_ready.1 hr
  simp only [sP]
  have hcase : i = 0 ∨ i = 1 ∨ i = 2 ∨ i = 3 ∨ i = 4 ∨ i = 5 ∨ i = 6 ∨ i = 7 ∨ i = 8 ∨ i = 9 ∨ i = 10 ∨ i = 11 ∨ i = 12 ∨ i = 13 ∨ i = 14 ∨ i = 15 ∨ i = 16 ∨ i = 17 ∨ i = 18 := by omega
  rcases hcase with rfl | rfl | rfl | rfl | rfl | rfl | rfl | rfl | rfl | rfl | rfl | rfl | rfl | rfl | rfl | rfl | rfl | rfl | rfl
  · have hoj2 := hoj
    obtain rfl := oI hoj
    refine wpOp_value hoj2 rfl (exec_build0 eIntI rfl) ?_
    have B9 := F_b (Fresh.alloc w' (.cells #[] 3))
    exact ⟨vs, _, x6, x7, x8, x9, x10, x11, x12, x13, x14, x15, x16, x17, x18, x19, x20, x21, x22, x3, by (try simp only [sP]) <;> rfl, Below.then HBw.out B9, fun h => keepT (m7_3 (kp h)), fun h => keepT (m14_10 (kp h)), fun h => keepT (m17_3 (kp h)), fun h => keepT (m17_7 (kp h)), fun h => keepT (m17_10 (kp h)), fun h => keepT (m17_14 (kp h)), fun h => keepT (m17_16 (kp h)), fun _ => ⟨_, rfl, own_raise (own_build0 eIntI w') HBw.out.size⟩, d1 ∘ kq, d2 ∘ kq, fun h => (own_below (d3 (kp h)) B9), fun h => (eE (d4 (kp h)) fun g h => ⟨g, h.1, own_below h.2 B9⟩), d5 ∘ kq, d6 ∘ kq, fun h => ⟨own_below (d7 (kp h)).1 B9, (d7 (kp h)).2⟩, d8 ∘ kq, d9 ∘ kq, fun h => (OwnA.below (d10 (kp h)) B9), fun h => (eE (d11 (kp h)) fun g h => ⟨g, h.1, own_below h.2 B9⟩), d12 ∘ kq, d13 ∘ kq, fun h => ⟨own_below (d14 (kp h)).1 B9, (d14 (kp h)).2⟩, d15 ∘ kq, d16 ∘ kq, d17 ∘ kq, fun h => (eE (d18 (kp h)) fun b h => ⟨b, h.1, h.2.1, h.2.2.grown B9⟩)⟩
  · have hoj2 := hoj
    obtain rfl := oI hoj
    refine wpOp_value hoj2 rfl (v := (.pointer (some ⟨b1, 0, none⟩))) (w' := w') (by first | rfl | (go_simp; done) | (simp [go_sem]; done) | (simp [execOp, go_sem]; done)) ?_
    exact ⟨vs, x5, (.pointer (some ⟨b1, 0, none⟩)), x7, x8, x9, x10, x11, x12, x13, x14, x15, x16, x17, x18, x19, x20, x21, x22, x3, by (try simp only [sP]) <;> rfl, Below.then HBw.out bR, fun h => keepT (m7_3 (kp h)), fun h => keepT (m14_10 (kp h)), fun h => keepT (m17_3 (kp h)), fun h => keepT (m17_7 (kp h)), fun h => keepT (m17_10 (kp h)), fun h => keepT (m17_14 (kp h)), fun h => keepT (m17_16 (kp h)), fun h => (eE (d0 (kp h)) fun g h => ⟨g, h.1, own_below h.2 bR⟩), fun _ => rfl, d2 ∘ kq, fun h => (own_below (d3 (kp h)) bR), fun h => (eE (d4 (kp h)) fun g h => ⟨g, h.1, own_below h.2 bR⟩), d5 ∘ kq, d6 ∘ kq, fun h => ⟨own_below (d7 (kp h)).1 bR, (d7 (kp h)).2⟩, d8 ∘ kq, d9 ∘ kq, fun h => (OwnA.below (d10 (kp h)) bR), fun h => (eE (d11 (kp h)) fun g h => ⟨g, h.1, own_below h.2 bR⟩), d12 ∘ kq, d13 ∘ kq, fun h => ⟨own_below (d14 (kp h)).1 bR, (d14 (kp h)).2⟩, d15 ∘ kq, d16 ∘ kq, d17 ∘ kq, fun h => (eE (d18 (kp h)) fun b h => ⟨b, h.1, h.2.1, h.2.2.grown bR⟩)⟩
  · have hoj2 := hoj
    obtain rfl := oI hoj
    have e1 := d1 (hwt ⟨1, .data⟩ (by simp) rfl)
    subst e1
    refine wpOp_cell hoj2 rfl 29 _ rfl rfl (v := (.slice ap n1 cp)) (ldcIs w' ((IsS.cell (C1.grown HBw.out) 0).trans rfl)) ?_
    exact ⟨vs, x5, (.pointer (some ⟨b1, 0, none⟩)), (.slice ap n1 cp), x8, x9, x10, x11, x12, x13, x14, x15, x16, x17, x18, x19, x20, x21, x22, x3, by (try simp only [sP]) <;> rfl, Below.then HBw.out bR, fun h => keepT (m7_3 (kp h)), fun h => keepT (m14_10 (kp h)), fun h => keepT (m17_3 (kp h)), fun h => keepT (m17_7 (kp h)), fun h => keepT (m17_10 (kp h)), fun h => keepT (m17_14 (kp h)), fun h => keepT (m17_16 (kp h)), fun h => (eE (d0 (kp h)) fun g h => ⟨g, h.1, own_below h.2 bR⟩), d1 ∘ kq, fun _ => rfl, fun h => (own_below (d3 (kp h)) bR), fun h => (eE (d4 (kp h)) fun g h => ⟨g, h.1, own_below h.2 bR⟩), d5 ∘ kq, d6 ∘ kq, fun h => ⟨own_below (d7 (kp h)).1 bR, (d7 (kp h)).2⟩, d8 ∘ kq, d9 ∘ kq, fun h => (OwnA.below (d10 (kp h)) bR), fun h => (eE (d11 (kp h)) fun g h => ⟨g, h.1, own_below h.2 bR⟩), d12 ∘ kq, d13 ∘ kq, fun h => ⟨own_below (d14 (kp h)).1 bR, (d14 (kp h)).2⟩, d15 ∘ kq, d16 ∘ kq, d17 ∘ kq, fun h => (eE (d18 (kp h)) fun b h => ⟨b, h.1, h.2.1, h.2.2.grown bR⟩)⟩
  · have hoj2 := hoj
    obtain rfl := oI hoj
    have e0 := d0 (hwt ⟨0, .data⟩ (by simp) rfl)
    have e2 := d2 (hwt ⟨2, .data⟩ (by simp) rfl)
    obtain ⟨g0, rfl, O0⟩ := e0
    subst e2
    obtain ⟨v', W', hrun, O', B', HW'⟩ := run_app0L eIntI W1.heap.size g0 O0 (.slice ap n1 cp) n1 (s.pc.flatMap intE) (HP.out.below (Below.then B1 HBw.out)) (by rw [int_len, HN.out.1]) (int_one _) (by omega) HBw.out.size 29
    refine wpOp_value hoj2 rfl (exec_app _ _ rfl rfl rfl hrun) ?_
    exact ⟨vs, (.slice (some ⟨g0, 0, none⟩) 0 0), x6, (.slice ap n1 cp), v', x9, x10, x11, x12, x13, x14, x15, x16, x17, x18, x19, x20, x21, x22, x3, by (try simp only [sP]) <;> rfl, Below.then HBw.out B', fun h => keepT (m7_3 (kp h)), fun h => keepT (m14_10 (kp h)), fun h => keepT (m17_3 (kp h)), fun h => keepT (m17_7 (kp h)), fun h => keepT (m17_10 (kp h)), fun h => keepT (m17_14 (kp h)), fun h => keepT (m17_16 (kp h)), fun h => (eE (d0 (kp h)) fun g h => ⟨g, h.1, own_below h.2 B'⟩), d1 ∘ kq, d2 ∘ kq, fun _ => O', fun h => (eE (d4 (kp h)) fun g h => ⟨g, h.1, own_below h.2 B'⟩), d5 ∘ kq, d6 ∘ kq, fun h => absurd (m7_3 (kp h)) (by rw [getD_both hun]; simp), d8 ∘ kq, d9 ∘ kq, fun h => (OwnA.below (d10 (kp h)) B'), fun h => (eE (d11 (kp h)) fun g h => ⟨g, h.1, own_below h.2 B'⟩), d12 ∘ kq, d13 ∘ kq, fun h => ⟨own_below (d14 (kp h)).1 B', (d14 (kp h)).2⟩, d15 ∘ kq, d16 ∘ kq, fun h => absurd (m17_3 (kp h)) (by rw [getD_both hun]; simp), fun h => (eE (d18 (kp h)) fun b h => ⟨b, h.1, h.2.1, h.2.2.grown B'⟩)⟩
  · have hoj2 := hoj
    obtain rfl := oI hoj
    refine wpOp_value hoj2 rfl (exec_build0 eIntI rfl) ?_
    have B9 := F_b (Fresh.alloc w' (.cells #[] 3))
    exact ⟨vs, x5, x6, x7, x8, _, x10, x11, x12, x13, x14, x15, x16, x17, x18, x19, x20, x21, x22, x3, by (try simp only [sP]) <;> rfl, Below.then HBw.out B9, fun h => keepT (m7_3 (kp h)), fun h => keepT (m14_10 (kp h)), fun h => keepT (m17_3 (kp h)), fun h => keepT (m17_7 (kp h)), fun h => keepT (m17_10 (kp h)), fun h => keepT (m17_14 (kp h)), fun h => keepT (m17_16 (kp h)), fun h => (eE (d0 (kp h)) fun g h => ⟨g, h.1, own_below h.2 B9⟩), d1 ∘ kq, d2 ∘ kq, fun h => (own_below (d3 (kp h)) B9), fun _ => ⟨_, rfl, own_raise (own_build0 eIntI w') HBw.out.size⟩, d5 ∘ kq, d6 ∘ kq, fun h => ⟨own_below (d7 (kp h)).1 B9, (d7 (kp h)).2⟩, d8 ∘ kq, d9 ∘ kq, fun h => (OwnA.below (d10 (kp h)) B9), fun h => (eE (d11 (kp h)) fun g h => ⟨g, h.1, own_below h.2 B9⟩), d12 ∘ kq, d13 ∘ kq, fun h => ⟨own_below (d14 (kp h)).1 B9, (d14 (kp h)).2⟩, d15 ∘ kq, d16 ∘ kq, d17 ∘ kq, fun h => (eE (d18 (kp h)) fun b h => ⟨b, h.1, h.2.1, h.2.2.grown B9⟩)⟩
  · have hoj2 := hoj
    obtain rfl := oI hoj
    refine wpOp_value hoj2 rfl (v := (.pointer (some ⟨b1, 1, none⟩))) (w' := w') (by first | rfl | (go_simp; done) | (simp [go_sem]; done) | (simp [execOp, go_sem]; done)) ?_
    exact ⟨vs, x5, x6, x7, x8, x9, (.pointer (some ⟨b1, 1, none⟩)), x11, x12, x13, x14, x15, x16, x17, x18, x19, x20, x21, x22, x3, by (try simp only [sP]) <;> rfl, Below.then HBw.out bR, fun h => keepT (m7_3 (kp h)), fun h => keepT (m14_10 (kp h)), fun h => keepT (m17_3 (kp h)), fun h => keepT (m17_7 (kp h)), fun h => keepT (m17_10 (kp h)), fun h => keepT (m17_14 (kp h)), fun h => keepT (m17_16 (kp h)), fun h => (eE (d0 (kp h)) fun g h => ⟨g, h.1, own_below h.2 bR⟩), d1 ∘ kq, d2 ∘ kq, fun h => (own_below (d3 (kp h)) bR), fun h => (eE (d4 (kp h)) fun g h => ⟨g, h.1, own_below h.2 bR⟩), fun _ => rfl, d6 ∘ kq, fun h => ⟨own_below (d7 (kp h)).1 bR, (d7 (kp h)).2⟩, d8 ∘ kq, d9 ∘ kq, fun h => (OwnA.below (d10 (kp h)) bR), fun h => (eE (d11 (kp h)) fun g h => ⟨g, h.1, own_below h.2 bR⟩), d12 ∘ kq, d13 ∘ kq, fun h => ⟨own_below (d14 (kp h)).1 bR, (d14 (kp h)).2⟩, d15 ∘ kq, d16 ∘ kq, d17 ∘ kq, fun h => (eE (d18 (kp h)) fun b h => ⟨b, h.1, h.2.1, h.2.2.grown bR⟩)⟩
  · have hoj2 := hoj
    obtain rfl := oI hoj
    have e5 := d5 (hwt ⟨5, .data⟩ (by simp) rfl)
    subst e5
    refine wpOp_cell hoj2 rfl 29 _ rfl rfl (v := (.slice ah n2 ch)) (ldcIs w' ((IsS.cell (C1.grown HBw.out) 1).trans rfl)) ?_
    exact ⟨vs, x5, x6, x7, x8, x9, (.pointer (some ⟨b1, 1, none⟩)), (.slice ah n2 ch), x12, x13, x14, x15, x16, x17, x18, x19, x20, x21, x22, x3, by (try simp only [sP]) <;> rfl, Below.then HBw.out bR, fun h => keepT (m7_3 (kp h)), fun h => keepT (m14_10 (kp h)), fun h => keepT (m17_3 (kp h)), fun h => keepT (m17_7 (kp h)), fun h => keepT (m17_10 (kp h)), fun h => keepT (m17_14 (kp h)), fun h => keepT (m17_16 (kp h)), fun h => (eE (d0 (kp h)) fun g h => ⟨g, h.1, own_below h.2 bR⟩), d1 ∘ kq, d2 ∘ kq, fun h => (own_below (d3 (kp h)) bR), fun h => (eE (d4 (kp h)) fun g h => ⟨g, h.1, own_below h.2 bR⟩), d5 ∘ kq, fun _ => rfl, fun h => ⟨own_below (d7 (kp h)).1 bR, (d7 (kp h)).2⟩, d8 ∘ kq, d9 ∘ kq, fun h => (OwnA.below (d10 (kp h)) bR), fun h => (eE (d11 (kp h)) fun g h => ⟨g, h.1, own_below h.2 bR⟩), d12 ∘ kq, d13 ∘ kq, fun h => ⟨own_below (d14 (kp h)).1 bR, (d14 (kp h)).2⟩, d15 ∘ kq, d16 ∘ kq, d17 ∘ kq, fun h => (eE (d18 (kp h)) fun b h => ⟨b, h.1, h.2.1, h.2.2.grown bR⟩)⟩
  · have hoj2 := hoj
    obtain rfl := oI hoj
    have e4 := d4 (hwt ⟨4, .data⟩ (by simp) rfl)
    have e6 := d6 (hwt ⟨6, .data⟩ (by simp) rfl)
    have e3 := d3 (hwt ⟨3, .chain⟩ (by simp) rfl)
    obtain ⟨g0, rfl, O0⟩ := e4
    subst e6
    obtain ⟨v', W', hrun, O', B', HW'⟩ := run_app0L eIntI W1.heap.size g0 O0 (.slice ah n2 ch) n2 (s.ph.flatMap intE) (HH.out.below (Below.then B1 HBw.out)) (by rw [int_len, HN.out.2.1]) (int_one _) (by omega) HBw.out.size 29
    refine wpOp_value hoj2 rfl (exec_app _ _ rfl rfl rfl hrun) ?_
    exact ⟨vs, x5, x6, x7, x8, (.slice (some ⟨g0, 0, none⟩) 0 0), x10, (.slice ah n2 ch), v', x13, x14, x15, x16, x17, x18, x19, x20, x21, x22, x3, by (try simp only [sP]) <;> rfl, Below.then HBw.out B', fun _ => keepT (hwt ⟨3, .chain⟩ (by simp) rfl), fun h => keepT (m14_10 (kp h)), fun h => keepT (m17_3 (kp h)), fun h => keepT (m17_7 (kp h)), fun h => keepT (m17_10 (kp h)), fun h => keepT (m17_14 (kp h)), fun h => keepT (m17_16 (kp h)), fun h => (eE (d0 (kp h)) fun g h => ⟨g, h.1, own_below h.2 B'⟩), d1 ∘ kq, d2 ∘ kq, fun h => (own_below (d3 (kp h)) B'), fun h => (eE (d4 (kp h)) fun g h => ⟨g, h.1, own_below h.2 B'⟩), d5 ∘ kq, d6 ∘ kq, fun _ => ⟨O', fun h0 k hk hk2 => app_far HW' h0 (own_lt e3 hk2).2 hk⟩, d8 ∘ kq, d9 ∘ kq, fun h => (OwnA.below (d10 (kp h)) B'), fun h => (eE (d11 (kp h)) fun g h => ⟨g, h.1, own_below h.2 B'⟩), d12 ∘ kq, d13 ∘ kq, fun h => ⟨own_below (d14 (kp h)).1 B', (d14 (kp h)).2⟩, d15 ∘ kq, d16 ∘ kq, fun h => absurd (m17_7 (kp h)) (by rw [getD_both hun]; simp), fun h => (eE (d18 (kp h)) fun b h => ⟨b, h.1, h.2.1, h.2.2.grown B'⟩)⟩
  · have hoj2 := hoj
    obtain rfl := oI hoj
    refine wpOp_value hoj2 rfl (v := (.pointer (some ⟨b1, 2, none⟩))) (w' := w') (by first | rfl | (go_simp; done) | (simp [go_sem]; done) | (simp [execOp, go_sem]; done)) ?_
    exact ⟨vs, x5, x6, x7, x8, x9, x10, x11, x12, (.pointer (some ⟨b1, 2, none⟩)), x14, x15, x16, x17, x18, x19, x20, x21, x22, x3, by (try simp only [sP]) <;> rfl, Below.then HBw.out bR, fun h => keepT (m7_3 (kp h)), fun h => keepT (m14_10 (kp h)), fun h => keepT (m17_3 (kp h)), fun h => keepT (m17_7 (kp h)), fun h => keepT (m17_10 (kp h)), fun h => keepT (m17_14 (kp h)), fun h => keepT (m17_16 (kp h)), fun h => (eE (d0 (kp h)) fun g h => ⟨g, h.1, own_below h.2 bR⟩), d1 ∘ kq, d2 ∘ kq, fun h => (own_below (d3 (kp h)) bR), fun h => (eE (d4 (kp h)) fun g h => ⟨g, h.1, own_below h.2 bR⟩), d5 ∘ kq, d6 ∘ kq, fun h => ⟨own_below (d7 (kp h)).1 bR, (d7 (kp h)).2⟩, fun _ => rfl, d9 ∘ kq, fun h => (OwnA.below (d10 (kp h)) bR), fun h => (eE (d11 (kp h)) fun g h => ⟨g, h.1, own_below h.2 bR⟩), d12 ∘ kq, d13 ∘ kq, fun h => ⟨own_below (d14 (kp h)).1 bR, (d14 (kp h)).2⟩, d15 ∘ kq, d16 ∘ kq, d17 ∘ kq, fun h => (eE (d18 (kp h)) fun b h => ⟨b, h.1, h.2.1, h.2.2.grown bR⟩)⟩
  · have hoj2 := hoj
    obtain rfl := oI hoj
    have e8 := d8 (hwt ⟨8, .data⟩ (by simp) rfl)
    subst e8
    refine wpOp_cell hoj2 rfl 25 _ rfl rfl (v := (.slice ar n3 cr)) (ldcRr w' ((IsS.cell (C1.grown HBw.out) 2).trans rfl)) ?_
    exact ⟨vs, x5, x6, x7, x8, x9, x10, x11, x12, (.pointer (some ⟨b1, 2, none⟩)), (.slice ar n3 cr), x15, x16, x17, x18, x19, x20, x21, x22, x3, by (try simp only [sP]) <;> rfl, Below.then HBw.out bR, fun h => keepT (m7_3 (kp h)), fun h => keepT (m14_10 (kp h)), fun h => keepT (m17_3 (kp h)), fun h => keepT (m17_7 (kp h)), fun h => keepT (m17_10 (kp h)), fun h => keepT (m17_14 (kp h)), fun h => keepT (m17_16 (kp h)), fun h => (eE (d0 (kp h)) fun g h => ⟨g, h.1, own_below h.2 bR⟩), d1 ∘ kq, d2 ∘ kq, fun h => (own_below (d3 (kp h)) bR), fun h => (eE (d4 (kp h)) fun g h => ⟨g, h.1, own_below h.2 bR⟩), d5 ∘ kq, d6 ∘ kq, fun h => ⟨own_below (d7 (kp h)).1 bR, (d7 (kp h)).2⟩, d8 ∘ kq, fun _ => rfl, fun h => (OwnA.below (d10 (kp h)) bR), fun h => (eE (d11 (kp h)) fun g h => ⟨g, h.1, own_below h.2 bR⟩), d12 ∘ kq, d13 ∘ kq, fun h => ⟨own_below (d14 (kp h)).1 bR, (d14 (kp h)).2⟩, d15 ∘ kq, d16 ∘ kq, d17 ∘ kq, fun h => (eE (d18 (kp h)) fun b h => ⟨b, h.1, h.2.1, h.2.2.grown bR⟩)⟩
  · have hoj2 := hoj
    obtain rfl := oI hoj
    have e9 := d9 (hwt ⟨9, .data⟩ (by simp) rfl)
    have e7 := d7 (hwt ⟨7, .chain⟩ (by simp) rfl)
    subst e9
    refine wpOp_call hoj2 rfl (f := 40) (args := #[.slice ar n3 cr]) (by first | rfl | (go_simp; done) | (simp [go_sem]; done) | (simp [execOp, go_sem]; done)) ?_
    refine (hC1 w' (HR.out.below (Below.then B1 HBw.out))).mono ?_
    rintro e w4 ⟨v7, rfl, ⟨vs', O7⟩, B4⟩
    refine ⟨_, rfl, ?_⟩
    exact ⟨vs', x5, x6, x7, x8, x9, x10, x11, x12, x13, (.slice ar n3 cr), v7, x16, x17, x18, x19, x20, x21, x22, x3, by (try simp only [sP]) <;> rfl, Below.then HBw.out B4, fun h => keepT (m7_3 (kp h)), fun h => keepT (m14_10 (kp h)), fun h => keepT (m17_3 (kp h)), fun h => keepT (m17_7 (kp h)), fun h => keepT (m17_10 (kp h)), fun h => keepT (m17_14 (kp h)), fun h => keepT (m17_16 (kp h)), fun h => (eE (d0 (kp h)) fun g h => ⟨g, h.1, own_below h.2 B4⟩), d1 ∘ kq, d2 ∘ kq, fun h => (own_below (d3 (kp h)) B4), fun h => (eE (d4 (kp h)) fun g h => ⟨g, h.1, own_below h.2 B4⟩), d5 ∘ kq, d6 ∘ kq, fun h => ⟨own_below (d7 (kp h)).1 B4, (d7 (kp h)).2⟩, d8 ∘ kq, d9 ∘ kq, fun _ => O7.raise HBw.out.size, fun h => (eE (d11 (kp h)) fun g h => ⟨g, h.1, own_below h.2 B4⟩), d12 ∘ kq, d13 ∘ kq, fun h => absurd (m14_10 (kp h)) (by rw [getD_both hun]; simp), d15 ∘ kq, d16 ∘ kq, fun h => absurd (m17_10 (kp h)) (by rw [getD_both hun]; simp), fun h => (eE (d18 (kp h)) fun b h => ⟨b, h.1, h.2.1, h.2.2.grown B4⟩)⟩
  · have hoj2 := hoj
    obtain rfl := oI hoj
    refine wpOp_value hoj2 rfl (exec_build0 eInt rfl) ?_
    have B9 := F_b (Fresh.alloc w' (.cells #[] 2))
    exact ⟨vs, x5, x6, x7, x8, x9, x10, x11, x12, x13, x14, x15, _, x17, x18, x19, x20, x21, x22, x3, by (try simp only [sP]) <;> rfl, Below.then HBw.out B9, fun h => keepT (m7_3 (kp h)), fun h => keepT (m14_10 (kp h)), fun h => keepT (m17_3 (kp h)), fun h => keepT (m17_7 (kp h)), fun h => keepT (m17_10 (kp h)), fun h => keepT (m17_14 (kp h)), fun h => keepT (m17_16 (kp h)), fun h => (eE (d0 (kp h)) fun g h => ⟨g, h.1, own_below h.2 B9⟩), d1 ∘ kq, d2 ∘ kq, fun h => (own_below (d3 (kp h)) B9), fun h => (eE (d4 (kp h)) fun g h => ⟨g, h.1, own_below h.2 B9⟩), d5 ∘ kq, d6 ∘ kq, fun h => ⟨own_below (d7 (kp h)).1 B9, (d7 (kp h)).2⟩, d8 ∘ kq, d9 ∘ kq, fun h => (OwnA.below (d10 (kp h)) B9), fun _ => ⟨_, rfl, own_raise (own_build0 eInt w') HBw.out.size⟩, d12 ∘ kq, d13 ∘ kq, fun h => ⟨own_below (d14 (kp h)).1 B9, (d14 (kp h)).2⟩, d15 ∘ kq, d16 ∘ kq, d17 ∘ kq, fun h => (eE (d18 (kp h)) fun b h => ⟨b, h.1, h.2.1, h.2.2.grown B9⟩)⟩
  · have hoj2 := hoj
    obtain rfl := oI hoj
    refine wpOp_value hoj2 rfl (v := (.pointer (some ⟨b1, 3, none⟩))) (w' := w') (by first | rfl | (go_simp; done) | (simp [go_sem]; done) | (simp [execOp, go_sem]; done)) ?_
    exact ⟨vs, x5, x6, x7, x8, x9, x10, x11, x12, x13, x14, x15, x16, (.pointer (some ⟨b1, 3, none⟩)), x18, x19, x20, x21, x22, x3, by (try simp only [sP]) <;> rfl, Below.then HBw.out bR, fun h => keepT (m7_3 (kp h)), fun h => keepT (m14_10 (kp h)), fun h => keepT (m17_3 (kp h)), fun h => keepT (m17_7 (kp h)), fun h => keepT (m17_10 (kp h)), fun h => keepT (m17_14 (kp h)), fun h => keepT (m17_16 (kp h)), fun h => (eE (d0 (kp h)) fun g h => ⟨g, h.1, own_below h.2 bR⟩), d1 ∘ kq, d2 ∘ kq, fun h => (own_below (d3 (kp h)) bR), fun h => (eE (d4 (kp h)) fun g h => ⟨g, h.1, own_below h.2 bR⟩), d5 ∘ kq, d6 ∘ kq, fun h => ⟨own_below (d7 (kp h)).1 bR, (d7 (kp h)).2⟩, d8 ∘ kq, d9 ∘ kq, fun h => (OwnA.below (d10 (kp h)) bR), fun h => (eE (d11 (kp h)) fun g h => ⟨g, h.1, own_below h.2 bR⟩), fun _ => rfl, d13 ∘ kq, fun h => ⟨own_below (d14 (kp h)).1 bR, (d14 (kp h)).2⟩, d15 ∘ kq, d16 ∘ kq, d17 ∘ kq, fun h => (eE (d18 (kp h)) fun b h => ⟨b, h.1, h.2.1, h.2.2.grown bR⟩)⟩
  · have hoj2 := hoj
    obtain rfl := oI hoj
    have e12 := d12 (hwt ⟨12, .data⟩ (by simp) rfl)
    subst e12
    refine wpOp_cell hoj2 rfl 26 _ rfl rfl (v := (.slice am n4 cm)) (ldcR w' ((IsS.cell (C1.grown HBw.out) 3).trans rfl)) ?_
    exact ⟨vs, x5, x6, x7, x8, x9, x10, x11, x12, x13, x14, x15, x16, (.pointer (some ⟨b1, 3, none⟩)), (.slice am n4 cm), x19, x20, x21, x22, x3, by (try simp only [sP]) <;> rfl, Below.then HBw.out bR, fun h => keepT (m7_3 (kp h)), fun h => keepT (m14_10 (kp h)), fun h => keepT (m17_3 (kp h)), fun h => keepT (m17_7 (kp h)), fun h => keepT (m17_10 (kp h)), fun h => keepT (m17_14 (kp h)), fun h => keepT (m17_16 (kp h)), fun h => (eE (d0 (kp h)) fun g h => ⟨g, h.1, own_below h.2 bR⟩), d1 ∘ kq, d2 ∘ kq, fun h => (own_below (d3 (kp h)) bR), fun h => (eE (d4 (kp h)) fun g h => ⟨g, h.1, own_below h.2 bR⟩), d5 ∘ kq, d6 ∘ kq, fun h => ⟨own_below (d7 (kp h)).1 bR, (d7 (kp h)).2⟩, d8 ∘ kq, d9 ∘ kq, fun h => (OwnA.below (d10 (kp h)) bR), fun h => (eE (d11 (kp h)) fun g h => ⟨g, h.1, own_below h.2 bR⟩), d12 ∘ kq, fun _ => rfl, fun h => ⟨own_below (d14 (kp h)).1 bR, (d14 (kp h)).2⟩, d15 ∘ kq, d16 ∘ kq, d17 ∘ kq, fun h => (eE (d18 (kp h)) fun b h => ⟨b, h.1, h.2.1, h.2.2.grown bR⟩)⟩
  · have hoj2 := hoj
    obtain rfl := oI hoj
    have e11 := d11 (hwt ⟨11, .data⟩ (by simp) rfl)
    have e13 := d13 (hwt ⟨13, .data⟩ (by simp) rfl)
    have e10 := d10 (hwt ⟨10, .chain⟩ (by simp) rfl)
    obtain ⟨g0, rfl, O0⟩ := e11
    subst e13
    obtain ⟨v', W', hrun, O', B', HW'⟩ := run_app0L eInt W1.heap.size g0 O0 (.slice am n4 cm) n4 (s.mem.flatMap intE) (HM.out.below (Below.then B1 HBw.out)) (by rw [int_len, HN.out.2.2.2.1]) (int_one _) (by omega) HBw.out.size 26
    refine wpOp_value hoj2 rfl (exec_app _ _ rfl rfl rfl hrun) ?_
    exact ⟨vs, x5, x6, x7, x8, x9, x10, x11, x12, x13, x14, x15, (.slice (some ⟨g0, 0, none⟩) 0 0), x17, (.slice am n4 cm), v', x20, x21, x22, x3, by (try simp only [sP]) <;> rfl, Below.then HBw.out B', fun h => keepT (m7_3 (kp h)), fun _ => keepT (hwt ⟨10, .chain⟩ (by simp) rfl), fun h => keepT (m17_3 (kp h)), fun h => keepT (m17_7 (kp h)), fun h => keepT (m17_10 (kp h)), fun h => keepT (m17_14 (kp h)), fun h => keepT (m17_16 (kp h)), fun h => (eE (d0 (kp h)) fun g h => ⟨g, h.1, own_below h.2 B'⟩), d1 ∘ kq, d2 ∘ kq, fun h => (own_below (d3 (kp h)) B'), fun h => (eE (d4 (kp h)) fun g h => ⟨g, h.1, own_below h.2 B'⟩), d5 ∘ kq, d6 ∘ kq, fun h => ⟨own_below (d7 (kp h)).1 B', (d7 (kp h)).2⟩, d8 ∘ kq, d9 ∘ kq, fun h => (OwnA.below (d10 (kp h)) B'), fun h => (eE (d11 (kp h)) fun g h => ⟨g, h.1, own_below h.2 B'⟩), d12 ∘ kq, d13 ∘ kq, fun _ => ⟨O', fun h0 j u k hu hk hk2 => app_far HW' h0 (e10.range hu hk).2 hk2⟩, d15 ∘ kq, d16 ∘ kq, fun h => absurd (m17_14 (kp h)) (by rw [getD_both hun]; simp), fun h => (eE (d18 (kp h)) fun b h => ⟨b, h.1, h.2.1, h.2.2.grown B'⟩)⟩
  · have hoj2 := hoj
    obtain rfl := oI hoj
    refine wpOp_value hoj2 rfl (v := (.pointer (some ⟨b1, 5, none⟩))) (w' := w') (by first | rfl | (go_simp; done) | (simp [go_sem]; done) | (simp [execOp, go_sem]; done)) ?_
    exact ⟨vs, x5, x6, x7, x8, x9, x10, x11, x12, x13, x14, x15, x16, x17, x18, x19, (.pointer (some ⟨b1, 5, none⟩)), x21, x22, x3, by (try simp only [sP]) <;> rfl, Below.then HBw.out bR, fun h => keepT (m7_3 (kp h)), fun h => keepT (m14_10 (kp h)), fun h => keepT (m17_3 (kp h)), fun h => keepT (m17_7 (kp h)), fun h => keepT (m17_10 (kp h)), fun h => keepT (m17_14 (kp h)), fun h => keepT (m17_16 (kp h)), fun h => (eE (d0 (kp h)) fun g h => ⟨g, h.1, own_below h.2 bR⟩), d1 ∘ kq, d2 ∘ kq, fun h => (own_below (d3 (kp h)) bR), fun h => (eE (d4 (kp h)) fun g h => ⟨g, h.1, own_below h.2 bR⟩), d5 ∘ kq, d6 ∘ kq, fun h => ⟨own_below (d7 (kp h)).1 bR, (d7 (kp h)).2⟩, d8 ∘ kq, d9 ∘ kq, fun h => (OwnA.below (d10 (kp h)) bR), fun h => (eE (d11 (kp h)) fun g h => ⟨g, h.1, own_below h.2 bR⟩), d12 ∘ kq, d13 ∘ kq, fun h => ⟨own_below (d14 (kp h)).1 bR, (d14 (kp h)).2⟩, fun _ => rfl, d16 ∘ kq, d17 ∘ kq, fun h => (eE (d18 (kp h)) fun b h => ⟨b, h.1, h.2.1, h.2.2.grown bR⟩)⟩
  · have hoj2 := hoj
    obtain rfl := oI hoj
    have e15 := d15 (hwt ⟨15, .data⟩ (by simp) rfl)
    subst e15
    refine wpOp_cell hoj2 rfl 3 _ rfl rfl (v := (.int .i64 lk)) (ldcI w' ((IsS.cell (C1.grown HBw.out) 5).trans rfl)) ?_
    exact ⟨vs, x5, x6, x7, x8, x9, x10, x11, x12, x13, x14, x15, x16, x17, x18, x19, (.pointer (some ⟨b1, 5, none⟩)), (.int .i64 lk), x22, x3, by (try simp only [sP]) <;> rfl, Below.then HBw.out bR, fun h => keepT (m7_3 (kp h)), fun h => keepT (m14_10 (kp h)), fun h => keepT (m17_3 (kp h)), fun h => keepT (m17_7 (kp h)), fun h => keepT (m17_10 (kp h)), fun h => keepT (m17_14 (kp h)), fun h => keepT (m17_16 (kp h)), fun h => (eE (d0 (kp h)) fun g h => ⟨g, h.1, own_below h.2 bR⟩), d1 ∘ kq, d2 ∘ kq, fun h => (own_below (d3 (kp h)) bR), fun h => (eE (d4 (kp h)) fun g h => ⟨g, h.1, own_below h.2 bR⟩), d5 ∘ kq, d6 ∘ kq, fun h => ⟨own_below (d7 (kp h)).1 bR, (d7 (kp h)).2⟩, d8 ∘ kq, d9 ∘ kq, fun h => (OwnA.below (d10 (kp h)) bR), fun h => (eE (d11 (kp h)) fun g h => ⟨g, h.1, own_below h.2 bR⟩), d12 ∘ kq, d13 ∘ kq, fun h => ⟨own_below (d14 (kp h)).1 bR, (d14 (kp h)).2⟩, d15 ∘ kq, fun _ => rfl, fun h => absurd (m17_16 (kp h)) (by rw [getD_both hun]; simp), fun h => (eE (d18 (kp h)) fun b h => ⟨b, h.1, h.2.1, h.2.2.grown bR⟩)⟩
  · have hoj2 := hoj
    obtain rfl := oI hoj
    have e3 := d3 (hwt ⟨3, .data⟩ (by simp) rfl)
    have e7 := d7 (hwt ⟨7, .data⟩ (by simp) rfl)
    have e10 := d10 (hwt ⟨10, .data⟩ (by simp) rfl)
    have e14 := d14 (hwt ⟨14, .data⟩ (by simp) rfl)
    have e16 := d16 (hwt ⟨16, .data⟩ (by simp) rfl)
    subst e16
    obtain ⟨a8, c8, f8⟩ := own_form e3
    obtain ⟨a12, c12, f12⟩ := own_form e7.1
    obtain ⟨a15, c15, f15⟩ := own_form e10.out
    obtain ⟨a19, c19, f19⟩ := own_form e14.1
    subst f8 f12 f15 f19
    refine wpOp_value hoj2 rfl (run_bSt rfl rfl rfl rfl rfl rfl) ?_
    exact ⟨vs, x5, x6, x7, (.slice a8 n1 c8), x9, x10, x11, (.slice a12 n2 c12), x13, x14, (.slice a15 s.regs.length c15), x16, x17, x18, (.slice a19 n4 c19), x20, (.int .i64 lk), _, x3, by (try simp only [sP]) <;> rfl, Below.then HBw.out bR, fun h => keepT (m7_3 (kp h)), fun h => keepT (m14_10 (kp h)), fun _ => keepT (hwt ⟨3, .data⟩ (by simp) rfl), fun _ => keepT (hwt ⟨7, .data⟩ (by simp) rfl), fun _ => keepT (hwt ⟨10, .data⟩ (by simp) rfl), fun _ => keepT (hwt ⟨14, .data⟩ (by simp) rfl), fun _ => keepT (hwt ⟨16, .data⟩ (by simp) rfl), fun h => (eE (d0 (kp h)) fun g h => ⟨g, h.1, own_below h.2 bR⟩), d1 ∘ kq, d2 ∘ kq, fun h => (own_below (d3 (kp h)) bR), fun h => (eE (d4 (kp h)) fun g h => ⟨g, h.1, own_below h.2 bR⟩), d5 ∘ kq, d6 ∘ kq, fun h => ⟨own_below (d7 (kp h)).1 bR, (d7 (kp h)).2⟩, d8 ∘ kq, d9 ∘ kq, fun h => (OwnA.below (d10 (kp h)) bR), fun h => (eE (d11 (kp h)) fun g h => ⟨g, h.1, own_below h.2 bR⟩), d12 ∘ kq, d13 ∘ kq, fun h => ⟨own_below (d14 (kp h)).1 bR, (d14 (kp h)).2⟩, d15 ∘ kq, d16 ∘ kq, fun _ => rfl, fun h => (eE (d18 (kp h)) fun b h => ⟨b, h.1, h.2.1, h.2.2.grown bR⟩)⟩
  · have hoj2 := hoj
    obtain rfl := oI hoj
    refine wpOp_value hoj2 rfl (run_allocSt rfl) ?_
    have B9 := F_b (Fresh.alloc w' (.cells [.slice none 0 0, .slice none 0 0, .slice none 0 0, .slice none 0 0, .slice none 0 0, .int .i64 0].toArray 32))
    exact ⟨vs, x5, x6, x7, x8, x9, x10, x11, x12, x13, x14, x15, x16, x17, x18, x19, x20, x21, x22, _, by (try simp only [sP]) <;> rfl, Below.then HBw.out B9, fun h => keepT (m7_3 (kp h)), fun h => keepT (m14_10 (kp h)), fun h => keepT (m17_3 (kp h)), fun h => keepT (m17_7 (kp h)), fun h => keepT (m17_10 (kp h)), fun h => keepT (m17_14 (kp h)), fun h => keepT (m17_16 (kp h)), fun h => (eE (d0 (kp h)) fun g h => ⟨g, h.1, own_below h.2 B9⟩), d1 ∘ kq, d2 ∘ kq, fun h => (own_below (d3 (kp h)) B9), fun h => (eE (d4 (kp h)) fun g h => ⟨g, h.1, own_below h.2 B9⟩), d5 ∘ kq, d6 ∘ kq, fun h => ⟨own_below (d7 (kp h)).1 B9, (d7 (kp h)).2⟩, d8 ∘ kq, d9 ∘ kq, fun h => (OwnA.below (d10 (kp h)) B9), fun h => (eE (d11 (kp h)) fun g h => ⟨g, h.1, own_below h.2 B9⟩), d12 ∘ kq, d13 ∘ kq, fun h => ⟨own_below (d14 (kp h)).1 B9, (d14 (kp h)).2⟩, d15 ∘ kq, d16 ∘ kq, d17 ∘ kq, fun _ => ⟨_, rfl, HBw.out.size, IsS.new w' 32 [.slice none 0 0, .slice none 0 0, .slice none 0 0, .slice none 0 0, .slice none 0 0, .int .i64 0]⟩⟩
 case iend =>
  rintro a' w' ⟨vs, x5, x6, x7, x8, x9, x10, x11, x12, x13, x14, x15, x16, x17, x18, x19, x20, x21, x22, x3, rfl, HBw, m7_3, m14_10, m17_3, m17_7, m17_10, m17_14, m17_16, d0, d1, d2, d3, d4, d5, d6, d7, d8, d9, d10, d11, d12, d13, d14, d15, d16, d17, d18⟩
  replace d0 := d0 rfl
  replace d1 := d1 rfl
  replace d2 := d2 rfl
  replace d3 := d3 rfl
  replace d4 := d4 rfl
  replace d5 := d5 rfl
  replace d6 := d6 rfl
  replace d7 := d7 rfl
  replace d8 := d8 rfl
  replace d9 := d9 rfl
  replace d10 := d10 rfl
  replace d11 := d11 rfl
  replace d12 := d12 rfl
  replace d13 := d13 rfl
  replace d14 := d14 rfl
  replace d15 := d15 rfl
  replace d16 := d16 rfl
  replace d17 := d17 rfl
  replace d18 := d18 rfl
  clear m7_3 m14_10 m17_3 m17_7 m17_10 m17_14 m17_16
  simp only [sP]
  simp only [List.drop_succ_cons, List.drop_zero]
  obtain ⟨b3, ex3, hb3, I3⟩ := d18
  have O8 := d3
  obtain ⟨O12, A12⟩ := d7
  have O15 := d10
  obtain ⟨O19, A19⟩ := d14
  have e22 := d17
  obtain ⟨a8, c8, f8⟩ := own_form O8
  obtain ⟨a12, c12, f12⟩ := own_form O12
  obtain ⟨a15, c15, f15⟩ := own_form O15.out
  obtain ⟨a19, c19, f19⟩ := own_form O19
  have B12 := HBw.out
  have B02 := Below.then B1 B12
  have C2 := C1.grown B12
  have D2 := D1.grown B12
  subst d1 d2 d5 d6 d8 d9 d12 d13 d15 d16
  subst f8 f12 f15 f19
  subst e22 ex3
  obtain ⟨g5, h5, -⟩ := d0
  obtain ⟨g9, h9, -⟩ := d4
  obtain ⟨g16, h16, -⟩ := d11
  subst h5 h9 h16
  rw [HN.out.2.2.1] at O15
  simp only [HN.out.2.2.1]
  clear HBw d3 d10 d17
  go_wp2_with (first
   | (clear t3; refine wpList_storeW rfl 32 _ _ rfl rfl [.slice a8 n1 c8, .slice a12 n2 c12, .slice a15 n3 c15, .slice a19 n4 c19, .slice none 0 0, .int .i64 lk] rfl I3 rfl infoSt (by simp [Value.oneCell']) ?_; intro W3 U3 I3b))
  have hne : ∀ (t s n : Nat) (v : Value) (xs : List Value), w'.ownsRow W1.heap.size t s v n xs → t ≠ 32 → ∀ k, v.ownBlock = some k → W3.heap[k]? = w'.heap[k]? := fun t s n v xs ho ht k hk => U3.block k (own_isS ho I3 ht hk)
  have K3 : Hid (CpG w W3 b3 (.slice a8 n1 c8) (.slice a12 n2 c12) (.slice a15 n3 c15) (.slice a19 n4 c19) (.slice none 0 0) vs [] n1 n2 n4 lk s []) := by
   have hsz := B1.size
   refine ⟨own_raise (own_same O8 (hne _ _ _ _ _ O8 (by decide))) hsz, own_raise (own_same O12 (hne _ _ _ _ _ O12 (by decide))) hsz, A12, ?_, own_raise (own_same O19 (hne _ _ _ _ _ O19 (by decide))) hsz, A19, own_nil _ _ _ _, rfl, (fun j u l hu hl => by cases hu), I3b, Nat.le_trans hsz hb3⟩
   refine OwnA.raise ⟨by rw [O15.len], ?_, fun j u xs hu hx => ?_, O15.apart⟩ hsz
   · have h := own_same O15.out (fun k hk => U3.block k (own_isS O15.out I3 (by decide) hk))
     exact h
   · exact own_same (O15.row j u xs hu hx) (hne _ _ _ _ _ (O15.row j u xs hu hx) (by decide))
  have C3 := C2.upd U3 (by have := C1.lt; omega)
  have D3 := D2.upd U3 (by have := D1.lt; omega)
  have B3 := U3.trans B02 (by have := B1.size; omega)
  have HC3 : Hid (IsS W3 b1 32 [.slice ap n1 cp, .slice ah n2 ch, .slice ar n3 cr, .slice am n4 cm, .slice ab n5 cb, .int .i64 lk]) := C3
  have HD3 : Hid (IsS W3 b2 32 [.slice none 0 0, .slice none 0 0, .slice none 0 0, .slice none 0 0, .slice none 0 0, .int .i64 0]) := D3
  have HB3 : Hid (Below w.heap.size w W3) := B3
  have hbb : b2 ≠ b3 := by have := D1.lt; omega
  have hbb1 : b1 ≠ b3 := by have := C1.lt; omega
  clear C2 D2 C3 D3 B3 U3 I3 I3b hne O8 O12 O15 O19 A12 A19 B12 B02
  go_loopw [4] (fun i wr => ∃ (k : Nat) (vb : Value) (bs : List Value), k ≤ n5 ∧ i = .int .i64 (k : Int) ∧ Hid (bs.length = k) ∧ Hid (CpG w wr b3 (.slice a8 n1 c8) (.slice a12 n2 c12) (.slice a15 n3 c15) (.slice a19 n4 c19) vb vs bs n1 n2 n4 lk s (s.buf.take k)) ∧ Hid (IsS wr b1 32 [.slice ap n1 cp, .slice ah n2 ch, .slice ar n3 cr, .slice am n4 cm, .slice ab n5 cb, .int .i64 lk]) ∧ Hid (IsS wr b2 32 [.slice none 0 0, .slice none 0 0, .slice none 0 0, .slice none 0 0, .slice none 0 0, .int .i64 0]) ∧ Hid (Below w.heap.size w wr)) (fun i _ => n5 - (intOf i).toNat)
  case atStart => exact ⟨0, _, [], Nat.zero_le _, rfl, rfl, K3, HC3, HD3, HB3⟩
  case round =>
   clear K3 HC3 HD3 HB3
   obtain ⟨k, vb, bs, hk, rfl, HL, HK, HC, HD, HB⟩ := hrel
   have y14 : wr.cell? ⟨b1, 4, none⟩ = some (.slice ab n5 cb) := HC.out.cell 4
   by_cases hlt : k < n5
   · have hki : (k : Int) < n5 := by omega
     obtain ⟨bw, hbw⟩ : ∃ x, s.buf[k]? = some x := ⟨_, List.getElem?_eq_getElem (by rw [HN.out.2.2.2.2]; exact hlt)⟩
     have HBW : Hid (s.buf[k]? = some bw) := hbw
     obtain ⟨bb, ob, aq, cq, eab, hbbl, hcu, hsegu, hnilu⟩ := (HBf.out.below HB.out).at k bw hbw
     subst eab
     obtain ⟨lb, hlb⟩ : ∃ m, bw.length = m := ⟨_, rfl⟩
     rw [hlb] at hcu
     have hlb20 : lb ≤ 1048576 := by rw [← hlb]; exact flat_row HFB.out hbw
     obtain ⟨av, cv, hvb⟩ := own_form HK.out.bf
     subst hvb
     rw [HL.out] at HK
     have HU : Hid (RowV wr (.slice aq lb cq) lb (bw.flatMap wrE)) := ⟨aq, cq, rfl, hsegu, hnilu⟩
     have HLB : Hid (bw.length = lb) := hlb
     clear hsegu hbw hlb
     go_wp2
     clear y14
     refine region_invA 10 (fun a0 listed a' w' => ∃ x30 x31 x32 x33 x34 x35 x36 x37 x38 x39 : Value, a' = ((((((((((a0.put (some 30) x30).put (some 31) x31).put (some 32) x32).put (some 33) x33).put (some 34) x34).put (some 35) x35).put (some 36) x36).put (some 37) x37).put (some 38) x38).put (some 39) x39) ∧ Hid (Below wr.heap.size wr w') ∧ (listed.getD 0 false = true → x30 = (.pointer (some ⟨b3, 4, none⟩))) ∧ (listed.getD 1 false = true → x31 = (.slice av k cv)) ∧ (listed.getD 2 false = true → ∃ g, x32 = .slice (some ⟨g, 0, none⟩) 0 0 ∧ w'.ownsRow wr.heap.size 50 2 (.slice (some ⟨g, 0, none⟩) 0 0) 0 []) ∧ (listed.getD 3 false = true → x33 = (.pointer (some ⟨b1, 4, none⟩))) ∧ (listed.getD 4 false = true → x34 = (.slice (some ⟨bb, ob, none⟩) n5 cb)) ∧ (listed.getD 5 false = true → x35 = (.int .i64 (k : Int))) ∧ (listed.getD 6 false = true → x36 = (.pointer (some ⟨bb, ob + k, none⟩))) ∧ (listed.getD 7 false = true → x37 = (.slice aq lb cq)) ∧ (listed.getD 8 false = true → ∃ a c, x38 = .slice a lb c ∧ w'.ownsRow wr.heap.size 50 2 (.slice a lb c) lb (bw.flatMap wrE)) ∧ (listed.getD 9 false = true → ∃ a c b, x39 = .slice (some ⟨b, 0, none⟩) 1 1 ∧ IsS w' b 48 [.slice a lb c] ∧ w'.ownsRow wr.heap.size 50 2 (.slice a lb c) lb (bw.flatMap wrE))) (by kernel_rfl) (by kernel_rfl) ?i0b ?istepb ?iendb
     case i0b => exact ⟨_, _, _, _, _, _, _, _, _, _, by (try simp only [sP]) <;> rfl, below_drew bR, fun h => (not_rep h).elim, fun h => (not_rep h).elim, fun h => (not_rep h).elim, fun h => (not_rep h).elim, fun h => (not_rep h).elim, fun h => (not_rep h).elim, fun h => (not_rep h).elim, fun h => (not_rep h).elim, fun h => (not_rep h).elim, fun h => (not_rep h).elim⟩
     case istepb =>
      rintro i listed a' w' hi hr ⟨x30, x31, x32, x33, x34, x35, x36, x37, x38, x39, rfl, HBw, d0, d1, d2, d3, d4, d5, d6, d7, d8, d9⟩
      obtain ⟨hun, oj, hoj, hwt⟩ := mem_ready.1 hr
      simp only [sP]
      have hcase : i = 0 ∨ i = 1 ∨ i = 2 ∨ i = 3 ∨ i = 4 ∨ i = 5 ∨ i = 6 ∨ i = 7 ∨ i = 8 ∨ i = 9 := by omega
      rcases hcase with rfl | rfl | rfl | rfl | rfl | rfl | rfl | rfl | rfl | rfl
      · have hoj2 := hoj
        obtain rfl := oI hoj
        refine wpOp_value hoj2 rfl (v := (.pointer (some ⟨b3, 4, none⟩))) (w' := w') (by first | rfl | (go_simp; done) | (simp [go_sem]; done) | (simp [execOp, go_sem]; done)) ?_
        exact ⟨(.pointer (some ⟨b3, 4, none⟩)), x31, x32, x33, x34, x35, x36, x37, x38, x39, by (try simp only [sP]) <;> rfl, Below.then HBw.out bR, fun _ => rfl, d1 ∘ kq, fun h => (eE (d2 (kp h)) fun g h => ⟨g, h.1, own_below h.2 bR⟩), d3 ∘ kq, d4 ∘ kq, d5 ∘ kq, d6 ∘ kq, d7 ∘ kq, fun h => (eE (d8 (kp h)) fun a h => eE h fun c h => ⟨a, c, h.1, own_below h.2 bR⟩), fun h => (eE (d9 (kp h)) fun a h => eE h fun c h => eE h fun b h => ⟨a, c, b, h.1, h.2.1.grown bR, own_below h.2.2 bR⟩)⟩
      · have hoj2 := hoj
        obtain rfl := oI hoj
        have e0 := d0 (hwt ⟨0, .data⟩ (by simp) rfl)
        subst e0
        refine wpOp_cell hoj2 rfl 30 _ rfl rfl (v := (.slice av k cv)) (ldcWW w' ((IsS.cell (HK.out.st.grown HBw.out) 4).trans rfl)) ?_
        exact ⟨(.pointer (some ⟨b3, 4, none⟩)), (.slice av k cv), x32, x33, x34, x35, x36, x37, x38, x39, by (try simp only [sP]) <;> rfl, Below.then HBw.out bR, d0 ∘ kq, fun _ => rfl, fun h => (eE (d2 (kp h)) fun g h => ⟨g, h.1, own_below h.2 bR⟩), d3 ∘ kq, d4 ∘ kq, d5 ∘ kq, d6 ∘ kq, d7 ∘ kq, fun h => (eE (d8 (kp h)) fun a h => eE h fun c h => ⟨a, c, h.1, own_below h.2 bR⟩), fun h => (eE (d9 (kp h)) fun a h => eE h fun c h => eE h fun b h => ⟨a, c, b, h.1, h.2.1.grown bR, own_below h.2.2 bR⟩)⟩
      · have hoj2 := hoj
        obtain rfl := oI hoj
        refine wpOp_value hoj2 rfl (exec_build0 eWr rfl) ?_
        have B9 := F_b (Fresh.alloc w' (.cells #[] 50))
        exact ⟨x30, x31, _, x33, x34, x35, x36, x37, x38, x39, by (try simp only [sP]) <;> rfl, Below.then HBw.out B9, d0 ∘ kq, d1 ∘ kq, fun _ => ⟨_, rfl, own_raise (own_build0 eWr w') HBw.out.size⟩, d3 ∘ kq, d4 ∘ kq, d5 ∘ kq, d6 ∘ kq, d7 ∘ kq, fun h => (eE (d8 (kp h)) fun a h => eE h fun c h => ⟨a, c, h.1, own_below h.2 B9⟩), fun h => (eE (d9 (kp h)) fun a h => eE h fun c h => eE h fun b h => ⟨a, c, b, h.1, h.2.1.grown B9, own_below h.2.2 B9⟩)⟩
      · have hoj2 := hoj
        obtain rfl := oI hoj
        refine wpOp_value hoj2 rfl (v := (.pointer (some ⟨b1, 4, none⟩))) (w' := w') (by first | rfl | (go_simp; done) | (simp [go_sem]; done) | (simp [execOp, go_sem]; done)) ?_
        exact ⟨x30, x31, x32, (.pointer (some ⟨b1, 4, none⟩)), x34, x35, x36, x37, x38, x39, by (try simp only [sP]) <;> rfl, Below.then HBw.out bR, d0 ∘ kq, d1 ∘ kq, fun h => (eE (d2 (kp h)) fun g h => ⟨g, h.1, own_below h.2 bR⟩), fun _ => rfl, d4 ∘ kq, d5 ∘ kq, d6 ∘ kq, d7 ∘ kq, fun h => (eE (d8 (kp h)) fun a h => eE h fun c h => ⟨a, c, h.1, own_below h.2 bR⟩), fun h => (eE (d9 (kp h)) fun a h => eE h fun c h => eE h fun b h => ⟨a, c, b, h.1, h.2.1.grown bR, own_below h.2.2 bR⟩)⟩
      · have hoj2 := hoj
        obtain rfl := oI hoj
        have e3 := d3 (hwt ⟨3, .data⟩ (by simp) rfl)
        subst e3
        refine wpOp_cell hoj2 rfl 30 _ rfl rfl (v := (.slice (some ⟨bb, ob, none⟩) n5 cb)) (ldcWW w' ((IsS.cell (HC.out.grown HBw.out) 4).trans rfl)) ?_
        exact ⟨x30, x31, x32, (.pointer (some ⟨b1, 4, none⟩)), (.slice (some ⟨bb, ob, none⟩) n5 cb), x35, x36, x37, x38, x39, by (try simp only [sP]) <;> rfl, Below.then HBw.out bR, d0 ∘ kq, d1 ∘ kq, fun h => (eE (d2 (kp h)) fun g h => ⟨g, h.1, own_below h.2 bR⟩), d3 ∘ kq, fun _ => rfl, d5 ∘ kq, d6 ∘ kq, d7 ∘ kq, fun h => (eE (d8 (kp h)) fun a h => eE h fun c h => ⟨a, c, h.1, own_below h.2 bR⟩), fun h => (eE (d9 (kp h)) fun a h => eE h fun c h => eE h fun b h => ⟨a, c, b, h.1, h.2.1.grown bR, own_below h.2.2 bR⟩)⟩
      · have hoj2 := hoj
        obtain rfl := oI hoj
        refine wpOp_value hoj2 rfl (v := (.int .i64 (k : Int))) (w' := w') (by first | rfl | (go_simp; done) | (simp [go_sem]; done) | (simp [execOp, go_sem]; done)) ?_
        exact ⟨x30, x31, x32, x33, x34, (.int .i64 (k : Int)), x36, x37, x38, x39, by (try simp only [sP]) <;> rfl, Below.then HBw.out bR, d0 ∘ kq, d1 ∘ kq, fun h => (eE (d2 (kp h)) fun g h => ⟨g, h.1, own_below h.2 bR⟩), d3 ∘ kq, d4 ∘ kq, fun _ => rfl, d6 ∘ kq, d7 ∘ kq, fun h => (eE (d8 (kp h)) fun a h => eE h fun c h => ⟨a, c, h.1, own_below h.2 bR⟩), fun h => (eE (d9 (kp h)) fun a h => eE h fun c h => eE h fun b h => ⟨a, c, b, h.1, h.2.1.grown bR, own_below h.2.2 bR⟩)⟩
      · have hoj2 := hoj
        obtain rfl := oI hoj
        have e4 := d4 (hwt ⟨4, .data⟩ (by simp) rfl)
        have e5 := d5 (hwt ⟨5, .data⟩ (by simp) rfl)
        subst e4
        subst e5
        refine wpOp_value hoj2 rfl (v := (.pointer (some ⟨bb, ob + k, none⟩))) (w' := w') (by simp [execOp, go_sem, hki]; done) ?_
        exact ⟨x30, x31, x32, x33, (.slice (some ⟨bb, ob, none⟩) n5 cb), (.int .i64 (k : Int)), (.pointer (some ⟨bb, ob + k, none⟩)), x37, x38, x39, by (try simp only [sP]) <;> rfl, Below.then HBw.out bR, d0 ∘ kq, d1 ∘ kq, fun h => (eE (d2 (kp h)) fun g h => ⟨g, h.1, own_below h.2 bR⟩), d3 ∘ kq, d4 ∘ kq, d5 ∘ kq, fun _ => rfl, d7 ∘ kq, fun h => (eE (d8 (kp h)) fun a h => eE h fun c h => ⟨a, c, h.1, own_below h.2 bR⟩), fun h => (eE (d9 (kp h)) fun a h => eE h fun c h => eE h fun b h => ⟨a, c, b, h.1, h.2.1.grown bR, own_below h.2.2 bR⟩)⟩
      · have hoj2 := hoj
        obtain rfl := oI hoj
        have e6 := d6 (hwt ⟨6, .data⟩ (by simp) rfl)
        subst e6
        refine wpOp_cell hoj2 rfl 48 _ rfl rfl (v := (.slice aq lb cq)) (ldcW w' (by rw [HBw.out.cell (p := ⟨bb, ob + k, none⟩) hbbl]; exact hcu)) ?_
        exact ⟨x30, x31, x32, x33, x34, x35, (.pointer (some ⟨bb, ob + k, none⟩)), (.slice aq lb cq), x38, x39, by (try simp only [sP]) <;> rfl, Below.then HBw.out bR, d0 ∘ kq, d1 ∘ kq, fun h => (eE (d2 (kp h)) fun g h => ⟨g, h.1, own_below h.2 bR⟩), d3 ∘ kq, d4 ∘ kq, d5 ∘ kq, d6 ∘ kq, fun _ => rfl, fun h => (eE (d8 (kp h)) fun a h => eE h fun c h => ⟨a, c, h.1, own_below h.2 bR⟩), fun h => (eE (d9 (kp h)) fun a h => eE h fun c h => eE h fun b h => ⟨a, c, b, h.1, h.2.1.grown bR, own_below h.2.2 bR⟩)⟩
      · have hoj2 := hoj
        obtain rfl := oI hoj
        have e2 := d2 (hwt ⟨2, .data⟩ (by simp) rfl)
        have e7 := d7 (hwt ⟨7, .data⟩ (by simp) rfl)
        obtain ⟨g0, rfl, O0⟩ := e2
        subst e7
        obtain ⟨v', W', hrun, O', B', HW'⟩ := run_app0L eWr wr.heap.size g0 O0 (.slice aq lb cq) lb (bw.flatMap wrE) (HU.out.below HBw.out) (by rw [wrE_len, HLB.out]; omega) (wrE_one _) (by omega) HBw.out.size 48
        refine wpOp_value hoj2 rfl (exec_app _ _ rfl rfl rfl hrun) ?_
        obtain ⟨a5, c5, f5⟩ := own_form O'
        subst f5
        exact ⟨x30, x31, (.slice (some ⟨g0, 0, none⟩) 0 0), x33, x34, x35, x36, (.slice aq lb cq), (.slice a5 lb c5), x39, by (try simp only [sP]) <;> rfl, Below.then HBw.out B', d0 ∘ kq, d1 ∘ kq, fun h => (eE (d2 (kp h)) fun g h => ⟨g, h.1, own_below h.2 B'⟩), d3 ∘ kq, d4 ∘ kq, d5 ∘ kq, d6 ∘ kq, d7 ∘ kq, fun _ => ⟨a5, c5, rfl, O'⟩, fun h => (eE (d9 (kp h)) fun a h => eE h fun c h => eE h fun b h => ⟨a, c, b, h.1, h.2.1.grown B', own_below h.2.2 B'⟩)⟩
      · have hoj2 := hoj
        obtain rfl := oI hoj
        have e8 := d8 (hwt ⟨8, .data⟩ (by simp) rfl)
        obtain ⟨a5, c5, rfl, O5⟩ := e8
        refine wpOp_value hoj2 rfl (exec_build1 eWrs _ rfl (.slice a5 lb c5) rfl rfl) ?_
        have B9 := F_b (Fresh.alloc w' (.cells #[.slice a5 lb c5] 48))
        exact ⟨x30, x31, x32, x33, x34, x35, x36, x37, (.slice a5 lb c5), _, by (try simp only [sP]) <;> rfl, Below.then HBw.out B9, d0 ∘ kq, d1 ∘ kq, fun h => (eE (d2 (kp h)) fun g h => ⟨g, h.1, own_below h.2 B9⟩), d3 ∘ kq, d4 ∘ kq, d5 ∘ kq, d6 ∘ kq, d7 ∘ kq, fun h => (eE (d8 (kp h)) fun a h => eE h fun c h => ⟨a, c, h.1, own_below h.2 B9⟩), fun _ => ⟨_, _, _, rfl, IsS.new w' 48 [.slice a5 lb c5], own_below O5 B9⟩⟩
     case iendb =>
      rintro a' w' ⟨x30, x31, x32, x33, x34, x35, x36, x37, x38, x39, rfl, HBw, d0, d1, d2, d3, d4, d5, d6, d7, d8, d9⟩
      replace d0 := d0 rfl
      replace d1 := d1 rfl
      replace d2 := d2 rfl
      replace d3 := d3 rfl
      replace d4 := d4 rfl
      replace d5 := d5 rfl
      replace d6 := d6 rfl
      replace d7 := d7 rfl
      replace d8 := d8 rfl
      replace d9 := d9 rfl
      simp only [sP]
      simp only [List.drop_succ_cons, List.drop_zero]
      obtain ⟨au, cu, bu, hx9, hIu, hue⟩ := d9
      obtain ⟨g2, h2, -⟩ := d2
      obtain ⟨a5, c5, h8, -⟩ := d8
      subst hx9 h2 h8 d0 d1 d3 d4 d5 d6 d7
      have B5 := Below.then HB.out HBw.out
      have C5 := HC.out.grown HBw.out
      have D5 := HD.out.grown HBw.out
      have K5 := HK.out.below HBw.out
      have O5 : w'.ownsRow w.heap.size 48 1 (.slice av k cv) k bs := by have := K5.bf; rw [HL.out] at this; exact this
      have hue2 := own_raise hue HB.out.size
      clear HBw hue
      have t5 : True := trivial
      have t6 : True := trivial
      go_wp2_with (first
       | (clear t5; at_builtin; refine wpList_appM eWrs rfl _ _ rfl w.heap.size _ k bs rfl O5 _ 1 [.slice au lb cu] rfl (row_isS hIu) rfl (by simp only [List.mem_singleton]; rintro x rfl; rfl) (by omega) B5.size ?_; intro v6 W6 O6 G6; have B6 := grown_below B5 B5.size O5 G6; have h6 := own_cell O6; have I6 : IsS W6 b3 32 [.slice a8 n1 c8, .slice a12 n2 c12, .slice a15 n3 c15, .slice a19 n4 c19, .slice av k cv, .int .i64 lk] := (G6.block b3 K5.st.lt (fun e => own_isS O5 K5.st (by decide) e.symm rfl)).trans K5.st; have C6 := (G6.block b1 C5.lt (fun e => own_isS O5 C5 (by decide) e.symm rfl)).trans C5; have D6 := (G6.block b2 D5.lt (fun e => own_isS O5 D5 (by decide) e.symm rfl)).trans D5)
       | (clear t6; refine wpList_store1 rfl 30 _ _ rfl rfl v6 rfl I6 (by simp) infoWW h6 ?_; intro W7 U7 I7; have B7 := U7.trans B6 K5.hb; have C7 := IsS.upd C6 U7 hbb1; have D7 := IsS.upd D6 U7 hbb))
      have K7 : Hid (CpG w W7 b3 (.slice a8 n1 c8) (.slice a12 n2 c12) (.slice a15 n3 c15) (.slice a19 n4 c19) v6 vs (bs ++ [.slice au lb cu]) n1 n2 n4 lk s (s.buf.take (k + 1))) := by
       have hkp : ∀ (t s : Nat) (u : Value) (m : Nat) (xs : List Value), w'.ownsRow w.heap.size t s u m xs → t ≠ 48 → t ≠ 32 → ∀ j, u.ownBlock = some j → W7.heap[j]? = w'.heap[j]? := fun t s u m xs ho h1 h2 j hj => by
        rw [U7.block j (fun e => own_isS ho K5.st h2 hj e), G6.block j (own_lt ho hj).2 (fun e => own_diff ho O5 h1 hj e.symm)]
       have htk : s.buf.take (k + 1) = s.buf.take k ++ [bw] := by rw [List.take_add_one, HBW.out]; rfl
       refine K5.keep hkp ?_ ?_ ?_ I7
       · rw [List.length_append, HL.out]
         exact own_same O6 fun j hj => U7.block j (fun e => own_isS O6 I6 (by decide) hj e)
       · rw [htk, List.length_append, List.length_append, K5.bl]; rfl
       · intro j u l hu hl
         rw [htk] at hl
         by_cases hj : j < k
         · rw [List.getElem?_append_left (by rw [HL.out]; exact hj)] at hu
           rw [List.getElem?_append_left (by rw [← K5.bl, HL.out]; exact hj)] at hl
           exact own_same (K5.be j u l hu hl) (hkp _ _ _ _ _ (K5.be j u l hu hl) (by decide) (by decide))
         · have hjk : j = k := by
            have := (List.getElem?_eq_some_iff.1 hu).1
            rw [List.length_append, HL.out] at this
            simp at this
            omega
           subst hjk
           rw [List.getElem?_append_right (by rw [HL.out]; exact Nat.le_refl _), HL.out, Nat.sub_self] at hu
           rw [List.getElem?_append_right (by rw [← K5.bl, HL.out]; exact Nat.le_refl _), ← K5.bl, HL.out, Nat.sub_self] at hl
           simp only [List.getElem?_cons_zero, Option.some.injEq] at hu hl
           subst hu hl
           rw [HLB.out]
           exact own_same hue2 (hkp _ _ _ _ _ hue2 (by decide) (by decide))
      clear G6 O6 I6 I7 U7 K5 C5 D5 C6 D6
      go_roundw
      case rel => exact ⟨k + 1, v6, bs ++ [.slice au lb cu], by omega, by go_num, by show _ = _; simp [HL.out], K7, C7, D7, B7⟩
      case measure => simp [intOf]; omega
   · have ek : k = n5 := by omega
     subst ek
     have hki : ¬ ((k : Int) < k) := by omega
     have HKo := HK.out
     have vb1 := own_cell HKo.bf
     have I3 := HKo.st
     have D3 := HD.out
     have ta : True := trivial
     have tb : True := trivial
     go_wp2_with (first
      | (clear ta; refine wpList_loadW rfl 32 _ rfl rfl I3 _ Try.underlying32 rfl infoSt ?_)
      | (clear tb; refine wpList_storeW rfl 32 _ _ rfl rfl [.slice a8 n1 c8, .slice a12 n2 c12, .slice a15 n3 c15, .slice a19 n4 c19, vb, .int .i64 lk] rfl D3 rfl infoSt (cp_one vb1) ?_; intro W9 U9 D9))
     refine ret_S (cs := [.slice a8 n1 c8, .slice a12 n2 c12, .slice a15 n3 c15, .slice a19 n4 c19, vb, .int .i64 lk]) rfl rfl rfl D9 _ Try.underlying32 rfl infoSt ⟨_, _, _, _, _, rfl, ⟨b3, vs, bs, ?_⟩, U9.trans HB.out hb2⟩
     have hb : s.buf.take k = s.buf := by rw [← HN.out.2.2.2.2, List.take_length]
     rw [hb] at HKo
     exact HKo.keep (fun t s u m xs ho h1 h2 j hj => U9.block j (own_isS ho D3 h2 hj)) (own_same HKo.bf fun j hj => U9.block j (own_isS HKo.bf D3 (by decide) hj)) HKo.bl (fun j u l hu hl => own_same (HKo.be j u l hu hl) fun i hi => U9.block i (own_isS (HKo.be j u l hu hl) D3 (by decide) hi)) (HKo.st.upd U9 (Ne.symm hbb))
theorem own_rowsW {w : World} {B : Nat} {v : Value} {vs : List Value} {xss : List (List (Int × Int))} (hl : vs.length = xss.length) (hout : w.ownsRow B 48 1 v vs.length vs) (hrow : ∀ (j : Nat) u xs, vs[j]? = some u → xss[j]? = some xs → w.ownsRow B 50 2 u xs.length (xs.flatMap wrE)) : RowsV w v wrE xss := by
 obtain ⟨a, c, rfl, hs, hn⟩ := own_row hout
 refine ⟨vs, hl, ⟨a, c, by rw [hl], hs, hn⟩, fun j u xs hu hx => ?_⟩
 exact own_row (hrow j u xs hu hx)
theorem rcopyS_any (s : ST) (hf : s.Few) (vpc vph vrg vmm vbf : Value) (w : World) (hS : STV w s vpc vph vrg vmm vbf) :
    Calls Try.prog 10 #[.agg #[vpc, vph, vrg, vmm, vbf, .int .i64 s.lock]] w fun e w' => ∃ u1 u2 u3 u4 u5, e = .returned (.agg #[u1, u2, u3, u4, u5, .int .i64 s.lock]) ∧ (∃ b3 vs bs, CpG w w' b3 u1 u2 u3 u4 u5 vs bs s.pc.length s.ph.length s.mem.length s.lock s s.buf) ∧ Below w.heap.size w w' := by
 obtain ⟨ap, cp, rfl, _, _⟩ := id hS.pc
 obtain ⟨ah, ch, rfl, _, _⟩ := id hS.ph
 obtain ⟨ar, cr, rfl⟩ := hS.rg.form
 obtain ⟨am, cm, rfl, _, _⟩ := id hS.mm
 obtain ⟨ab, cb, rfl⟩ := hS.bf.form
 exact rscg_any s hf ap ah ar am ab _ _ _ _ _ cp ch cr cm cb s.lock w rfl rfl rfl rfl rfl hS
end Go.Proofs.Ytegpnicajlndlaa

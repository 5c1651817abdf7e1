/- RA3 -/
import Derived.Test.YtegpnicajlndlaaQau
namespace Go.Proofs.Ytegpnicajlndlaa
open Go.RowKit M
set_option linter.unusedSimpArgs false
set_option linter.unusedVariables false
theorem run_bSt {w : World} {op : Oper} {a : Act} {x0 x1 x2 x3 x5 : Operand} {a0 a1 a2 a3 : Option Addr} {n0 n1 n2 n3 c0 c1 c2 c3 : Nat} {z : Int} (ho : op.op = .build 32 #[(0, x0), (1, x1), (2, x2), (3, x3), (5, x5)]) (h0 : a.eval x0 = .slice a0 n0 c0) (h1 : a.eval x1 = .slice a1 n1 c1) (h2 : a.eval x2 = .slice a2 n2 c2) (h3 : a.eval x3 = .slice a3 n3 c3) (h5 : a.eval x5 = .int .i64 z) :
    (execOp a.eval op).run Try.prog w = .ok (.value (.agg #[.slice a0 n0 c0, .slice a1 n1 c1, .slice a2 n2 c2, .slice a3 n3 c3, .slice none 0 0, .int .i64 z])) w := by
 generalize a.eval = ev at h0 h1 h2 h3 h5 ⊢
 unfold execOp
 simp [ho, h0, h1, h2, h3, h5, go_sem]
theorem run_allocSt {w : World} {op : Oper} {a : Act} (ho : op.op = .alloc 32) : (execOp a.eval op).run Try.prog w = .ok (.value (.pointer (some ⟨w.heap.size, 0, none⟩))) (w.alloc (.cells [Value.slice none 0 0, .slice none 0 0, .slice none 0 0, .slice none 0 0, .slice none 0 0, .int .i64 0].toArray 32)) := by
 unfold execOp
 simp [ho, go_sem, Value.cells]
theorem own_isS {w : World} {B t t' s n g k : Nat} {v : Value} {xs cs : List Value} (ho : w.ownsRow B t s v n xs) (I : IsS w g t' cs) (ht : t ≠ t') (hk : v.ownBlock = some k) : k ≠ g := by
 intro e
 subst e
 rcases ho.2 with ⟨rfl, _⟩ | ⟨g', cap', cur', rfl, _, hh', _⟩
 · cases hk
 · simp [Value.ownBlock] at hk
   subst hk
   unfold IsS at I
   rw [I] at hh'
   simp at hh'
   exact ht hh'.2.symm
theorem app_far {w : World} {m k : Nat} {v z : Value} (h : (m = 0 ∧ v = z) ∨ ∀ k, v.ownBlock = some k → w.heap.size ≤ k) (h0 : 0 < m) (hk : k < w.heap.size) (hv : v.ownBlock = some k) : False := by
 rcases h with ⟨h1, _⟩ | h1
 · omega
 · have := h1 k hv; omega
structure CpO (w W : World) (b3 : Nat) (vpc vph vrg vmm vbf : Value) (vs bs : List Value) (n nm : Nat) (pc : List Int) (regs : List (List Int)) (mem : List Int) : Prop where
 pc : W.ownsRow w.heap.size 3 1 vpc n (pc.flatMap intE)
 ph : W.ownsRow w.heap.size 3 1 vph n ((List.replicate n (0 : Int)).flatMap intE)
 ap : ∀ k, vph.ownBlock = some k → vpc.ownBlock ≠ some k
 rg : OwnA W w.heap.size vrg vs regs
 mm : W.ownsRow w.heap.size 2 1 vmm nm (mem.flatMap intE)
 am : 0 < nm → ∀ (j : Nat) u k, vs[j]? = some u → u.ownBlock = some k → vmm.ownBlock ≠ some k
 bf : W.ownsRow w.heap.size 48 1 vbf bs.length bs
 be : ∀ u ∈ bs, ∃ a c, u = .slice a 0 c ∧ (a = none → c = 0)
 st : IsS W b3 32 [vpc, vph, vrg, vmm, vbf, .int .i64 (-1)]
 hb : w.heap.size ≤ b3
theorem CpO.keep {w W W' : World} {b3 : Nat} {vpc vph vrg vmm vbf vbf' : Value} {vs bs bs' : List Value} {n nm : Nat} {pc : List Int} {regs : List (List Int)} {mem : List Int} (h : CpO w W b3 vpc vph vrg vmm vbf vs bs n nm pc regs mem)
    (hk : ∀ (t s : Nat) (u : Value) (m : Nat) (xs : List Value), W.ownsRow w.heap.size t s u m xs → t ≠ 48 → t ≠ 32 → ∀ k, u.ownBlock = some k → W'.heap[k]? = W.heap[k]?) (hb : W'.ownsRow w.heap.size 48 1 vbf' bs'.length bs') (hbe : ∀ u ∈ bs', ∃ a c, u = .slice a 0 c ∧ (a = none → c = 0)) (hst : IsS W' b3 32 [vpc, vph, vrg, vmm, vbf', .int .i64 (-1)]) : CpO w W' b3 vpc vph vrg vmm vbf' vs bs' n nm pc regs mem :=
 ⟨own_same h.pc (hk _ _ _ _ _ h.pc (by decide) (by decide)), own_same h.ph (hk _ _ _ _ _ h.ph (by decide) (by decide)), h.ap, ⟨h.rg.len, own_same h.rg.out (hk _ _ _ _ _ h.rg.out (by decide) (by decide)), fun j u xs hu hx => own_same (h.rg.row j u xs hu hx) (hk _ _ _ _ _ (h.rg.row j u xs hu hx) (by decide) (by decide)), h.rg.apart⟩, own_same h.mm (hk _ _ _ _ _ h.mm (by decide) (by decide)), h.am, hb, hbe, hst, h.hb⟩
theorem CpO.below {w W W' : World} {b3 : Nat} {vpc vph vrg vmm vbf : Value} {vs bs : List Value} {n nm : Nat} {pc : List Int} {regs : List (List Int)} {mem : List Int} (h : CpO w W b3 vpc vph vrg vmm vbf vs bs n nm pc regs mem) (hB : Below W.heap.size W W') : CpO w W' b3 vpc vph vrg vmm vbf vs bs n nm pc regs mem :=
 h.keep (fun t s u m xs ho _ _ k hk => hB.block k (own_lt ho hk).2) (own_below h.bf hB) h.be (h.st.grown hB)
theorem eWr : Elt 50 48 2 (.agg #[.int .i64 0, .int .i64 0]) 16 := ⟨Try.underlying48, info_parts (by kernel_rfl), rfl, by decide, by decide⟩
theorem ldcWW {b o : Nat} {v : Value} (w : World) (h : w.cell? ⟨b, o, none⟩ = some v) : (Instr.loadAt 30 (.pointer (some ⟨b, o, none⟩))).run Try.prog w = .ok v w := by simp [go_sem, h]
theorem ldcW {b o : Nat} {v : Value} (w : World) (h : w.cell? ⟨b, o, none⟩ = some v) : (Instr.loadAt 48 (.pointer (some ⟨b, o, none⟩))).run Try.prog w = .ok v w := by simp [go_sem, h]
theorem infoWW : (Try.prog.info? 30).map (·.size) = some 1 := by kernel_rfl
theorem cp_one {v4 : Value} {a b c d : Option Addr} {n1 n2 n3 n4 c1 c2 c3 c4 : Nat} {z : Int} (h : v4.oneCell' = true) : ∀ v ∈ [Value.slice a n1 c1, .slice b n2 c2, .slice c n3 c3, .slice d n4 c4, v4, .int .i64 z], v.oneCell' = true := by
 intro v hv
 simp only [List.mem_cons, List.not_mem_nil, or_false] at hv
 rcases hv with rfl | rfl | rfl | rfl | rfl | rfl
 · rfl
 · rfl
 · rfl
 · rfl
 · exact h
 · rfl
set_option maxRecDepth 100000 in
set_option maxHeartbeats 4000000 in
theorem rscopy_any (pc : List Int) (regs : List (List Int)) (mem : List Int) (ap ah ar am ab : Option Addr) (n nm cp ch cr cm cb : Nat) (w : World) (h0 : 0 < n) (hn : n ≤ 1048576) (hpl : pc.length = n) (hrl : regs.length = n) (hml : mem.length = nm) (hnm : nm ≤ 1048576) (hrf : regs.flatten.length ≤ 1048576)
    (hS : RS w (.slice ap n cp) (.slice ah n ch) (.slice ar n cr) (.slice am nm cm) (.slice ab n cb) n pc regs mem) :
    Calls Try.prog 10 #[.agg #[.slice ap n cp, .slice ah n ch, .slice ar n cr, .slice am nm cm, .slice ab n cb, .int .i64 (-1)]] w fun e w' => ∃ vpc vph vrg vmm vbf, e = .returned (.agg #[vpc, vph, vrg, vmm, vbf, .int .i64 (-1)]) ∧ (∃ b3 vs bs, bs.length = n ∧ CpO w w' b3 vpc vph vrg vmm vbf vs bs n nm pc regs mem) ∧ Below w.heap.size w w' := by
 have hC1 := fun W (h : RowsV W (.slice ar regs.length cr) intE regs) => rcopyA_any regs (by rw [hrl]; exact hn) hrf ar cr W h
 rw [hrl] at hC1
 have HP : Hid (RowV w (.slice ap n cp) n (pc.flatMap intE)) := hS.pc
 have HH : Hid (RowV w (.slice ah n ch) n ((List.replicate n (0 : Int)).flatMap intE)) := hS.ph
 have HR : Hid (RowsV w (.slice ar n cr) intE regs) := hS.rg
 have HM : Hid (RowV w (.slice am nm cm) nm (mem.flatMap intE)) := by have := hS.mm; rw [hml] at this; exact this
 have HBf : Hid (RowsV w (.slice ab n cb) wrE (List.replicate n ([] : List (Int × Int)))) := hS.bf
 have HNP : Hid (pc.length = n) := hpl
 have HNM : Hid (mem.length = nm) := hml
 have HRL : Hid (regs.length = n) := hrl
 have hnI : (n : Int) ≤ 1048576 := by omega
 clear hS hpl hml hrl hrf
 have t1 : True := trivial
 have t2 : True := trivial
 have t3 : True := trivial
 go_enter Try.func10, Try.ntmps10
 go_wp2_with (first
  | (clear t1; refine wpList_boxS rfl 32 _ rfl [.slice ap n cp, .slice ah n ch, .slice ar n cr, .slice am nm cm, .slice ab n cb, .int .i64 (-1)] rfl ?_; intro W0 b1 F0 C0; have B0 := F_b F0)
  | (clear t2; refine wpList_allocS rfl 32 rfl [.slice none 0 0, .slice none 0 0, .slice none 0 0, .slice none 0 0, .slice none 0 0, .int .i64 0] zeroSt ?_; intro W1 b2 F1 D1; have C1 := C0.fresh F1; have B1 := F1.trans B0 B0.size; have hb2 : w.heap.size ≤ b2 := Nat.le_trans B0.size (Nat.le_of_eq F1.at'.symm); have n12 : b1 ≠ b2 := (by have := C0.lt; have := F1.at'; omega); clear F0 F1 C0))
 refine region_invA 19 (fun a0 listed a' w' => ∃ vs : List Value, ∃ x5 x6 x7 x8 x9 x10 x11 x12 x13 x14 x15 x16 x17 x18 x19 x20 x21 x22 x3 : Value, a' = (((((((((((((((((((a0.put (some 5) x5).put (some 6) x6).put (some 7) x7).put (some 8) x8).put (some 9) x9).put (some 10) x10).put (some 11) x11).put (some 12) x12).put (some 13) x13).put (some 14) x14).put (some 15) x15).put (some 16) x16).put (some 17) x17).put (some 18) x18).put (some 19) x19).put (some 20) x20).put (some 21) x21).put (some 22) x22).put (some 3) x3) ∧ Hid (Below W1.heap.size W1 w') ∧ (listed.getD 7 false = true → listed.getD 3 false = true) ∧ (listed.getD 14 false = true → listed.getD 10 false = true) ∧ (listed.getD 17 false = true → listed.getD 3 false = true) ∧ (listed.getD 17 false = true → listed.getD 7 false = true) ∧ (listed.getD 17 false = true → listed.getD 10 false = true) ∧ (listed.getD 17 false = true → listed.getD 14 false = true) ∧ (listed.getD 17 false = true → listed.getD 16 false = true) ∧ (listed.getD 0 false = true → ∃ g, x5 = .slice (some ⟨g, 0, none⟩) 0 0 ∧ w'.ownsRow W1.heap.size 3 1 (.slice (some ⟨g, 0, none⟩) 0 0) 0 []) ∧ (listed.getD 1 false = true → x6 = (.pointer (some ⟨b1, 0, none⟩))) ∧ (listed.getD 2 false = true → x7 = (.slice ap n cp)) ∧ (listed.getD 3 false = true → w'.ownsRow W1.heap.size 3 1 x8 n (pc.flatMap intE)) ∧ (listed.getD 4 false = true → ∃ g, x9 = .slice (some ⟨g, 0, none⟩) 0 0 ∧ w'.ownsRow W1.heap.size 3 1 (.slice (some ⟨g, 0, none⟩) 0 0) 0 []) ∧ (listed.getD 5 false = true → x10 = (.pointer (some ⟨b1, 1, none⟩))) ∧ (listed.getD 6 false = true → x11 = (.slice ah n ch)) ∧ (listed.getD 7 false = true → w'.ownsRow W1.heap.size 3 1 x12 n ((List.replicate n (0 : Int)).flatMap intE) ∧ (∀ k, x12.ownBlock = some k → x8.ownBlock ≠ some k)) ∧ (listed.getD 8 false = true → x13 = (.pointer (some ⟨b1, 2, none⟩))) ∧ (listed.getD 9 false = true → x14 = (.slice ar n cr)) ∧ (listed.getD 10 false = true → OwnA w' W1.heap.size x15 vs regs) ∧ (listed.getD 11 false = true → ∃ g, x16 = .slice (some ⟨g, 0, none⟩) 0 0 ∧ w'.ownsRow W1.heap.size 2 1 (.slice (some ⟨g, 0, none⟩) 0 0) 0 []) ∧ (listed.getD 12 false = true → x17 = (.pointer (some ⟨b1, 3, none⟩))) ∧ (listed.getD 13 false = true → x18 = (.slice am nm cm)) ∧ (listed.getD 14 false = true → w'.ownsRow W1.heap.size 2 1 x19 nm (mem.flatMap intE) ∧ (0 < nm → ∀ (j : Nat) u k, vs[j]? = some u → u.ownBlock = some k → x19.ownBlock ≠ some k)) ∧ (listed.getD 15 false = true → x20 = (.pointer (some ⟨b1, 5, none⟩))) ∧ (listed.getD 16 false = true → x21 = (.int .i64 (-1))) ∧ (listed.getD 17 false = true → x22 = .agg #[x8, x12, x15, x19, .slice none 0 0, .int .i64 (-1)]) ∧ (listed.getD 18 false = true → ∃ b3, x3 = .pointer (some ⟨b3, 0, none⟩) ∧ W1.heap.size ≤ b3 ∧ IsS w' b3 32 [.slice none 0 0, .slice none 0 0, .slice none 0 0, .slice none 0 0, .slice none 0 0, .int .i64 0])) (by kernel_rfl) (by kernel_rfl) ?i0 ?istep ?iend
 case i0 => exact ⟨[], _, _, _, _, _, _, _, _, _, _, _, _, _, _, _, _, _, _, _, by (try simp only [sP]) <;> rfl, below_drew bR, fun h => (not_rep h).elim, fun h => (not_rep h).elim, fun h => (not_rep h).elim, fun h => (not_rep h).elim, fun h => (not_rep h).elim, fun h => (not_rep h).elim, fun h => (not_rep h).elim, fun h => (not_rep h).elim, fun h => (not_rep h).elim, fun h => (not_rep h).elim, fun h => (not_rep h).elim, fun h => (not_rep h).elim, fun h => (not_rep h).elim, fun h => (not_rep h).elim, fun h => (not_rep h).elim, fun h => (not_rep h).elim, fun h => (not_rep h).elim, fun h => (not_rep h).elim, fun h => (not_rep h).elim, fun h => (not_rep h).elim, fun h => (not_rep h).elim, fun h => (not_rep h).elim, fun h => (not_rep h).elim, fun h => (not_rep h).elim, fun h => (not_rep h).elim, fun h => (not_rep h).elim⟩
 case istep =>
  rintro i listed a' w' hi hr ⟨vs, x5, x6, x7, x8, x9, x10, x11, x12, x13, x14, x15, x16, x17, x18, x19, x20, x21, x22, x3, rfl, HBw, m7_3, m14_10, m17_3, m17_7, m17_10, m17_14, m17_16, d0, d1, d2, d3, d4, d5, d6, d7, d8, d9, d10, d11, d12, d13, d14, d15, d16, d17, d18⟩
  obtain ⟨hun, oj, hoj, hwt⟩ := mem_ready.1 hr
  simp only [sP]
  have hcase : i = 0 ∨ i = 1 ∨ i = 2 ∨ i = 3 ∨ i = 4 ∨ i = 5 ∨ i = 6 ∨ i = 7 ∨ i = 8 ∨ i = 9 ∨ i = 10 ∨ i = 11 ∨ i = 12 ∨ i = 13 ∨ i = 14 ∨ i = 15 ∨ i = 16 ∨ i = 17 ∨ i = 18 := by omega
  rcases hcase with rfl | rfl | rfl | rfl | rfl | rfl | rfl | rfl | rfl | rfl | rfl | rfl | rfl | rfl | rfl | rfl | rfl | rfl | rfl
  · have hoj2 := hoj
    obtain rfl := oI hoj
    refine wpOp_value hoj2 rfl (exec_build0 eIntI rfl) ?_
    have B9 := F_b (Fresh.alloc w' (.cells #[] 3))
    exact ⟨vs, _, x6, x7, x8, x9, x10, x11, x12, x13, x14, x15, x16, x17, x18, x19, x20, x21, x22, x3, by (try simp only [sP]) <;> rfl, Below.then HBw.out B9, fun h => keepT (m7_3 (kp h)), fun h => keepT (m14_10 (kp h)), fun h => keepT (m17_3 (kp h)), fun h => keepT (m17_7 (kp h)), fun h => keepT (m17_10 (kp h)), fun h => keepT (m17_14 (kp h)), fun h => keepT (m17_16 (kp h)), fun _ => ⟨_, rfl, own_raise (own_build0 eIntI w') HBw.out.size⟩, d1 ∘ kq, d2 ∘ kq, fun h => (own_below (d3 (kp h)) B9), fun h => (eE (d4 (kp h)) fun g h => ⟨g, h.1, own_below h.2 B9⟩), d5 ∘ kq, d6 ∘ kq, fun h => ⟨own_below (d7 (kp h)).1 B9, (d7 (kp h)).2⟩, d8 ∘ kq, d9 ∘ kq, fun h => (OwnA.below (d10 (kp h)) B9), fun h => (eE (d11 (kp h)) fun g h => ⟨g, h.1, own_below h.2 B9⟩), d12 ∘ kq, d13 ∘ kq, fun h => ⟨own_below (d14 (kp h)).1 B9, (d14 (kp h)).2⟩, d15 ∘ kq, d16 ∘ kq, d17 ∘ kq, fun h => (eE (d18 (kp h)) fun b h => ⟨b, h.1, h.2.1, h.2.2.grown B9⟩)⟩
  · have hoj2 := hoj
    obtain rfl := oI hoj
    refine wpOp_value hoj2 rfl (v := (.pointer (some ⟨b1, 0, none⟩))) (w' := w') (by first | rfl | (go_simp; done) | (simp [go_sem]; done) | (simp [execOp, go_sem]; done)) ?_
    exact ⟨vs, x5, (.pointer (some ⟨b1, 0, none⟩)), x7, x8, x9, x10, x11, x12, x13, x14, x15, x16, x17, x18, x19, x20, x21, x22, x3, by (try simp only [sP]) <;> rfl, Below.then HBw.out bR, fun h => keepT (m7_3 (kp h)), fun h => keepT (m14_10 (kp h)), fun h => keepT (m17_3 (kp h)), fun h => keepT (m17_7 (kp h)), fun h => keepT (m17_10 (kp h)), fun h => keepT (m17_14 (kp h)), fun h => keepT (m17_16 (kp h)), fun h => (eE (d0 (kp h)) fun g h => ⟨g, h.1, own_below h.2 bR⟩), fun _ => rfl, d2 ∘ kq, fun h => (own_below (d3 (kp h)) bR), fun h => (eE (d4 (kp h)) fun g h => ⟨g, h.1, own_below h.2 bR⟩), d5 ∘ kq, d6 ∘ kq, fun h => ⟨own_below (d7 (kp h)).1 bR, (d7 (kp h)).2⟩, d8 ∘ kq, d9 ∘ kq, fun h => (OwnA.below (d10 (kp h)) bR), fun h => (eE (d11 (kp h)) fun g h => ⟨g, h.1, own_below h.2 bR⟩), d12 ∘ kq, d13 ∘ kq, fun h => ⟨own_below (d14 (kp h)).1 bR, (d14 (kp h)).2⟩, d15 ∘ kq, d16 ∘ kq, d17 ∘ kq, fun h => (eE (d18 (kp h)) fun b h => ⟨b, h.1, h.2.1, h.2.2.grown bR⟩)⟩
  · have hoj2 := hoj
    obtain rfl := oI hoj
    have e1 := d1 (hwt ⟨1, .data⟩ (by simp) rfl)
    subst e1
    refine wpOp_cell hoj2 rfl 29 _ rfl rfl (v := (.slice ap n cp)) (ldcIs w' ((IsS.cell (C1.grown HBw.out) 0).trans rfl)) ?_
    exact ⟨vs, x5, (.pointer (some ⟨b1, 0, none⟩)), (.slice ap n cp), x8, x9, x10, x11, x12, x13, x14, x15, x16, x17, x18, x19, x20, x21, x22, x3, by (try simp only [sP]) <;> rfl, Below.then HBw.out bR, fun h => keepT (m7_3 (kp h)), fun h => keepT (m14_10 (kp h)), fun h => keepT (m17_3 (kp h)), fun h => keepT (m17_7 (kp h)), fun h => keepT (m17_10 (kp h)), fun h => keepT (m17_14 (kp h)), fun h => keepT (m17_16 (kp h)), fun h => (eE (d0 (kp h)) fun g h => ⟨g, h.1, own_below h.2 bR⟩), d1 ∘ kq, fun _ => rfl, fun h => (own_below (d3 (kp h)) bR), fun h => (eE (d4 (kp h)) fun g h => ⟨g, h.1, own_below h.2 bR⟩), d5 ∘ kq, d6 ∘ kq, fun h => ⟨own_below (d7 (kp h)).1 bR, (d7 (kp h)).2⟩, d8 ∘ kq, d9 ∘ kq, fun h => (OwnA.below (d10 (kp h)) bR), fun h => (eE (d11 (kp h)) fun g h => ⟨g, h.1, own_below h.2 bR⟩), d12 ∘ kq, d13 ∘ kq, fun h => ⟨own_below (d14 (kp h)).1 bR, (d14 (kp h)).2⟩, d15 ∘ kq, d16 ∘ kq, d17 ∘ kq, fun h => (eE (d18 (kp h)) fun b h => ⟨b, h.1, h.2.1, h.2.2.grown bR⟩)⟩
  · have hoj2 := hoj
    obtain rfl := oI hoj
    have e0 := d0 (hwt ⟨0, .data⟩ (by simp) rfl)
    have e2 := d2 (hwt ⟨2, .data⟩ (by simp) rfl)
    obtain ⟨g0, rfl, O0⟩ := e0
    subst e2
    obtain ⟨v', W', hrun, O', B', HW'⟩ := run_app0L eIntI W1.heap.size g0 O0 (.slice ap n cp) n (pc.flatMap intE) (HP.out.below (Below.then B1 HBw.out)) (by rw [int_len, HNP.out]) (int_one pc) (by omega) HBw.out.size 29
    refine wpOp_value hoj2 rfl (exec_app _ _ rfl rfl rfl hrun) ?_
    exact ⟨vs, (.slice (some ⟨g0, 0, none⟩) 0 0), x6, (.slice ap n cp), v', x9, x10, x11, x12, x13, x14, x15, x16, x17, x18, x19, x20, x21, x22, x3, by (try simp only [sP]) <;> rfl, Below.then HBw.out B', fun h => keepT (m7_3 (kp h)), fun h => keepT (m14_10 (kp h)), fun h => keepT (m17_3 (kp h)), fun h => keepT (m17_7 (kp h)), fun h => keepT (m17_10 (kp h)), fun h => keepT (m17_14 (kp h)), fun h => keepT (m17_16 (kp h)), fun h => (eE (d0 (kp h)) fun g h => ⟨g, h.1, own_below h.2 B'⟩), d1 ∘ kq, d2 ∘ kq, fun _ => O', fun h => (eE (d4 (kp h)) fun g h => ⟨g, h.1, own_below h.2 B'⟩), d5 ∘ kq, d6 ∘ kq, fun h => absurd (m7_3 (kp h)) (by rw [getD_both hun]; simp), d8 ∘ kq, d9 ∘ kq, fun h => (OwnA.below (d10 (kp h)) B'), fun h => (eE (d11 (kp h)) fun g h => ⟨g, h.1, own_below h.2 B'⟩), d12 ∘ kq, d13 ∘ kq, fun h => ⟨own_below (d14 (kp h)).1 B', (d14 (kp h)).2⟩, d15 ∘ kq, d16 ∘ kq, fun h => absurd (m17_3 (kp h)) (by rw [getD_both hun]; simp), fun h => (eE (d18 (kp h)) fun b h => ⟨b, h.1, h.2.1, h.2.2.grown B'⟩)⟩
  · have hoj2 := hoj
    obtain rfl := oI hoj
    refine wpOp_value hoj2 rfl (exec_build0 eIntI rfl) ?_
    have B9 := F_b (Fresh.alloc w' (.cells #[] 3))
    exact ⟨vs, x5, x6, x7, x8, _, x10, x11, x12, x13, x14, x15, x16, x17, x18, x19, x20, x21, x22, x3, by (try simp only [sP]) <;> rfl, Below.then HBw.out B9, fun h => keepT (m7_3 (kp h)), fun h => keepT (m14_10 (kp h)), fun h => keepT (m17_3 (kp h)), fun h => keepT (m17_7 (kp h)), fun h => keepT (m17_10 (kp h)), fun h => keepT (m17_14 (kp h)), fun h => keepT (m17_16 (kp h)), fun h => (eE (d0 (kp h)) fun g h => ⟨g, h.1, own_below h.2 B9⟩), d1 ∘ kq, d2 ∘ kq, fun h => (own_below (d3 (kp h)) B9), fun _ => ⟨_, rfl, own_raise (own_build0 eIntI w') HBw.out.size⟩, d5 ∘ kq, d6 ∘ kq, fun h => ⟨own_below (d7 (kp h)).1 B9, (d7 (kp h)).2⟩, d8 ∘ kq, d9 ∘ kq, fun h => (OwnA.below (d10 (kp h)) B9), fun h => (eE (d11 (kp h)) fun g h => ⟨g, h.1, own_below h.2 B9⟩), d12 ∘ kq, d13 ∘ kq, fun h => ⟨own_below (d14 (kp h)).1 B9, (d14 (kp h)).2⟩, d15 ∘ kq, d16 ∘ kq, d17 ∘ kq, fun h => (eE (d18 (kp h)) fun b h => ⟨b, h.1, h.2.1, h.2.2.grown B9⟩)⟩
  · have hoj2 := hoj
    obtain rfl := oI hoj
    refine wpOp_value hoj2 rfl (v := (.pointer (some ⟨b1, 1, none⟩))) (w' := w') (by first | rfl | (go_simp; done) | (simp [go_sem]; done) | (simp [execOp, go_sem]; done)) ?_
    exact ⟨vs, x5, x6, x7, x8, x9, (.pointer (some ⟨b1, 1, none⟩)), x11, x12, x13, x14, x15, x16, x17, x18, x19, x20, x21, x22, x3, by (try simp only [sP]) <;> rfl, Below.then HBw.out bR, fun h => keepT (m7_3 (kp h)), fun h => keepT (m14_10 (kp h)), fun h => keepT (m17_3 (kp h)), fun h => keepT (m17_7 (kp h)), fun h => keepT (m17_10 (kp h)), fun h => keepT (m17_14 (kp h)), fun h => keepT (m17_16 (kp h)), fun h => (eE (d0 (kp h)) fun g h => ⟨g, h.1, own_below h.2 bR⟩), d1 ∘ kq, d2 ∘ kq, fun h => (own_below (d3 (kp h)) bR), fun h => (eE (d4 (kp h)) fun g h => ⟨g, h.1, own_below h.2 bR⟩), fun _ => rfl, d6 ∘ kq, fun h => ⟨own_below (d7 (kp h)).1 bR, (d7 (kp h)).2⟩, d8 ∘ kq, d9 ∘ kq, fun h => (OwnA.below (d10 (kp h)) bR), fun h => (eE (d11 (kp h)) fun g h => ⟨g, h.1, own_below h.2 bR⟩), d12 ∘ kq, d13 ∘ kq, fun h => ⟨own_below (d14 (kp h)).1 bR, (d14 (kp h)).2⟩, d15 ∘ kq, d16 ∘ kq, d17 ∘ kq, fun h => (eE (d18 (kp h)) fun b h => ⟨b, h.1, h.2.1, h.2.2.grown bR⟩)⟩
  · have hoj2 := hoj
    obtain rfl := oI hoj
    have e5 := d5 (hwt ⟨5, .data⟩ (by simp) rfl)
    subst e5
    refine wpOp_cell hoj2 rfl 29 _ rfl rfl (v := (.slice ah n ch)) (ldcIs w' ((IsS.cell (C1.grown HBw.out) 1).trans rfl)) ?_
    exact ⟨vs, x5, x6, x7, x8, x9, (.pointer (some ⟨b1, 1, none⟩)), (.slice ah n ch), x12, x13, x14, x15, x16, x17, x18, x19, x20, x21, x22, x3, by (try simp only [sP]) <;> rfl, Below.then HBw.out bR, fun h => keepT (m7_3 (kp h)), fun h => keepT (m14_10 (kp h)), fun h => keepT (m17_3 (kp h)), fun h => keepT (m17_7 (kp h)), fun h => keepT (m17_10 (kp h)), fun h => keepT (m17_14 (kp h)), fun h => keepT (m17_16 (kp h)), fun h => (eE (d0 (kp h)) fun g h => ⟨g, h.1, own_below h.2 bR⟩), d1 ∘ kq, d2 ∘ kq, fun h => (own_below (d3 (kp h)) bR), fun h => (eE (d4 (kp h)) fun g h => ⟨g, h.1, own_below h.2 bR⟩), d5 ∘ kq, fun _ => rfl, fun h => ⟨own_below (d7 (kp h)).1 bR, (d7 (kp h)).2⟩, d8 ∘ kq, d9 ∘ kq, fun h => (OwnA.below (d10 (kp h)) bR), fun h => (eE (d11 (kp h)) fun g h => ⟨g, h.1, own_below h.2 bR⟩), d12 ∘ kq, d13 ∘ kq, fun h => ⟨own_below (d14 (kp h)).1 bR, (d14 (kp h)).2⟩, d15 ∘ kq, d16 ∘ kq, d17 ∘ kq, fun h => (eE (d18 (kp h)) fun b h => ⟨b, h.1, h.2.1, h.2.2.grown bR⟩)⟩
  · have hoj2 := hoj
    obtain rfl := oI hoj
    have e4 := d4 (hwt ⟨4, .data⟩ (by simp) rfl)
    have e6 := d6 (hwt ⟨6, .data⟩ (by simp) rfl)
    have e3 := d3 (hwt ⟨3, .chain⟩ (by simp) rfl)
    obtain ⟨g0, rfl, O0⟩ := e4
    subst e6
    obtain ⟨v', W', hrun, O', B', HW'⟩ := run_app0L eIntI W1.heap.size g0 O0 (.slice ah n ch) n ((List.replicate n (0 : Int)).flatMap intE) (HH.out.below (Below.then B1 HBw.out)) (by rw [int_len, List.length_replicate]) (int_one _) (by omega) HBw.out.size 29
    refine wpOp_value hoj2 rfl (exec_app _ _ rfl rfl rfl hrun) ?_
    exact ⟨vs, x5, x6, x7, x8, (.slice (some ⟨g0, 0, none⟩) 0 0), x10, (.slice ah n ch), v', x13, x14, x15, x16, x17, x18, x19, x20, x21, x22, x3, by (try simp only [sP]) <;> rfl, Below.then HBw.out B', fun _ => keepT (hwt ⟨3, .chain⟩ (by simp) rfl), fun h => keepT (m14_10 (kp h)), fun h => keepT (m17_3 (kp h)), fun h => keepT (m17_7 (kp h)), fun h => keepT (m17_10 (kp h)), fun h => keepT (m17_14 (kp h)), fun h => keepT (m17_16 (kp h)), fun h => (eE (d0 (kp h)) fun g h => ⟨g, h.1, own_below h.2 B'⟩), d1 ∘ kq, d2 ∘ kq, fun h => (own_below (d3 (kp h)) B'), fun h => (eE (d4 (kp h)) fun g h => ⟨g, h.1, own_below h.2 B'⟩), d5 ∘ kq, d6 ∘ kq, fun _ => ⟨O', fun k hk hk2 => app_far HW' h0 (own_lt e3 hk2).2 hk⟩, d8 ∘ kq, d9 ∘ kq, fun h => (OwnA.below (d10 (kp h)) B'), fun h => (eE (d11 (kp h)) fun g h => ⟨g, h.1, own_below h.2 B'⟩), d12 ∘ kq, d13 ∘ kq, fun h => ⟨own_below (d14 (kp h)).1 B', (d14 (kp h)).2⟩, d15 ∘ kq, d16 ∘ kq, fun h => absurd (m17_7 (kp h)) (by rw [getD_both hun]; simp), fun h => (eE (d18 (kp h)) fun b h => ⟨b, h.1, h.2.1, h.2.2.grown B'⟩)⟩
  · have hoj2 := hoj
    obtain rfl := oI hoj
    refine wpOp_value hoj2 rfl (v := (.pointer (some ⟨b1, 2, none⟩))) (w' := w') (by first | rfl | (go_simp; done) | (simp [go_sem]; done) | (simp [execOp, go_sem]; done)) ?_
    exact ⟨vs, x5, x6, x7, x8, x9, x10, x11, x12, (.pointer (some ⟨b1, 2, none⟩)), x14, x15, x16, x17, x18, x19, x20, x21, x22, x3, by (try simp only [sP]) <;> rfl, Below.then HBw.out bR, fun h => keepT (m7_3 (kp h)), fun h => keepT (m14_10 (kp h)), fun h => keepT (m17_3 (kp h)), fun h => keepT (m17_7 (kp h)), fun h => keepT (m17_10 (kp h)), fun h => keepT (m17_14 (kp h)), fun h => keepT (m17_16 (kp h)), fun h => (eE (d0 (kp h)) fun g h => ⟨g, h.1, own_below h.2 bR⟩), d1 ∘ kq, d2 ∘ kq, fun h => (own_below (d3 (kp h)) bR), fun h => (eE (d4 (kp h)) fun g h => ⟨g, h.1, own_below h.2 bR⟩), d5 ∘ kq, d6 ∘ kq, fun h => ⟨own_below (d7 (kp h)).1 bR, (d7 (kp h)).2⟩, fun _ => rfl, d9 ∘ kq, fun h => (OwnA.below (d10 (kp h)) bR), fun h => (eE (d11 (kp h)) fun g h => ⟨g, h.1, own_below h.2 bR⟩), d12 ∘ kq, d13 ∘ kq, fun h => ⟨own_below (d14 (kp h)).1 bR, (d14 (kp h)).2⟩, d15 ∘ kq, d16 ∘ kq, d17 ∘ kq, fun h => (eE (d18 (kp h)) fun b h => ⟨b, h.1, h.2.1, h.2.2.grown bR⟩)⟩
  · have hoj2 := hoj
    obtain rfl := oI hoj
    have e8 := d8 (hwt ⟨8, .data⟩ (by simp) rfl)
    subst e8
    refine wpOp_cell hoj2 rfl 25 _ rfl rfl (v := (.slice ar n cr)) (ldcRr w' ((IsS.cell (C1.grown HBw.out) 2).trans rfl)) ?_
    exact ⟨vs, x5, x6, x7, x8, x9, x10, x11, x12, (.pointer (some ⟨b1, 2, none⟩)), (.slice ar n cr), x15, x16, x17, x18, x19, x20, x21, x22, x3, by (try simp only [sP]) <;> rfl, Below.then HBw.out bR, fun h => keepT (m7_3 (kp h)), fun h => keepT (m14_10 (kp h)), fun h => keepT (m17_3 (kp h)), fun h => keepT (m17_7 (kp h)), fun h => keepT (m17_10 (kp h)), fun h => keepT (m17_14 (kp h)), fun h => keepT (m17_16 (kp h)), fun h => (eE (d0 (kp h)) fun g h => ⟨g, h.1, own_below h.2 bR⟩), d1 ∘ kq, d2 ∘ kq, fun h => (own_below (d3 (kp h)) bR), fun h => (eE (d4 (kp h)) fun g h => ⟨g, h.1, own_below h.2 bR⟩), d5 ∘ kq, d6 ∘ kq, fun h => ⟨own_below (d7 (kp h)).1 bR, (d7 (kp h)).2⟩, d8 ∘ kq, fun _ => rfl, fun h => (OwnA.below (d10 (kp h)) bR), fun h => (eE (d11 (kp h)) fun g h => ⟨g, h.1, own_below h.2 bR⟩), d12 ∘ kq, d13 ∘ kq, fun h => ⟨own_below (d14 (kp h)).1 bR, (d14 (kp h)).2⟩, d15 ∘ kq, d16 ∘ kq, d17 ∘ kq, fun h => (eE (d18 (kp h)) fun b h => ⟨b, h.1, h.2.1, h.2.2.grown bR⟩)⟩
  · have hoj2 := hoj
    obtain rfl := oI hoj
    have e9 := d9 (hwt ⟨9, .data⟩ (by simp) rfl)
    have e7 := d7 (hwt ⟨7, .chain⟩ (by simp) rfl)
    subst e9
    refine wpOp_call hoj2 rfl (f := 40) (args := #[.slice ar n cr]) (by first | rfl | (go_simp; done) | (simp [go_sem]; done) | (simp [execOp, go_sem]; done)) ?_
    refine (hC1 w' (HR.out.below (Below.then B1 HBw.out))).mono ?_
    rintro e w4 ⟨v7, rfl, ⟨vs', O7⟩, B4⟩
    refine ⟨_, rfl, ?_⟩
    exact ⟨vs', x5, x6, x7, x8, x9, x10, x11, x12, x13, (.slice ar n cr), v7, x16, x17, x18, x19, x20, x21, x22, x3, by (try simp only [sP]) <;> rfl, Below.then HBw.out B4, fun h => keepT (m7_3 (kp h)), fun h => keepT (m14_10 (kp h)), fun h => keepT (m17_3 (kp h)), fun h => keepT (m17_7 (kp h)), fun h => keepT (m17_10 (kp h)), fun h => keepT (m17_14 (kp h)), fun h => keepT (m17_16 (kp h)), fun h => (eE (d0 (kp h)) fun g h => ⟨g, h.1, own_below h.2 B4⟩), d1 ∘ kq, d2 ∘ kq, fun h => (own_below (d3 (kp h)) B4), fun h => (eE (d4 (kp h)) fun g h => ⟨g, h.1, own_below h.2 B4⟩), d5 ∘ kq, d6 ∘ kq, fun h => ⟨own_below (d7 (kp h)).1 B4, (d7 (kp h)).2⟩, d8 ∘ kq, d9 ∘ kq, fun _ => O7.raise HBw.out.size, fun h => (eE (d11 (kp h)) fun g h => ⟨g, h.1, own_below h.2 B4⟩), d12 ∘ kq, d13 ∘ kq, fun h => absurd (m14_10 (kp h)) (by rw [getD_both hun]; simp), d15 ∘ kq, d16 ∘ kq, fun h => absurd (m17_10 (kp h)) (by rw [getD_both hun]; simp), fun h => (eE (d18 (kp h)) fun b h => ⟨b, h.1, h.2.1, h.2.2.grown B4⟩)⟩
  · have hoj2 := hoj
    obtain rfl := oI hoj
    refine wpOp_value hoj2 rfl (exec_build0 eInt rfl) ?_
    have B9 := F_b (Fresh.alloc w' (.cells #[] 2))
    exact ⟨vs, x5, x6, x7, x8, x9, x10, x11, x12, x13, x14, x15, _, x17, x18, x19, x20, x21, x22, x3, by (try simp only [sP]) <;> rfl, Below.then HBw.out B9, fun h => keepT (m7_3 (kp h)), fun h => keepT (m14_10 (kp h)), fun h => keepT (m17_3 (kp h)), fun h => keepT (m17_7 (kp h)), fun h => keepT (m17_10 (kp h)), fun h => keepT (m17_14 (kp h)), fun h => keepT (m17_16 (kp h)), fun h => (eE (d0 (kp h)) fun g h => ⟨g, h.1, own_below h.2 B9⟩), d1 ∘ kq, d2 ∘ kq, fun h => (own_below (d3 (kp h)) B9), fun h => (eE (d4 (kp h)) fun g h => ⟨g, h.1, own_below h.2 B9⟩), d5 ∘ kq, d6 ∘ kq, fun h => ⟨own_below (d7 (kp h)).1 B9, (d7 (kp h)).2⟩, d8 ∘ kq, d9 ∘ kq, fun h => (OwnA.below (d10 (kp h)) B9), fun _ => ⟨_, rfl, own_raise (own_build0 eInt w') HBw.out.size⟩, d12 ∘ kq, d13 ∘ kq, fun h => ⟨own_below (d14 (kp h)).1 B9, (d14 (kp h)).2⟩, d15 ∘ kq, d16 ∘ kq, d17 ∘ kq, fun h => (eE (d18 (kp h)) fun b h => ⟨b, h.1, h.2.1, h.2.2.grown B9⟩)⟩
  · have hoj2 := hoj
    obtain rfl := oI hoj
    refine wpOp_value hoj2 rfl (v := (.pointer (some ⟨b1, 3, none⟩))) (w' := w') (by first | rfl | (go_simp; done) | (simp [go_sem]; done) | (simp [execOp, go_sem]; done)) ?_
    exact ⟨vs, x5, x6, x7, x8, x9, x10, x11, x12, x13, x14, x15, x16, (.pointer (some ⟨b1, 3, none⟩)), x18, x19, x20, x21, x22, x3, by (try simp only [sP]) <;> rfl, Below.then HBw.out bR, fun h => keepT (m7_3 (kp h)), fun h => keepT (m14_10 (kp h)), fun h => keepT (m17_3 (kp h)), fun h => keepT (m17_7 (kp h)), fun h => keepT (m17_10 (kp h)), fun h => keepT (m17_14 (kp h)), fun h => keepT (m17_16 (kp h)), fun h => (eE (d0 (kp h)) fun g h => ⟨g, h.1, own_below h.2 bR⟩), d1 ∘ kq, d2 ∘ kq, fun h => (own_below (d3 (kp h)) bR), fun h => (eE (d4 (kp h)) fun g h => ⟨g, h.1, own_below h.2 bR⟩), d5 ∘ kq, d6 ∘ kq, fun h => ⟨own_below (d7 (kp h)).1 bR, (d7 (kp h)).2⟩, d8 ∘ kq, d9 ∘ kq, fun h => (OwnA.below (d10 (kp h)) bR), fun h => (eE (d11 (kp h)) fun g h => ⟨g, h.1, own_below h.2 bR⟩), fun _ => rfl, d13 ∘ kq, fun h => ⟨own_below (d14 (kp h)).1 bR, (d14 (kp h)).2⟩, d15 ∘ kq, d16 ∘ kq, d17 ∘ kq, fun h => (eE (d18 (kp h)) fun b h => ⟨b, h.1, h.2.1, h.2.2.grown bR⟩)⟩
  · have hoj2 := hoj
    obtain rfl := oI hoj
    have e12 := d12 (hwt ⟨12, .data⟩ (by simp) rfl)
    subst e12
    refine wpOp_cell hoj2 rfl 26 _ rfl rfl (v := (.slice am nm cm)) (ldcR w' ((IsS.cell (C1.grown HBw.out) 3).trans rfl)) ?_
    exact ⟨vs, x5, x6, x7, x8, x9, x10, x11, x12, x13, x14, x15, x16, (.pointer (some ⟨b1, 3, none⟩)), (.slice am nm cm), x19, x20, x21, x22, x3, by (try simp only [sP]) <;> rfl, Below.then HBw.out bR, fun h => keepT (m7_3 (kp h)), fun h => keepT (m14_10 (kp h)), fun h => keepT (m17_3 (kp h)), fun h => keepT (m17_7 (kp h)), fun h => keepT (m17_10 (kp h)), fun h => keepT (m17_14 (kp h)), fun h => keepT (m17_16 (kp h)), fun h => (eE (d0 (kp h)) fun g h => ⟨g, h.1, own_below h.2 bR⟩), d1 ∘ kq, d2 ∘ kq, fun h => (own_below (d3 (kp h)) bR), fun h => (eE (d4 (kp h)) fun g h => ⟨g, h.1, own_below h.2 bR⟩), d5 ∘ kq, d6 ∘ kq, fun h => ⟨own_below (d7 (kp h)).1 bR, (d7 (kp h)).2⟩, d8 ∘ kq, d9 ∘ kq, fun h => (OwnA.below (d10 (kp h)) bR), fun h => (eE (d11 (kp h)) fun g h => ⟨g, h.1, own_below h.2 bR⟩), d12 ∘ kq, fun _ => rfl, fun h => ⟨own_below (d14 (kp h)).1 bR, (d14 (kp h)).2⟩, d15 ∘ kq, d16 ∘ kq, d17 ∘ kq, fun h => (eE (d18 (kp h)) fun b h => ⟨b, h.1, h.2.1, h.2.2.grown bR⟩)⟩
  · have hoj2 := hoj
    obtain rfl := oI hoj
    have e11 := d11 (hwt ⟨11, .data⟩ (by simp) rfl)
    have e13 := d13 (hwt ⟨13, .data⟩ (by simp) rfl)
    have e10 := d10 (hwt ⟨10, .chain⟩ (by simp) rfl)
    obtain ⟨g0, rfl, O0⟩ := e11
    subst e13
    obtain ⟨v', W', hrun, O', B', HW'⟩ := run_app0L eInt W1.heap.size g0 O0 (.slice am nm cm) nm (mem.flatMap intE) (HM.out.below (Below.then B1 HBw.out)) (by rw [int_len, HNM.out]) (int_one mem) (by omega) HBw.out.size 26
    refine wpOp_value hoj2 rfl (exec_app _ _ rfl rfl rfl hrun) ?_
    exact ⟨vs, x5, x6, x7, x8, x9, x10, x11, x12, x13, x14, x15, (.slice (some ⟨g0, 0, none⟩) 0 0), x17, (.slice am nm cm), v', x20, x21, x22, x3, by (try simp only [sP]) <;> rfl, Below.then HBw.out B', fun h => keepT (m7_3 (kp h)), fun _ => keepT (hwt ⟨10, .chain⟩ (by simp) rfl), fun h => keepT (m17_3 (kp h)), fun h => keepT (m17_7 (kp h)), fun h => keepT (m17_10 (kp h)), fun h => keepT (m17_14 (kp h)), fun h => keepT (m17_16 (kp h)), fun h => (eE (d0 (kp h)) fun g h => ⟨g, h.1, own_below h.2 B'⟩), d1 ∘ kq, d2 ∘ kq, fun h => (own_below (d3 (kp h)) B'), fun h => (eE (d4 (kp h)) fun g h => ⟨g, h.1, own_below h.2 B'⟩), d5 ∘ kq, d6 ∘ kq, fun h => ⟨own_below (d7 (kp h)).1 B', (d7 (kp h)).2⟩, d8 ∘ kq, d9 ∘ kq, fun h => (OwnA.below (d10 (kp h)) B'), fun h => (eE (d11 (kp h)) fun g h => ⟨g, h.1, own_below h.2 B'⟩), d12 ∘ kq, d13 ∘ kq, fun _ => ⟨O', fun h0 j u k hu hk hk2 => app_far HW' h0 (e10.range hu hk).2 hk2⟩, d15 ∘ kq, d16 ∘ kq, fun h => absurd (m17_14 (kp h)) (by rw [getD_both hun]; simp), fun h => (eE (d18 (kp h)) fun b h => ⟨b, h.1, h.2.1, h.2.2.grown B'⟩)⟩
  · have hoj2 := hoj
    obtain rfl := oI hoj
    refine wpOp_value hoj2 rfl (v := (.pointer (some ⟨b1, 5, none⟩))) (w' := w') (by first | rfl | (go_simp; done) | (simp [go_sem]; done) | (simp [execOp, go_sem]; done)) ?_
    exact ⟨vs, x5, x6, x7, x8, x9, x10, x11, x12, x13, x14, x15, x16, x17, x18, x19, (.pointer (some ⟨b1, 5, none⟩)), x21, x22, x3, by (try simp only [sP]) <;> rfl, Below.then HBw.out bR, fun h => keepT (m7_3 (kp h)), fun h => keepT (m14_10 (kp h)), fun h => keepT (m17_3 (kp h)), fun h => keepT (m17_7 (kp h)), fun h => keepT (m17_10 (kp h)), fun h => keepT (m17_14 (kp h)), fun h => keepT (m17_16 (kp h)), fun h => (eE (d0 (kp h)) fun g h => ⟨g, h.1, own_below h.2 bR⟩), d1 ∘ kq, d2 ∘ kq, fun h => (own_below (d3 (kp h)) bR), fun h => (eE (d4 (kp h)) fun g h => ⟨g, h.1, own_below h.2 bR⟩), d5 ∘ kq, d6 ∘ kq, fun h => ⟨own_below (d7 (kp h)).1 bR, (d7 (kp h)).2⟩, d8 ∘ kq, d9 ∘ kq, fun h => (OwnA.below (d10 (kp h)) bR), fun h => (eE (d11 (kp h)) fun g h => ⟨g, h.1, own_below h.2 bR⟩), d12 ∘ kq, d13 ∘ kq, fun h => ⟨own_below (d14 (kp h)).1 bR, (d14 (kp h)).2⟩, fun _ => rfl, d16 ∘ kq, d17 ∘ kq, fun h => (eE (d18 (kp h)) fun b h => ⟨b, h.1, h.2.1, h.2.2.grown bR⟩)⟩
  · have hoj2 := hoj
    obtain rfl := oI hoj
    have e15 := d15 (hwt ⟨15, .data⟩ (by simp) rfl)
    subst e15
    refine wpOp_cell hoj2 rfl 3 _ rfl rfl (v := (.int .i64 (-1))) (ldcI w' ((IsS.cell (C1.grown HBw.out) 5).trans rfl)) ?_
    exact ⟨vs, x5, x6, x7, x8, x9, x10, x11, x12, x13, x14, x15, x16, x17, x18, x19, (.pointer (some ⟨b1, 5, none⟩)), (.int .i64 (-1)), x22, x3, by (try simp only [sP]) <;> rfl, Below.then HBw.out bR, fun h => keepT (m7_3 (kp h)), fun h => keepT (m14_10 (kp h)), fun h => keepT (m17_3 (kp h)), fun h => keepT (m17_7 (kp h)), fun h => keepT (m17_10 (kp h)), fun h => keepT (m17_14 (kp h)), fun h => keepT (m17_16 (kp h)), fun h => (eE (d0 (kp h)) fun g h => ⟨g, h.1, own_below h.2 bR⟩), d1 ∘ kq, d2 ∘ kq, fun h => (own_below (d3 (kp h)) bR), fun h => (eE (d4 (kp h)) fun g h => ⟨g, h.1, own_below h.2 bR⟩), d5 ∘ kq, d6 ∘ kq, fun h => ⟨own_below (d7 (kp h)).1 bR, (d7 (kp h)).2⟩, d8 ∘ kq, d9 ∘ kq, fun h => (OwnA.below (d10 (kp h)) bR), fun h => (eE (d11 (kp h)) fun g h => ⟨g, h.1, own_below h.2 bR⟩), d12 ∘ kq, d13 ∘ kq, fun h => ⟨own_below (d14 (kp h)).1 bR, (d14 (kp h)).2⟩, d15 ∘ kq, fun _ => rfl, fun h => absurd (m17_16 (kp h)) (by rw [getD_both hun]; simp), fun h => (eE (d18 (kp h)) fun b h => ⟨b, h.1, h.2.1, h.2.2.grown bR⟩)⟩
  · have hoj2 := hoj
    obtain rfl := oI hoj
    have e3 := d3 (hwt ⟨3, .data⟩ (by simp) rfl)
    have e7 := d7 (hwt ⟨7, .data⟩ (by simp) rfl)
    have e10 := d10 (hwt ⟨10, .data⟩ (by simp) rfl)
    have e14 := d14 (hwt ⟨14, .data⟩ (by simp) rfl)
    have e16 := d16 (hwt ⟨16, .data⟩ (by simp) rfl)
    subst e16
    obtain ⟨a8, c8, f8⟩ := own_form e3
    obtain ⟨a12, c12, f12⟩ := own_form e7.1
    obtain ⟨a15, c15, f15⟩ := own_form e10.out
    obtain ⟨a19, c19, f19⟩ := own_form e14.1
    subst f8 f12 f15 f19
    refine wpOp_value hoj2 rfl (run_bSt rfl rfl rfl rfl rfl rfl) ?_
    exact ⟨vs, x5, x6, x7, (.slice a8 n c8), x9, x10, x11, (.slice a12 n c12), x13, x14, (.slice a15 regs.length c15), x16, x17, x18, (.slice a19 nm c19), x20, (.int .i64 (-1)), _, x3, by (try simp only [sP]) <;> rfl, Below.then HBw.out bR, fun h => keepT (m7_3 (kp h)), fun h => keepT (m14_10 (kp h)), fun _ => keepT (hwt ⟨3, .data⟩ (by simp) rfl), fun _ => keepT (hwt ⟨7, .data⟩ (by simp) rfl), fun _ => keepT (hwt ⟨10, .data⟩ (by simp) rfl), fun _ => keepT (hwt ⟨14, .data⟩ (by simp) rfl), fun _ => keepT (hwt ⟨16, .data⟩ (by simp) rfl), fun h => (eE (d0 (kp h)) fun g h => ⟨g, h.1, own_below h.2 bR⟩), d1 ∘ kq, d2 ∘ kq, fun h => (own_below (d3 (kp h)) bR), fun h => (eE (d4 (kp h)) fun g h => ⟨g, h.1, own_below h.2 bR⟩), d5 ∘ kq, d6 ∘ kq, fun h => ⟨own_below (d7 (kp h)).1 bR, (d7 (kp h)).2⟩, d8 ∘ kq, d9 ∘ kq, fun h => (OwnA.below (d10 (kp h)) bR), fun h => (eE (d11 (kp h)) fun g h => ⟨g, h.1, own_below h.2 bR⟩), d12 ∘ kq, d13 ∘ kq, fun h => ⟨own_below (d14 (kp h)).1 bR, (d14 (kp h)).2⟩, d15 ∘ kq, d16 ∘ kq, fun _ => rfl, fun h => (eE (d18 (kp h)) fun b h => ⟨b, h.1, h.2.1, h.2.2.grown bR⟩)⟩
  · have hoj2 := hoj
    obtain rfl := oI hoj
    refine wpOp_value hoj2 rfl (run_allocSt rfl) ?_
    have B9 := F_b (Fresh.alloc w' (.cells [.slice none 0 0, .slice none 0 0, .slice none 0 0, .slice none 0 0, .slice none 0 0, .int .i64 0].toArray 32))
    exact ⟨vs, x5, x6, x7, x8, x9, x10, x11, x12, x13, x14, x15, x16, x17, x18, x19, x20, x21, x22, _, by (try simp only [sP]) <;> rfl, Below.then HBw.out B9, fun h => keepT (m7_3 (kp h)), fun h => keepT (m14_10 (kp h)), fun h => keepT (m17_3 (kp h)), fun h => keepT (m17_7 (kp h)), fun h => keepT (m17_10 (kp h)), fun h => keepT (m17_14 (kp h)), fun h => keepT (m17_16 (kp h)), fun h => (eE (d0 (kp h)) fun g h => ⟨g, h.1, own_below h.2 B9⟩), d1 ∘ kq, d2 ∘ kq, fun h => (own_below (d3 (kp h)) B9), fun h => (eE (d4 (kp h)) fun g h => ⟨g, h.1, own_below h.2 B9⟩), d5 ∘ kq, d6 ∘ kq, fun h => ⟨own_below (d7 (kp h)).1 B9, (d7 (kp h)).2⟩, d8 ∘ kq, d9 ∘ kq, fun h => (OwnA.below (d10 (kp h)) B9), fun h => (eE (d11 (kp h)) fun g h => ⟨g, h.1, own_below h.2 B9⟩), d12 ∘ kq, d13 ∘ kq, fun h => ⟨own_below (d14 (kp h)).1 B9, (d14 (kp h)).2⟩, d15 ∘ kq, d16 ∘ kq, d17 ∘ kq, fun _ => ⟨_, rfl, HBw.out.size, IsS.new w' 32 [.slice none 0 0, .slice none 0 0, .slice none 0 0, .slice none 0 0, .slice none 0 0, .int .i64 0]⟩⟩
 case iend =>
  rintro a' w' ⟨vs, x5, x6, x7, x8, x9, x10, x11, x12, x13, x14, x15, x16, x17, x18, x19, x20, x21, x22, x3, rfl, HBw, m7_3, m14_10, m17_3, m17_7, m17_10, m17_14, m17_16, d0, d1, d2, d3, d4, d5, d6, d7, d8, d9, d10, d11, d12, d13, d14, d15, d16, d17, d18⟩
  replace d0 := d0 rfl
  replace d1 := d1 rfl
  replace d2 := d2 rfl
  replace d3 := d3 rfl
  replace d4 := d4 rfl
  replace d5 := d5 rfl
  replace d6 := d6 rfl
  replace d7 := d7 rfl
  replace d8 := d8 rfl
  replace d9 := d9 rfl
  replace d10 := d10 rfl
  replace d11 := d11 rfl
  replace d12 := d12 rfl
  replace d13 := d13 rfl
  replace d14 := d14 rfl
  replace d15 := d15 rfl
  replace d16 := d16 rfl
  replace d17 := d17 rfl
  replace d18 := d18 rfl
  clear m7_3 m14_10 m17_3 m17_7 m17_10 m17_14 m17_16
  simp only [sP]
  simp only [List.drop_succ_cons, List.drop_zero]
  obtain ⟨b3, ex3, hb3, I3⟩ := d18
  have O8 := d3
  obtain ⟨O12, A12⟩ := d7
  have O15 := d10
  obtain ⟨O19, A19⟩ := d14
  have e22 := d17
  obtain ⟨a8, c8, f8⟩ := own_form O8
  obtain ⟨a12, c12, f12⟩ := own_form O12
  obtain ⟨a15, c15, f15⟩ := own_form O15.out
  obtain ⟨a19, c19, f19⟩ := own_form O19
  have B12 := HBw.out
  have B02 := Below.then B1 B12
  have C2 := C1.grown B12
  have D2 := D1.grown B12
  subst d1 d2 d5 d6 d8 d9 d12 d13 d15 d16
  subst f8 f12 f15 f19
  subst e22 ex3
  obtain ⟨g5, h5, -⟩ := d0
  obtain ⟨g9, h9, -⟩ := d4
  obtain ⟨g16, h16, -⟩ := d11
  subst h5 h9 h16
  rw [HRL.out] at O15
  simp only [HRL.out]
  clear HBw d3 d10 d17
  go_wp2_with (first
   | (clear t3; refine wpList_storeW rfl 32 _ _ rfl rfl [.slice a8 n c8, .slice a12 n c12, .slice a15 n c15, .slice a19 nm c19, .slice none 0 0, .int .i64 (-1)] rfl I3 rfl infoSt (by simp [Value.oneCell']) ?_; intro W3 U3 I3b))
  have hne : ∀ (t s n : Nat) (v : Value) (xs : List Value), w'.ownsRow W1.heap.size t s v n xs → t ≠ 32 → ∀ k, v.ownBlock = some k → W3.heap[k]? = w'.heap[k]? := fun t s n v xs ho ht k hk => U3.block k (own_isS ho I3 ht hk)
  have K3 : Hid (CpO w W3 b3 (.slice a8 n c8) (.slice a12 n c12) (.slice a15 n c15) (.slice a19 nm c19) (.slice none 0 0) vs [] n nm pc regs mem) := by
   have hsz := B1.size
   refine ⟨own_raise (own_same O8 (hne _ _ _ _ _ O8 (by decide))) hsz, own_raise (own_same O12 (hne _ _ _ _ _ O12 (by decide))) hsz, A12, ?_, own_raise (own_same O19 (hne _ _ _ _ _ O19 (by decide))) hsz, A19, own_nil _ _ _ _, (fun u hu => by cases hu), I3b, Nat.le_trans hsz hb3⟩
   refine OwnA.raise ⟨O15.len, ?_, fun j u xs hu hx => ?_, O15.apart⟩ hsz
   · have h := own_same O15.out (fun k hk => U3.block k (own_isS O15.out I3 (by decide) hk))
     exact h
   · exact own_same (O15.row j u xs hu hx) (hne _ _ _ _ _ (O15.row j u xs hu hx) (by decide))
  have C3 := C2.upd U3 (by have := C1.lt; omega)
  have D3 := D2.upd U3 (by have := D1.lt; omega)
  have B3 := U3.trans B02 (by have := B1.size; omega)
  have HC3 : Hid (IsS W3 b1 32 [.slice ap n cp, .slice ah n ch, .slice ar n cr, .slice am nm cm, .slice ab n cb, .int .i64 (-1)]) := C3
  have HD3 : Hid (IsS W3 b2 32 [.slice none 0 0, .slice none 0 0, .slice none 0 0, .slice none 0 0, .slice none 0 0, .int .i64 0]) := D3
  have HB3 : Hid (Below w.heap.size w W3) := B3
  have hbb : b2 ≠ b3 := by have := D1.lt; omega
  have hbb1 : b1 ≠ b3 := by have := C1.lt; omega
  clear C2 D2 C3 D3 B3 U3 I3 I3b hne O8 O12 O15 O19 A12 A19 B12 B02
  go_loopw [4] (fun i wr => ∃ (k : Nat) (vb : Value) (bs : List Value), k ≤ n ∧ i = .int .i64 (k : Int) ∧ Hid (bs.length = k) ∧ Hid (CpO w wr b3 (.slice a8 n c8) (.slice a12 n c12) (.slice a15 n c15) (.slice a19 nm c19) vb vs bs n nm pc regs mem) ∧ Hid (IsS wr b1 32 [.slice ap n cp, .slice ah n ch, .slice ar n cr, .slice am nm cm, .slice ab n cb, .int .i64 (-1)]) ∧ Hid (IsS wr b2 32 [.slice none 0 0, .slice none 0 0, .slice none 0 0, .slice none 0 0, .slice none 0 0, .int .i64 0]) ∧ Hid (Below w.heap.size w wr)) (fun i _ => n - (intOf i).toNat)
  case atStart => exact ⟨0, _, [], Nat.zero_le _, rfl, rfl, K3, HC3, HD3, HB3⟩
  case round =>
   clear K3 HC3 HD3 HB3
   obtain ⟨k, vb, bs, hk, rfl, HL, HK, HC, HD, HB⟩ := hrel
   have y14 : wr.cell? ⟨b1, 4, none⟩ = some (.slice ab n cb) := HC.out.cell 4
   by_cases hlt : k < n
   · have hki : (k : Int) < n := by omega
     obtain ⟨bb, ob, aq, cq, eab, hbbl, hcu, hsegu, hnilu⟩ := (HBf.out.below HB.out).at k [] (by simp [hlt])
     subst eab
     simp only [List.length_nil] at hcu
     obtain ⟨av, cv, hvb⟩ := own_form HK.out.bf
     subst hvb
     rw [HL.out] at HK
     have HU : Hid (RowV wr (.slice aq 0 cq) 0 []) := ⟨aq, cq, rfl, Seg.nil _ _, hnilu⟩
     clear hsegu
     go_wp2
     clear y14
     refine region_invA 10 (fun a0 listed a' w' => ∃ x30 x31 x32 x33 x34 x35 x36 x37 x38 x39 : Value, a' = ((((((((((a0.put (some 30) x30).put (some 31) x31).put (some 32) x32).put (some 33) x33).put (some 34) x34).put (some 35) x35).put (some 36) x36).put (some 37) x37).put (some 38) x38).put (some 39) x39) ∧ Hid (Below wr.heap.size wr w') ∧ (listed.getD 0 false = true → x30 = (.pointer (some ⟨b3, 4, none⟩))) ∧ (listed.getD 1 false = true → x31 = (.slice av k cv)) ∧ (listed.getD 2 false = true → ∃ g, x32 = .slice (some ⟨g, 0, none⟩) 0 0 ∧ w'.ownsRow wr.heap.size 50 2 (.slice (some ⟨g, 0, none⟩) 0 0) 0 []) ∧ (listed.getD 3 false = true → x33 = (.pointer (some ⟨b1, 4, none⟩))) ∧ (listed.getD 4 false = true → x34 = (.slice (some ⟨bb, ob, none⟩) n cb)) ∧ (listed.getD 5 false = true → x35 = (.int .i64 (k : Int))) ∧ (listed.getD 6 false = true → x36 = (.pointer (some ⟨bb, ob + k, none⟩))) ∧ (listed.getD 7 false = true → x37 = (.slice aq 0 cq)) ∧ (listed.getD 8 false = true → ∃ a c, x38 = .slice a 0 c ∧ (a = none → c = 0)) ∧ (listed.getD 9 false = true → ∃ u b, x39 = .slice (some ⟨b, 0, none⟩) 1 1 ∧ IsS w' b 48 [u] ∧ ∃ a c, u = .slice a 0 c ∧ (a = none → c = 0))) (by kernel_rfl) (by kernel_rfl) ?i0b ?istepb ?iendb
     case i0b => exact ⟨_, _, _, _, _, _, _, _, _, _, by (try simp only [sP]) <;> rfl, below_drew bR, fun h => (not_rep h).elim, fun h => (not_rep h).elim, fun h => (not_rep h).elim, fun h => (not_rep h).elim, fun h => (not_rep h).elim, fun h => (not_rep h).elim, fun h => (not_rep h).elim, fun h => (not_rep h).elim, fun h => (not_rep h).elim, fun h => (not_rep h).elim⟩
     case istepb =>
      rintro i listed a' w' hi hr ⟨x30, x31, x32, x33, x34, x35, x36, x37, x38, x39, rfl, HBw, d0, d1, d2, d3, d4, d5, d6, d7, d8, d9⟩
      obtain ⟨hun, oj, hoj, hwt⟩ := mem_ready.1 hr
      simp only [sP]
      have hcase : i = 0 ∨ i = 1 ∨ i = 2 ∨ i = 3 ∨ i = 4 ∨ i = 5 ∨ i = 6 ∨ i = 7 ∨ i = 8 ∨ i = 9 := by omega
      rcases hcase with rfl | rfl | rfl | rfl | rfl | rfl | rfl | rfl | rfl | rfl
      · have hoj2 := hoj
        obtain rfl := oI hoj
        refine wpOp_value hoj2 rfl (v := (.pointer (some ⟨b3, 4, none⟩))) (w' := w') (by first | rfl | (go_simp; done) | (simp [go_sem]; done) | (simp [execOp, go_sem]; done)) ?_
        exact ⟨(.pointer (some ⟨b3, 4, none⟩)), x31, x32, x33, x34, x35, x36, x37, x38, x39, by (try simp only [sP]) <;> rfl, Below.then HBw.out bR, fun _ => rfl, d1 ∘ kq, fun h => (eE (d2 (kp h)) fun g h => ⟨g, h.1, own_below h.2 bR⟩), d3 ∘ kq, d4 ∘ kq, d5 ∘ kq, d6 ∘ kq, d7 ∘ kq, d8 ∘ kq, fun h => (eE (d9 (kp h)) fun u h => eE h fun b h => ⟨u, b, h.1, h.2.1.grown bR, h.2.2⟩)⟩
      · have hoj2 := hoj
        obtain rfl := oI hoj
        have e0 := d0 (hwt ⟨0, .data⟩ (by simp) rfl)
        subst e0
        refine wpOp_cell hoj2 rfl 30 _ rfl rfl (v := (.slice av k cv)) (ldcWW w' ((IsS.cell (HK.out.st.grown HBw.out) 4).trans rfl)) ?_
        exact ⟨(.pointer (some ⟨b3, 4, none⟩)), (.slice av k cv), x32, x33, x34, x35, x36, x37, x38, x39, by (try simp only [sP]) <;> rfl, Below.then HBw.out bR, d0 ∘ kq, fun _ => rfl, fun h => (eE (d2 (kp h)) fun g h => ⟨g, h.1, own_below h.2 bR⟩), d3 ∘ kq, d4 ∘ kq, d5 ∘ kq, d6 ∘ kq, d7 ∘ kq, d8 ∘ kq, fun h => (eE (d9 (kp h)) fun u h => eE h fun b h => ⟨u, b, h.1, h.2.1.grown bR, h.2.2⟩)⟩
      · have hoj2 := hoj
        obtain rfl := oI hoj
        refine wpOp_value hoj2 rfl (exec_build0 eWr rfl) ?_
        have B9 := F_b (Fresh.alloc w' (.cells #[] 50))
        exact ⟨x30, x31, _, x33, x34, x35, x36, x37, x38, x39, by (try simp only [sP]) <;> rfl, Below.then HBw.out B9, d0 ∘ kq, d1 ∘ kq, fun _ => ⟨_, rfl, own_raise (own_build0 eWr w') HBw.out.size⟩, d3 ∘ kq, d4 ∘ kq, d5 ∘ kq, d6 ∘ kq, d7 ∘ kq, d8 ∘ kq, fun h => (eE (d9 (kp h)) fun u h => eE h fun b h => ⟨u, b, h.1, h.2.1.grown B9, h.2.2⟩)⟩
      · have hoj2 := hoj
        obtain rfl := oI hoj
        refine wpOp_value hoj2 rfl (v := (.pointer (some ⟨b1, 4, none⟩))) (w' := w') (by first | rfl | (go_simp; done) | (simp [go_sem]; done) | (simp [execOp, go_sem]; done)) ?_
        exact ⟨x30, x31, x32, (.pointer (some ⟨b1, 4, none⟩)), x34, x35, x36, x37, x38, x39, by (try simp only [sP]) <;> rfl, Below.then HBw.out bR, d0 ∘ kq, d1 ∘ kq, fun h => (eE (d2 (kp h)) fun g h => ⟨g, h.1, own_below h.2 bR⟩), fun _ => rfl, d4 ∘ kq, d5 ∘ kq, d6 ∘ kq, d7 ∘ kq, d8 ∘ kq, fun h => (eE (d9 (kp h)) fun u h => eE h fun b h => ⟨u, b, h.1, h.2.1.grown bR, h.2.2⟩)⟩
      · have hoj2 := hoj
        obtain rfl := oI hoj
        have e3 := d3 (hwt ⟨3, .data⟩ (by simp) rfl)
        subst e3
        refine wpOp_cell hoj2 rfl 30 _ rfl rfl (v := (.slice (some ⟨bb, ob, none⟩) n cb)) (ldcWW w' ((IsS.cell (HC.out.grown HBw.out) 4).trans rfl)) ?_
        exact ⟨x30, x31, x32, (.pointer (some ⟨b1, 4, none⟩)), (.slice (some ⟨bb, ob, none⟩) n cb), x35, x36, x37, x38, x39, by (try simp only [sP]) <;> rfl, Below.then HBw.out bR, d0 ∘ kq, d1 ∘ kq, fun h => (eE (d2 (kp h)) fun g h => ⟨g, h.1, own_below h.2 bR⟩), d3 ∘ kq, fun _ => rfl, d5 ∘ kq, d6 ∘ kq, d7 ∘ kq, d8 ∘ kq, fun h => (eE (d9 (kp h)) fun u h => eE h fun b h => ⟨u, b, h.1, h.2.1.grown bR, h.2.2⟩)⟩
      · have hoj2 := hoj
        obtain rfl := oI hoj
        refine wpOp_value hoj2 rfl (v := (.int .i64 (k : Int))) (w' := w') (by first | rfl | (go_simp; done) | (simp [go_sem]; done) | (simp [execOp, go_sem]; done)) ?_
        exact ⟨x30, x31, x32, x33, x34, (.int .i64 (k : Int)), x36, x37, x38, x39, by (try simp only [sP]) <;> rfl, Below.then HBw.out bR, d0 ∘ kq, d1 ∘ kq, fun h => (eE (d2 (kp h)) fun g h => ⟨g, h.1, own_below h.2 bR⟩), d3 ∘ kq, d4 ∘ kq, fun _ => rfl, d6 ∘ kq, d7 ∘ kq, d8 ∘ kq, fun h => (eE (d9 (kp h)) fun u h => eE h fun b h => ⟨u, b, h.1, h.2.1.grown bR, h.2.2⟩)⟩
      · have hoj2 := hoj
        obtain rfl := oI hoj
        have e4 := d4 (hwt ⟨4, .data⟩ (by simp) rfl)
        have e5 := d5 (hwt ⟨5, .data⟩ (by simp) rfl)
        subst e4
        subst e5
        refine wpOp_value hoj2 rfl (v := (.pointer (some ⟨bb, ob + k, none⟩))) (w' := w') (by simp [execOp, go_sem, hki]; done) ?_
        exact ⟨x30, x31, x32, x33, (.slice (some ⟨bb, ob, none⟩) n cb), (.int .i64 (k : Int)), (.pointer (some ⟨bb, ob + k, none⟩)), x37, x38, x39, by (try simp only [sP]) <;> rfl, Below.then HBw.out bR, d0 ∘ kq, d1 ∘ kq, fun h => (eE (d2 (kp h)) fun g h => ⟨g, h.1, own_below h.2 bR⟩), d3 ∘ kq, d4 ∘ kq, d5 ∘ kq, fun _ => rfl, d7 ∘ kq, d8 ∘ kq, fun h => (eE (d9 (kp h)) fun u h => eE h fun b h => ⟨u, b, h.1, h.2.1.grown bR, h.2.2⟩)⟩
      · have hoj2 := hoj
        obtain rfl := oI hoj
        have e6 := d6 (hwt ⟨6, .data⟩ (by simp) rfl)
        subst e6
        refine wpOp_cell hoj2 rfl 48 _ rfl rfl (v := (.slice aq 0 cq)) (ldcW w' (by rw [HBw.out.cell (p := ⟨bb, ob + k, none⟩) hbbl]; exact hcu)) ?_
        exact ⟨x30, x31, x32, x33, x34, x35, (.pointer (some ⟨bb, ob + k, none⟩)), (.slice aq 0 cq), x38, x39, by (try simp only [sP]) <;> rfl, Below.then HBw.out bR, d0 ∘ kq, d1 ∘ kq, fun h => (eE (d2 (kp h)) fun g h => ⟨g, h.1, own_below h.2 bR⟩), d3 ∘ kq, d4 ∘ kq, d5 ∘ kq, d6 ∘ kq, fun _ => rfl, d8 ∘ kq, fun h => (eE (d9 (kp h)) fun u h => eE h fun b h => ⟨u, b, h.1, h.2.1.grown bR, h.2.2⟩)⟩
      · have hoj2 := hoj
        obtain rfl := oI hoj
        have e2 := d2 (hwt ⟨2, .data⟩ (by simp) rfl)
        have e7 := d7 (hwt ⟨7, .data⟩ (by simp) rfl)
        obtain ⟨g0, rfl, O0⟩ := e2
        subst e7
        obtain ⟨v', W', hrun, O', B', HW'⟩ := run_app0L eWr wr.heap.size g0 O0 (.slice aq 0 cq) 0 [] (HU.out.below HBw.out) rfl (by simp) (by omega) HBw.out.size 48
        refine wpOp_value hoj2 rfl (exec_app _ _ rfl rfl rfl hrun) ?_
        obtain ⟨a5, c5, f5, -, z5⟩ := own_row O'
        subst f5
        exact ⟨x30, x31, (.slice (some ⟨g0, 0, none⟩) 0 0), x33, x34, x35, x36, (.slice aq 0 cq), (.slice a5 0 c5), x39, by (try simp only [sP]) <;> rfl, Below.then HBw.out B', d0 ∘ kq, d1 ∘ kq, fun h => (eE (d2 (kp h)) fun g h => ⟨g, h.1, own_below h.2 B'⟩), d3 ∘ kq, d4 ∘ kq, d5 ∘ kq, d6 ∘ kq, d7 ∘ kq, fun _ => ⟨a5, c5, rfl, z5⟩, fun h => (eE (d9 (kp h)) fun u h => eE h fun b h => ⟨u, b, h.1, h.2.1.grown B', h.2.2⟩)⟩
      · have hoj2 := hoj
        obtain rfl := oI hoj
        have e8 := d8 (hwt ⟨8, .data⟩ (by simp) rfl)
        obtain ⟨a5, c5, rfl, z5⟩ := e8
        refine wpOp_value hoj2 rfl (exec_build1 eWrs _ rfl (.slice a5 0 c5) rfl rfl) ?_
        have B9 := F_b (Fresh.alloc w' (.cells #[.slice a5 0 c5] 48))
        exact ⟨x30, x31, x32, x33, x34, x35, x36, x37, (.slice a5 0 c5), _, by (try simp only [sP]) <;> rfl, Below.then HBw.out B9, d0 ∘ kq, d1 ∘ kq, fun h => (eE (d2 (kp h)) fun g h => ⟨g, h.1, own_below h.2 B9⟩), d3 ∘ kq, d4 ∘ kq, d5 ∘ kq, d6 ∘ kq, d7 ∘ kq, d8 ∘ kq, fun _ => ⟨_, _, rfl, IsS.new w' 48 [.slice a5 0 c5], a5, c5, rfl, z5⟩⟩
     case iendb =>
      rintro a' w' ⟨x30, x31, x32, x33, x34, x35, x36, x37, x38, x39, rfl, HBw, d0, d1, d2, d3, d4, d5, d6, d7, d8, d9⟩
      replace d0 := d0 rfl
      replace d1 := d1 rfl
      replace d2 := d2 rfl
      replace d3 := d3 rfl
      replace d4 := d4 rfl
      replace d5 := d5 rfl
      replace d6 := d6 rfl
      replace d7 := d7 rfl
      replace d8 := d8 rfl
      replace d9 := d9 rfl
      simp only [sP]
      simp only [List.drop_succ_cons, List.drop_zero]
      obtain ⟨u, bu, hx9, hIu, hue⟩ := d9
      obtain ⟨g2, h2, -⟩ := d2
      obtain ⟨a5, c5, h8, -⟩ := d8
      subst hx9 h2 h8 d0 d1 d3 d4 d5 d6 d7
      have B5 := Below.then HB.out HBw.out
      have C5 := HC.out.grown HBw.out
      have D5 := HD.out.grown HBw.out
      have K5 := HK.out.below HBw.out
      have O5 : w'.ownsRow w.heap.size 48 1 (.slice av k cv) k bs := by have := K5.bf; rw [HL.out] at this; exact this
      have u1 : u.oneCell' = true := by obtain ⟨a, c, rfl, _⟩ := hue; rfl
      clear HBw
      have t5 : True := trivial
      have t6 : True := trivial
      go_wp2_with (first
       | (clear t5; at_builtin; refine wpList_appM eWrs rfl _ _ rfl w.heap.size _ k bs rfl O5 _ 1 [u] rfl (row_isS hIu) rfl (by simp only [List.mem_singleton]; rintro x rfl; exact u1) (by omega) B5.size ?_; intro v6 W6 O6 G6; have B6 := grown_below B5 B5.size O5 G6; have h6 := own_cell O6; have I6 : IsS W6 b3 32 [.slice a8 n c8, .slice a12 n c12, .slice a15 n c15, .slice a19 nm c19, .slice av k cv, .int .i64 (-1)] := (G6.block b3 K5.st.lt (fun e => own_isS O5 K5.st (by decide) e.symm rfl)).trans K5.st; have C6 := (G6.block b1 C5.lt (fun e => own_isS O5 C5 (by decide) e.symm rfl)).trans C5; have D6 := (G6.block b2 D5.lt (fun e => own_isS O5 D5 (by decide) e.symm rfl)).trans D5)
       | (clear t6; refine wpList_store1 rfl 30 _ _ rfl rfl v6 rfl I6 (by simp) infoWW h6 ?_; intro W7 U7 I7; have B7 := U7.trans B6 K5.hb; have C7 := IsS.upd C6 U7 hbb1; have D7 := IsS.upd D6 U7 hbb))
      have K7 : Hid (CpO w W7 b3 (.slice a8 n c8) (.slice a12 n c12) (.slice a15 n c15) (.slice a19 nm c19) v6 vs (bs ++ [u]) n nm pc regs mem) := by
       refine K5.keep (fun t s u m xs ho h1 h2 j hj => ?_) ?_ ?_ I7
       · rw [U7.block j (fun e => own_isS ho K5.st h2 hj e), G6.block j (own_lt ho hj).2 (fun e => own_diff ho O5 h1 hj e.symm)]
       · rw [List.length_append, HL.out]
         exact own_same O6 fun j hj => U7.block j (fun e => own_isS O6 I6 (by decide) hj e)
       · intro x hx
         rcases List.mem_append.1 hx with hx | hx
         · exact K5.be x hx
         · simp only [List.mem_singleton] at hx; subst hx; exact hue
      clear G6 O6 I6 I7 U7 K5 C5 D5 C6 D6
      go_roundw
      case rel => exact ⟨k + 1, v6, bs ++ [u], by omega, by go_num, by show _ = _; simp [HL.out], K7, C7, D7, B7⟩
      case measure => simp [intOf]; omega
   · have ek : k = n := by omega
     subst ek
     have hki : ¬ ((k : Int) < k) := by omega
     have HKo := HK.out
     have vb1 := own_cell HKo.bf
     have I3 := HKo.st
     have D3 := HD.out
     have ta : True := trivial
     have tb : True := trivial
     go_wp2_with (first
      | (clear ta; refine wpList_loadW rfl 32 _ rfl rfl I3 _ Try.underlying32 rfl infoSt ?_)
      | (clear tb; refine wpList_storeW rfl 32 _ _ rfl rfl [.slice a8 k c8, .slice a12 k c12, .slice a15 k c15, .slice a19 nm c19, vb, .int .i64 (-1)] rfl D3 rfl infoSt (cp_one vb1) ?_; intro W9 U9 D9))
     refine ret_S (cs := [.slice a8 k c8, .slice a12 k c12, .slice a15 k c15, .slice a19 nm c19, vb, .int .i64 (-1)]) rfl rfl rfl D9 _ Try.underlying32 rfl infoSt ⟨_, _, _, _, _, rfl, ⟨b3, vs, bs, HL.out, ?_⟩, U9.trans HB.out hb2⟩
     exact HKo.keep (fun t s u m xs ho h1 h2 j hj => U9.block j (own_isS ho D3 h2 hj)) (own_same HKo.bf fun j hj => U9.block j (own_isS HKo.bf D3 (by decide) hj)) HKo.be (HKo.st.upd U9 (Ne.symm hbb))
end Go.Proofs.Ytegpnicajlndlaa

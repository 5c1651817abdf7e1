/- SU4, LW4, OB11, SM1, SM2 -/
import Derived.Test.YtegpnicajlndlaaQbm
import Derived.Deep.AppendLies
import Derived.Test.YtegpnicajlndlaaCPX
import Derived.Test.YtegpnicajlndlaaQD
import Derived.Test.YtegpnicajlndlaaRI1
import Derived.Test.YtegpnicajlndlaaRT1
import Derived.Test.YtegpnicajlndlaaQF
import Derived.Test.YtegpnicajlndlaaQbn
import Derived.Test.YtegpnicajlndlaaQbf
namespace Go.Proofs.Ytegpnicajlndlaa
open Go.RowKit M
set_option linter.unusedSimpArgs false
set_option linter.unusedVariables false
structure STO (W : World) (B : Nat) (s : ST) (v1 v2 v3 v4 v5 : Value) : Prop where
 pc : W.ownsRow B 3 1 v1 s.pc.length (s.pc.flatMap intE)
 ph : W.ownsRow B 3 1 v2 s.ph.length (s.ph.flatMap intE)
 rg : ∃ vs, OwnA W B v3 vs s.regs
 mm : W.ownsRow B 2 1 v4 s.mem.length (s.mem.flatMap intE)
 bf : ∃ bs : List Value, bs.length = s.buf.length ∧ W.ownsRow B 48 1 v5 bs.length bs ∧ ∀ (j : Nat) u l, bs[j]? = some u → s.buf[j]? = some l → W.ownsRow B 50 2 u l.length (l.flatMap wrE)
section
variable {W W' : World} {B B' b t' : Nat} {s : ST} {v1 v2 v3 v4 v5 : Value} {cs : List Value}
theorem STO.stv (h : STO W B s v1 v2 v3 v4 v5) : STV W s v1 v2 v3 v4 v5 := by
 obtain ⟨vs, o⟩ := h.rg
 obtain ⟨bs, hl, o2, o3⟩ := h.bf
 exact ⟨own_row h.pc, own_row h.ph, o.rows, own_row h.mm, own_rowsW hl o2 o3⟩
theorem STO.map (h : STO W B s v1 v2 v3 v4 v5) (up : ∀ {t z n : Nat} {v : Value} {xs : List Value}, W.ownsRow B t z v n xs → t ∈ [3, 2, 26, 48, 50] → W'.ownsRow B' t z v n xs) : STO W' B' s v1 v2 v3 v4 v5 := by
 obtain ⟨vs, o⟩ := h.rg
 obtain ⟨bs, hl, o2, o3⟩ := h.bf
 exact ⟨up h.pc (by simp), up h.ph (by simp), ⟨vs, o.len, up o.out (by simp), fun j u xs hu hx => up (o.row j u xs hu hx) (by simp), o.apart⟩, up h.mm (by simp), ⟨bs, hl, up o2 (by simp), fun j u l hu hx => up (o3 j u l hu hx) (by simp)⟩⟩
theorem STO.below (h : STO W B s v1 v2 v3 v4 v5) (hB : Below W.heap.size W W') : STO W' B s v1 v2 v3 v4 v5 := h.map fun o _ => own_below o hB
theorem STO.updT (h : STO W B s v1 v2 v3 v4 v5) (I : IsS W b t' cs) (U : Upd W W' b) (ht : ∀ t ∈ [3, 2, 26, 48, 50], t ≠ t') : STO W' B s v1 v2 v3 v4 v5 := h.map fun o hm => own_upd o I U (ht _ hm)
end
theorem pkL_at : ∀ (l : List (Int × Int × Int)) (i : Nat) (q : Int × Int × Int), l[i]? = some q → ∀ (e : Nat) (v : Value), (pkL q)[e]? = some v → (l.flatMap pkL)[i * 3 + e]? = some v
 | [], i, q, h => by simp at h
 | x :: l, i, q, h => by
  intro e v he
  have hlt : e < 3 := (List.getElem?_eq_some_iff.1 he).1
  cases i with
  | zero =>
   simp only [List.getElem?_cons_zero, Option.some.injEq] at h
   subst h
   rw [List.flatMap_cons, Nat.zero_mul, Nat.zero_add, List.getElem?_append_left hlt]
   exact he
  | succ i =>
   rw [List.getElem?_cons_succ] at h
   rw [List.flatMap_cons, List.getElem?_append_right (by show 3 ≤ _; omega), show (i + 1) * 3 + e - (pkL x).length = i * 3 + e by show (i + 1) * 3 + e - 3 = _; omega]
   exact pkL_at l i q h e v he
theorem pkL_range {w : World} {a : Option Addr} {l : List (Int × Int × Int)} (h : Seg w a (l.flatMap pkL)) {i : Nat} {q : Int × Int × Int} (hj : l[i]? = some q) : ∃ b o, a = some ⟨b, o, none⟩ ∧ b < w.heap.size ∧ w.rangeAt b (o + i * 3) (pkL q) := by
 obtain ⟨b, o, e, hb, _⟩ := h (i * 3 + 0) _ (pkL_at l i q hj 0 _ rfl)
 refine ⟨b, o, e, hb, fun k v hv => ?_⟩
 obtain ⟨b', o', e', _, hc⟩ := h (i * 3 + k) v (pkL_at l i q hj k v hv)
 rw [e] at e'
 cases e'
 rw [show o + i * 3 + k = o + (i * 3 + k) by omega]
 exact hc
theorem exec_rangeP {w : World} {op : Oper} {a : Act} {x : Operand} {b o : Nat} {cs : List Value} {d : TypeDesc} (ho : op.op = .load 68 x) (hx : a.eval x = .pointer (some ⟨b, o, none⟩)) (hb : True) (hc : w.rangeAt b o cs) (hu : Try.prog.underlying 68 = some d) (hd : d.isRow = true) (hi : (Try.prog.info? 68).map (·.size) = some cs.length) : (execOp a.eval op).run Try.prog w = .ok (.value (.agg cs.toArray)) w := by
 have hr := run_loadAt_mid (P := Try.prog) w b o 68 cs d hc hu hd hi
 unfold execOp
 simp only [ho, hx, Sem.run_bind, hr, Result.andThen_ok, Sem.run_pure]
theorem range_below {w W : World} {b o : Nat} {cs : List Value} (h : w.rangeAt b o cs) (hb : b < w.heap.size) (hB : Below w.heap.size w W) : W.rangeAt b o cs := fun j v hv => by rw [hB.cell (p := ⟨b, o + j, none⟩) hb]; exact h j v hv
end Go.Proofs.Ytegpnicajlndlaa
namespace Go.Proofs.Ytegpnicajlndlaa
open Go.ChangeShapes Go.WideShapes Go.ChangeAt Go.RowKit M
set_option linter.unusedSimpArgs false
set_option linter.unusedVariables false
theorem cellsPk : Try.prog.cellsOf 68 = 3 := by kernel_rfl
theorem list3 {cs : List Value} {a b c : Value} (hl : cs.length = 3) (h0 : cs[0]? = some a) (h1 : cs[1]? = some b) (h2 : cs[2]? = some c) : cs = [a, b, c] := by
 match cs, hl with
 | [x0, x1, x2], _ => simp at h0 h1 h2; simp [h0, h1, h2]
section
variable {H : Type} {enc : TypeId × Value → H} {W : World}
theorem open_opW (fuel : Nat) (cs : List Value) (x : DataW H × List MemPlace) (h : DataW.trod enc Try.prog W 0 (fun _ => true) true fuel 63 cs = some x) : ∃ g : Op5, cs = op5L g ∧ I64 g.imm ∧ 1 ≤ Rows.uptoBulk x.1 := by
 obtain ⟨ys, n, _, hx, hcl, hyl, hall⟩ := DataW.trod_struct Try.underlying63 h
 rw [cellsOp] at hcl
 match ys, hyl, hx, hall with
 | [y0, y1, y2, y3, y4], _, hx, hall =>
  have g0 : DataW.trod enc Try.prog W 0 (fun _ => true) true n 3 (List.take (Try.prog.cellsOf 3) (List.drop 0 cs)) = some y0 := hall 0 _ rfl
  have g1 : DataW.trod enc Try.prog W 0 (fun _ => true) true n 3 (List.take (Try.prog.cellsOf 3) (List.drop 1 cs)) = some y1 := hall 1 _ rfl
  have g2 : DataW.trod enc Try.prog W 0 (fun _ => true) true n 3 (List.take (Try.prog.cellsOf 3) (List.drop 2 cs)) = some y2 := hall 2 _ rfl
  have g3 : DataW.trod enc Try.prog W 0 (fun _ => true) true n 3 (List.take (Try.prog.cellsOf 3) (List.drop 3 cs)) = some y3 := hall 3 _ rfl
  have g4 : DataW.trod enc Try.prog W 0 (fun _ => true) true n 2 (List.take (Try.prog.cellsOf 2) (List.drop 4 cs)) = some y4 := hall 4 _ rfl
  rw [cells3] at g0 g1 g2 g3
  rw [cells2] at g4
  obtain ⟨k, e0, _, _⟩ := DataW.trod_int Try.underlying3 g0
  obtain ⟨a, e1, _, _⟩ := DataW.trod_int Try.underlying3 g1
  obtain ⟨b, e2, _, _⟩ := DataW.trod_int Try.underlying3 g2
  obtain ⟨c, e3, _, _⟩ := DataW.trod_int Try.underlying3 g3
  obtain ⟨d, e4, _, w4⟩ := DataW.trod_int Try.underlying2 g4
  exact ⟨⟨k, a, b, c, d⟩, list5 hcl (take_one e0) (take_one e1) (take_one e2) (take_one e3) (take_one e4), i64_wf w4, bulk_pos _⟩
theorem open_pgW (fuel : Nat) (cs : List Value) (x : DataW H × List MemPlace) (hbk : Rows.uptoBulk x.1 ≤ 1048576) (h : DataW.trod enc Try.prog W 0 (fun _ => true) true fuel 28 cs = some x) :
    ∃ (p : PG) (vt vr vl vi vj : Value), cs = [vt, vr, vl, vi, vj] ∧ p.Few ∧ PWid p ∧ PGV W vt vr vl vi vj p := by
 obtain ⟨ys, n, _, hx, hcl, hyl, hall⟩ := DataW.trod_struct Try.underlying28 h
 rw [cellsPg] at hcl
 match ys, hyl, hx, hall with
 | [y0, y1, y2, y3, y4], _, hx, hall =>
  have g0 : DataW.trod enc Try.prog W 0 (fun _ => true) true n 22 (List.take (Try.prog.cellsOf 22) (List.drop 0 cs)) = some y0 := hall 0 _ rfl
  have g1 : DataW.trod enc Try.prog W 0 (fun _ => true) true n 23 (List.take (Try.prog.cellsOf 23) (List.drop 1 cs)) = some y1 := hall 1 _ rfl
  have g2 : DataW.trod enc Try.prog W 0 (fun _ => true) true n 24 (List.take (Try.prog.cellsOf 24) (List.drop 2 cs)) = some y2 := hall 2 _ rfl
  have g3 : DataW.trod enc Try.prog W 0 (fun _ => true) true n 25 (List.take (Try.prog.cellsOf 25) (List.drop 3 cs)) = some y3 := hall 3 _ rfl
  have g4 : DataW.trod enc Try.prog W 0 (fun _ => true) true n 26 (List.take (Try.prog.cellsOf 26) (List.drop 4 cs)) = some y4 := hall 4 _ rfl
  rw [cellsSSO] at g0
  rw [cellsSSS] at g1
  rw [cellsSS] at g2
  rw [cellsSSI] at g3
  rw [cellsSI] at g4
  have bm : ∀ y ∈ [y0, y1, y2, y3, y4], Rows.uptoBulk y.1 ≤ 1048576 := fun y hy => by
   have := bulk_mem ([y0, y1, y2, y3, y4].map (·.1)) y.1 (List.mem_map.2 ⟨y, hy, rfl⟩)
   rw [hx] at hbk
   simp only [Rows.uptoBulk] at hbk
   omega
  have b0 := bm y0 (by simp)
  have b1 := bm y1 (by simp)
  have b2 := bm y2 (by simp)
  have b3 := bm y3 (by simp)
  have b4 := bm y4 (by simp)
  obtain ⟨at', xt, ct, e0, s0, p0, l0, m0, n0⟩ := open_sl (none, 0, []) Try.underlying22 cellsSO (by decide) rowE (fun _ => rfl) (RowP W op5L fun o => I64 o.imm) (fun g => g.2.2.length) (open_row ⟨0, 0, 0, 0, 0⟩ Try.underlying61 cellsOp (by decide) op5L (fun _ => rfl) (fun o => I64 o.imm) open_opW) g0
  obtain ⟨ar, xr, cr, e1, s1, p1, l1, m1, n1⟩ := open_sl (none, 0, []) Try.underlying23 cellsSS (by decide) rowE (fun _ => rfl) (RowP W strE fun s => s.size ≤ maxLen) (fun g => g.2.2.length) (open_row ⟨#[]⟩ Try.underlying24 cells9 (by decide) strE (fun _ => rfl) (fun s => s.size ≤ maxLen) open_str1) g1
  obtain ⟨al, xl, cl, e2, s2, p2, l2, _, n2⟩ := open_sl ⟨#[]⟩ Try.underlying24 cells9 (by decide) strE (fun _ => rfl) (fun s => s.size ≤ maxLen) (fun _ => 1) open_str1 g2
  obtain ⟨ai, xi, ci, e3, s3, p3, l3, m3, n3⟩ := open_sl (none, 0, []) Try.underlying25 cellsSI (by decide) rowE (fun _ => rfl) (RowP W intE I64) (fun g => g.2.2.length) (open_row 0 Try.underlying26 cells2 (by decide) intE (fun _ => rfl) I64 open_i2) g3
  obtain ⟨aj, xj, cj, e4, s4, p4, l4, _, n4⟩ := open_sl 0 Try.underlying26 cells2 (by decide) intE (fun _ => rfl) I64 (fun _ => 1) open_i2 g4
  refine ⟨⟨xt.map (·.2.2), xr.map (·.2.2), xl, xi.map (·.2.2), xj⟩, .slice at' (xt.map (·.2.2)).length ct, .slice ar (xr.map (·.2.2)).length cr, .slice al xl.length cl, .slice ai (xi.map (·.2.2)).length ci, .slice aj xj.length cj, ?_, ?_, ?_, ?_⟩
  · simp only [List.length_map]
    exact list5 hcl (take_one e0) (take_one e1) (take_one e2) (take_one e3) (take_one e4)
  · have fl : ∀ {β : Type} (xs : List (RowA β)), (xs.map (·.2.2)).flatten.length = (xs.map fun g => g.2.2.length).sum := fun xs => by rw [List.length_flatten, List.map_map]; rfl
    refine ⟨?_, ?_, ?_, ?_, ?_, ?_, ?_, ?_, ?_, ?_⟩
    · show (xt.map _).length ≤ _; rw [List.length_map]; omega
    · show (xt.map (·.2.2)).flatten.length ≤ _; rw [fl]; exact Nat.le_trans m0 b0
    · show (xr.map _).length ≤ _; rw [List.length_map]; omega
    · show (xr.map (·.2.2)).flatten.length ≤ _; rw [fl]; exact Nat.le_trans m1 b1
    · show xl.length ≤ _; omega
    · show (xi.map _).length ≤ _; rw [List.length_map]; omega
    · show (xi.map (·.2.2)).flatten.length ≤ _; rw [fl]; exact Nat.le_trans m3 b3
    · show xj.length ≤ _; omega
    · intro l hl s hs
      obtain ⟨g, hg, rfl⟩ := List.mem_map.1 hl
      exact (p1 g hg).2.2 s hs
    · exact fun s hs => p2 s hs
  · refine ⟨fun l hl o ho => ?_, fun l hl v hv => ?_, fun v hv => p4 v hv⟩
    · obtain ⟨q, hq, rfl⟩ := List.mem_map.1 hl
      exact (p0 q hq).2.2 o ho
    · obtain ⟨q, hq, rfl⟩ := List.mem_map.1 hl
      exact (p3 q hq).2.2 v hv
  · exact ⟨rows_of s0 p0 n0, rows_of s1 p1 n1, ⟨al, cl, rfl, s2, n2⟩, rows_of s3 p3 n3, ⟨aj, cj, rfl, s4, n4⟩⟩
theorem open_pk (fuel : Nat) (cs : List Value) (x : DataW H × List MemPlace) (h : DataW.trod enc Try.prog W 0 (fun _ => true) true fuel 68 cs = some x) : ∃ g : Int × Int × Int, cs = pkL g ∧ True ∧ 1 ≤ Rows.uptoBulk x.1 := by
 obtain ⟨ys, n, _, hx, hcl, hyl, hall⟩ := DataW.trod_struct Try.underlying68 h
 rw [cellsPk] at hcl
 match ys, hyl, hx, hall with
 | [y0, y1, y2], _, hx, hall =>
  have g0 : DataW.trod enc Try.prog W 0 (fun _ => true) true n 3 (List.take (Try.prog.cellsOf 3) (List.drop 0 cs)) = some y0 := hall 0 _ rfl
  have g1 : DataW.trod enc Try.prog W 0 (fun _ => true) true n 3 (List.take (Try.prog.cellsOf 3) (List.drop 1 cs)) = some y1 := hall 1 _ rfl
  have g2 : DataW.trod enc Try.prog W 0 (fun _ => true) true n 3 (List.take (Try.prog.cellsOf 3) (List.drop 2 cs)) = some y2 := hall 2 _ rfl
  rw [cells3] at g0 g1 g2
  obtain ⟨k, e0, _, _⟩ := DataW.trod_int Try.underlying3 g0
  obtain ⟨a, e1, _, _⟩ := DataW.trod_int Try.underlying3 g1
  obtain ⟨b, e2, _, _⟩ := DataW.trod_int Try.underlying3 g2
  exact ⟨(k, a, b), list3 hcl (take_one e0) (take_one e1) (take_one e2), trivial, bulk_pos _⟩
theorem open_pks (fuel : Nat) (cs : List Value) (x : DataW H × List MemPlace) (h : DataW.trod enc Try.prog W 0 (fun _ => true) true fuel 52 cs = some x) : ∃ (a : Option Addr) (ks : List (Int × Int × Int)) (cap : Nat), cs = [.slice a ks.length cap] ∧ Seg W a (ks.flatMap pkL) ∧ ks.length ≤ Rows.uptoBulk x.1 := by
 obtain ⟨a, ks, cap, e, sg, _, l, _, _⟩ := open_sl (0, 0, 0) Try.underlying52 cellsPk (by decide) pkL (fun _ => rfl) (fun _ => True) (fun _ => 1) open_pk h
 exact ⟨a, ks, cap, e, sg, l⟩
end
end Go.Proofs.Ytegpnicajlndlaa
namespace Go.Proofs.Ytegpnicajlndlaa
open Go.RowKit M
set_option linter.unusedSimpArgs false
set_option linter.unusedVariables false
set_option maxRecDepth 100000 in
set_option maxHeartbeats 4000000 in
theorem sm3_any (s : ST) (n : Nat) (hn : s.pc.length = n) (h0 : 0 < n) (hn20 : n ≤ 1048576) (q : Int) (hq : s.pc[0]? = some q) (v1 v2 v3 v4 v5 : Value) (w : World) (hS : STV w s v1 v2 v3 v4 v5) :
    Calls Try.prog 27 #[.agg #[v1, v2, v3, v4, v5, .int .i64 s.lock]] w fun e w' => e = .returned (.bool (decide (1 < q))) ∧ Below w.heap.size w w' := by
 obtain ⟨a1, c1, rfl, S1, _⟩ := id hS.pc
 rw [hn]
 have h0I : (0 : Int) < (n : Int) := by omega
 have hnI : (n : Int) ≤ 1048576 := by omega
 obtain ⟨b, o, ea, hb, yc⟩ := S1.int hq
 obtain ⟨lk, hlk⟩ : ∃ k, s.lock = k := ⟨_, rfl⟩
 simp only [hlk]
 subst ea
 have HY : Hid (w.cell? ⟨b, o, none⟩ = some (.int .i64 q)) := yc
 clear hS S1 yc hq hn hlk
 have t1 : True := trivial
 go_enter Try.func27, Try.ntmps27
 go_wp2_with (first
  | (clear t1; refine wpList_boxS rfl 32 _ rfl [.slice (some ⟨b, o, none⟩) n c1, v2, v3, v4, v5, .int .i64 lk] rfl ?_; intro W0 b1 F0 C0; have B0 := F_b F0; obtain ⟨x0, x1, x2, x3, x4, x5⟩ := st6 C0; have yc := (B0.cell (p := ⟨b, o, none⟩) hb).trans HY.out; clear F0))
 go_ret
 exact ⟨by rfl, B0⟩
section
variable {w : World} {ops : Array Oper} {rest : List Oper} {op : Oper} {a : Act} {Q : Exit → Act → World → Prop}
theorem exec_bPk3 (x : Operand) (ho : op.op = .buildSlice 52 1 #[(0, x)]) (k : Int × Int × Int) (hx : a.eval x = .agg (pkL k).toArray) : (execOp a.eval op).run Try.prog w = .ok (.value (.slice (some ⟨w.heap.size, 0, none⟩) 1 1)) (w.alloc (.cells (pkL k).toArray 68)) := by
 obtain ⟨i, hi, hz, hk, _⟩ := ePk.info
 generalize a.eval = ev at hx ⊢
 unfold execOp
 simp only [ho, hx]
 simp [Instr.buildSlice, Instr.fill, run_underlying ePk.und, sizeOf, typeInfo, zeroValue, hi, hk, hz, hx, newRow, Value.cells, pkL, show Array.range 3 = #[0, 1, 2] from rfl]
theorem wpList_bPk3 (hgd : op.guard = none) (x : Operand) (ho : op.op = .buildSlice 52 1 #[(0, x)]) (k : Int × Int × Int) (hx : a.eval x = .agg (pkL k).toArray)
    (h : ∀ W b, Fresh w W b → IsS W b 68 (pkL k) → wpList Try.prog ops Q rest (a.put op.dst (.slice (some ⟨b, 0, none⟩) 1 1)) W) : wpList Try.prog ops Q (op :: rest) a w := by
 refine wpList_plain hgd fun K hK => ?_
 unfold Oper.wp
 rw [exec_bPk3 x ho k hx]
 exact hK _ _ (h _ _ (Fresh.alloc w _) (IsS.new w _ _))
end
theorem cell_blk {w W : World} {b o : Nat} (h : W.heap[b]? = w.heap[b]?) : W.cell? ⟨b, o, none⟩ = w.cell? ⟨b, o, none⟩ := by
 simp only [World.cell?, h]
theorem own_pk1 {W : World} {B b : Nat} {k : Int × Int × Int} (hb : B ≤ b) (I : IsS W b 68 (pkL k)) : W.ownsRow B 68 3 (.slice (some ⟨b, 0, none⟩) 1 1) 1 (pkL k) :=
 ⟨rfl, .inr ⟨b, 1, (pkL k).toArray, rfl, hb, I, Nat.le_refl _, by decide, rfl, rfl⟩⟩
set_option maxRecDepth 100000 in
set_option maxHeartbeats 4000000 in
theorem sm1_any (s : ST) (n : Nat) (hn : s.pc.length = n) (h0 : 0 < n) (hf : s.Few) (q : Int) (hq : s.pc[0]? = some q) (B : Nat) (v1 v2 v3 v4 v5 : Value) (vs bs : List Value) (w : World) (hB : B ≤ w.heap.size) (hS : SOwn w B s v1 v2 v3 v4 v5 vs bs) :
    Calls Try.prog 25 #[.agg #[v1, v2, v3, v4, v5, .int .i64 s.lock]] w fun e w' => ∃ v, e = .returned v ∧ w'.ownsRow w.heap.size 68 3 v 1 (pkL ((n : Int), 2, q)) ∧ Below B w w' := by
 have hn20 : n ≤ 1048576 := by rw [← hn]; exact hf.pc
 have hm20 := hf.mm
 have h0I : (0 : Int) < (n : Int) := by omega
 have hnI : (n : Int) ≤ 1048576 := by omega
 obtain ⟨lk, hlk⟩ : ∃ k, s.lock = k := ⟨_, rfl⟩
 obtain ⟨a1, c1, rfl, S1, _⟩ := id hS.stv.pc
 obtain ⟨a4, c4, rfl, _, _⟩ := id hS.stv.mm
 obtain ⟨g1, o1, ea, hb, yc⟩ := S1.int hq
 subst ea
 rw [hn]
 have HY : Hid (w.cell? ⟨g1, o1, none⟩ = some (.int .i64 q)) := yc
 have nz : ((n : Int) == 0) = false := by simp; omega
 simp only [hlk]
 obtain ⟨m, hm⟩ : ∃ m, s.mem.length = m := ⟨_, rfl⟩
 have hmI : (m : Int) ≤ 1048576 := by omega
 rw [hm]
 have HMM : Hid (0 < m → ∃ g, a4 = some ⟨g, 0, none⟩ ∧ B ≤ g ∧ g ≠ g1 ∧ ∃ cs, IsS w g 2 cs ∧ 0 < cs.length) := fun h => by
  have hmm := hS.mm
  rw [hm] at hmm
  obtain ⟨g, c, cs, e, hg, I, _, hc, _, hl⟩ := own_opn hmm h
  cases e
  refine ⟨g, rfl, hg, fun e => ?_, cs, I, by omega⟩
  subst e
  obtain ⟨g', c', cs', e', hg', I', _, hc', _, hl'⟩ := own_opn (n := n) (by have := hS.pc; rw [hn] at this; exact this) h0
  cases e'
  have := I.symm.trans I'
  cases this
 clear hS S1 yc hq hn hlk hf hm hm20
 have t1 : True := trivial
 have tm : True := trivial
 by_cases hm0 : 0 < m
 · obtain ⟨g, ea, hgB, hg1, cs, I, hcl⟩ := HMM.out hm0
   subst ea
   have hm0I : (0 : Int) < (m : Int) := by omega
   have hgl := I.lt
   go_enter Try.func25, Try.ntmps25
   go_wp2_with (first
    | (clear t1; refine wpList_boxS rfl 32 _ rfl [.slice (some ⟨g1, o1, none⟩) n c1, v2, v3, .slice (some ⟨g, 0, none⟩) m c4, v5, .int .i64 lk] rfl ?_; intro W0 b1 F0 C0; have B0 := F_b F0; obtain ⟨x0, x1, x2, x3, x4, x5⟩ := st6 C0; have I0 := I.fresh F0; have yc := (B0.cell (p := ⟨g1, o1, none⟩) hb).trans HY.out; have hb1 : w.heap.size = b1 := F0.at'.symm; have ng : b1 ≠ g := (by omega); clear F0)
    | (clear tm; refine wpList_store1 rfl 2 _ _ rfl rfl (.int .i64 5) rfl I0 hcl info2' rfl ?_; intro W1 U1 I1; have C1 := C0.upd U1 ng; clear x0 x1 x2 x3 x4 x5; obtain ⟨x0, x1, x2, x3, x4, x5⟩ := st6 C1; have zc := (cell_blk (o := o1) (U1.block g1 (Ne.symm hg1))).trans yc; have BB := U1.trans (B0.mono hB) hgB; have hs1 := U1.size; clear yc))
   refine grow_tailV 8 (by kernel_rfl) (by kernel_rfl) ?_
   refine WG.pu rfl (v := (.pointer (some ⟨b1, 0, none⟩))) ?_; simp only [sP]
   refine WG.cell rfl 29 _ rfl rfl x0 (fun w h => by simp [go_sem, h]) ?_; simp only [sP]
   refine WG.pu rfl (v := (.int .i64 (n : Int))) ?_; simp only [sP]
   refine WG.pu rfl (v := (.pointer (some ⟨b1, 0, none⟩))) ?_; simp only [sP]
   refine WG.cell rfl 29 _ rfl rfl x0 (fun w h => by simp [go_sem, h]) ?_; simp only [sP]
   refine WG.put rfl (v := (.pointer (some ⟨g1, o1, none⟩))) (fun w => by first | rfl | (go_simp; done) | (simp [go_sem, h0I]; done) | (simp [execOp, go_sem, h0I]; done)) ?_; simp only [sP]
   refine WG.cell rfl 3 _ rfl rfl zc (fun w h => by simp [go_sem, h]) ?_; simp only [sP]
   refine WG.put rfl (v := (.agg (pkL ((n : Int), 2, q)).toArray)) (fun w => by first | rfl | (go_simp; done) | (simp [go_sem, pkL]; done) | (simp [execOp, go_sem, pkL]; done)) ?_; simp only [sP]
   refine WG.nil ?_
   intro W2 B2
   simp only [List.drop_succ_cons, List.drop_zero]
   have hsz : w.heap.size ≤ W2.heap.size := Nat.le_trans (Nat.le_trans B0.size (Nat.le_of_eq hs1.symm)) B2.size
   have B02 : Below B w W2 := BB.trans (B2.mono (Nat.le_trans hB (Nat.le_trans B0.size (Nat.le_of_eq hs1.symm))))
   clear x0 x1 x2 x3 x4 x5 zc I1 C1 I0 C0
   have tp : True := trivial
   go_wp2_with (first
    | (clear tp; refine wpList_bPk3 rfl _ rfl ((n : Int), 2, q) rfl ?_; intro W3 b3 F3 I3; have hb3 : w.heap.size ≤ b3 := Nat.le_trans hsz (Nat.le_of_eq F3.at'.symm); have B03 := F3.trans B02 (Nat.le_trans hB hsz)))
   go_ret
   exact ⟨_, rfl, own_pk1 hb3 I3, B03⟩
 · have hm0I : ¬ (0 : Int) < (m : Int) := by omega
   clear HMM
   go_enter Try.func25, Try.ntmps25
   go_wp2_with (first
    | (clear t1; refine wpList_boxS rfl 32 _ rfl [.slice (some ⟨g1, o1, none⟩) n c1, v2, v3, .slice a4 m c4, v5, .int .i64 lk] rfl ?_; intro W0 b1 F0 C0; have B0 := F_b F0; obtain ⟨x0, x1, x2, x3, x4, x5⟩ := st6 C0; have zc := (B0.cell (p := ⟨g1, o1, none⟩) hb).trans HY.out; have hb1 : w.heap.size = b1 := F0.at'.symm; have BB := B0.mono hB; clear F0))
   refine grow_tailV 8 (by kernel_rfl) (by kernel_rfl) ?_
   refine WG.pu rfl (v := (.pointer (some ⟨b1, 0, none⟩))) ?_; simp only [sP]
   refine WG.cell rfl 29 _ rfl rfl x0 (fun w h => by simp [go_sem, h]) ?_; simp only [sP]
   refine WG.pu rfl (v := (.int .i64 (n : Int))) ?_; simp only [sP]
   refine WG.pu rfl (v := (.pointer (some ⟨b1, 0, none⟩))) ?_; simp only [sP]
   refine WG.cell rfl 29 _ rfl rfl x0 (fun w h => by simp [go_sem, h]) ?_; simp only [sP]
   refine WG.put rfl (v := (.pointer (some ⟨g1, o1, none⟩))) (fun w => by first | rfl | (go_simp; done) | (simp [go_sem, h0I]; done) | (simp [execOp, go_sem, h0I]; done)) ?_; simp only [sP]
   refine WG.cell rfl 3 _ rfl rfl zc (fun w h => by simp [go_sem, h]) ?_; simp only [sP]
   refine WG.put rfl (v := (.agg (pkL ((n : Int), 2, q)).toArray)) (fun w => by first | rfl | (go_simp; done) | (simp [go_sem, pkL]; done) | (simp [execOp, go_sem, pkL]; done)) ?_; simp only [sP]
   refine WG.nil ?_
   intro W2 B2
   simp only [List.drop_succ_cons, List.drop_zero]
   have hsz : w.heap.size ≤ W2.heap.size := Nat.le_trans B0.size B2.size
   have B02 : Below B w W2 := BB.trans (B2.mono (Nat.le_trans hB B0.size))
   clear x0 x1 x2 x3 x4 x5 zc C0
   have tp : True := trivial
   go_wp2_with (first
    | (clear tp; refine wpList_bPk3 rfl _ rfl ((n : Int), 2, q) rfl ?_; intro W3 b3 F3 I3; have hb3 : w.heap.size ≤ b3 := Nat.le_trans hsz (Nat.le_of_eq F3.at'.symm); have B03 := F3.trans B02 (Nat.le_trans hB hsz)))
   go_ret
   exact ⟨_, rfl, own_pk1 hb3 I3, B03⟩
end Go.Proofs.Ytegpnicajlndlaa

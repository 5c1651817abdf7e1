/- OB11 -/
import Derived.Test.YtegpnicajlndlaaQbc
import Derived.Test.YtegpnicajlndlaaLW4
namespace Go.Proofs.Ytegpnicajlndlaa
open Go.ChangeShapes Go.WideShapes Go.ChangeAt Go.RowKit M
set_option linter.unusedSimpArgs false
set_option linter.unusedVariables false
theorem cellsPk : Try.prog.cellsOf 68 = 3 := by kernel_rfl
theorem list3 {cs : List Value} {a b c : Value} (hl : cs.length = 3) (h0 : cs[0]? = some a) (h1 : cs[1]? = some b) (h2 : cs[2]? = some c) : cs = [a, b, c] := by
 match cs, hl with
 | [x0, x1, x2], _ => simp at h0 h1 h2; simp [h0, h1, h2]
section
variable {H : Type} {enc : TypeId × Value → H} {W : World}
theorem open_opW (fuel : Nat) (cs : List Value) (x : DataW H × List MemPlace) (h : DataW.trod enc Try.prog W 0 (fun _ => true) true fuel 63 cs = some x) : ∃ g : Op5, cs = op5L g ∧ I64 g.imm ∧ 1 ≤ Rows.uptoBulk x.1 := by
 obtain ⟨ys, n, _, hx, hcl, hyl, hall⟩ := DataW.trod_struct Try.underlying63 h
 rw [cellsOp] at hcl
 match ys, hyl, hx, hall with
 | [y0, y1, y2, y3, y4], _, hx, hall =>
  have g0 : DataW.trod enc Try.prog W 0 (fun _ => true) true n 3 (List.take (Try.prog.cellsOf 3) (List.drop 0 cs)) = some y0 := hall 0 _ rfl
  have g1 : DataW.trod enc Try.prog W 0 (fun _ => true) true n 3 (List.take (Try.prog.cellsOf 3) (List.drop 1 cs)) = some y1 := hall 1 _ rfl
  have g2 : DataW.trod enc Try.prog W 0 (fun _ => true) true n 3 (List.take (Try.prog.cellsOf 3) (List.drop 2 cs)) = some y2 := hall 2 _ rfl
  have g3 : DataW.trod enc Try.prog W 0 (fun _ => true) true n 3 (List.take (Try.prog.cellsOf 3) (List.drop 3 cs)) = some y3 := hall 3 _ rfl
  have g4 : DataW.trod enc Try.prog W 0 (fun _ => true) true n 2 (List.take (Try.prog.cellsOf 2) (List.drop 4 cs)) = some y4 := hall 4 _ rfl
  rw [cells3] at g0 g1 g2 g3
  rw [cells2] at g4
  obtain ⟨k, e0, _, _⟩ := DataW.trod_int Try.underlying3 g0
  obtain ⟨a, e1, _, _⟩ := DataW.trod_int Try.underlying3 g1
  obtain ⟨b, e2, _, _⟩ := DataW.trod_int Try.underlying3 g2
  obtain ⟨c, e3, _, _⟩ := DataW.trod_int Try.underlying3 g3
  obtain ⟨d, e4, _, w4⟩ := DataW.trod_int Try.underlying2 g4
  exact ⟨⟨k, a, b, c, d⟩, list5 hcl (take_one e0) (take_one e1) (take_one e2) (take_one e3) (take_one e4), i64_wf w4, bulk_pos _⟩
theorem open_pgW (fuel : Nat) (cs : List Value) (x : DataW H × List MemPlace) (hbk : Rows.uptoBulk x.1 ≤ 1048576) (h : DataW.trod enc Try.prog W 0 (fun _ => true) true fuel 28 cs = some x) :
    ∃ (p : PG) (vt vr vl vi vj : Value), cs = [vt, vr, vl, vi, vj] ∧ p.Few ∧ PWid p ∧ PGV W vt vr vl vi vj p := by
 obtain ⟨ys, n, _, hx, hcl, hyl, hall⟩ := DataW.trod_struct Try.underlying28 h
 rw [cellsPg] at hcl
 match ys, hyl, hx, hall with
 | [y0, y1, y2, y3, y4], _, hx, hall =>
  have g0 : DataW.trod enc Try.prog W 0 (fun _ => true) true n 22 (List.take (Try.prog.cellsOf 22) (List.drop 0 cs)) = some y0 := hall 0 _ rfl
  have g1 : DataW.trod enc Try.prog W 0 (fun _ => true) true n 23 (List.take (Try.prog.cellsOf 23) (List.drop 1 cs)) = some y1 := hall 1 _ rfl
  have g2 : DataW.trod enc Try.prog W 0 (fun _ => true) true n 24 (List.take (Try.prog.cellsOf 24) (List.drop 2 cs)) = some y2 := hall 2 _ rfl
  have g3 : DataW.trod enc Try.prog W 0 (fun _ => true) true n 25 (List.take (Try.prog.cellsOf 25) (List.drop 3 cs)) = some y3 := hall 3 _ rfl
  have g4 : DataW.trod enc Try.prog W 0 (fun _ => true) true n 26 (List.take (Try.prog.cellsOf 26) (List.drop 4 cs)) = some y4 := hall 4 _ rfl
  rw [cellsSSO] at g0
  rw [cellsSSS] at g1
  rw [cellsSS] at g2
  rw [cellsSSI] at g3
  rw [cellsSI] at g4
  have bm : ∀ y ∈ [y0, y1, y2, y3, y4], Rows.uptoBulk y.1 ≤ 1048576 := fun y hy => by
   have := bulk_mem ([y0, y1, y2, y3, y4].map (·.1)) y.1 (List.mem_map.2 ⟨y, hy, rfl⟩)
   rw [hx] at hbk
   simp only [Rows.uptoBulk] at hbk
   omega
  have b0 := bm y0 (by simp)
  have b1 := bm y1 (by simp)
  have b2 := bm y2 (by simp)
  have b3 := bm y3 (by simp)
  have b4 := bm y4 (by simp)
  obtain ⟨at', xt, ct, e0, s0, p0, l0, m0, n0⟩ := open_sl (none, 0, []) Try.underlying22 cellsSO (by decide) rowE (fun _ => rfl) (RowP W op5L fun o => I64 o.imm) (fun g => g.2.2.length) (open_row ⟨0, 0, 0, 0, 0⟩ Try.underlying61 cellsOp (by decide) op5L (fun _ => rfl) (fun o => I64 o.imm) open_opW) g0
  obtain ⟨ar, xr, cr, e1, s1, p1, l1, m1, n1⟩ := open_sl (none, 0, []) Try.underlying23 cellsSS (by decide) rowE (fun _ => rfl) (RowP W strE fun s => s.size ≤ maxLen) (fun g => g.2.2.length) (open_row ⟨#[]⟩ Try.underlying24 cells9 (by decide) strE (fun _ => rfl) (fun s => s.size ≤ maxLen) open_str1) g1
  obtain ⟨al, xl, cl, e2, s2, p2, l2, _, n2⟩ := open_sl ⟨#[]⟩ Try.underlying24 cells9 (by decide) strE (fun _ => rfl) (fun s => s.size ≤ maxLen) (fun _ => 1) open_str1 g2
  obtain ⟨ai, xi, ci, e3, s3, p3, l3, m3, n3⟩ := open_sl (none, 0, []) Try.underlying25 cellsSI (by decide) rowE (fun _ => rfl) (RowP W intE I64) (fun g => g.2.2.length) (open_row 0 Try.underlying26 cells2 (by decide) intE (fun _ => rfl) I64 open_i2) g3
  obtain ⟨aj, xj, cj, e4, s4, p4, l4, _, n4⟩ := open_sl 0 Try.underlying26 cells2 (by decide) intE (fun _ => rfl) I64 (fun _ => 1) open_i2 g4
  refine ⟨⟨xt.map (·.2.2), xr.map (·.2.2), xl, xi.map (·.2.2), xj⟩, .slice at' (xt.map (·.2.2)).length ct, .slice ar (xr.map (·.2.2)).length cr, .slice al xl.length cl, .slice ai (xi.map (·.2.2)).length ci, .slice aj xj.length cj, ?_, ?_, ?_, ?_⟩
  · simp only [List.length_map]
    exact list5 hcl (take_one e0) (take_one e1) (take_one e2) (take_one e3) (take_one e4)
  · have fl : ∀ {β : Type} (xs : List (RowA β)), (xs.map (·.2.2)).flatten.length = (xs.map fun g => g.2.2.length).sum := fun xs => by rw [List.length_flatten, List.map_map]; rfl
    refine ⟨?_, ?_, ?_, ?_, ?_, ?_, ?_, ?_, ?_, ?_⟩
    · show (xt.map _).length ≤ _; rw [List.length_map]; omega
    · show (xt.map (·.2.2)).flatten.length ≤ _; rw [fl]; exact Nat.le_trans m0 b0
    · show (xr.map _).length ≤ _; rw [List.length_map]; omega
    · show (xr.map (·.2.2)).flatten.length ≤ _; rw [fl]; exact Nat.le_trans m1 b1
    · show xl.length ≤ _; omega
    · show (xi.map _).length ≤ _; rw [List.length_map]; omega
    · show (xi.map (·.2.2)).flatten.length ≤ _; rw [fl]; exact Nat.le_trans m3 b3
    · show xj.length ≤ _; omega
    · intro l hl s hs
      obtain ⟨g, hg, rfl⟩ := List.mem_map.1 hl
      exact (p1 g hg).2.2 s hs
    · exact fun s hs => p2 s hs
  · refine ⟨fun l hl o ho => ?_, fun l hl v hv => ?_, fun v hv => p4 v hv⟩
    · obtain ⟨q, hq, rfl⟩ := List.mem_map.1 hl
      exact (p0 q hq).2.2 o ho
    · obtain ⟨q, hq, rfl⟩ := List.mem_map.1 hl
      exact (p3 q hq).2.2 v hv
  · exact ⟨rows_of s0 p0 n0, rows_of s1 p1 n1, ⟨al, cl, rfl, s2, n2⟩, rows_of s3 p3 n3, ⟨aj, cj, rfl, s4, n4⟩⟩
theorem open_pk (fuel : Nat) (cs : List Value) (x : DataW H × List MemPlace) (h : DataW.trod enc Try.prog W 0 (fun _ => true) true fuel 68 cs = some x) : ∃ g : Int × Int × Int, cs = pkL g ∧ True ∧ 1 ≤ Rows.uptoBulk x.1 := by
 obtain ⟨ys, n, _, hx, hcl, hyl, hall⟩ := DataW.trod_struct Try.underlying68 h
 rw [cellsPk] at hcl
 match ys, hyl, hx, hall with
 | [y0, y1, y2], _, hx, hall =>
  have g0 : DataW.trod enc Try.prog W 0 (fun _ => true) true n 3 (List.take (Try.prog.cellsOf 3) (List.drop 0 cs)) = some y0 := hall 0 _ rfl
  have g1 : DataW.trod enc Try.prog W 0 (fun _ => true) true n 3 (List.take (Try.prog.cellsOf 3) (List.drop 1 cs)) = some y1 := hall 1 _ rfl
  have g2 : DataW.trod enc Try.prog W 0 (fun _ => true) true n 3 (List.take (Try.prog.cellsOf 3) (List.drop 2 cs)) = some y2 := hall 2 _ rfl
  rw [cells3] at g0 g1 g2
  obtain ⟨k, e0, _, _⟩ := DataW.trod_int Try.underlying3 g0
  obtain ⟨a, e1, _, _⟩ := DataW.trod_int Try.underlying3 g1
  obtain ⟨b, e2, _, _⟩ := DataW.trod_int Try.underlying3 g2
  exact ⟨(k, a, b), list3 hcl (take_one e0) (take_one e1) (take_one e2), trivial, bulk_pos _⟩
theorem open_pks (fuel : Nat) (cs : List Value) (x : DataW H × List MemPlace) (h : DataW.trod enc Try.prog W 0 (fun _ => true) true fuel 52 cs = some x) : ∃ (a : Option Addr) (ks : List (Int × Int × Int)) (cap : Nat), cs = [.slice a ks.length cap] ∧ Seg W a (ks.flatMap pkL) ∧ ks.length ≤ Rows.uptoBulk x.1 := by
 obtain ⟨a, ks, cap, e, sg, _, l, _, _⟩ := open_sl (0, 0, 0) Try.underlying52 cellsPk (by decide) pkL (fun _ => rfl) (fun _ => True) (fun _ => 1) open_pk h
 exact ⟨a, ks, cap, e, sg, l⟩
end
end Go.Proofs.Ytegpnicajlndlaa

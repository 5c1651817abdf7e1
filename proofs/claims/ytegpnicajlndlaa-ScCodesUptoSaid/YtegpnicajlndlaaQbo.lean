/- Several texts in one: OA11, RR1. -/
import Derived.Test.YtegpnicajlndlaaQbn
import Derived.Test.YtegpnicajlndlaaChecked
import Derived.Test.YtegpnicajlndlaaQbi
/- Programs, states and texts as arguments. -/
namespace Go.Proofs.Ytegpnicajlndlaa
open Go.ChangeShapes Go.WideShapes Go.ChangeAt Go.RowKit M
set_option linter.unusedSimpArgs false
set_option linter.unusedVariables false

theorem own : ownKnob Try.prog.godebug = none := by kernel_rfl
theorem laidOut : laidOutB Try.prog = true := by kernel_rfl
theorem cellsWr : Try.prog.cellsOf 50 = 2 := by kernel_rfl
theorem cellsStt : Try.prog.cellsOf 32 = 6 := by kernel_rfl
theorem cellsIs : Try.prog.cellsOf 29 = 1 := by kernel_rfl
theorem cellsSW : Try.prog.cellsOf 48 = 1 := by kernel_rfl
theorem cellsSSW : Try.prog.cellsOf 30 = 1 := by kernel_rfl
theorem i64_wf {n : Int} (h : (Lit.int .i64 n).wf = true) : I64 n := by
  unfold Lit.wf at h
  rw [Bool.and_eq_true, decide_eq_true_eq, decide_eq_true_eq] at h
  exact ⟨h.1, h.2⟩
theorem list6 {cs : List Value} {a b c d e f : Value} (hl : cs.length = 6) (h0 : cs[0]? = some a) (h1 : cs[1]? = some b) (h2 : cs[2]? = some c) (h3 : cs[3]? = some d) (h4 : cs[4]? = some e) (h5 : cs[5]? = some f) : cs = [a, b, c, d, e, f] := by
  match cs, hl with
  | [x0, x1, x2, x3, x4, x5], _ => simp at h0 h1 h2 h3 h4 h5; simp [h0, h1, h2, h3, h4, h5]
section
variable {H : Type} {enc : TypeId × Value → H} {W : World}
/-- A program, read. -/
theorem open_pg (fuel : Nat) (cs : List Value) (x : DataW H × List MemPlace) (hbk : Rows.uptoBulk x.1 ≤ 1048576) (h : DataW.trod enc Try.prog W 0 (fun _ => true) true fuel 28 cs = some x) :
    ∃ (p : PG) (vt vr vl vi vj : Value), cs = [vt, vr, vl, vi, vj] ∧ p.Few ∧ PGV W vt vr vl vi vj p := by
  obtain ⟨ys, n, _, hx, hcl, hyl, hall⟩ := DataW.trod_struct Try.underlying28 h
  rw [cellsPg] at hcl
  match ys, hyl, hx, hall with
  | [y0, y1, y2, y3, y4], _, hx, hall =>
    have g0 : DataW.trod enc Try.prog W 0 (fun _ => true) true n 22 (List.take (Try.prog.cellsOf 22) (List.drop 0 cs)) = some y0 := hall 0 _ rfl
    have g1 : DataW.trod enc Try.prog W 0 (fun _ => true) true n 23 (List.take (Try.prog.cellsOf 23) (List.drop 1 cs)) = some y1 := hall 1 _ rfl
    have g2 : DataW.trod enc Try.prog W 0 (fun _ => true) true n 24 (List.take (Try.prog.cellsOf 24) (List.drop 2 cs)) = some y2 := hall 2 _ rfl
    have g3 : DataW.trod enc Try.prog W 0 (fun _ => true) true n 25 (List.take (Try.prog.cellsOf 25) (List.drop 3 cs)) = some y3 := hall 3 _ rfl
    have g4 : DataW.trod enc Try.prog W 0 (fun _ => true) true n 26 (List.take (Try.prog.cellsOf 26) (List.drop 4 cs)) = some y4 := hall 4 _ rfl
    rw [cellsSSO] at g0
    rw [cellsSSS] at g1
    rw [cellsSS] at g2
    rw [cellsSSI] at g3
    rw [cellsSI] at g4
    have bm : ∀ y ∈ [y0, y1, y2, y3, y4], Rows.uptoBulk y.1 ≤ 1048576 := fun y hy => by
      have := bulk_mem ([y0, y1, y2, y3, y4].map (·.1)) y.1 (List.mem_map.2 ⟨y, hy, rfl⟩)
      rw [hx] at hbk
      simp only [Rows.uptoBulk] at hbk
      omega
    have b0 := bm y0 (by simp)
    have b1 := bm y1 (by simp)
    have b2 := bm y2 (by simp)
    have b3 := bm y3 (by simp)
    have b4 := bm y4 (by simp)
    obtain ⟨at', xt, ct, e0, s0, p0, l0, m0, n0⟩ := open_sl (none, 0, []) Try.underlying22 cellsSO (by decide) rowE (fun _ => rfl) (RowP W op5L fun _ => True) (fun g => g.2.2.length) (open_row ⟨0, 0, 0, 0, 0⟩ Try.underlying61 cellsOp (by decide) op5L (fun _ => rfl) (fun _ => True) open_op1) g0
    obtain ⟨ar, xr, cr, e1, s1, p1, l1, m1, n1⟩ := open_sl (none, 0, []) Try.underlying23 cellsSS (by decide) rowE (fun _ => rfl) (RowP W strE fun s => s.size ≤ maxLen) (fun g => g.2.2.length) (open_row ⟨#[]⟩ Try.underlying24 cells9 (by decide) strE (fun _ => rfl) (fun s => s.size ≤ maxLen) open_str1) g1
    obtain ⟨al, xl, cl, e2, s2, p2, l2, _, n2⟩ := open_sl ⟨#[]⟩ Try.underlying24 cells9 (by decide) strE (fun _ => rfl) (fun s => s.size ≤ maxLen) (fun _ => 1) open_str1 g2
    obtain ⟨ai, xi, ci, e3, s3, p3, l3, m3, n3⟩ := open_sl (none, 0, []) Try.underlying25 cellsSI (by decide) rowE (fun _ => rfl) (RowP W intE fun _ => True) (fun g => g.2.2.length) (open_row 0 Try.underlying26 cells2 (by decide) intE (fun _ => rfl) (fun _ => True) open_int1) g3
    obtain ⟨aj, xj, cj, e4, s4, p4, l4, _, n4⟩ := open_sl 0 Try.underlying26 cells2 (by decide) intE (fun _ => rfl) (fun _ => True) (fun _ => 1) open_int1 g4
    refine ⟨⟨xt.map (·.2.2), xr.map (·.2.2), xl, xi.map (·.2.2), xj⟩, .slice at' (xt.map (·.2.2)).length ct, .slice ar (xr.map (·.2.2)).length cr, .slice al xl.length cl, .slice ai (xi.map (·.2.2)).length ci, .slice aj xj.length cj, ?_, ?_, ?_⟩
    · simp only [List.length_map]
      exact list5 hcl (take_one e0) (take_one e1) (take_one e2) (take_one e3) (take_one e4)
    · have fl : ∀ {β : Type} (xs : List (RowA β)), (xs.map (·.2.2)).flatten.length = (xs.map fun g => g.2.2.length).sum := fun xs => by rw [List.length_flatten, List.map_map]; rfl
      refine ⟨?_, ?_, ?_, ?_, ?_, ?_, ?_, ?_, ?_, ?_⟩
      · show (xt.map _).length ≤ _; rw [List.length_map]; omega
      · show (xt.map (·.2.2)).flatten.length ≤ _; rw [fl]; exact Nat.le_trans m0 b0
      · show (xr.map _).length ≤ _; rw [List.length_map]; omega
      · show (xr.map (·.2.2)).flatten.length ≤ _; rw [fl]; exact Nat.le_trans m1 b1
      · show xl.length ≤ _; omega
      · show (xi.map _).length ≤ _; rw [List.length_map]; omega
      · show (xi.map (·.2.2)).flatten.length ≤ _; rw [fl]; exact Nat.le_trans m3 b3
      · show xj.length ≤ _; omega
      · intro l hl s hs
        obtain ⟨g, hg, rfl⟩ := List.mem_map.1 hl
        exact (p1 g hg).2.2 s hs
      · exact fun s hs => p2 s hs
    · exact ⟨rows_of s0 p0 n0, rows_of s1 p1 n1, ⟨al, cl, rfl, s2, n2⟩, rows_of s3 p3 n3, ⟨aj, cj, rfl, s4, n4⟩⟩
theorem open_i3 (fuel : Nat) (cs : List Value) (x : DataW H × List MemPlace) (h : DataW.trod enc Try.prog W 0 (fun _ => true) true fuel 3 cs = some x) : ∃ g : Int, cs = intE g ∧ I64 g ∧ 1 ≤ Rows.uptoBulk x.1 := by
  obtain ⟨s, e, _, hw⟩ := DataW.trod_int Try.underlying3 h
  exact ⟨s, e, i64_wf hw, bulk_pos _⟩
theorem open_i2 (fuel : Nat) (cs : List Value) (x : DataW H × List MemPlace) (h : DataW.trod enc Try.prog W 0 (fun _ => true) true fuel 2 cs = some x) : ∃ g : Int, cs = intE g ∧ I64 g ∧ 1 ≤ Rows.uptoBulk x.1 := by
  obtain ⟨s, e, _, hw⟩ := DataW.trod_int Try.underlying2 h
  exact ⟨s, e, i64_wf hw, bulk_pos _⟩
theorem open_wr (fuel : Nat) (cs : List Value) (x : DataW H × List MemPlace) (h : DataW.trod enc Try.prog W 0 (fun _ => true) true fuel 50 cs = some x) : ∃ g : Int × Int, cs = wrE g ∧ (I64 g.1 ∧ I64 g.2) ∧ 1 ≤ Rows.uptoBulk x.1 := by
  obtain ⟨ys, n, _, hx, hcl, hyl, hall⟩ := DataW.trod_struct Try.underlying50 h
  rw [cellsWr] at hcl
  match ys, hyl, hx, hall with
  | [y0, y1], _, hx, hall =>
    have g0 : DataW.trod enc Try.prog W 0 (fun _ => true) true n 3 (List.take (Try.prog.cellsOf 3) (List.drop 0 cs)) = some y0 := hall 0 _ rfl
    have g1 : DataW.trod enc Try.prog W 0 (fun _ => true) true n 2 (List.take (Try.prog.cellsOf 2) (List.drop 1 cs)) = some y1 := hall 1 _ rfl
    rw [cells3] at g0
    rw [cells2] at g1
    obtain ⟨k, e0, _, w0⟩ := DataW.trod_int Try.underlying3 g0
    obtain ⟨v, e1, _, w1⟩ := DataW.trod_int Try.underlying2 g1
    exact ⟨(k, v), list2 hcl (take_one e0) (take_one e1), ⟨i64_wf w0, i64_wf w1⟩, bulk_pos _⟩
/-- A state, read. -/
theorem open_st (fuel : Nat) (cs : List Value) (x : DataW H × List MemPlace) (hbk : Rows.uptoBulk x.1 ≤ 1048576) (h : DataW.trod enc Try.prog W 0 (fun _ => true) true fuel 32 cs = some x) :
    ∃ (s : ST) (v1 v2 v3 v4 v5 : Value), cs = [v1, v2, v3, v4, v5, .int .i64 s.lock] ∧ s.Few ∧ Wid s ∧ STV W s v1 v2 v3 v4 v5 := by
  obtain ⟨ys, n, _, hx, hcl, hyl, hall⟩ := DataW.trod_struct Try.underlying32 h
  rw [cellsStt] at hcl
  match ys, hyl, hx, hall with
  | [y0, y1, y2, y3, y4, y5], _, hx, hall =>
    have g0 : DataW.trod enc Try.prog W 0 (fun _ => true) true n 29 (List.take (Try.prog.cellsOf 29) (List.drop 0 cs)) = some y0 := hall 0 _ rfl
    have g1 : DataW.trod enc Try.prog W 0 (fun _ => true) true n 29 (List.take (Try.prog.cellsOf 29) (List.drop 1 cs)) = some y1 := hall 1 _ rfl
    have g2 : DataW.trod enc Try.prog W 0 (fun _ => true) true n 25 (List.take (Try.prog.cellsOf 25) (List.drop 2 cs)) = some y2 := hall 2 _ rfl
    have g3 : DataW.trod enc Try.prog W 0 (fun _ => true) true n 26 (List.take (Try.prog.cellsOf 26) (List.drop 3 cs)) = some y3 := hall 3 _ rfl
    have g4 : DataW.trod enc Try.prog W 0 (fun _ => true) true n 30 (List.take (Try.prog.cellsOf 30) (List.drop 4 cs)) = some y4 := hall 4 _ rfl
    have g5 : DataW.trod enc Try.prog W 0 (fun _ => true) true n 3 (List.take (Try.prog.cellsOf 3) (List.drop 5 cs)) = some y5 := hall 5 _ rfl
    rw [cellsIs] at g0 g1
    rw [cellsSSI] at g2
    rw [cellsSI] at g3
    rw [cellsSSW] at g4
    rw [cells3] at g5
    have bm : ∀ y ∈ [y0, y1, y2, y3, y4, y5], Rows.uptoBulk y.1 ≤ 1048576 := fun y hy => by
      have := bulk_mem ([y0, y1, y2, y3, y4, y5].map (·.1)) y.1 (List.mem_map.2 ⟨y, hy, rfl⟩)
      rw [hx] at hbk
      simp only [Rows.uptoBulk] at hbk
      omega
    have b0 := bm y0 (by simp)
    have b1 := bm y1 (by simp)
    have b2 := bm y2 (by simp)
    have b3 := bm y3 (by simp)
    have b4 := bm y4 (by simp)
    obtain ⟨a0, x0, c0, e0, s0, p0, l0, _, n0⟩ := open_sl 0 Try.underlying29 cells3 (by decide) intE (fun _ => rfl) I64 (fun _ => 1) open_i3 g0
    obtain ⟨a1, x1, c1, e1, s1, p1, l1, _, n1⟩ := open_sl 0 Try.underlying29 cells3 (by decide) intE (fun _ => rfl) I64 (fun _ => 1) open_i3 g1
    obtain ⟨a2, x2, c2, e2, s2, p2, l2, m2, n2⟩ := open_sl (none, 0, []) Try.underlying25 cellsSI (by decide) rowE (fun _ => rfl) (RowP W intE I64) (fun g => g.2.2.length) (open_row 0 Try.underlying26 cells2 (by decide) intE (fun _ => rfl) I64 open_i2) g2
    obtain ⟨a3, x3, c3, e3, s3, p3, l3, _, n3⟩ := open_sl 0 Try.underlying26 cells2 (by decide) intE (fun _ => rfl) I64 (fun _ => 1) open_i2 g3
    obtain ⟨a4, x4, c4, e4, s4, p4, l4, m4, n4⟩ := open_sl (none, 0, []) Try.underlying30 cellsSW (by decide) rowE (fun _ => rfl) (RowP W wrE fun g => I64 g.1 ∧ I64 g.2) (fun g => g.2.2.length) (open_row (0, 0) Try.underlying48 cellsWr (by decide) wrE (fun _ => rfl) (fun g => I64 g.1 ∧ I64 g.2) open_wr) g4
    obtain ⟨lk, e5, _, w5⟩ := DataW.trod_int Try.underlying3 g5
    have fl : ∀ {β : Type} (xs : List (RowA β)), (xs.map (·.2.2)).flatten.length = (xs.map fun g => g.2.2.length).sum := fun xs => by rw [List.length_flatten, List.map_map]; rfl
    have f2 : (x2.map (·.2.2)).flatten.length ≤ 1048576 := by rw [fl]; exact Nat.le_trans m2 b2
    have f4 : (x4.map (·.2.2)).flatten.length ≤ 1048576 := by rw [fl]; exact Nat.le_trans m4 b4
    refine ⟨⟨x0, x1, x2.map (·.2.2), x3, x4.map (·.2.2), lk⟩, .slice a0 x0.length c0, .slice a1 x1.length c1, .slice a2 (x2.map (·.2.2)).length c2, .slice a3 x3.length c3, .slice a4 (x4.map (·.2.2)).length c4, ?_, ?_, ?_, ?_⟩
    · simp only [List.length_map]
      exact list6 hcl (take_one e0) (take_one e1) (take_one e2) (take_one e3) (take_one e4) (take_one e5)
    · exact ⟨Nat.le_trans l0 b0, Nat.le_trans l1 b1, by show (x2.map _).length ≤ _; rw [List.length_map]; omega, f2, Nat.le_trans l3 b3, by show (x4.map _).length ≤ _; rw [List.length_map]; omega, f4⟩
    · refine ⟨p0, p1, fun l hl v hv => ?_, p3, fun l hl => ⟨?_, fun v hv => ?_⟩, i64_wf w5⟩
      · obtain ⟨g, hg, rfl⟩ := List.mem_map.1 hl
        exact (p2 g hg).2.2 v hv
      · have := Nat.le_trans (flat_mem hl) f4
        omega
      · obtain ⟨g, hg, rfl⟩ := List.mem_map.1 hl
        exact (p4 g hg).2.2 v hv
    · exact ⟨⟨a0, c0, rfl, s0, n0⟩, ⟨a1, c1, rfl, s1, n1⟩, rows_of s2 p2 n2, ⟨a3, c3, rfl, s3, n3⟩, rows_of s4 p4 n4⟩
/-- A string's bulk. -/
theorem open_text (fuel : Nat) (cs : List Value) (x : DataW H × List MemPlace) (h : DataW.trod enc Try.prog W 0 (fun _ => true) true fuel 9 cs = some x) : ∃ s : ByteArray, cs = [.string s] ∧ s.size ≤ Rows.uptoBulk x.1 := by
  obtain ⟨s, e, hx, hs⟩ := DataW.trod_string Try.underlying9 h
  refine ⟨s, e, ?_⟩
  rw [hx]
  simp only [Rows.uptoBulk]
  have : s.data.toList.length = s.size := by rw [Array.length_toList]; rfl
  first | omega | (simp; done) | (simp; omega)
end
end Go.Proofs.Ytegpnicajlndlaa
/- The reader of a state's text: value, number. -/
namespace Go.Proofs.Ytegpnicajlndlaa
open Go.RowKit M
set_option linter.unusedSimpArgs false
set_option linter.unusedVariables false

/-- A reader in memory. -/
def RrS (w : World) (b : Nat) (T : ByteArray) (r : RD) : Prop := IsS w b 111 [.string T, .int .i64 (r.at' : Int), .bool r.bad]
set_option maxRecDepth 100000 in
set_option maxHeartbeats 4000000 in
theorem rtk_any (T : ByteArray) (hT : T.size ≤ 1099511627776) (r : RD) (hr : r.at' ≤ T.size) (b : Nat) (w : World) (hI0 : RrS w b T r) :
    Calls Try.prog 46 #[.pointer (some ⟨b, 0, none⟩)] w fun e w' => e = .returned (.int .i64 (valR T r).1) ∧ RrS w' b T (valR T r).2 ∧ One w w' b := by
  obtain ⟨p, q⟩ := r
  have hI : IsS w b 111 [.string T, .int .i64 (p : Int), .bool q] := hI0
  have hTk := fun W => (rtake_any T (p : Int) (by unfold maxLen; omega) W).mono (R' := fun e w' => e = .returned (takeV (takeA T (p : Int))) ∧ Below W.heap.size W w') fun e w' ⟨h1, h2⟩ => ⟨h1, by rw [h2]; exact Below.refl _ _⟩
  have hp : (p : Int) ≤ 1099511627776 := by have : p ≤ T.size := hr; omega
  have ta : True := trivial
  have tb : True := trivial
  cases ht : takeA T (p : Int) with
  | none =>
    have HV : Hid (valR T ⟨p, q⟩ = (0, ⟨p, true⟩)) := by show _ = _; unfold valR; simp only [ht]
    rw [ht] at hTk
    simp only [takeV] at hTk
    clear ht hI0 hr
    go_enter Try.func46, Try.ntmps46
    go_wp2_with fail
    refine grow_allW (by kernel_rfl) (by kernel_rfl) ?_
    refine WG.put rfl (v := (.pointer (some ⟨b, 0, none⟩))) (fun w => by first | rfl | (go_simp; done) | (simp [go_sem]; done) | (simp [execOp, go_sem]; done)) ?_
    simp only [Act.put, List.setIfInBounds_toArray, List.set_cons_succ, List.set_cons_zero]
    refine WG.put rfl (v := (.pointer (some ⟨b, 0, none⟩))) (fun w => by first | rfl | (go_simp; done) | (simp [go_sem]; done) | (simp [execOp, go_sem]; done)) ?_
    simp only [Act.put, List.setIfInBounds_toArray, List.set_cons_succ, List.set_cons_zero]
    refine WG.put rfl (v := (.pointer (some ⟨b, 0, none⟩))) (fun w => by first | rfl | (go_simp; done) | (simp [go_sem]; done) | (simp [execOp, go_sem]; done)) ?_
    simp only [Act.put, List.setIfInBounds_toArray, List.set_cons_succ, List.set_cons_zero]
    refine WG.load1 rfl 9 _ rfl rfl (hI) (v := (.string T)) rfl (fun w h => by simp [go_sem, h]) ?_
    simp only [Act.put, List.setIfInBounds_toArray, List.set_cons_succ, List.set_cons_zero]
    refine WG.put rfl (v := (.pointer (some ⟨b, 0, none⟩))) (fun w => by first | rfl | (go_simp; done) | (simp [go_sem]; done) | (simp [execOp, go_sem]; done)) ?_
    simp only [Act.put, List.setIfInBounds_toArray, List.set_cons_succ, List.set_cons_zero]
    refine WG.put rfl (v := (.pointer (some ⟨b, 0, none⟩))) (fun w => by first | rfl | (go_simp; done) | (simp [go_sem]; done) | (simp [execOp, go_sem]; done)) ?_
    simp only [Act.put, List.setIfInBounds_toArray, List.set_cons_succ, List.set_cons_zero]
    refine WG.put rfl (v := (.pointer (some ⟨b, 1, none⟩))) (fun w => by first | rfl | (go_simp; done) | (simp [go_sem]; done) | (simp [execOp, go_sem]; done)) ?_
    simp only [Act.put, List.setIfInBounds_toArray, List.set_cons_succ, List.set_cons_zero]
    refine WG.load1 rfl 3 _ rfl rfl (hI) (v := (.int .i64 (p : Int))) rfl (fun w h => by simp [go_sem, h]) ?_
    simp only [Act.put, List.setIfInBounds_toArray, List.set_cons_succ, List.set_cons_zero]
    refine WG.call rfl (f := 96) (v := (.tuple #[.int .i64 0, .int .i64 ((0 : Nat) : Int), .int .i64 40])) (fun W _ => hTk W) (fun w => by first | rfl | (go_simp; done) | (simp [execOp, go_sem]; done)) ?_
    simp only [Act.put, List.setIfInBounds_toArray, List.set_cons_succ, List.set_cons_zero]
    refine WG.put rfl (v := (.tuple #[.int .i64 0, .int .i64 ((0 : Nat) : Int), .int .i64 40])) (fun w => by first | rfl | (go_simp; done) | (simp [go_sem]; done) | (simp [execOp, go_sem]; done)) ?_
    simp only [Act.put, List.setIfInBounds_toArray, List.set_cons_succ, List.set_cons_zero]
    refine WG.put rfl (v := (.int .i64 0)) (fun w => by first | rfl | (go_simp; done) | (simp [go_sem]; done) | (simp [execOp, go_sem]; done)) ?_
    simp only [Act.put, List.setIfInBounds_toArray, List.set_cons_succ, List.set_cons_zero]
    refine WG.put rfl (v := (.int .i64 ((0 : Nat) : Int))) (fun w => by first | rfl | (go_simp; done) | (simp [go_sem]; done) | (simp [execOp, go_sem]; done)) ?_
    simp only [Act.put, List.setIfInBounds_toArray, List.set_cons_succ, List.set_cons_zero]
    refine WG.put rfl (v := (.int .i64 40)) (fun w => by first | rfl | (go_simp; done) | (simp [go_sem]; done) | (simp [execOp, go_sem]; done)) ?_
    simp only [Act.put, List.setIfInBounds_toArray, List.set_cons_succ, List.set_cons_zero]
    refine WG.put rfl (v := (.int .i64 0)) (fun w => by first | rfl | (go_simp; done) | (simp [go_sem]; done) | (simp [execOp, go_sem]; done)) ?_
    simp only [Act.put, List.setIfInBounds_toArray, List.set_cons_succ, List.set_cons_zero]
    refine WG.put rfl (v := (.int .i64 ((0 : Nat) : Int))) (fun w => by first | rfl | (go_simp; done) | (simp [go_sem]; done) | (simp [execOp, go_sem]; done)) ?_
    simp only [Act.put, List.setIfInBounds_toArray, List.set_cons_succ, List.set_cons_zero]
    refine WG.put rfl (v := (.int .i64 40)) (fun w => by first | rfl | (go_simp; done) | (simp [go_sem]; done) | (simp [execOp, go_sem]; done)) ?_
    simp only [Act.put, List.setIfInBounds_toArray, List.set_cons_succ, List.set_cons_zero]
    refine WG.nil ?_
    intro W1 B1
    have I1 := hI.grown B1
    go_wp2_with (first
      | (clear ta; refine wpList_store1 rfl 4 _ _ rfl rfl (.bool true) rfl I1 (by simp) info4 rfl ?_; intro W2 U2 I2x; have I2 : IsS W2 b 111 [.string T, .int .i64 (p : Int), .bool true] := I2x; obtain ⟨y0, y1, y2⟩ := three_cells I2; clear I2x)
      )
    go_ret
    rw [HV.out]
    exact ⟨rfl, I2, One.trans (One.of_below B1 b) (One.of_upd U2)⟩
  | some t =>
    obtain ⟨v, m⟩ := t
    have hm := (takeA_cut ht).2.2.1
    have hmI : (p : Int) + (m : Int) ≤ 1099511627776 := by omega
    have HV : Hid (valR T ⟨p, q⟩ = (v, ⟨p + m, q⟩)) := by show _ = _; unfold valR; simp only [ht]
    rw [ht] at hTk
    simp only [takeV] at hTk
    clear ht hI0 hr hm
    go_enter Try.func46, Try.ntmps46
    go_wp2_with fail
    refine grow_allW (by kernel_rfl) (by kernel_rfl) ?_
    refine WG.put rfl (v := (.pointer (some ⟨b, 0, none⟩))) (fun w => by first | rfl | (go_simp; done) | (simp [go_sem]; done) | (simp [execOp, go_sem]; done)) ?_
    simp only [Act.put, List.setIfInBounds_toArray, List.set_cons_succ, List.set_cons_zero]
    refine WG.put rfl (v := (.pointer (some ⟨b, 0, none⟩))) (fun w => by first | rfl | (go_simp; done) | (simp [go_sem]; done) | (simp [execOp, go_sem]; done)) ?_
    simp only [Act.put, List.setIfInBounds_toArray, List.set_cons_succ, List.set_cons_zero]
    refine WG.put rfl (v := (.pointer (some ⟨b, 0, none⟩))) (fun w => by first | rfl | (go_simp; done) | (simp [go_sem]; done) | (simp [execOp, go_sem]; done)) ?_
    simp only [Act.put, List.setIfInBounds_toArray, List.set_cons_succ, List.set_cons_zero]
    refine WG.load1 rfl 9 _ rfl rfl (hI) (v := (.string T)) rfl (fun w h => by simp [go_sem, h]) ?_
    simp only [Act.put, List.setIfInBounds_toArray, List.set_cons_succ, List.set_cons_zero]
    refine WG.put rfl (v := (.pointer (some ⟨b, 0, none⟩))) (fun w => by first | rfl | (go_simp; done) | (simp [go_sem]; done) | (simp [execOp, go_sem]; done)) ?_
    simp only [Act.put, List.setIfInBounds_toArray, List.set_cons_succ, List.set_cons_zero]
    refine WG.put rfl (v := (.pointer (some ⟨b, 0, none⟩))) (fun w => by first | rfl | (go_simp; done) | (simp [go_sem]; done) | (simp [execOp, go_sem]; done)) ?_
    simp only [Act.put, List.setIfInBounds_toArray, List.set_cons_succ, List.set_cons_zero]
    refine WG.put rfl (v := (.pointer (some ⟨b, 1, none⟩))) (fun w => by first | rfl | (go_simp; done) | (simp [go_sem]; done) | (simp [execOp, go_sem]; done)) ?_
    simp only [Act.put, List.setIfInBounds_toArray, List.set_cons_succ, List.set_cons_zero]
    refine WG.load1 rfl 3 _ rfl rfl (hI) (v := (.int .i64 (p : Int))) rfl (fun w h => by simp [go_sem, h]) ?_
    simp only [Act.put, List.setIfInBounds_toArray, List.set_cons_succ, List.set_cons_zero]
    refine WG.call rfl (f := 96) (v := (.tuple #[.int .i64 v, .int .i64 (m : Int), .int .i64 0])) (fun W _ => hTk W) (fun w => by first | rfl | (go_simp; done) | (simp [execOp, go_sem]; done)) ?_
    simp only [Act.put, List.setIfInBounds_toArray, List.set_cons_succ, List.set_cons_zero]
    refine WG.put rfl (v := (.tuple #[.int .i64 v, .int .i64 (m : Int), .int .i64 0])) (fun w => by first | rfl | (go_simp; done) | (simp [go_sem]; done) | (simp [execOp, go_sem]; done)) ?_
    simp only [Act.put, List.setIfInBounds_toArray, List.set_cons_succ, List.set_cons_zero]
    refine WG.put rfl (v := (.int .i64 v)) (fun w => by first | rfl | (go_simp; done) | (simp [go_sem]; done) | (simp [execOp, go_sem]; done)) ?_
    simp only [Act.put, List.setIfInBounds_toArray, List.set_cons_succ, List.set_cons_zero]
    refine WG.put rfl (v := (.int .i64 (m : Int))) (fun w => by first | rfl | (go_simp; done) | (simp [go_sem]; done) | (simp [execOp, go_sem]; done)) ?_
    simp only [Act.put, List.setIfInBounds_toArray, List.set_cons_succ, List.set_cons_zero]
    refine WG.put rfl (v := (.int .i64 0)) (fun w => by first | rfl | (go_simp; done) | (simp [go_sem]; done) | (simp [execOp, go_sem]; done)) ?_
    simp only [Act.put, List.setIfInBounds_toArray, List.set_cons_succ, List.set_cons_zero]
    refine WG.put rfl (v := (.int .i64 v)) (fun w => by first | rfl | (go_simp; done) | (simp [go_sem]; done) | (simp [execOp, go_sem]; done)) ?_
    simp only [Act.put, List.setIfInBounds_toArray, List.set_cons_succ, List.set_cons_zero]
    refine WG.put rfl (v := (.int .i64 (m : Int))) (fun w => by first | rfl | (go_simp; done) | (simp [go_sem]; done) | (simp [execOp, go_sem]; done)) ?_
    simp only [Act.put, List.setIfInBounds_toArray, List.set_cons_succ, List.set_cons_zero]
    refine WG.put rfl (v := (.int .i64 0)) (fun w => by first | rfl | (go_simp; done) | (simp [go_sem]; done) | (simp [execOp, go_sem]; done)) ?_
    simp only [Act.put, List.setIfInBounds_toArray, List.set_cons_succ, List.set_cons_zero]
    refine WG.nil ?_
    intro W1 B1
    have I1 := hI.grown B1
    obtain ⟨y0, y1, y2⟩ := three_cells I1
    go_wp2_with (first
      | (clear tb; refine wpList_store1 rfl 3 _ _ rfl rfl (.int .i64 ((p : Int) + (m : Int))) rfl I1 (by simp) info3x rfl ?_; intro W3 U3 I3x; have I3 : IsS W3 b 111 [.string T, .int .i64 ((p : Int) + (m : Int)), .bool q] := I3x; clear I3x))
    go_ret
    rw [HV.out]
    exact ⟨rfl, (by show IsS _ _ _ _; rw [show ((p + m : Nat) : Int) = (p : Int) + (m : Int) by omega]; exact I3), One.trans (One.of_below B1 b) (One.of_upd U3)⟩
set_option maxRecDepth 100000 in
set_option maxHeartbeats 4000000 in
theorem rsm_any (T : ByteArray) (hT : T.size ≤ 1099511627776) (r : RD) (hr : r.at' ≤ T.size) (hi : Int) (b : Nat) (w : World) (hI0 : RrS w b T r) :
    Calls Try.prog 45 #[.pointer (some ⟨b, 0, none⟩), .int .i64 hi] w fun e w' => e = .returned (.int .i64 (numR T 0 hi r).1) ∧ RrS w' b T (numR T 0 hi r).2 ∧ One w w' b := by
  have hval := rtk_any T hT r hr b w hI0
  obtain ⟨v, hv⟩ : ∃ v, v = (valR T r).1 := ⟨_, rfl⟩
  obtain ⟨q, hq⟩ : ∃ v, v = (valR T r).2 := ⟨_, rfl⟩
  by_cases h1 : v < 0
  · have HV : Hid (numR T 0 hi r = (0, ⟨q.at', true⟩)) := by show _ = _; unfold numR; rw [← hv, if_neg (by omega), hq]
    rw [← hv, ← hq] at hval
    clear hv hq
    go_enter Try.func45, Try.ntmps45
    go_wp2_with (first
      | (go_at_call 46; refine hval.mono ?_; rintro e W1 ⟨rfl, I1, O1⟩; have I1' : IsS W1 b 111 [.string T, .int .i64 (q.at' : Int), .bool q.bad] := I1)
      | (refine wpList_store1 rfl 4 _ _ rfl rfl (.bool true) rfl I1' (by simp) info4 rfl ?_; intro W2 U2 I2x; have I2 : IsS W2 b 111 [.string T, .int .i64 (q.at' : Int), .bool true] := I2x))
    go_ret
    rw [HV.out]
    exact ⟨rfl, I2, O1.trans (One.of_upd U2)⟩
  by_cases h2 : hi < v
  · have HV : Hid (numR T 0 hi r = (0, ⟨q.at', true⟩)) := by show _ = _; unfold numR; rw [← hv, if_neg (by omega), hq]
    rw [← hv, ← hq] at hval
    clear hv hq
    go_enter Try.func45, Try.ntmps45
    go_wp2_with (first
      | (go_at_call 46; refine hval.mono ?_; rintro e W1 ⟨rfl, I1, O1⟩; have I1' : IsS W1 b 111 [.string T, .int .i64 (q.at' : Int), .bool q.bad] := I1)
      | (refine wpList_store1 rfl 4 _ _ rfl rfl (.bool true) rfl I1' (by simp) info4 rfl ?_; intro W2 U2 I2x; have I2 : IsS W2 b 111 [.string T, .int .i64 (q.at' : Int), .bool true] := I2x))
    go_ret
    rw [HV.out]
    exact ⟨rfl, I2, O1.trans (One.of_upd U2)⟩
  · have HV : Hid (numR T 0 hi r = (v, q)) := by show _ = _; unfold numR; rw [← hv, if_pos (by omega), hv, hq]
    rw [← hv, ← hq] at hval
    clear hv hq
    go_enter Try.func45, Try.ntmps45
    go_wp2_with (first
      | (go_at_call 46; refine hval.mono ?_; rintro e W1 ⟨rfl, I1, O1⟩))
    go_ret
    rw [HV.out]
    exact ⟨rfl, I1, O1⟩
end Go.Proofs.Ytegpnicajlndlaa

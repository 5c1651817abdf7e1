/- ScPlays: for every program and list of numbers that hold, their texts' letters and all, at most 1048576 values the law returns true and leaves its arguments as they were; no other condition. -/
import Derived.Test.YtegpnicajlndlaaPL11
import Derived.Test.YtegpnicajlndlaaOP
import Derived.Test.YtegpnicajlndlaaChecked
namespace Go.Proofs.Ytegpnicajlndlaa
open Go.ChangeShapes Go.WideShapes Go.ChangeAt Go.RowKit M
set_option linter.unusedSimpArgs false
set_option linter.unusedVariables false

theorem own : ownKnob Try.prog.godebug = none := by kernel_rfl
theorem laidOut : laidOutB Try.prog = true := by kernel_rfl
section
variable {H : Type} {enc : TypeId × Value → H} {W : World}
/-- A program, read. -/
theorem open_pg (fuel : Nat) (cs : List Value) (x : DataW H × List MemPlace) (hbk : Rows.uptoBulk x.1 ≤ 1048576) (h : DataW.trod enc Try.prog W 0 (fun _ => true) true fuel 28 cs = some x) :
    ∃ (p : PG) (vt vr vl vi vj : Value), cs = [vt, vr, vl, vi, vj] ∧ p.Few ∧ PGV W vt vr vl vi vj p := by
  obtain ⟨ys, n, _, hx, hcl, hyl, hall⟩ := DataW.trod_struct Try.underlying28 h
  rw [cellsPg] at hcl
  match ys, hyl, hx, hall with
  | [y0, y1, y2, y3, y4], _, hx, hall =>
    have g0 : DataW.trod enc Try.prog W 0 (fun _ => true) true n 22 (List.take (Try.prog.cellsOf 22) (List.drop 0 cs)) = some y0 := hall 0 _ rfl
    have g1 : DataW.trod enc Try.prog W 0 (fun _ => true) true n 23 (List.take (Try.prog.cellsOf 23) (List.drop 1 cs)) = some y1 := hall 1 _ rfl
    have g2 : DataW.trod enc Try.prog W 0 (fun _ => true) true n 24 (List.take (Try.prog.cellsOf 24) (List.drop 2 cs)) = some y2 := hall 2 _ rfl
    have g3 : DataW.trod enc Try.prog W 0 (fun _ => true) true n 25 (List.take (Try.prog.cellsOf 25) (List.drop 3 cs)) = some y3 := hall 3 _ rfl
    have g4 : DataW.trod enc Try.prog W 0 (fun _ => true) true n 26 (List.take (Try.prog.cellsOf 26) (List.drop 4 cs)) = some y4 := hall 4 _ rfl
    rw [cellsSSO] at g0
    rw [cellsSSS] at g1
    rw [cellsSS] at g2
    rw [cellsSSI] at g3
    rw [cellsSI] at g4
    have bm : ∀ y ∈ [y0, y1, y2, y3, y4], Rows.uptoBulk y.1 ≤ 1048576 := fun y hy => by
      have := bulk_mem ([y0, y1, y2, y3, y4].map (·.1)) y.1 (List.mem_map.2 ⟨y, hy, rfl⟩)
      rw [hx] at hbk
      simp only [Rows.uptoBulk] at hbk
      omega
    have b0 := bm y0 (by simp)
    have b1 := bm y1 (by simp)
    have b2 := bm y2 (by simp)
    have b3 := bm y3 (by simp)
    have b4 := bm y4 (by simp)
    obtain ⟨at', xt, ct, e0, s0, p0, l0, m0, n0⟩ := open_sl (none, 0, []) Try.underlying22 cellsSO (by decide) rowE (fun _ => rfl) (RowP W op5L fun _ => True) (fun g => g.2.2.length) (open_row ⟨0, 0, 0, 0, 0⟩ Try.underlying61 cellsOp (by decide) op5L (fun _ => rfl) (fun _ => True) open_op1) g0
    obtain ⟨ar, xr, cr, e1, s1, p1, l1, m1, n1⟩ := open_sl (none, 0, []) Try.underlying23 cellsSS (by decide) rowE (fun _ => rfl) (RowP W strE fun s => s.size ≤ maxLen) (fun g => g.2.2.length) (open_row ⟨#[]⟩ Try.underlying24 cells9 (by decide) strE (fun _ => rfl) (fun s => s.size ≤ maxLen) open_str1) g1
    obtain ⟨al, xl, cl, e2, s2, p2, l2, _, n2⟩ := open_sl ⟨#[]⟩ Try.underlying24 cells9 (by decide) strE (fun _ => rfl) (fun s => s.size ≤ maxLen) (fun _ => 1) open_str1 g2
    obtain ⟨ai, xi, ci, e3, s3, p3, l3, m3, n3⟩ := open_sl (none, 0, []) Try.underlying25 cellsSI (by decide) rowE (fun _ => rfl) (RowP W intE fun _ => True) (fun g => g.2.2.length) (open_row 0 Try.underlying26 cells2 (by decide) intE (fun _ => rfl) (fun _ => True) open_int1) g3
    obtain ⟨aj, xj, cj, e4, s4, p4, l4, _, n4⟩ := open_sl 0 Try.underlying26 cells2 (by decide) intE (fun _ => rfl) (fun _ => True) (fun _ => 1) open_int1 g4
    refine ⟨⟨xt.map (·.2.2), xr.map (·.2.2), xl, xi.map (·.2.2), xj⟩, .slice at' (xt.map (·.2.2)).length ct, .slice ar (xr.map (·.2.2)).length cr, .slice al xl.length cl, .slice ai (xi.map (·.2.2)).length ci, .slice aj xj.length cj, ?_, ?_, ?_⟩
    · simp only [List.length_map]
      exact list5 hcl (take_one e0) (take_one e1) (take_one e2) (take_one e3) (take_one e4)
    · have fl : ∀ {β : Type} (xs : List (RowA β)), (xs.map (·.2.2)).flatten.length = (xs.map fun g => g.2.2.length).sum := fun xs => by rw [List.length_flatten, List.map_map]; rfl
      refine ⟨?_, ?_, ?_, ?_, ?_, ?_, ?_, ?_, ?_, ?_⟩
      · show (xt.map _).length ≤ _; rw [List.length_map]; omega
      · show (xt.map (·.2.2)).flatten.length ≤ _; rw [fl]; exact Nat.le_trans m0 b0
      · show (xr.map _).length ≤ _; rw [List.length_map]; omega
      · show (xr.map (·.2.2)).flatten.length ≤ _; rw [fl]; exact Nat.le_trans m1 b1
      · show xl.length ≤ _; omega
      · show (xi.map _).length ≤ _; rw [List.length_map]; omega
      · show (xi.map (·.2.2)).flatten.length ≤ _; rw [fl]; exact Nat.le_trans m3 b3
      · show xj.length ≤ _; omega
      · intro l hl s hs
        obtain ⟨g, hg, rfl⟩ := List.mem_map.1 hl
        exact (p1 g hg).2.2 s hs
      · exact fun s hs => p2 s hs
    · exact ⟨rows_of s0 p0 n0, rows_of s1 p1 n1, ⟨al, cl, rfl, s2, n2⟩, rows_of s3 p3 n3, ⟨aj, cj, rfl, s4, n4⟩⟩
theorem open_i31 (fuel : Nat) (cs : List Value) (x : DataW H × List MemPlace) (h : DataW.trod enc Try.prog W 0 (fun _ => true) true fuel 3 cs = some x) : ∃ g : Int, cs = intE g ∧ True ∧ 1 ≤ Rows.uptoBulk x.1 := by
  obtain ⟨s, e, _, _⟩ := DataW.trod_int Try.underlying3 h
  exact ⟨s, e, trivial, bulk_pos _⟩
end
set_option maxHeartbeats 800000 in
set_option maxRecDepth 100000 in
theorem scPlays_lifted (os : Os) (started : os.Started) (H : Type) (enc : TypeId × Value → H) (F : Stop.Interp) :
    ReturnsInHanded {} Try.checked os 6 .any ((Rows.OpenSpec.upto Rows.scPlaysSpec).pre6 enc Try.prog Try.f6 Rows.scPlaysUptoRow.domain false) (((Rows.OpenSpec.upto Rows.scPlaysSpec).at F).post enc Try.prog Try.f6 false true false false) := by
  refine returnsInHanded_of_cond (C := Try.checked) (s := Rows.OpenSpec.upto Rows.scPlaysSpec) (k := Rows.uptoSmall) rfl own started (by kernel_rfl) Try.func6
    (OpenSpec.witness (enc := enc) (C := Try.checked) (s := Rows.OpenSpec.upto Rows.scPlaysSpec) (k := Rows.uptoSmall) rfl false ⟨#[], #[.agg #[.slice none 0 0, .slice none 0 0, .slice none 0 0, .slice none 0 0, .slice none 0 0], .slice none 0 0], []⟩ 8 (by kernel_rfl) (by kernel_rfl) (by kernel_rfl)
      (x := ([.agg [.nil, .nil, .nil, .nil, .nil], .nil], [], [])) (by kernel_rfl) rfl (by kernel_rfl)) ?_
  intro W base args ds gs before hval0 hW _ hk _
  have hval : ∀ (j : Nat) t v, Try.f6.params[j]? = some t → args[j]? = some v → Value.okWide Try.prog W .any base t v := hval0
  have hW' := hW
  obtain ⟨p, q, hA0, hV, rfl, _, _⟩ := hW
  have hA : DataW.TrodAll enc Try.prog W 0 (fun _ => true) true Try.f6.params.toList args.toList ds p := hA0
  rw [Try.params6] at hA hval
  obtain ⟨v0, vs0, d0, ds0, p0, q0, hargs, rfl, rfl, h0, r0⟩ := trodAll_cons hA
  obtain ⟨v1, vs1, d1, ds1, p1, q1, rfl, rfl, rfl, h1, r1⟩ := trodAll_cons r0
  obtain ⟨rfl, rfl, rfl⟩ := trodAll_nil r1
  obtain rfl : args = #[v0, v1] := by cases args; simp_all
  obtain ⟨rfl, rfl⟩ := trodVars_none hV
  obtain ⟨c0, rfl, _⟩ := okWide_struct Try.underlying28 (hval 0 28 v0 rfl rfl)
  obtain ⟨a1, len1, cap1, rfl⟩ := okWide_slice Try.underlying29 (hval 1 29 v1 rfl rfl)
  have k0 := h0
  have lt0 : ∀ x ∈ p0, x.block < W.heap.size := by obtain ⟨m, hm⟩ := k0; exact DataW.trod_lt m _ _ _ hm
  have k1 := h1
  have lt1 : ∀ x ∈ p1, x.block < W.heap.size := by obtain ⟨m, hm⟩ := k1; exact DataW.trod_lt m _ _ _ hm
  simp only [List.append_nil] at hk
  have hbk : Rows.uptoBulk d0 ≤ 1048576 ∧ Rows.uptoBulk d1 ≤ 1048576 := by
    have h : Rows.uptoBulkAll [d0, d1] ≤ 1048576 := of_decide_eq_true hk
    simp only [Rows.uptoBulkAll] at h
    omega
  obtain ⟨hbk, hbk1⟩ := hbk
  have fin : Calls Try.prog 6 #[.agg c0, .slice a1 len1 cap1] W fun e w' => e = .returned (.bool true) ∧ Below W.heap.size W w' := by
    obtain ⟨fu, hf⟩ := h0
    obtain ⟨fv, hg⟩ := h1
    obtain ⟨pg, vt, vr, vl, vi, vj, e0, few, hp⟩ := open_pg _ _ _ hbk hf
    obtain ⟨ao, l, co, e1, sO, _, lO, _, nO⟩ := open_sl 0 Try.underlying29 cells3 (by decide) intE (fun _ => rfl) (fun _ => True) (fun _ => 1) open_i31 hg
    have e0' : c0 = #[vt, vr, vl, vi, vj] := by simp [Value.cells] at e0; rw [← Array.toArray_toList (xs := c0), e0]
    simp [Value.cells] at e1
    obtain ⟨rfl, rfl, rfl⟩ := e1
    rw [e0']
    exact plays_any pg few l l.length cap1 a1 rfl (Nat.le_trans lO hbk1) nO vt vr vl vi vj W hp sO
  clear hA0 hval0
  refine fin.mono fun e W' ⟨he, bel⟩ => ?_
  subst he
  exact ⟨_, rfl, _, _, _, [], _, [], hW', trodAll_mk1 (shut_bool Try.underlying4 _), (trodAll_cons_mk (Below.trod laidOut (by kernel_rfl) (of_decide_eq_true (by kernel_rfl)) k0 bel lt0) (trodAll_cons_mk (Below.trod laidOut (by kernel_rfl) (of_decide_eq_true (by kernel_rfl)) k1 bel lt1) trodAll_mk0)), rfl, bel.frame _, fun h => by cases h⟩

theorem scPlays_holds : Rows.ScPlaysUptoSaid :=
  OpenClaim.holds_of_cond 6 Try.f6 rfl rfl rfl rfl rfl rfl rfl ⟨rfl, rfl, rfl, rfl, rfl⟩ rfl rfl rfl rfl rfl (by kernel_rfl) Try.func6 (by kernel_rfl)
    (of_decide_eq_true (by kernel_rfl)) (by unfold Func.isWrapper; first | (rw [if_pos (by decide +kernel)]; kernel_rfl) | (rw [if_neg (by decide +kernel)]; exact ⟨rfl, rfl⟩))
    (fun os started H enc _ F => scPlays_lifted os started H enc F)
#print axioms scPlays_holds
end Go.Proofs.Ytegpnicajlndlaa

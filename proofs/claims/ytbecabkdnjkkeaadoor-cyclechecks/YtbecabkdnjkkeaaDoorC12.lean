/- CycleChecks: for every list of names the law returns true and leaves its argument as it was; the program's tables that the row lists hold what the program's text lays. -/
import Derived.Test.YtbecabkdnjkkeaaDoorC11
import Derived.Test.YtbecabkdnjkkeaaDoorOS
import Derived.Test.YtbecabkdnjkkeaaDoorChecked
import Derived.Test.YtbecabkdnjkkeaaDoorTie
import Derived.Test.YtbecabkdnjkkeaaDoorCards
import Derived.LaidMore
import Derived.Lib.LaidTab
import Derived.Stop.Joined
import Derived.Stop.LaidErr
import Derived.SevenTiedAt
namespace Go.Proofs.YtbecabkdnjkkeaaDoor
open Go.ChangeShapes Go.WideShapes Go.ChangeAt Go.RowKit M
set_option linter.unusedSimpArgs false
set_option linter.unusedVariables false

theorem gNm : Tryd.prog.globalNamed "weir/weirref26.Names" = some 1 := by kernel_rfl
theorem tNm : (Tryd.prog.globals[1]?).map (·.type) = some 53 := by kernel_rfl
theorem gEd : Tryd.prog.globalNamed "weir/cycle.edges" = some 0 := by kernel_rfl
theorem tEd : (Tryd.prog.globals[0]?).map (·.type) = some 50 := by kernel_rfl
theorem cellsNm : Tryd.prog.cellsOf 53 = 18 := by kernel_rfl
theorem cellsEd : Tryd.prog.cellsOf 50 = 90 := by kernel_rfl
theorem cellsE1 : Tryd.prog.cellsOf 49 = 5 := by kernel_rfl
theorem str_lit {s t : ByteArray} (h : (DataW.lit (.string s.data.toList) : DataW Unit) = .lit (.string t.data.toList)) : s = t := by
  injection h with h; injection h with h
  cases s; cases t; simp at h; simpa using h
def nmD : DataW Unit := .agg (NMS.map fun s => .lit (.string s.data.toList))
def edD1 (k : Nat) : DataW Unit := .agg [.lit (.string (nmF k).data.toList), .lit (.int .i64 (knd k)), .lit (.int .i64 (frF k)), .lit (.int .i64 (toF k)), .lit (.bool (outF k))]
def edD : DataW Unit := .agg ((List.range 18).map edD1)
theorem data_nm : Rows.laid_weir_weirref26_Names (H := Unit) = nmD := by kernel_rfl
theorem data_ed : Rows.laid_weir_cycle_edges (H := Unit) = edD := by kernel_rfl
theorem rows_data : Rows.cycleChecksRow.laid = [("weir/weirref26.Names", nmD), ("weir/cycle.edges", edD)] := by kernel_rfl
section
variable {W : World} {sp : Nat → Bool} {enc : TypeId × Value → Unit}
theorem cells_nm {fuel : Nat} {cs : List Value} {p : List MemPlace} (h : DataW.trod enc Tryd.prog W 0 sp false fuel 53 cs = some (nmD, p)) {k : Nat} (hk : k < 18) : cs[k]? = some (.string (nmF k)) := by
  obtain ⟨zs, m, _, hx, hl, hzl, hal⟩ := DataW.trod_array Tryd.underlying53 h
  have h1 := hal k hk
  rw [List.getElem?_eq_getElem (by omega), cells9, Nat.mul_one] at h1
  obtain ⟨s, hs, hv, _⟩ := DataW.trod_string Tryd.underlying9 h1
  have h2 : zs.map (·.1) = NMS.map fun s => DataW.lit (.string s.data.toList) := by
    have := congrArg Prod.fst hx
    injection this with this; exact this.symm
  have h3 : (zs.map (·.1))[k]? = some (zs[k]'(by omega)).1 := by rw [List.getElem?_map, List.getElem?_eq_getElem (by omega)]; rfl
  rw [h2, List.getElem?_map, nms_at hk, hv] at h3
  have h4 := str_lit (Option.some.inj h3)
  rw [h4]
  exact take_one hs
theorem cells_ed {fuel : Nat} {cs : List Value} {p : List MemPlace} (h : DataW.trod enc Tryd.prog W 0 sp false fuel 50 cs = some (edD, p)) {k : Nat} (hk : k < 18) : cs[k * 5]? = some (.string (nmF k)) ∧ cs[k * 5 + 1]? = some (.int .i64 (knd k)) ∧ cs[k * 5 + 2]? = some (.int .i64 (frF k)) ∧ cs[k * 5 + 3]? = some (.int .i64 (toF k)) ∧ cs[k * 5 + 4]? = some (.bool (outF k)) := by
  obtain ⟨zs, m, _, hx, hl, hzl, hal⟩ := DataW.trod_array Tryd.underlying50 h
  have h1 := hal k hk
  rw [List.getElem?_eq_getElem (by omega), cellsE1] at h1
  have h2 : zs.map (·.1) = (List.range 18).map edD1 := by
    have := congrArg Prod.fst hx
    injection this with this; exact this.symm
  have h3 : (zs.map (·.1))[k]? = some (zs[k]'(by omega)).1 := by rw [List.getElem?_map, List.getElem?_eq_getElem (by omega)]; rfl
  rw [h2, List.getElem?_map, List.getElem?_range hk] at h3
  have h4 : (zs[k]'(by omega)).1 = edD1 k := (Option.some.inj h3).symm
  obtain ⟨ys, n, _, hy, hcl, hyl, hall⟩ := DataW.trod_struct Tryd.underlying49 h1
  rw [hy] at h4
  have h5 : ys.map (·.1) = [.lit (.string (nmF k).data.toList), .lit (.int .i64 (knd k)), .lit (.int .i64 (frF k)), .lit (.int .i64 (toF k)), .lit (.bool (outF k))] := by
    injection h4
  match ys, hyl, h5, hall with
  | [y0, y1, y2, y3, y4], _, h5, hall =>
    have g0 : DataW.trod enc Tryd.prog W 0 sp false n 9 (List.take (Tryd.prog.cellsOf 9) (List.drop 0 (List.take 5 (List.drop (k * 5) cs)))) = some y0 := hall 0 _ rfl
    have g1 : DataW.trod enc Tryd.prog W 0 sp false n 3 (List.take (Tryd.prog.cellsOf 3) (List.drop 1 (List.take 5 (List.drop (k * 5) cs)))) = some y1 := hall 1 _ rfl
    have g2 : DataW.trod enc Tryd.prog W 0 sp false n 3 (List.take (Tryd.prog.cellsOf 3) (List.drop 2 (List.take 5 (List.drop (k * 5) cs)))) = some y2 := hall 2 _ rfl
    have g3 : DataW.trod enc Tryd.prog W 0 sp false n 3 (List.take (Tryd.prog.cellsOf 3) (List.drop 3 (List.take 5 (List.drop (k * 5) cs)))) = some y3 := hall 3 _ rfl
    have g4 : DataW.trod enc Tryd.prog W 0 sp false n 4 (List.take (Tryd.prog.cellsOf 4) (List.drop 4 (List.take 5 (List.drop (k * 5) cs)))) = some y4 := hall 4 _ rfl
    rw [cells9] at g0
    rw [cells3] at g1 g2 g3
    rw [cells4] at g4
    obtain ⟨s, e0, x0, _⟩ := DataW.trod_string Tryd.underlying9 g0
    obtain ⟨z1, e1, x1, _⟩ := DataW.trod_int Tryd.underlying3 g1
    obtain ⟨z2, e2, x2, _⟩ := DataW.trod_int Tryd.underlying3 g2
    obtain ⟨z3, e3, x3, _⟩ := DataW.trod_int Tryd.underlying3 g3
    obtain ⟨z4, e4, x4⟩ := DataW.trod_bool Tryd.underlying4 g4
    subst x0 x1 x2 x3 x4
    simp only [List.map_cons, List.map_nil, List.cons.injEq, and_true] at h5
    obtain ⟨q0, q1, q2, q3, q4⟩ := h5
    have r0 := str_lit q0
    have r1 : z1 = knd k := by injection q1 with q; injection q
    have r2 : z2 = frF k := by injection q2 with q; injection q
    have r3 : z3 = toF k := by injection q3 with q; injection q
    have r4 : z4 = outF k := by injection q4 with q; injection q
    subst r0 r1 r2 r3 r4
    have f : ∀ (i : Nat) (v : Value), i < 5 → (List.take 1 (List.drop i (List.take 5 (List.drop (k * 5) cs)))) = [v] → cs[k * 5 + i]? = some v := fun i v hi h => by
      have := take_one h
      rw [List.getElem?_take, if_pos hi, List.getElem?_drop] at this
      exact this
    exact ⟨f 0 _ (by decide) e0, f 1 _ (by decide) e1, f 2 _ (by decide) e2, f 3 _ (by decide) e3, f 4 _ (by decide) e4⟩
end
theorem edl_at {j : Nat} {v : Value} (h : EDL[j]? = some v) : ∃ k f, k < 18 ∧ f < 5 ∧ j = k * 5 + f := by
  have hj := (List.getElem?_eq_some_iff.1 h).1
  rw [edl_len] at hj
  exact ⟨j / 5, j % 5, by omega, by omega, by omega⟩
theorem tabs_of_laid {W : World} (h : laidMetH Tryd.prog Rows.cycleChecksRow.laid W) : EdAt W ∧ NmAt W := by
  rw [MakeChecks.laidMetH_plain _ _ _ (by kernel_rfl), rows_data] at h
  obtain ⟨ps, ⟨g', t', cs, fuel, p, q, hg', ht', hvar, hd, ⟨g2, t2, cs2, fuel2, p2, q2, hg2, ht2, hvar2, hd2, _, _⟩, _⟩, _⟩ := h
  obtain rfl := Option.some.inj (gNm.symm.trans hg')
  obtain rfl := Option.some.inj (tNm.symm.trans ht')
  obtain rfl := Option.some.inj (gEd.symm.trans hg2)
  obtain rfl := Option.some.inj (tEd.symm.trans ht2)
  have h1 : ∀ k, k < 18 → W.cell? ⟨1, k, none⟩ = some (.string (nmF k)) := fun k hk => by
    have := World.var?_cell gNm hvar k
    rw [this, ← cells_nm hd hk, Array.getElem?_toList]
  have h2 : ∀ j v, EDL[j]? = some v → W.cell? ⟨0, j, none⟩ = some v := fun j v hv => by
    obtain ⟨k, f, hk, hf, rfl⟩ := edl_at hv
    have e := World.var?_cell gEd hvar2 (k * 5 + f)
    rw [e, ← Array.getElem?_toList]
    obtain ⟨a0, a1, a2, a3, a4⟩ := ed_at hk
    obtain ⟨b0, b1, b2, b3, b4⟩ := cells_ed hd2 hk
    have hf' : f = 0 ∨ f = 1 ∨ f = 2 ∨ f = 3 ∨ f = 4 := by omega
    rcases hf' with rfl | rfl | rfl | rfl | rfl
    · exact b0.trans (a0.symm.trans hv)
    · exact b1.trans (a1.symm.trans hv)
    · exact b2.trans (a2.symm.trans hv)
    · exact b3.trans (a3.symm.trans hv)
    · exact b4.trans (a4.symm.trans hv)
  refine ⟨⟨fun j v hv => by rw [Nat.zero_add]; exact h2 j v hv, ?_⟩, ⟨fun j v hv => ?_, ?_⟩⟩
  · exact World.block_lt_of_cell? W _ (h2 0 _ rfl)
  · rw [Nat.zero_add]
    rw [List.getElem?_map] at hv
    have hj : j < 18 := by
      cases hq : NMS[j]? with
      | none => rw [hq] at hv; cases hv
      | some s => exact (List.getElem?_eq_some_iff.1 hq).1
    rw [nms_at hj] at hv
    exact (h1 j hj).trans hv
  · exact World.block_lt_of_cell? W _ (h1 0 (by decide))
theorem bytes9 : Tryd.prog.bytesOf 9 = 16 := by kernel_rfl
theorem door_met (os : Os) (args : Array Value) : laidMetH Tryd.prog Rows.cycleChecksRow.laid ((World.doorLaid Tryd.prog 400 os).forCall (fun _ _ => 0) ⟨#[], args, []⟩).memory :=
  laidMetH_of_parts3 (fuel := 8) (laidMet_of_run' 8 (by kernel_rfl) (by kernel_rfl)) (by kernel_rfl) (by kernel_rfl)
set_option maxHeartbeats 800000 in
set_option maxRecDepth 100000 in
theorem cycleChecks_lifted (os : Os) (started : os.Started) (H : Type) (enc : TypeId × Value → H) :
    ReturnsInHanded {} Tryd.checked os 3 .any (fun w args => (Rows.cycleChecksSpec.pre enc Tryd.prog Tryd.f3 [] false w args ∧ laidMetH Tryd.prog Rows.cycleChecksRow.laid w) ∧ sizedMet enc Tryd.prog Tryd.f3 (OpenSpec.ofChange Rows.cycleChecksSpec) false w args)
      (Rows.cycleChecksSpec.post enc Tryd.prog Tryd.f3 false true false false) := by
  refine returnsInHanded_of_change_and (C := Tryd.checked) (X := fun w _ => laidMetH Tryd.prog Rows.cycleChecksRow.laid w) (fun _ _ _ hh h => h.of_heap hh) own started (by kernel_rfl) Tryd.func3
    (ChangeSpec.witness_shaped (enc := enc) (C := Tryd.checked) (os := os) (X := fun w _ => laidMetH Tryd.prog Rows.cycleChecksRow.laid w) false (World.doorLaid Tryd.prog 400 os) #[.slice none 0 0] 8 rfl (World.shaped_of_RefB (by kernel_rfl) (by kernel_rfl)) (by kernel_rfl) (by kernel_rfl) (by kernel_rfl) (door_met os _)) ?_
  intro W base args ds gs before hval0 hW _ hsz0 hL _
  have hsz : (DataW.weightsEach Tryd.prog (Tryd.f3.params.toList ++ Rows.cycleChecksSpec.plain.varTypes Tryd.prog) (ds ++ gs)).all (· ≤ reachBytes) = true := hsz0
  clear hsz0
  have hval : ∀ (j : Nat) t v, Tryd.f3.params[j]? = some t → args[j]? = some v → Value.okWide Tryd.prog W .any base t v := hval0
  have hW' := hW
  obtain ⟨p, q, hA0, hV, rfl, hfz, hnd⟩ := hW
  have hA : DataW.TrodAll enc Tryd.prog W 0 (fun _ => true) true Tryd.f3.params.toList args.toList ds p := hA0
  rw [Tryd.params3] at hA hval hsz
  obtain ⟨v0, vs0, d0, ds0, p0, q0, hargs, rfl, rfl, h0, r0⟩ := trodAll_cons hA
  obtain ⟨rfl, rfl, rfl⟩ := trodAll_nil r0
  obtain rfl : args = #[v0] := by cases args; simp_all
  obtain ⟨rfl, rfl⟩ := trodVars_none hV
  obtain ⟨a0, len0, cap0, rfl⟩ := okWide_slice Tryd.underlying22 (hval 0 22 v0 rfl rfl)
  have k0 := h0
  have lt0 : ∀ x ∈ p0, x.block < W.heap.size := by obtain ⟨m, hm⟩ := k0; exact DataW.trod_lt m _ _ _ hm
  obtain ⟨hE, hN⟩ := tabs_of_laid hL
  have fin : Calls Tryd.prog 3 #[.slice a0 len0 cap0] W fun e w' => e = .returned (.bool true) ∧ Below W.heap.size W w' := by
    obtain ⟨f0, g0⟩ := h0
    obtain ⟨a, xs, c, e0, S0, _, _, _, hn0, hc0, _, hd0⟩ := open_sl ⟨#[]⟩ Tryd.underlying22 cells9 (by decide) strE (fun _ => rfl) (fun s => s.size ≤ maxLen) (fun _ => 1) open_str1 g0
    simp [Value.cells] at e0
    obtain ⟨rfl, rfl, rfl⟩ := e0
    have hl := len_sized hsz (j := 0) (t := 9) (m := xs.length) rfl Tryd.underlying22 bytes9 rfl (hd0.elim (fun h => .inl (by rw [h]; rfl)) .inr)
    exact cycleChecks_any xs xs.length cap0 a0 rfl (by omega) hn0 hc0 W hE hN S0
  clear hA0 hval0
  refine fin.mono fun e W' ⟨he, bel⟩ => ?_
  subst he
  exact ⟨_, rfl, _, _, _, [], _, [], hW', trodAll_mk1 (shut_bool Tryd.underlying4 _), (trodAll_cons_mk (Below.trod laidOut (by kernel_rfl) (of_decide_eq_true (by kernel_rfl)) k0 bel lt0) trodAll_mk0), rfl, bel.frame _, fun h => by cases h⟩

theorem cycleChecks_said : Rows.CycleChecksSaid :=
  OpenClaim.holds_of_wide 3 Tryd.f3 rfl rfl rfl rfl rfl rfl rfl ⟨rfl, rfl, rfl, rfl, rfl⟩ rfl rfl rfl rfl rfl (by kernel_rfl) Tryd.func3 (by kernel_rfl)
    (of_decide_eq_true (by kernel_rfl)) (by unfold Func.isWrapper; first | (rw [if_pos (by decide +kernel)]; kernel_rfl) | (rw [if_neg (by decide +kernel)]; exact ⟨rfl, rfl⟩))
    (fun os started H enc _ => cycleChecks_lifted os started H enc)

theorem cycleChecks_holds : Rows.CycleChecksCardSaid :=
  Claim7.holds_tied_plain_at .later [] _ _ _ _
    cycleChecks_said (fun _ h => by cases h) (by kernel_rfl) (fun _ h => by cases h) cycleChecks_row_tie rfl ⟨rfl, rfl⟩ (by kernel_rfl) rfl
    (fun f fn hf hfn => by
      obtain rfl : f = 3 := Option.some.inj ((show Tryd.prog.funcNamed "weir/weirlaw26.CycleChecks" = some 3 by kernel_rfl).symm.trans hf) |>.symm
      obtain rfl : fn = Tryd.f3 := (Option.some.inj (Tryd.func3.symm.trans hfn)).symm
      exact ⟨by kernel_rfl, fun j t ht => by
        rw [Tryd.params3] at ht
        have hm : t ∈ [22] := by simpa using Array.mem_of_getElem? ht
        have hall : ([22].all fun u => !Tryd.prog.wantsStandIn u) = true := by kernel_rfl
        exact (show Tryd.prog.wantsStandIn t = false by simpa using List.all_eq_true.1 hall t hm)⟩)
    (by kernel_rfl)
#print axioms cycleChecks_holds
end Go.Proofs.YtbecabkdnjkkeaaDoor

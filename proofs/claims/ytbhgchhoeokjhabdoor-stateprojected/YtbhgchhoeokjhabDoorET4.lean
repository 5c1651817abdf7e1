/- StateProjected: for every list of final states, every number and every two lists of numbers the law returns true and leaves its arguments as they were; the library's tables that the row lists hold what the program's text lays. -/
import Derived.Test.YtbhgchhoeokjhabDoorYB
import Derived.Test.YtbhgchhoeokjhabDoorOL
import Derived.Test.YtbhgchhoeokjhabDoorTie
import Derived.Test.YtbhgchhoeokjhabDoorCards
import Derived.Test.YtbhgchhoeokjhabDoorChecked
import Derived.ProofKit
import Derived.OpenShut
import Derived.LaidMore
import Derived.Lib.LaidTab
import Derived.Stop.Joined
import Derived.Stop.LaidErr
import Derived.SevenTiedAt
import Derived.SizedLaws
import Derived.Lib.RowBridge
import Derived.ChangeMaps5
import Derived.ChangeOld
namespace Go.Proofs.YtbhgchhoeokjhabDoor
open Go.ChangeShapes Go.WideShapes Go.ChangeAt Go.RowKit M
open Go.ChangeMaps (open_string shut_string)
set_option linter.unusedSimpArgs false
set_option linter.unusedVariables false

theorem own : ownKnob Tryd.prog.godebug = none := by kernel_rfl
theorem laidOut : laidOutB Tryd.prog = true := by kernel_rfl
theorem gTen : Tryd.prog.globalNamed "internal/strconv.uint64pow10" = some 0 := by kernel_rfl
theorem tTen : (Tryd.prog.globals[0]?).map (·.type) = some 115 := by kernel_rfl
theorem cellsTen : Tryd.prog.cellsOf 115 = 20 := by kernel_rfl
theorem cellsU : Tryd.prog.cellsOf 79 = 1 := by kernel_rfl
theorem ten_of_met {W : World} {rest : List (String × DataW Unit)} (h1 : laidMet Tryd.prog (("internal/strconv.uint64pow10", Lib.tabData .u64 Lib.pow10Tab) :: rest) W) : Tab10 W :=
  Lib.tabIs_of_head gTen tTen Tryd.underlying115 Tryd.underlying79 cellsU cellsTen h1
theorem ten_of_laid {W : World} (h : laidMetH Tryd.prog Rows.stateProjectedRow.laid W) : Tab10 W := by
  rw [MakeChecks.laidMetH_plain _ _ _ (by kernel_rfl)] at h
  exact ten_of_met (laidMet.tail (laidMet.tail h))
theorem door_met (os : Os) (args : Array Value) : laidMetH Tryd.prog Rows.stateProjectedRow.laid ((World.doorLaid Tryd.prog 400 os).forCall (fun _ _ => 0) ⟨#[], args, []⟩).memory :=
  laidMetH_of_parts3 (fuel := 8) (laidMet_of_run' 8 (by kernel_rfl) (by kernel_rfl)) (by kernel_rfl) (by kernel_rfl)
theorem bytes3 : Tryd.prog.bytesOf 3 = 8 := by kernel_rfl
/-- A slice of numbers, read. -/
theorem open_intsN {H : Type} {enc : TypeId × Value → H} {W : World} {fuel : Nat} {cs : List Value} {x : DataW H × List MemPlace} (h : DataW.trod enc Tryd.prog W 0 (fun _ => true) true fuel 43 cs = some x) :
    ∃ (a : Option Addr) (xs : List Int) (cap : Nat), cs = [.slice a xs.length cap] ∧ NumS W a xs ∧ (xs = [] ∨ ∃ elems spare, x.1 = .slice elems spare ∧ elems.length = xs.length) ∧ (a = none → cap = 0) := by
  obtain ⟨a, xs, cap, h1, h2, _, h3, h4⟩ := open_sl (0 : Int) Tryd.underlying43 cells3 (by decide) (fun z => [Value.int .i64 z]) (fun _ => rfl) (fun _ => True) (fun fuel cs x h => by
    obtain ⟨N, e0, _, _⟩ := DataW.trod_int Tryd.underlying3 h
    exact ⟨N, e0, trivial⟩) h
  refine ⟨a, xs, cap, h1, ?_, h3, h4⟩
  have e : ∀ ys : List Int, ys.flatMap (fun z => [Value.int .i64 z]) = ys.map (Value.int .i64) := fun ys => by
    induction ys with
    | nil => rfl
    | cons y ys ih => rw [List.flatMap_cons, ih]; rfl
  rw [e] at h2
  exact h2
theorem len_intsN {H : Type} {ts : List TypeId} {ds : List (DataW H)} (h : (DataW.weightsEach Tryd.prog ts ds).all (· ≤ reachBytes) = true) {j : Nat} {xs : List Int} (ht : ts[j]? = some 43) {d : DataW H} (hj : ds[j]? = some d) (hd : xs = [] ∨ ∃ elems spare, d = .slice elems spare ∧ elems.length = xs.length) : (xs.length + 1) * 8 ≤ 140737488355328 := by
  rcases hd with rfl | ⟨elems, spare, rfl, he⟩
  · simp
  · have := sized_slice h ht hj Tryd.underlying43
    rw [bytes3] at this
    simp only [reachBytes] at this
    omega
set_option maxHeartbeats 800000 in
set_option maxRecDepth 100000 in
theorem stateProjected_lifted (os : Os) (started : os.Started) (H : Type) (enc : TypeId × Value → H) :
    ReturnsInHanded {} Tryd.checked os 5 .any (fun w args => (Rows.stateProjectedSpec.pre enc Tryd.prog Tryd.f5 [] false w args ∧ laidMetH Tryd.prog Rows.stateProjectedRow.laid w) ∧ sizedMet enc Tryd.prog Tryd.f5 (OpenSpec.ofChange Rows.stateProjectedSpec) false w args)
      (Rows.stateProjectedSpec.post enc Tryd.prog Tryd.f5 false true false false) := by
  refine returnsInHanded_of_change_and (C := Tryd.checked) (X := fun w _ => laidMetH Tryd.prog Rows.stateProjectedRow.laid w) (fun _ _ _ hh h => h.of_heap hh) own started (by kernel_rfl) Tryd.func5
    (ChangeSpec.witness_shaped (enc := enc) (C := Tryd.checked) (os := os) (X := fun w _ => laidMetH Tryd.prog Rows.stateProjectedRow.laid w) false (World.doorLaid Tryd.prog 400 os) #[.slice none 0 0, .int .i64 0, .slice none 0 0, .slice none 0 0] 8 rfl (World.shaped_of_RefB (by kernel_rfl) (by kernel_rfl)) (by kernel_rfl) (by kernel_rfl) (by kernel_rfl) (door_met os _)) ?_
  intro W base args ds gs before hval0 hW _ hsz0 hL _
  have hsz : (DataW.weightsEach Tryd.prog (Tryd.f5.params.toList ++ Rows.stateProjectedSpec.plain.varTypes Tryd.prog) (ds ++ gs)).all (· ≤ reachBytes) = true := hsz0
  clear hsz0
  have hval : ∀ (j : Nat) t v, Tryd.f5.params[j]? = some t → args[j]? = some v → Value.okWide Tryd.prog W .any base t v := hval0
  have hW' := hW
  obtain ⟨p, q, hA0, hV, rfl, hfz, hnd⟩ := hW
  have hA : DataW.TrodAll enc Tryd.prog W 0 (fun _ => true) true Tryd.f5.params.toList args.toList ds p := hA0
  rw [Tryd.params5] at hA hval hsz
  obtain ⟨v0, vs0, d0, ds0, p0, q0, hargs, rfl, rfl, h0, r0⟩ := trodAll_cons hA
  obtain ⟨v1, vs1, d1, ds1, p1, q1, rfl, rfl, rfl, h1, r1⟩ := trodAll_cons r0
  obtain ⟨v2, vs2, d2, ds2, p2, q2, rfl, rfl, rfl, h2, r2⟩ := trodAll_cons r1
  obtain ⟨v3, vs3, d3, ds3, p3, q3, rfl, rfl, rfl, h3, r3⟩ := trodAll_cons r2
  obtain ⟨rfl, rfl, rfl⟩ := trodAll_nil r3
  obtain rfl : args = #[v0, v1, v2, v3] := by cases args; simp_all
  obtain ⟨rfl, rfl⟩ := trodVars_none hV
  obtain ⟨a0, len0, cap0, rfl⟩ := okWide_slice Tryd.underlying22 (hval 0 22 v0 rfl rfl)
  obtain ⟨N, rfl, rfl, rfl, hN⟩ := open_int Tryd.underlying3 (hval 1 3 v1 rfl rfl) h1
  obtain ⟨a2, len2, cap2, rfl⟩ := okWide_slice Tryd.underlying43 (hval 2 43 v2 rfl rfl)
  obtain ⟨a3, len3, cap3, rfl⟩ := okWide_slice Tryd.underlying43 (hval 3 43 v3 rfl rfl)
  have k0 := h0
  have lt0 : ∀ x ∈ p0, x.block < W.heap.size := by obtain ⟨m, hm⟩ := k0; exact DataW.trod_lt m _ _ _ hm
  have k2 := h2
  have lt2 : ∀ x ∈ p2, x.block < W.heap.size := by obtain ⟨m, hm⟩ := k2; exact DataW.trod_lt m _ _ _ hm
  have k3 := h3
  have lt3 : ∀ x ∈ p3, x.block < W.heap.size := by obtain ⟨m, hm⟩ := k3; exact DataW.trod_lt m _ _ _ hm
  have hT := ten_of_laid hL
  have fin : Calls Tryd.prog 5 #[.slice a0 len0 cap0, .int .i64 N, .slice a2 len2 cap2, .slice a3 len3 cap3] W fun e w' => e = .returned (.bool true) ∧ Below W.heap.size W w' := by
    obtain ⟨fu0, hf0⟩ := h0
    obtain ⟨a, xs, c, e0, S0, _, hd0, _⟩ := open_fins hf0
    simp [Value.cells] at e0
    obtain ⟨rfl, rfl, rfl⟩ := e0
    obtain ⟨fu2, hf2⟩ := h2
    obtain ⟨a', ys, c', e2, S2, hd2, _⟩ := open_intsN hf2
    simp [Value.cells] at e2
    obtain ⟨rfl, rfl, rfl⟩ := e2
    obtain ⟨fu3, hf3⟩ := h3
    obtain ⟨a'', zs, c'', e3, S3, hd3, _⟩ := open_intsN hf3
    simp [Value.cells] at e3
    obtain ⟨rfl, rfl, rfl⟩ := e3
    have q2 := len_intsN hsz (j := 2) rfl rfl hd2
    have q3 := len_intsN hsz (j := 3) rfl rfl hd3
    exact projected_any a0 a2 a3 cap0 cap2 cap3 N xs ys zs (len_fins hsz (j := 0) rfl rfl hd0) (by omega) (by omega) W S0 S2 S3 hT
  clear hA0 hval0
  refine fin.mono fun e W' ⟨he, bel⟩ => ?_
  subst he
  exact ⟨_, rfl, _, _, _, [], _, [], hW', trodAll_mk1 (shut_bool Tryd.underlying4 _), (trodAll_cons_mk (Below.trod laidOut (by kernel_rfl) (of_decide_eq_true (by kernel_rfl)) k0 bel lt0) (trodAll_cons_mk (shut_int Tryd.underlying3 hN) (trodAll_cons_mk (Below.trod laidOut (by kernel_rfl) (of_decide_eq_true (by kernel_rfl)) k2 bel lt2) (trodAll_cons_mk (Below.trod laidOut (by kernel_rfl) (of_decide_eq_true (by kernel_rfl)) k3 bel lt3) trodAll_mk0)))), rfl, bel.frame _, fun h => by cases h⟩

theorem stateProjected_said : Rows.StateProjectedSaid :=
  OpenClaim.holds_of_wide 5 Tryd.f5 rfl rfl rfl rfl rfl rfl rfl ⟨rfl, rfl, rfl, rfl, rfl⟩ rfl rfl rfl rfl rfl (by kernel_rfl) Tryd.func5 (by kernel_rfl)
    (of_decide_eq_true (by kernel_rfl)) (by unfold Func.isWrapper; first | (rw [if_pos (by decide +kernel)]; kernel_rfl) | (rw [if_neg (by decide +kernel)]; exact ⟨rfl, rfl⟩))
    (fun os started H enc _ => stateProjected_lifted os started H enc)

theorem stateProjected_holds : Rows.StateProjectedCardSaid :=
  Claim7.holds_tied_plain_at .later [] _ _ _ _
    stateProjected_said (fun _ h => by cases h) (by kernel_rfl) (fun _ h => by cases h) stateProjected_row_tie rfl ⟨rfl, rfl⟩ (by kernel_rfl) rfl
    (fun f fn hf hfn => by
      obtain rfl : f = 5 := Option.some.inj ((show Tryd.prog.funcNamed "weir/weirlaw10.StateProjected" = some 5 by kernel_rfl).symm.trans hf) |>.symm
      obtain rfl : fn = Tryd.f5 := (Option.some.inj (Tryd.func5.symm.trans hfn)).symm
      exact ⟨by kernel_rfl, fun j t ht => by
        rw [Tryd.params5] at ht
        have hm : t ∈ [22, 3, 43, 43] := by simpa using Array.mem_of_getElem? ht
        have hall : ([22, 3, 43, 43].all fun u => !Tryd.prog.wantsStandIn u) = true := by kernel_rfl
        exact (show Tryd.prog.wantsStandIn t = false by simpa using List.all_eq_true.1 hall t hm)⟩)
    (by kernel_rfl)
#print axioms stateProjected_holds
end Go.Proofs.YtbhgchhoeokjhabDoor

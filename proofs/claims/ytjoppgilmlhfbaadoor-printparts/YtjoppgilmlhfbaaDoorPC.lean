/- PrintParts, the tied card: at every reference, setting and instruction the law returns true and leaves its arguments as they were, where the library's tables math/bits.deBruijn32tab, math/bits.deBruijn64tab and internal/strconv.uint64pow10 hold at the call what the program's text lays there. -/
import Derived.Test.YtjoppgilmlhfbaaDoorP9
import Derived.Test.YtjoppgilmlhfbaaDoorTie
import Derived.Test.YtjoppgilmlhfbaaDoorCards
import Derived.ProofKit
import Derived.OpenShut
import Derived.LaidMore
import Derived.Lib.LaidTab
import Derived.Stop.Joined
import Derived.Stop.LaidErr
import Derived.SevenTiedAt
import Derived.SizedLaws
import Derived.Lib.RowBridge
import Derived.ChangeMaps5
import Derived.ChangeOld
namespace Go.Proofs.YtjoppgilmlhfbaaDoor
open Go.ChangeShapes Go.WideShapes Go.ChangeAt Go.RowKit M
open Go.ChangeMaps (open_string shut_string)
set_option linter.unusedSimpArgs false
set_option linter.unusedVariables false

theorem own : ownKnob Tryd.prog.godebug = none := by kernel_rfl
theorem laidOut : laidOutB Tryd.prog = true := by kernel_rfl
theorem gTen : Tryd.prog.globalNamed "internal/strconv.uint64pow10" = some 0 := by kernel_rfl
theorem tTen : (Tryd.prog.globals[0]?).map (·.type) = some 67 := by kernel_rfl
theorem cellsTen : Tryd.prog.cellsOf 67 = 20 := by kernel_rfl
theorem cellsU : Tryd.prog.cellsOf 48 = 1 := by kernel_rfl
theorem ten_of_met {W : World} {rest : List (String × DataW Unit)} (h1 : laidMet Tryd.prog (("internal/strconv.uint64pow10", Lib.tabData .u64 Lib.pow10Tab) :: rest) W) : Tab10 W :=
  Lib.tabIs_of_head gTen tTen Tryd.underlying67 Tryd.underlying48 cellsU cellsTen h1
theorem ten_of_laid {W : World} (h : laidMetH Tryd.prog Rows.printPartsRow.laid W) : Tab10 W := by
  rw [MakeChecks.laidMetH_plain _ _ _ (by kernel_rfl)] at h
  exact ten_of_met (laidMet.tail (laidMet.tail h))
theorem door_met (os : Os) (args : Array Value) : laidMetH Tryd.prog Rows.printPartsRow.laid ((World.doorLaid Tryd.prog 400 os).forCall (fun _ _ => 0) ⟨#[], args, []⟩).memory :=
  laidMetH_of_parts3 (fuel := 8) (laidMet_of_run' 8 (by kernel_rfl) (by kernel_rfl)) (by kernel_rfl) (by kernel_rfl)
theorem cells2 : Tryd.prog.cellsOf 2 = 1 := by kernel_rfl
theorem cells3 : Tryd.prog.cellsOf 3 = 1 := by kernel_rfl
theorem cells9 : Tryd.prog.cellsOf 9 = 1 := by kernel_rfl
theorem cellsR : Tryd.prog.cellsOf 23 = 2 := by kernel_rfl
theorem cellsI : Tryd.prog.cellsOf 25 = 3 := by kernel_rfl
theorem cellsN : Tryd.prog.cellsOf 27 = 5 := by kernel_rfl
theorem take_one {cs : List Value} {v : Value} {i : Nat} (h : List.take 1 (List.drop i cs) = [v]) : cs[i]? = some v := by
  have := congrArg List.head? h
  simpa [List.head?_take, List.head?_drop] using this
theorem list2 {cs : List Value} {a b : Value} (hl : cs.length = 2) (h0 : cs[0]? = some a) (h1 : cs[1]? = some b) : cs = [a, b] := by
  match cs, hl with
  | [x0, x1], _ => simp at h0 h1; simp [h0, h1]
theorem list3 {cs : List Value} {a b c : Value} (hl : cs.length = 3) (h0 : cs[0]? = some a) (h1 : cs[1]? = some b) (h2 : cs[2]? = some c) : cs = [a, b, c] := by
  match cs, hl with
  | [x0, x1, x2], _ => simp at h0 h1 h2; simp [h0, h1, h2]
theorem list5 {cs : List Value} {a b c d e : Value} (hl : cs.length = 5) (h0 : cs[0]? = some a) (h1 : cs[1]? = some b) (h2 : cs[2]? = some c) (h3 : cs[3]? = some d) (h4 : cs[4]? = some e) : cs = [a, b, c, d, e] := by
  match cs, hl with
  | [x0, x1, x2, x3, x4], _ => simp at h0 h1 h2 h3 h4; simp [h0, h1, h2, h3, h4]
/-- A reference, read. -/
theorem open_rf {H : Type} {enc : TypeId × Value → H} {W : World} {fuel : Nat} {cs : List Value} {x : DataW H × List MemPlace} (h : DataW.trod enc Tryd.prog W 0 (fun _ => true) true fuel 23 cs = some x) :
    ∃ th nm, cs = rfL th nm ∧ nm.size ≤ maxLen := by
  obtain ⟨zs, n', _, hz, hzc, hzl, hzall⟩ := DataW.trod_struct Tryd.underlying23 h
  rw [cellsR] at hzc
  match zs, hzl, hz, hzall with
  | [z0, z1], _, hz, hzall =>
    have q0 : DataW.trod enc Tryd.prog W 0 (fun _ => true) true n' 3 (List.take (Tryd.prog.cellsOf 3) (List.drop 0 cs)) = some z0 := hzall 0 _ rfl
    have q1 : DataW.trod enc Tryd.prog W 0 (fun _ => true) true n' 9 (List.take (Tryd.prog.cellsOf 9) (List.drop 1 cs)) = some z1 := hzall 1 _ rfl
    rw [cells3] at q0
    rw [cells9] at q1
    obtain ⟨th, f0, _, _⟩ := DataW.trod_int Tryd.underlying3 q0
    obtain ⟨s, f1, _, hs⟩ := DataW.trod_string Tryd.underlying9 q1
    exact ⟨th, s, list2 hzc (take_one f0) (take_one f1), hs⟩
/-- A setting, read. -/
theorem open_it {H : Type} {enc : TypeId × Value → H} {W : World} {fuel : Nat} {cs : List Value} {x : DataW H × List MemPlace} (h : DataW.trod enc Tryd.prog W 0 (fun _ => true) true fuel 25 cs = some x) :
    ∃ th nm v, cs = itL th nm v ∧ nm.size ≤ maxLen ∧ -9223372036854775808 ≤ v ∧ v ≤ 9223372036854775807 := by
  obtain ⟨zs, n', _, hz, hzc, hzl, hzall⟩ := DataW.trod_struct Tryd.underlying25 h
  rw [cellsI] at hzc
  match zs, hzl, hz, hzall with
  | [z0, z1], _, hz, hzall =>
    have q0 : DataW.trod enc Tryd.prog W 0 (fun _ => true) true n' 23 (List.take (Tryd.prog.cellsOf 23) (List.drop 0 cs)) = some z0 := hzall 0 _ rfl
    have q1 : DataW.trod enc Tryd.prog W 0 (fun _ => true) true n' 2 (List.take (Tryd.prog.cellsOf 2) (List.drop 2 cs)) = some z1 := hzall 1 _ rfl
    rw [cellsR] at q0
    rw [cells2] at q1
    obtain ⟨th, nm, f0, hs⟩ := open_rf q0
    obtain ⟨v, f1, _, hv⟩ := DataW.trod_int Tryd.underlying2 q1
    have hb := bounds_i64 hv
    have c0 : cs[0]? = some (.int .i64 th) := by have := congrArg (·[0]?) f0; simpa [rfL, List.getElem?_take] using this
    have c1 : cs[1]? = some (.string nm) := by have := congrArg (·[1]?) f0; simpa [rfL, List.getElem?_take] using this
    exact ⟨th, nm, v, list3 hzc c0 c1 (take_one f1), hs, by omega, by omega⟩
/-- An instruction, read. -/
theorem open_ib {H : Type} {enc : TypeId × Value → H} {W : World} {fuel : Nat} {cs : List Value} {x : DataW H × List MemPlace} (h : DataW.trod enc Tryd.prog W 0 (fun _ => true) true fuel 27 cs = some x) :
    ∃ i : IB, cs = ibL i ∧ i.reg.size ≤ maxLen ∧ i.src.size ≤ maxLen ∧ i.loc.size ≤ maxLen ∧ -9223372036854775808 ≤ i.imm ∧ i.imm ≤ 9223372036854775807 := by
  obtain ⟨zs, n, _, hz, hzc, hzl, hall⟩ := DataW.trod_struct Tryd.underlying27 h
  rw [cellsN] at hzc
  match zs, hzl, hz, hall with
  | [z0, z1, z2, z3, z4], _, hz, hall =>
    have g0 : DataW.trod enc Tryd.prog W 0 (fun _ => true) true n 3 (List.take (Tryd.prog.cellsOf 3) (List.drop 0 cs)) = some z0 := hall 0 _ rfl
    have g1 : DataW.trod enc Tryd.prog W 0 (fun _ => true) true n 9 (List.take (Tryd.prog.cellsOf 9) (List.drop 1 cs)) = some z1 := hall 1 _ rfl
    have g2 : DataW.trod enc Tryd.prog W 0 (fun _ => true) true n 9 (List.take (Tryd.prog.cellsOf 9) (List.drop 2 cs)) = some z2 := hall 2 _ rfl
    have g3 : DataW.trod enc Tryd.prog W 0 (fun _ => true) true n 9 (List.take (Tryd.prog.cellsOf 9) (List.drop 3 cs)) = some z3 := hall 3 _ rfl
    have g4 : DataW.trod enc Tryd.prog W 0 (fun _ => true) true n 2 (List.take (Tryd.prog.cellsOf 2) (List.drop 4 cs)) = some z4 := hall 4 _ rfl
    rw [cells3] at g0
    rw [cells9] at g1 g2 g3
    rw [cells2] at g4
    obtain ⟨op, f0, _, _⟩ := DataW.trod_int Tryd.underlying3 g0
    obtain ⟨s1, f1, _, h1⟩ := DataW.trod_string Tryd.underlying9 g1
    obtain ⟨s2, f2, _, h2⟩ := DataW.trod_string Tryd.underlying9 g2
    obtain ⟨s3, f3, _, h3⟩ := DataW.trod_string Tryd.underlying9 g3
    obtain ⟨v, f4, _, hv⟩ := DataW.trod_int Tryd.underlying2 g4
    have hb := bounds_i64 hv
    exact ⟨⟨op, s1, s2, s3, v⟩, list5 hzc (take_one f0) (take_one f1) (take_one f2) (take_one f3) (take_one f4), h1, h2, h3, by show _ ≤ v; omega, by show v ≤ _; omega⟩

set_option maxRecDepth 100000 in
set_option maxHeartbeats 800000 in
theorem printParts_lifted (os : Os) (started : os.Started) (H : Type) (enc : TypeId × Value → H) :
    ReturnsInHanded {} Tryd.checked os 3 .any (fun w args => (Rows.printPartsSpec.pre enc Tryd.prog Tryd.f3 [] false w args ∧ laidMetH Tryd.prog Rows.printPartsRow.laid w) ∧ sizedMet enc Tryd.prog Tryd.f3 (OpenSpec.ofChange Rows.printPartsSpec) false w args)
      (Rows.printPartsSpec.post enc Tryd.prog Tryd.f3 false true false false) := by
  refine returnsInHanded_of_change_and (C := Tryd.checked) (X := fun w _ => laidMetH Tryd.prog Rows.printPartsRow.laid w) (fun _ _ _ hh h => h.of_heap hh) own started (by kernel_rfl) Tryd.func3
    (ChangeSpec.witness_shaped (enc := enc) (C := Tryd.checked) (os := os) (X := fun w _ => laidMetH Tryd.prog Rows.printPartsRow.laid w) false (World.doorLaid Tryd.prog 400 os) #[.agg #[.int .i64 0, .string ⟨#[]⟩], .agg #[.int .i64 0, .string ⟨#[]⟩, .int .i64 0], .agg #[.int .i64 0, .string ⟨#[]⟩, .string ⟨#[]⟩, .string ⟨#[]⟩, .int .i64 0]] 8 rfl (World.shaped_of_RefB (by kernel_rfl) (by kernel_rfl)) (by kernel_rfl) (by kernel_rfl) (by kernel_rfl) (door_met os _)) ?_
  intro W base args ds gs before hval0 hW _ hsz0 hL _
  have hval : ∀ (j : Nat) t v, Tryd.f3.params[j]? = some t → args[j]? = some v → Value.okWide Tryd.prog W .any base t v := hval0
  have hW' := hW
  obtain ⟨p, q, hA0, hV, rfl, hfz, hnd⟩ := hW
  have hA : DataW.TrodAll enc Tryd.prog W 0 (fun _ => true) true Tryd.f3.params.toList args.toList ds p := hA0
  rw [Tryd.params3] at hA hval
  obtain ⟨v0, vs0, d0, ds0, p0, q0, hargs, rfl, rfl, h0, r0⟩ := trodAll_cons hA
  obtain ⟨v1, vs1, d1, ds1, p1, q1, rfl, rfl, rfl, h1, r1⟩ := trodAll_cons r0
  obtain ⟨v2, vs2, d2, ds2, p2, q2, rfl, rfl, rfl, h2, r2⟩ := trodAll_cons r1
  obtain ⟨rfl, rfl, rfl⟩ := trodAll_nil r2
  obtain rfl : args = #[v0, v1, v2] := by cases args; simp_all
  obtain ⟨rfl, rfl⟩ := trodVars_none hV
  obtain ⟨c0, rfl, _⟩ := okWide_struct Tryd.underlying23 (hval 0 23 v0 rfl rfl)
  obtain ⟨c1, rfl, _⟩ := okWide_struct Tryd.underlying25 (hval 1 25 v1 rfl rfl)
  obtain ⟨c2, rfl, _⟩ := okWide_struct Tryd.underlying27 (hval 2 27 v2 rfl rfl)
  have k0 := h0
  have lt0 : ∀ x ∈ p0, x.block < W.heap.size := by obtain ⟨m, hm⟩ := k0; exact DataW.trod_lt m _ _ _ hm
  have k1 := h1
  have lt1 : ∀ x ∈ p1, x.block < W.heap.size := by obtain ⟨m, hm⟩ := k1; exact DataW.trod_lt m _ _ _ hm
  have k2 := h2
  have lt2 : ∀ x ∈ p2, x.block < W.heap.size := by obtain ⟨m, hm⟩ := k2; exact DataW.trod_lt m _ _ _ hm
  have hT := ten_of_laid hL
  have fin : Calls Tryd.prog 3 #[.agg c0, .agg c1, .agg c2] W fun e w' => e = .returned (.bool true) ∧ Below W.heap.size W w' := by
    obtain ⟨f0, g0⟩ := h0
    obtain ⟨f1, g1⟩ := h1
    obtain ⟨f2, g2⟩ := h2
    obtain ⟨th, nm, e0, s0⟩ := open_rf g0
    obtain ⟨th2, nm2, v, e1, s1, va, vb⟩ := open_it g1
    obtain ⟨x, e2, sa, sb, sc, ia, ib⟩ := open_ib g2
    have e0' : c0 = (rfL th nm).toArray := by rw [← e0]; simp [Value.cells]
    have e1' : c1 = (itL th2 nm2 v).toArray := by rw [← e1]; simp [Value.cells]
    have e2' : c2 = (ibL x).toArray := by rw [← e2]; simp [Value.cells]
    rw [e0', e1', e2']
    exact parts_any th nm th2 nm2 v x s0 s1 sa sb sc va vb ia ib W hT
  clear hA0 hval0
  refine fin.mono fun e W' ⟨he, bel⟩ => ?_
  subst he
  exact ⟨_, rfl, _, _, _, [], _, [], hW', trodAll_mk1 (shut_bool Tryd.underlying4 _), (trodAll_cons_mk (Below.trod laidOut (by kernel_rfl) (of_decide_eq_true (by kernel_rfl)) k0 bel lt0) (trodAll_cons_mk (Below.trod laidOut (by kernel_rfl) (of_decide_eq_true (by kernel_rfl)) k1 bel lt1) (trodAll_cons_mk (Below.trod laidOut (by kernel_rfl) (of_decide_eq_true (by kernel_rfl)) k2 bel lt2) trodAll_mk0))), rfl, bel.frame _, fun h => by cases h⟩

theorem printParts_said : Rows.PrintPartsSaid :=
  OpenClaim.holds_of_wide 3 Tryd.f3 rfl rfl rfl rfl rfl rfl rfl ⟨rfl, rfl, rfl, rfl, rfl⟩ rfl rfl rfl rfl rfl (by kernel_rfl) Tryd.func3 (by kernel_rfl)
    (of_decide_eq_true (by kernel_rfl)) (by unfold Func.isWrapper; first | (rw [if_pos (by decide +kernel)]; kernel_rfl) | (rw [if_neg (by decide +kernel)]; exact ⟨rfl, rfl⟩))
    (fun os started H enc _ => printParts_lifted os started H enc)

theorem printParts_holds : Rows.PrintPartsCardSaid :=
  Claim7.holds_tied_plain_at .later [] _ _ _ _
    printParts_said (fun _ h => by cases h) (by kernel_rfl) (fun _ h => by cases h) printParts_row_tie rfl ⟨rfl, rfl⟩ (by kernel_rfl) rfl
    (fun f fn hf hfn => by
      obtain rfl : f = 3 := Option.some.inj ((show Tryd.prog.funcNamed "weir/weirlaw08.PrintParts" = some 3 by kernel_rfl).symm.trans hf) |>.symm
      obtain rfl : fn = Tryd.f3 := (Option.some.inj (Tryd.func3.symm.trans hfn)).symm
      exact ⟨by kernel_rfl, fun j t ht => by
        rw [Tryd.params3] at ht
        have hm : t ∈ [23, 25, 27] := by simpa using Array.mem_of_getElem? ht
        have hall : ([23, 25, 27].all fun u => !Tryd.prog.wantsStandIn u) = true := by kernel_rfl
        exact (show Tryd.prog.wantsStandIn t = false by simpa using List.all_eq_true.1 hall t hm)⟩)
    (by kernel_rfl)
#print axioms printParts_holds
end Go.Proofs.YtjoppgilmlhfbaaDoor

/- CondTexts, the tied card of the second form: for every list of nodes that holds, its names' letters and all, at most 1048576 values the law returns true and leaves its argument as it was, where the library's tables math/bits.deBruijn32tab, math/bits.deBruijn64tab and internal/strconv.uint64pow10 hold at the call what the program's text lays there. -/
import Derived.Test.YtjnbhcakfenbhaaDoorRU
import Derived.Test.YtjnbhcakfenbhaaDoorTie
import Derived.Test.YtjnbhcakfenbhaaDoorCards
import Derived.ProofKit
import Derived.OpenShut
import Derived.LaidMore
import Derived.Lib.LaidTab
import Derived.Stop.Joined
import Derived.Stop.LaidErr
import Derived.SevenTiedAt
import Derived.SizedLaws
import Derived.Lib.RowBridge
import Derived.ChangeMaps5
import Derived.ChangeOld
import Derived.JoinedCond
import Derived.Deep.DeepHandedRow
namespace Go.Proofs.YtjnbhcakfenbhaaDoor
open Go.ChangeShapes Go.WideShapes Go.ChangeAt Go.RowKit M
set_option linter.unusedSimpArgs false
set_option linter.unusedVariables false

theorem own : ownKnob Tryd.prog.godebug = none := by kernel_rfl
theorem laidOut : laidOutB Tryd.prog = true := by kernel_rfl
theorem gTen : Tryd.prog.globalNamed "internal/strconv.uint64pow10" = some 1 := by kernel_rfl
theorem tTen : (Tryd.prog.globals[1]?).map (·.type) = some 143 := by kernel_rfl
theorem cellsTen : Tryd.prog.cellsOf 143 = 20 := by kernel_rfl
theorem cellsU : Tryd.prog.cellsOf 114 = 1 := by kernel_rfl
theorem ten_of_met {W : World} {rest : List (String × DataW Unit)} (h1 : laidMet Tryd.prog (("internal/strconv.uint64pow10", Lib.tabData .u64 Lib.pow10Tab) :: rest) W) : Tab10 W :=
  Lib.tabIs_of_head gTen tTen Tryd.underlying143 Tryd.underlying114 cellsU cellsTen h1
theorem ten_of_laid {W : World} (h : laidMetH Tryd.prog Rows.condTextsUptoRow.laid W) : Tab10 W := by
  rw [MakeChecks.laidMetH_plain _ _ _ (by kernel_rfl)] at h
  exact ten_of_met (laidMet.tail (laidMet.tail h))
theorem cells2 : Tryd.prog.cellsOf 2 = 1 := by kernel_rfl
theorem cells3 : Tryd.prog.cellsOf 3 = 1 := by kernel_rfl
theorem cells9 : Tryd.prog.cellsOf 9 = 1 := by kernel_rfl
theorem cellsR : Tryd.prog.cellsOf 50 = 2 := by kernel_rfl
theorem cellsN : Tryd.prog.cellsOf 52 = 6 := by kernel_rfl

theorem take_one {cs : List Value} {v : Value} {i : Nat} (h : List.take 1 (List.drop i cs) = [v]) : cs[i]? = some v := by
  have := congrArg List.head? h
  simpa [List.head?_take, List.head?_drop] using this
theorem list6 {cs : List Value} {a b c d e f : Value} (hl : cs.length = 6) (h0 : cs[0]? = some a) (h1 : cs[1]? = some b) (h2 : cs[2]? = some c) (h3 : cs[3]? = some d) (h4 : cs[4]? = some e) (h5 : cs[5]? = some f) : cs = [a, b, c, d, e, f] := by
  match cs, hl with
  | [x0, x1, x2, x3, x4, x5], _ => simp at h0 h1 h2 h3 h4 h5; simp [h0, h1, h2, h3, h4, h5]
theorem bulk_pos {H : Type} (d : DataW H) : 1 ≤ Rows.uptoBulk d := by
  cases d with
  | lit l => cases l <;> simp [Rows.uptoBulk]
  | _ => simp [Rows.uptoBulk]
theorem bulk_len {H : Type} : ∀ ds : List (DataW H), ds.length ≤ Rows.uptoBulkAll ds
  | [] => by simp
  | d :: r => by have := bulk_pos d; have := bulk_len r; simp only [Rows.uptoBulkAll, List.length_cons]; omega
theorem bulk_mem {H : Type} : ∀ (ds : List (DataW H)) (d : DataW H), d ∈ ds → Rows.uptoBulk d ≤ Rows.uptoBulkAll ds
  | x :: r, d, h => by
    simp only [Rows.uptoBulkAll]
    rcases List.mem_cons.1 h with rfl | h
    · omega
    · have := bulk_mem r d h; omega
/-- One node, read. -/
theorem open_nd {H : Type} {enc : TypeId × Value → H} {W : World} {fuel : Nat} {cs : List Value} {x : DataW H × List MemPlace} (h : DataW.trod enc Tryd.prog W 0 (fun _ => true) true fuel 52 cs = some x) :
    ∃ n : Nd, cs = ndL n ∧ n.nm.size ≤ Rows.uptoBulk x.1 ∧ inR n.val := by
  obtain ⟨ys, n, _, hx, hcl, hyl, hall⟩ := DataW.trod_struct Tryd.underlying52 h
  rw [cellsN] at hcl
  match ys, hyl, hx, hall with
  | [y0, y1, y2, y3, y4], _, hx, hall =>
    have g0 : DataW.trod enc Tryd.prog W 0 (fun _ => true) true n 3 (List.take (Tryd.prog.cellsOf 3) (List.drop 0 cs)) = some y0 := hall 0 _ rfl
    have g1 : DataW.trod enc Tryd.prog W 0 (fun _ => true) true n 3 (List.take (Tryd.prog.cellsOf 3) (List.drop 1 cs)) = some y1 := hall 1 _ rfl
    have g2 : DataW.trod enc Tryd.prog W 0 (fun _ => true) true n 3 (List.take (Tryd.prog.cellsOf 3) (List.drop 2 cs)) = some y2 := hall 2 _ rfl
    have g3 : DataW.trod enc Tryd.prog W 0 (fun _ => true) true n 50 (List.take (Tryd.prog.cellsOf 50) (List.drop 3 cs)) = some y3 := hall 3 _ rfl
    have g4 : DataW.trod enc Tryd.prog W 0 (fun _ => true) true n 2 (List.take (Tryd.prog.cellsOf 2) (List.drop 5 cs)) = some y4 := hall 4 _ rfl
    rw [cells3] at g0 g1 g2
    rw [cells2] at g4
    rw [cellsR] at g3
    obtain ⟨k, e0, _, _⟩ := DataW.trod_int Tryd.underlying3 g0
    obtain ⟨a, e1, _, _⟩ := DataW.trod_int Tryd.underlying3 g1
    obtain ⟨b, e2, _, _⟩ := DataW.trod_int Tryd.underlying3 g2
    obtain ⟨v, e4, hv4, hw4⟩ := DataW.trod_int Tryd.underlying2 g4
    obtain ⟨zs, n', _, hz, hzc, hzl, hzall⟩ := DataW.trod_struct Tryd.underlying50 g3
    match zs, hzl, hz, hzall with
    | [z0, z1], _, hz, hzall =>
      have q0 : DataW.trod enc Tryd.prog W 0 (fun _ => true) true n' 3 (List.take (Tryd.prog.cellsOf 3) (List.drop 0 (List.take 2 (List.drop 3 cs)))) = some z0 := hzall 0 _ rfl
      have q1 : DataW.trod enc Tryd.prog W 0 (fun _ => true) true n' 9 (List.take (Tryd.prog.cellsOf 9) (List.drop 1 (List.take 2 (List.drop 3 cs)))) = some z1 := hzall 1 _ rfl
      rw [cells3] at q0
      rw [cells9] at q1
      obtain ⟨th, f0, _, _⟩ := DataW.trod_int Tryd.underlying3 q0
      obtain ⟨s, f1, hs, _⟩ := DataW.trod_string Tryd.underlying9 q1
      have c3 : cs[3]? = some (.int .i64 th) := by have := take_one f0; simpa using this
      have c4 : cs[4]? = some (.string s) := by have := take_one f1; simpa using this
      refine ⟨⟨k, a, b, th, s, v⟩, list6 hcl (take_one e0) (take_one e1) (take_one e2) c3 c4 (take_one e4), ?_⟩
      have hb : Rows.uptoBulk z1.1 = s.size + 1 := by rw [hs]; simp [Rows.uptoBulk]
      have hy3 : Rows.uptoBulk z1.1 ≤ Rows.uptoBulk y3.1 := by
        rw [hz]
        have := bulk_mem ([z0, z1].map (·.1)) z1.1 (by simp)
        simp only [Rows.uptoBulk]
        omega
      have hxx : Rows.uptoBulk y3.1 ≤ Rows.uptoBulk x.1 := by
        rw [hx]
        have := bulk_mem ([y0, y1, y2, y3, y4].map (·.1)) y3.1 (by simp)
        simp only [Rows.uptoBulk]
        omega
      have hvr : inR v := by have := bounds_i64 hw4; unfold inR; omega
      exact ⟨by show s.size ≤ _; omega, hvr⟩
/-- A list of nodes, read. -/
theorem open_nds {H : Type} {enc : TypeId × Value → H} {W : World} {fuel : Nat} {cs : List Value} {x : DataW H × List MemPlace} (h : DataW.trod enc Tryd.prog W 0 (fun _ => true) true fuel 23 cs = some x) :
    ∃ a ns cap, cs = [.slice a ns.length cap] ∧ Nds W a ns ∧ (∀ n ∈ ns, n.nm.size ≤ Rows.uptoBulk x.1 ∧ inR n.val) ∧ ns.length ≤ Rows.uptoBulk x.1 := by
  rcases DataW.trod_slice Tryd.underlying23 h with ⟨hcs, _⟩ | ⟨a, len, cap, elems, rest, n, _, hcs, hx, _, _, _, hel, hall, _, _⟩
  · exact ⟨none, [], 0, hcs, (fun j g hg => by simp at hg), (fun g hg => by cases hg), by simp⟩
  · rw [cellsN] at hall
    have one : ∀ i, i < len → ∃ g : Nd, (∀ k, k < 6 → W.cell? ((a.add (i * 6)).add k) = (ndL g)[k]?) ∧ (g.nm.size ≤ Rows.uptoBulk x.1 ∧ inR g.val) := fun i hi => by
      have hh := hall i hi
      have hie : i < elems.length := by omega
      rw [List.getElem?_eq_getElem hie] at hh
      obtain ⟨cs', hc, ht⟩ := Option.bind_eq_some_iff.1 hh
      obtain ⟨_, _, hcell⟩ := World.cells?_some hc
      obtain ⟨g, rfl, hg⟩ := open_nd ht
      refine ⟨g, hcell, Nat.le_trans hg.1 ?_, hg.2⟩
      rw [hx]
      have := bulk_mem (elems.map (·.1)) elems[i].1 (List.mem_map.2 ⟨elems[i], List.getElem_mem hie, rfl⟩)
      simp only [Rows.uptoBulk]
      omega
    obtain ⟨f, hf⟩ : ∃ f : Nat → Nd, ∀ i, i < len → (∀ k, k < 6 → W.cell? ((a.add (i * 6)).add k) = (ndL (f i))[k]?) ∧ ((f i).nm.size ≤ Rows.uptoBulk x.1 ∧ inR (f i).val) :=
      ⟨fun i => if hi : i < len then Classical.choose (one i hi) else noNd, fun i hi => by
        simp only [dif_pos hi]
        exact Classical.choose_spec (one i hi)⟩
    refine ⟨some a, (List.range len).map f, cap, by rw [hcs]; simp, ?_, ?_, ?_⟩
    · intro j g hg
      have hj : j < len := by have := (List.getElem?_eq_some_iff.1 hg).1; simpa using this
      have hgf : g = f j := by
        rw [List.getElem?_map, List.getElem?_range hj] at hg
        simpa using hg.symm
      subst hgf
      have hc := (hf j hj).1
      have h0 := (hf 0 (by omega)).1 0 (by omega)
      obtain ⟨b, off, rfl, _⟩ := _root_.Go.ints_at (w := W) (a := a) (k := .i64) (zs := [(f 0).op]) (fun i hi => by
        have : i = 0 := by simpa using hi
        subst this
        have e : a.add (0 * 6) = a := by unfold Addr.add; split <;> simp_all
        rw [e] at h0
        exact h0) (by simp)
      refine ⟨b, off, rfl, ?_, fun i v hv => ?_⟩
      · have e0 := hc 0 (by omega)
        rw [Addr.add_mid, Addr.add_mid] at e0
        exact World.block_lt_of_cell? W _ (e0.trans rfl)
      · have hi : i < 6 := (List.getElem?_eq_some_iff.1 hv).1
        have e0 := hc i hi
        rw [Addr.add_mid, Addr.add_mid] at e0
        rw [e0]; exact hv
    · intro g hg
      obtain ⟨i, hi, rfl⟩ := List.mem_map.1 hg
      exact (hf i (by simpa using hi)).2
    · rw [hx]
      have := bulk_len (elems.map (·.1))
      simp only [Rows.uptoBulk, List.length_map, List.length_range] at *
      omega


set_option maxRecDepth 100000 in
set_option maxHeartbeats 800000 in
theorem contract (H : Type) (enc : TypeId × Value → H) (W : World) (base : Nat) (args : Array Value) (ds gs : List (DataW H)) (before : List MemPlace)
    (hval0 : ∀ (j : Nat) t v, Tryd.f3.params[j]? = some t → args[j]? = some v → Value.okWide Tryd.prog W .any base t v)
    (hW : DataW.Whole enc Tryd.prog Tryd.f3.params.toList Rows.condTextsSpec.vars false W args.toList ds gs before) (hk : Rows.uptoSmall H (ds ++ gs) = true) (hL : laidMetH Tryd.prog Rows.condTextsUptoRow.laid W) :
    Calls Tryd.prog 3 args W fun e W' => ∃ v, e = .returned v ∧ Rows.condTextsSpec.post enc Tryd.prog Tryd.f3 false true false false W args v W' := by
  have hval : ∀ (j : Nat) t v, Tryd.f3.params[j]? = some t → args[j]? = some v → Value.okWide Tryd.prog W .any base t v := hval0
  have hW' := hW
  obtain ⟨p, q, hA0, hV, rfl, hfz, hnd⟩ := hW
  have hA : DataW.TrodAll enc Tryd.prog W 0 (fun _ => true) true Tryd.f3.params.toList args.toList ds p := hA0
  rw [Tryd.params3] at hA hval
  obtain ⟨v0, vs0, d0, ds0, p0, q0, hargs, rfl, rfl, h0, r0⟩ := trodAll_cons hA
  obtain ⟨rfl, rfl, rfl⟩ := trodAll_nil r0
  obtain rfl : args = #[v0] := by cases args; simp_all
  obtain ⟨rfl, rfl⟩ := trodVars_none hV
  obtain ⟨a0, len0, cap0, rfl⟩ := okWide_slice Tryd.underlying23 (hval 0 23 v0 rfl rfl)
  have k0 := h0
  have lt0 : ∀ x ∈ p0, x.block < W.heap.size := by obtain ⟨m, hm⟩ := k0; exact DataW.trod_lt m _ _ _ hm
  simp only [List.append_nil] at hk
  have hbk : Rows.uptoBulk d0 ≤ 1048576 := by
    have h : Rows.uptoBulkAll [d0] ≤ 1048576 := of_decide_eq_true hk
    simp only [Rows.uptoBulkAll] at h
    omega
  have hTab := ten_of_laid hL
  have fin : Calls Tryd.prog 3 #[.slice a0 len0 cap0] W fun e w' => e = .returned (.bool true) ∧ Below W.heap.size W w' := by
    obtain ⟨fu, hf⟩ := h0
    obtain ⟨a, xs, c, e3, T3, hw3, hl3⟩ := open_nds hf
    simp [Value.cells] at e3
    obtain ⟨rfl, rfl, rfl⟩ := e3
    have hl : xs.length ≤ 1048576 := Nat.le_trans hl3 hbk
    have hsz : ∀ n ∈ xs, n.nm.size ≤ maxLen := fun n hn => Nat.le_trans (Nat.le_trans (hw3 n hn).1 hbk) (by unfold maxLen; omega)
    exact texts_any a0 cap0 xs hsz (fun n hn => (hw3 n hn).2) hl W T3 hTab
  clear hA0 hval0
  refine fin.mono fun e W' ⟨he, bel⟩ => ?_
  subst he
  exact ⟨_, rfl, _, _, _, [], _, [], hW', trodAll_mk1 (shut_bool Tryd.underlying4 _), (trodAll_cons_mk (Below.trod laidOut (by kernel_rfl) (of_decide_eq_true (by kernel_rfl)) k0 bel lt0) trodAll_mk0), rfl, bel.frame _, fun h => by cases h⟩

theorem door_met (os : Os) (args : Array Value) : laidMet Tryd.prog Rows.condTextsUptoRow.laid ((World.doorLaid Tryd.prog 400 os).forCall (fun _ _ => 0) ⟨#[], args, []⟩).memory :=
  laidMet_of_run' 8 (by kernel_rfl) (by kernel_rfl)
theorem reads (os : Os) {H : Type} (enc : TypeId × Value → H) : ∃ places, DataW.whole enc Tryd.prog ((World.doorLaid Tryd.prog 400 os).forCall (fun _ _ => 0) ⟨#[], #[.slice none 0 0], []⟩).memory Tryd.f3.params.toList Rows.condTextsSpec.vars false #[Value.slice none 0 0].toList 8 = some ([.nil], [], places) :=
  ⟨[], by kernel_rfl⟩
set_option maxRecDepth 100000 in
theorem liftedUpto (os : Os) (started : os.Started) (H : Type) (enc : TypeId × Value → H) (F : Stop.Interp) :
    ReturnsInHanded {} Tryd.checked os 3 .any ((Rows.OpenSpec.upto Rows.condTextsSpec).preRow enc Tryd.prog Tryd.f3 Rows.condTextsUptoRow.domain false Rows.condTextsUptoRow.laid) (((Rows.OpenSpec.upto Rows.condTextsSpec).at F).post enc Tryd.prog Tryd.f3 false true false false) := by
  obtain ⟨places, hx⟩ := reads os enc
  refine returnsInHanded_of_row (C := Tryd.checked) (s := Rows.OpenSpec.upto Rows.condTextsSpec) own started (by kernel_rfl) Tryd.func3
    (witness_row_at (enc := enc) (C := Tryd.checked) false (World.doorLaid Tryd.prog 400 os) #[.slice none 0 0] rfl (by kernel_rfl) (by kernel_rfl) (by kernel_rfl)
      (OpenSpec.preRow_of_cond 8 hx (by kernel_rfl) (fun k hk => by cases hk; kernel_rfl) (by kernel_rfl) (door_met os _))) ?_
  intro W base args ds gs before hval hW _ hcond _ hL _ _
  exact contract H enc W base args ds gs before hval hW (hcond _ rfl) hL
theorem saidUpto : Rows.CondTextsUptoSaid :=
  OpenClaim.holds_of_cond 3 Tryd.f3 rfl rfl rfl rfl rfl rfl rfl ⟨rfl, rfl, rfl, rfl, rfl⟩ rfl rfl rfl rfl rfl (by kernel_rfl) Tryd.func3 (by kernel_rfl)
    (of_decide_eq_true (by kernel_rfl)) (by unfold Func.isWrapper; first | (rw [if_pos (by decide +kernel)]; kernel_rfl) | (rw [if_neg (by decide +kernel)]; exact ⟨rfl, rfl⟩))
    (fun os started H enc _ F => by rw [OpenClaim.pre_eq_preRow]; exact liftedUpto os started H enc F)
theorem plain (f : FuncId) (fn : Func) (hf : Tryd.pinned.checked.prog.funcNamed "weir/weirlaw06.CondTexts" = some f) (hfn : Tryd.pinned.checked.prog.funcs[f]? = some fn) :
    true = Tryd.pinned.checked.prog.looks [] ∧ ∀ (j : Nat) t, fn.params[j]? = some t → Tryd.pinned.checked.prog.wantsStandIn t = false := by
  obtain rfl : f = 3 := Option.some.inj ((show Tryd.prog.funcNamed "weir/weirlaw06.CondTexts" = some 3 by kernel_rfl).symm.trans hf) |>.symm
  obtain rfl : fn = Tryd.f3 := (Option.some.inj (Tryd.func3.symm.trans hfn)).symm
  refine ⟨by kernel_rfl, fun j t ht => ?_⟩
  rw [Tryd.params3] at ht
  obtain rfl : t = 23 := by simpa using Array.mem_of_getElem? ht
  exact (show Tryd.prog.wantsStandIn 23 = false by kernel_rfl)
theorem condTexts_holds : Rows.CondTextsUptoCardSaid :=
  Claim7.holds_tied_plain_at .later [] _ _ _ _ saidUpto (fun _ h => by cases h) (by kernel_rfl) (fun _ h => by cases h) condTextsUpto_row_tie rfl ⟨rfl, rfl⟩ (by kernel_rfl) rfl plain (by kernel_rfl)
#print axioms condTexts_holds
end Go.Proofs.YtjnbhcakfenbhaaDoor

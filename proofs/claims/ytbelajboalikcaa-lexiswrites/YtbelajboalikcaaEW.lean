/- LexisWrites: for every list of tokens the law returns true and leaves its argument as it was; no condition. -/
import Derived.Test.YtbelajboalikcaaYA
import Derived.Test.YtbelajboalikcaaChecked
import Derived.ProofKit
import Derived.SizedLaws
import Derived.Lib.RowBridge
import Derived.ChangeMaps5
import Derived.ChangeOld
namespace Go.Proofs.Ytbelajboalikcaa
open Go.ChangeShapes Go.WideShapes Go.ChangeAt Go.RowKit M
open Go.ChangeMaps (open_string shut_string)
set_option linter.unusedSimpArgs false
set_option linter.unusedVariables false

theorem own : ownKnob Try.prog.godebug = none := by kernel_rfl
theorem laidOut : laidOutB Try.prog = true := by kernel_rfl
theorem cells2 : Try.prog.cellsOf 2 = 1 := by kernel_rfl
theorem cells3 : Try.prog.cellsOf 3 = 1 := by kernel_rfl
theorem cells9 : Try.prog.cellsOf 9 = 1 := by kernel_rfl
theorem cells38 : Try.prog.cellsOf 38 = 7 := by kernel_rfl

theorem take_one {cs : List Value} {v : Value} {i : Nat} (h : List.take 1 (List.drop i cs) = [v]) : cs[i]? = some v := by
  have := congrArg List.head? h
  simpa [List.head?_take, List.head?_drop] using this
theorem list7 {cs : List Value} {a b c d e f g : Value} (hl : cs.length = 7) (h0 : cs[0]? = some a) (h1 : cs[1]? = some b) (h2 : cs[2]? = some c) (h3 : cs[3]? = some d) (h4 : cs[4]? = some e) (h5 : cs[5]? = some f) (h6 : cs[6]? = some g) : cs = [a, b, c, d, e, f, g] := by
  match cs, hl with
  | [x0, x1, x2, x3, x4, x5, x6], _ => simp at h0 h1 h2 h3 h4 h5 h6; simp [h0, h1, h2, h3, h4, h5, h6]
theorem weight_all {H : Type} {P : Program} {e : TypeId} : ∀ {ds : List (DataW H)} {d : DataW H} (n : Nat), d ∈ ds → n ∈ DataW.weights P e d → n ∈ DataW.weightsAll P e ds
  | x :: ds, d, n, hd, hn => by
    rw [DataW.weightsAll.eq_2, List.mem_append]
    rcases List.mem_cons.1 hd with rfl | hd
    · exact .inl hn
    · exact .inr (weight_all n hd hn)
/-- One token, read. -/
theorem open_tok {H : Type} {enc : TypeId × Value → H} {W : World} {fuel : Nat} {cs : List Value} {x : DataW H × List MemPlace} (h : DataW.trod enc Try.prog W 0 (fun _ => true) true fuel 38 cs = some x) :
    ∃ g : GT, cs = gtL g ∧ g.text.size ∈ DataW.weights Try.prog 38 x.1 := by
  obtain ⟨ys, n, _, hx, hcl, hyl, hall⟩ := DataW.trod_struct Try.underlying38 h
  rw [cells38] at hcl
  match ys, hyl, hx, hall with
  | [y0, y1, y2, y3, y4, y5, y6], _, hx, hall =>
    have g0 : DataW.trod enc Try.prog W 0 (fun _ => true) true n 3 (List.take (Try.prog.cellsOf 3) (List.drop 0 cs)) = some y0 := hall 0 _ rfl
    have g1 : DataW.trod enc Try.prog W 0 (fun _ => true) true n 9 (List.take (Try.prog.cellsOf 9) (List.drop 1 cs)) = some y1 := hall 1 _ rfl
    have g2 : DataW.trod enc Try.prog W 0 (fun _ => true) true n 2 (List.take (Try.prog.cellsOf 2) (List.drop 2 cs)) = some y2 := hall 2 _ rfl
    have g3 : DataW.trod enc Try.prog W 0 (fun _ => true) true n 3 (List.take (Try.prog.cellsOf 3) (List.drop 3 cs)) = some y3 := hall 3 _ rfl
    have g4 : DataW.trod enc Try.prog W 0 (fun _ => true) true n 3 (List.take (Try.prog.cellsOf 3) (List.drop 4 cs)) = some y4 := hall 4 _ rfl
    have g5 : DataW.trod enc Try.prog W 0 (fun _ => true) true n 3 (List.take (Try.prog.cellsOf 3) (List.drop 5 cs)) = some y5 := hall 5 _ rfl
    have g6 : DataW.trod enc Try.prog W 0 (fun _ => true) true n 3 (List.take (Try.prog.cellsOf 3) (List.drop 6 cs)) = some y6 := hall 6 _ rfl
    rw [cells3] at g0 g3 g4 g5 g6
    rw [cells9] at g1
    rw [cells2] at g2
    obtain ⟨k, e0, _, _⟩ := DataW.trod_int Try.underlying3 g0
    obtain ⟨s, e1, hs, _⟩ := DataW.trod_string Try.underlying9 g1
    obtain ⟨v, e2, _, _⟩ := DataW.trod_int Try.underlying2 g2
    obtain ⟨a, e3, _, _⟩ := DataW.trod_int Try.underlying3 g3
    obtain ⟨b, e4, _, _⟩ := DataW.trod_int Try.underlying3 g4
    obtain ⟨c, e5, _, _⟩ := DataW.trod_int Try.underlying3 g5
    obtain ⟨d, e6, _, _⟩ := DataW.trod_int Try.underlying3 g6
    refine ⟨⟨k, s, v, a, b, c, d⟩, list7 hcl (take_one e0) (take_one e1) (take_one e2) (take_one e3) (take_one e4) (take_one e5) (take_one e6), ?_⟩
    rw [hx, DataW.weights.eq_6, Try.underlying38]
    refine DataW.weights_mem_each (j := 1) (t := 9) (d := .lit (.string s.data.toList)) rfl ?_ _ ?_
    · show some y1.1 = _
      rw [hs]
    · rw [DataW.weights.eq_1, sizeL]; simp
/-- A list of tokens, read. -/
theorem open_toks {H : Type} {enc : TypeId × Value → H} {W : World} {fuel : Nat} {cs : List Value} {x : DataW H × List MemPlace} (h : DataW.trod enc Try.prog W 0 (fun _ => true) true fuel 24 cs = some x) :
    ∃ a gs cap, cs = [.slice a gs.length cap] ∧ Toks W a gs ∧ (a = none → gs = [] ∧ cap = 0) ∧ ∀ g ∈ gs, g.text.size ∈ DataW.weights Try.prog 24 x.1 := by
  rcases DataW.trod_slice Try.underlying24 h with ⟨hcs, _⟩ | ⟨a, len, cap, elems, rest, n, _, hcs, hx, _, _, _, hel, hall, _, _⟩
  · exact ⟨none, [], 0, hcs, fun j g hg => by simp at hg, fun _ => ⟨rfl, rfl⟩, fun g hg => by cases hg⟩
  · rw [cells38] at hall
    have one : ∀ i, i < len → ∃ g : GT, (∀ k, k < 7 → W.cell? ((a.add (i * 7)).add k) = (gtL g)[k]?) ∧ g.text.size ∈ DataW.weights Try.prog 24 x.1 := fun i hi => by
      have hh := hall i hi
      have hie : i < elems.length := by omega
      rw [List.getElem?_eq_getElem hie] at hh
      obtain ⟨cs', hc, ht⟩ := Option.bind_eq_some_iff.1 hh
      obtain ⟨_, _, hcell⟩ := World.cells?_some hc
      obtain ⟨g, rfl, hg⟩ := open_tok ht
      refine ⟨g, hcell, ?_⟩
      rw [hx, DataW.weights.eq_5, Try.underlying24]
      refine List.mem_cons_of_mem _ (List.mem_append.2 (.inl (weight_all _ (List.mem_map.2 ⟨elems[i], List.getElem_mem hie, rfl⟩) hg)))
    obtain ⟨f, hf⟩ : ∃ f : Nat → GT, ∀ i, i < len → (∀ k, k < 7 → W.cell? ((a.add (i * 7)).add k) = (gtL (f i))[k]?) ∧ (f i).text.size ∈ DataW.weights Try.prog 24 x.1 :=
      ⟨fun i => if hi : i < len then Classical.choose (one i hi) else ⟨0, ⟨#[]⟩, 0, 0, 0, 0, 0⟩, fun i hi => by
        simp only [dif_pos hi]
        exact Classical.choose_spec (one i hi)⟩
    refine ⟨some a, (List.range len).map f, cap, by rw [hcs]; simp, ?_, fun h => (by cases h), ?_⟩
    · intro j g hg
      have hj : j < len := by have := (List.getElem?_eq_some_iff.1 hg).1; simpa using this
      have hgf : g = f j := by
        rw [List.getElem?_map, List.getElem?_range hj] at hg
        simpa using hg.symm
      subst hgf
      have hc := (hf j hj).1
      have h0 := (hf 0 (by omega)).1 0 (by omega)
      obtain ⟨b, off, rfl, _⟩ := _root_.Go.ints_at (w := W) (a := a) (k := .i64) (zs := [(f 0).kind]) (fun i hi => by
        have : i = 0 := by simpa using hi
        subst this
        have e : a.add (0 * 7) = a := by unfold Addr.add; split <;> simp_all
        rw [e] at h0
        exact h0) (by simp)
      refine ⟨b, off, rfl, ?_, fun i v hv => ?_⟩
      · have e0 := hc 0 (by omega)
        rw [Addr.add_mid, Addr.add_mid] at e0
        exact World.block_lt_of_cell? W _ (e0.trans rfl)
      · have hi : i < 7 := (List.getElem?_eq_some_iff.1 hv).1
        have e0 := hc i hi
        rw [Addr.add_mid, Addr.add_mid] at e0
        rw [e0]; exact hv
    · intro g hg
      obtain ⟨i, hi, rfl⟩ := List.mem_map.1 hg
      exact (hf i (by simpa using hi)).2

set_option maxHeartbeats 800000 in
set_option maxRecDepth 100000 in
theorem lexisWrites_lifted (os : Os) (started : os.Started) (H : Type) (enc : TypeId × Value → H) :
    ReturnsInHanded {} Try.checked os 6 .any (Rows.lexisWritesSpec.pre6 enc Try.prog Try.f6 Rows.lexisWritesRow.domain false) (Rows.lexisWritesSpec.post enc Try.prog Try.f6 false true false false) := by
  refine returnsInHanded_of_change_sized (C := Try.checked) own started (by kernel_rfl) Try.func6
    (ChangeSpec.witness6 (enc := enc) (C := Try.checked) false ⟨#[], #[.slice none 0 0], []⟩ 8 (by kernel_rfl) (by kernel_rfl) (by kernel_rfl) (by kernel_rfl)) ?_
  intro W base args ds gs before hval0 hW _ hsz0 _
  have hsz : (DataW.weightsEach Try.prog (Try.f6.params.toList ++ Rows.lexisWritesSpec.plain.varTypes Try.prog) (ds ++ gs)).all (· ≤ reachBytes) = true := hsz0
  clear hsz0
  have hval : ∀ (j : Nat) t v, Try.f6.params[j]? = some t → args[j]? = some v → Value.okWide Try.prog W .any base t v := hval0
  have hW' := hW
  obtain ⟨p, q, hA0, hV, rfl, _, _⟩ := hW
  have hA : DataW.TrodAll enc Try.prog W 0 (fun _ => true) true Try.f6.params.toList args.toList ds p := hA0
  rw [Try.params6] at hA hval hsz
  obtain ⟨v0, vs0, d0, ds0, p0, q0, hargs, rfl, rfl, h0, r0⟩ := trodAll_cons hA
  obtain ⟨rfl, rfl, rfl⟩ := trodAll_nil r0
  obtain rfl : args = #[v0] := by cases args; simp_all
  obtain ⟨rfl, rfl⟩ := trodVars_none hV
  obtain ⟨a0, len0, cap0, rfl⟩ := okWide_slice Try.underlying24 (hval 0 24 v0 rfl rfl)
  have k0 := h0
  have lt0 : ∀ x ∈ p0, x.block < W.heap.size := by obtain ⟨m, hm⟩ := k0; exact DataW.trod_lt m _ _ _ hm
  have fin : Calls Try.prog 6 #[.slice a0 len0 cap0] W fun e w' => e = .returned (.bool true) ∧ Below W.heap.size W w' := by
    obtain ⟨fu, hf⟩ := h0
    obtain ⟨a, xs, c, e3, T3, hnl, hw3⟩ := open_toks hf
    simp [Value.cells] at e3
    obtain ⟨rfl, rfl, rfl⟩ := e3
    refine writes_law a0 cap0 xs (fun g hg => ?_) hnl W T3
    have := List.all_eq_true.1 hsz _ (DataW.weights_mem_each (j := 0) (t := 24) rfl rfl _ (hw3 g hg))
    have h9 : g.text.size ≤ reachBytes := of_decide_eq_true this
    simp only [reachBytes] at h9
    omega
  clear hA0 hval0
  refine fin.mono fun e W' ⟨he, bel⟩ => ?_
  subst he
  exact ⟨_, rfl, _, _, _, [], _, [], hW', trodAll_mk1 (shut_bool Try.underlying4 _), (trodAll_cons_mk (Below.trod laidOut (by kernel_rfl) (of_decide_eq_true (by kernel_rfl)) k0 bel lt0) trodAll_mk0), rfl, bel.frame _, fun h => by cases h⟩

theorem lexisWrites_holds : Rows.LexisWritesSaid :=
  OpenClaim.holds_of_wide 6 Try.f6 rfl rfl rfl rfl rfl rfl rfl ⟨rfl, rfl, rfl, rfl, rfl⟩ rfl rfl rfl rfl rfl (by kernel_rfl) Try.func6 (by kernel_rfl)
    (of_decide_eq_true (by kernel_rfl)) (by unfold Func.isWrapper; first | (rw [if_pos (by decide +kernel)]; kernel_rfl) | (rw [if_neg (by decide +kernel)]; exact ⟨rfl, rfl⟩))
    (fun os started H enc _ => lexisWrites_lifted os started H enc)
#print axioms lexisWrites_holds
end Go.Proofs.Ytbelajboalikcaa

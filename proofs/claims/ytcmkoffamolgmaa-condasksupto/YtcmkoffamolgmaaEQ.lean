/- CondAsks: for every list of nodes and every set of references and values that hold, names' letters and all, at most 1048576 values the law returns true and leaves its arguments as they were. -/
import Derived.Test.YtcmkoffamolgmaaB10
import Derived.Test.YtcmkoffamolgmaaOS
import Derived.Test.YtcmkoffamolgmaaChecked
import Derived.Test.YtcmkoffamolgmaaRows
import Derived.ProofKit
import Derived.SizedLaws
import Derived.Lib.RowBridge
import Derived.ChangeMaps5
import Derived.ChangeOld
import Derived.JoinedCond
namespace Go.Proofs.Ytcmkoffamolgmaa
open Go.ChangeShapes Go.WideShapes Go.ChangeAt Go.RowKit M
set_option linter.unusedSimpArgs false
set_option linter.unusedVariables false

theorem cellsR : Try.prog.cellsOf 39 = 2 := by kernel_rfl
theorem cellsN : Try.prog.cellsOf 46 = 6 := by kernel_rfl
theorem cellsRs : Try.prog.cellsOf 24 = 1 := by kernel_rfl
theorem cellsVs : Try.prog.cellsOf 25 = 1 := by kernel_rfl
theorem cellsSt : Try.prog.cellsOf 27 = 3 := by kernel_rfl
theorem list6 {cs : List Value} {a b c d e f : Value} (hl : cs.length = 6) (h0 : cs[0]? = some a) (h1 : cs[1]? = some b) (h2 : cs[2]? = some c) (h3 : cs[3]? = some d) (h4 : cs[4]? = some e) (h5 : cs[5]? = some f) : cs = [a, b, c, d, e, f] := by
  match cs, hl with
  | [x0, x1, x2, x3, x4, x5], _ => simp at h0 h1 h2 h3 h4 h5; simp [h0, h1, h2, h3, h4, h5]
/-- One node, read. -/
theorem open_nd {H : Type} {enc : TypeId × Value → H} {W : World} {fuel : Nat} {cs : List Value} {x : DataW H × List MemPlace} (h : DataW.trod enc Try.prog W 0 (fun _ => true) true fuel 46 cs = some x) :
    ∃ n : Nd, cs = ndL n ∧ n.nm.size ≤ Rows.uptoBulk x.1 := by
  obtain ⟨ys, n, _, hx, hcl, hyl, hall⟩ := DataW.trod_struct Try.underlying46 h
  rw [cellsN] at hcl
  match ys, hyl, hx, hall with
  | [y0, y1, y2, y3, y4], _, hx, hall =>
    have g0 : DataW.trod enc Try.prog W 0 (fun _ => true) true n 3 (List.take (Try.prog.cellsOf 3) (List.drop 0 cs)) = some y0 := hall 0 _ rfl
    have g1 : DataW.trod enc Try.prog W 0 (fun _ => true) true n 3 (List.take (Try.prog.cellsOf 3) (List.drop 1 cs)) = some y1 := hall 1 _ rfl
    have g2 : DataW.trod enc Try.prog W 0 (fun _ => true) true n 3 (List.take (Try.prog.cellsOf 3) (List.drop 2 cs)) = some y2 := hall 2 _ rfl
    have g3 : DataW.trod enc Try.prog W 0 (fun _ => true) true n 39 (List.take (Try.prog.cellsOf 39) (List.drop 3 cs)) = some y3 := hall 3 _ rfl
    have g4 : DataW.trod enc Try.prog W 0 (fun _ => true) true n 2 (List.take (Try.prog.cellsOf 2) (List.drop 5 cs)) = some y4 := hall 4 _ rfl
    rw [cells3] at g0 g1 g2
    rw [cells2] at g4
    rw [cellsR] at g3
    obtain ⟨k, e0, _, _⟩ := DataW.trod_int Try.underlying3 g0
    obtain ⟨a, e1, _, _⟩ := DataW.trod_int Try.underlying3 g1
    obtain ⟨b, e2, _, _⟩ := DataW.trod_int Try.underlying3 g2
    obtain ⟨v, e4, _, _⟩ := DataW.trod_int Try.underlying2 g4
    obtain ⟨zs, n', _, hz, hzc, hzl, hzall⟩ := DataW.trod_struct Try.underlying39 g3
    match zs, hzl, hz, hzall with
    | [z0, z1], _, hz, hzall =>
      have q0 : DataW.trod enc Try.prog W 0 (fun _ => true) true n' 3 (List.take (Try.prog.cellsOf 3) (List.drop 0 (List.take 2 (List.drop 3 cs)))) = some z0 := hzall 0 _ rfl
      have q1 : DataW.trod enc Try.prog W 0 (fun _ => true) true n' 9 (List.take (Try.prog.cellsOf 9) (List.drop 1 (List.take 2 (List.drop 3 cs)))) = some z1 := hzall 1 _ rfl
      rw [cells3] at q0
      rw [cells9] at q1
      obtain ⟨th, f0, _, _⟩ := DataW.trod_int Try.underlying3 q0
      obtain ⟨s, f1, hs, _⟩ := DataW.trod_string Try.underlying9 q1
      have c3 : cs[3]? = some (.int .i64 th) := by have := take_one f0; simpa using this
      have c4 : cs[4]? = some (.string s) := by have := take_one f1; simpa using this
      refine ⟨⟨k, a, b, th, s, v⟩, list6 hcl (take_one e0) (take_one e1) (take_one e2) c3 c4 (take_one e4), ?_⟩
      have hb : Rows.uptoBulk z1.1 = s.size + 1 := by rw [hs]; simp [Rows.uptoBulk]
      have hy3 : Rows.uptoBulk z1.1 ≤ Rows.uptoBulk y3.1 := by
        rw [hz]
        have := bulk_mem ([z0, z1].map (·.1)) z1.1 (by simp)
        simp only [Rows.uptoBulk]
        omega
      have hxx : Rows.uptoBulk y3.1 ≤ Rows.uptoBulk x.1 := by
        rw [hx]
        have := bulk_mem ([y0, y1, y2, y3, y4].map (·.1)) y3.1 (by simp)
        simp only [Rows.uptoBulk]
        omega
      show s.size ≤ _
      omega
/-- A list of nodes, read. -/
theorem open_nds {H : Type} {enc : TypeId × Value → H} {W : World} {fuel : Nat} {cs : List Value} {x : DataW H × List MemPlace} (h : DataW.trod enc Try.prog W 0 (fun _ => true) true fuel 23 cs = some x) :
    ∃ a ns cap, cs = [.slice a ns.length cap] ∧ Nds W a ns ∧ (∀ n ∈ ns, n.nm.size ≤ Rows.uptoBulk x.1) ∧ ns.length ≤ Rows.uptoBulk x.1 := by
  rcases DataW.trod_slice Try.underlying23 h with ⟨hcs, _⟩ | ⟨a, len, cap, elems, rest, n, _, hcs, hx, _, _, _, hel, hall, _, _⟩
  · exact ⟨none, [], 0, hcs, (fun j g hg => by simp at hg), (fun g hg => by cases hg), by simp⟩
  · rw [cellsN] at hall
    have one : ∀ i, i < len → ∃ g : Nd, (∀ k, k < 6 → W.cell? ((a.add (i * 6)).add k) = (ndL g)[k]?) ∧ g.nm.size ≤ Rows.uptoBulk x.1 := fun i hi => by
      have hh := hall i hi
      have hie : i < elems.length := by omega
      rw [List.getElem?_eq_getElem hie] at hh
      obtain ⟨cs', hc, ht⟩ := Option.bind_eq_some_iff.1 hh
      obtain ⟨_, _, hcell⟩ := World.cells?_some hc
      obtain ⟨g, rfl, hg⟩ := open_nd ht
      refine ⟨g, hcell, Nat.le_trans hg ?_⟩
      rw [hx]
      have := bulk_mem (elems.map (·.1)) elems[i].1 (List.mem_map.2 ⟨elems[i], List.getElem_mem hie, rfl⟩)
      simp only [Rows.uptoBulk]
      omega
    obtain ⟨f, hf⟩ : ∃ f : Nat → Nd, ∀ i, i < len → (∀ k, k < 6 → W.cell? ((a.add (i * 6)).add k) = (ndL (f i))[k]?) ∧ (f i).nm.size ≤ Rows.uptoBulk x.1 :=
      ⟨fun i => if hi : i < len then Classical.choose (one i hi) else noNd, fun i hi => by
        simp only [dif_pos hi]
        exact Classical.choose_spec (one i hi)⟩
    refine ⟨some a, (List.range len).map f, cap, by rw [hcs]; simp, ?_, ?_, ?_⟩
    · intro j g hg
      have hj : j < len := by have := (List.getElem?_eq_some_iff.1 hg).1; simpa using this
      have hgf : g = f j := by
        rw [List.getElem?_map, List.getElem?_range hj] at hg
        simpa using hg.symm
      subst hgf
      have hc := (hf j hj).1
      have h0 := (hf 0 (by omega)).1 0 (by omega)
      obtain ⟨b, off, rfl, _⟩ := _root_.Go.ints_at (w := W) (a := a) (k := .i64) (zs := [(f 0).op]) (fun i hi => by
        have : i = 0 := by simpa using hi
        subst this
        have e : a.add (0 * 6) = a := by unfold Addr.add; split <;> simp_all
        rw [e] at h0
        exact h0) (by simp)
      refine ⟨b, off, rfl, ?_, fun i v hv => ?_⟩
      · have e0 := hc 0 (by omega)
        rw [Addr.add_mid, Addr.add_mid] at e0
        exact World.block_lt_of_cell? W _ (e0.trans rfl)
      · have hi : i < 6 := (List.getElem?_eq_some_iff.1 hv).1
        have e0 := hc i hi
        rw [Addr.add_mid, Addr.add_mid] at e0
        rw [e0]; exact hv
    · intro g hg
      obtain ⟨i, hi, rfl⟩ := List.mem_map.1 hg
      exact (hf i (by simpa using hi)).2
    · rw [hx]
      have := bulk_len (elems.map (·.1))
      simp only [Rows.uptoBulk, List.length_map, List.length_range] at *
      omega

theorem list3 {cs : List Value} {a b c : Value} (hl : cs.length = 3) (h0 : cs[0]? = some a) (h1 : cs[1]? = some b) (h2 : cs[2]? = some c) : cs = [a, b, c] := by
  match cs, hl with
  | [x0, x1, x2], _ => simp at h0 h1 h2; simp [h0, h1, h2]
section
variable {H : Type} {enc : TypeId × Value → H} {W : World}
theorem open_ref1 (fuel : Nat) (cs : List Value) (x : DataW H × List MemPlace) (h : DataW.trod enc Try.prog W 0 (fun _ => true) true fuel 39 cs = some x) : ∃ g : RK, cs = rkL g ∧ True ∧ 1 ≤ Rows.uptoBulk x.1 := by
  obtain ⟨zs, n', _, hz, hzc, hzl, hzall⟩ := DataW.trod_struct Try.underlying39 h
  rw [cellsR] at hzc
  match zs, hzl, hz, hzall with
  | [z0, z1], _, hz, hzall =>
    have q0 : DataW.trod enc Try.prog W 0 (fun _ => true) true n' 3 (List.take (Try.prog.cellsOf 3) (List.drop 0 cs)) = some z0 := hzall 0 _ rfl
    have q1 : DataW.trod enc Try.prog W 0 (fun _ => true) true n' 9 (List.take (Try.prog.cellsOf 9) (List.drop 1 cs)) = some z1 := hzall 1 _ rfl
    rw [cells3] at q0
    rw [cells9] at q1
    obtain ⟨th, f0, _, _⟩ := DataW.trod_int Try.underlying3 q0
    obtain ⟨s, f1, hs, _⟩ := DataW.trod_string Try.underlying9 q1
    exact ⟨(th, s), list2 hzc (take_one f0) (take_one f1), trivial, bulk_pos _⟩
theorem open_v1 (fuel : Nat) (cs : List Value) (x : DataW H × List MemPlace) (h : DataW.trod enc Try.prog W 0 (fun _ => true) true fuel 2 cs = some x) : ∃ g : Int, cs = [.int .i64 g] ∧ True ∧ 1 ≤ Rows.uptoBulk x.1 := by
  obtain ⟨g, h1, _, h3⟩ := open_i64 fuel cs x h
  exact ⟨g, h1, trivial, h3⟩
/-- A set, read. -/
theorem open_st {fuel : Nat} {cs : List Value} {x : DataW H × List MemPlace} (h : DataW.trod enc Try.prog W 0 (fun _ => true) true fuel 27 cs = some x) :
    ∃ (ar : Option Addr) (rs : List RK) (cr : Nat) (av : Option Addr) (vs : List Int) (cv : Nat) (d : Int), cs = stL ar rs.length cr av vs.length cv d ∧ Seg W ar (rs.flatMap rkL) ∧ Seg W av (vs.flatMap fun x => [.int .i64 x]) ∧ rs.length ≤ Rows.uptoBulk x.1 ∧ vs.length ≤ Rows.uptoBulk x.1 := by
  obtain ⟨ys, n, _, hx, hcl, hyl, hall⟩ := DataW.trod_struct Try.underlying27 h
  rw [cellsSt] at hcl
  match ys, hyl, hx, hall with
  | [y0, y1, y2], _, hx, hall =>
    have g0 : DataW.trod enc Try.prog W 0 (fun _ => true) true n 24 (List.take (Try.prog.cellsOf 24) (List.drop 0 cs)) = some y0 := hall 0 _ rfl
    have g1 : DataW.trod enc Try.prog W 0 (fun _ => true) true n 25 (List.take (Try.prog.cellsOf 25) (List.drop 1 cs)) = some y1 := hall 1 _ rfl
    have g2 : DataW.trod enc Try.prog W 0 (fun _ => true) true n 2 (List.take (Try.prog.cellsOf 2) (List.drop 2 cs)) = some y2 := hall 2 _ rfl
    rw [cellsRs] at g0
    rw [cellsVs] at g1
    rw [cells2] at g2
    have bm : ∀ y ∈ [y0, y1, y2], Rows.uptoBulk y.1 ≤ Rows.uptoBulk x.1 := fun y hy => by
      have := bulk_mem ([y0, y1, y2].map (·.1)) y.1 (List.mem_map.2 ⟨y, hy, rfl⟩)
      rw [hx]
      simp only [Rows.uptoBulk]
      omega
    obtain ⟨ar, rs, cr, e0, s0, _, l0, _⟩ := open_sl ((0, ⟨#[]⟩) : RK) Try.underlying24 cellsR (by decide) rkL (fun _ => rfl) (fun _ => True) (fun _ => 1) open_ref1 g0
    obtain ⟨av, vs, cv, e1, s1, _, l1, _⟩ := open_sl (0 : Int) Try.underlying25 cells2 (by decide) (fun x => [.int .i64 x]) (fun _ => rfl) (fun _ => True) (fun _ => 1) open_v1 g1
    obtain ⟨d, e2, _, _⟩ := DataW.trod_int Try.underlying2 g2
    exact ⟨ar, rs, cr, av, vs, cv, d, list3 hcl (take_one e0) (take_one e1) (take_one e2), s0, s1, Nat.le_trans l0 (bm y0 (by simp)), Nat.le_trans l1 (bm y1 (by simp))⟩
end
set_option maxHeartbeats 800000 in
set_option maxRecDepth 100000 in
theorem lifted (os : Os) (started : os.Started) (H : Type) (enc : TypeId × Value → H) (F : Stop.Interp) :
    ReturnsInHanded {} Try.checked os 3 .any ((Rows.OpenSpec.upto Rows.condAsksSpec).pre6 enc Try.prog Try.f3 Rows.condAsksUptoRow.domain false) (((Rows.OpenSpec.upto Rows.condAsksSpec).at F).post enc Try.prog Try.f3 false true false false) := by
  refine returnsInHanded_of_cond (C := Try.checked) (s := Rows.OpenSpec.upto Rows.condAsksSpec) (k := Rows.uptoSmall) rfl own started (by kernel_rfl) Try.func3
    (OpenSpec.witness (enc := enc) (C := Try.checked) (s := Rows.OpenSpec.upto Rows.condAsksSpec) (k := Rows.uptoSmall) rfl false ⟨#[], #[.slice none 0 0, .agg #[.slice none 0 0, .slice none 0 0, .int .i64 0]], []⟩ 8 (by kernel_rfl) (by kernel_rfl) (by kernel_rfl)
      (x := ([.nil, .agg [.nil, .nil, .lit (.int .i64 0)]], [], [])) (by kernel_rfl) rfl (by kernel_rfl)) ?_
  intro W base args ds gs before hval0 hW _ hk _
  have hval : ∀ (j : Nat) t v, Try.f3.params[j]? = some t → args[j]? = some v → Value.okWide Try.prog W .any base t v := hval0
  have hW' := hW
  obtain ⟨p, q, hA0, hV, rfl, _, _⟩ := hW
  have hA : DataW.TrodAll enc Try.prog W 0 (fun _ => true) true Try.f3.params.toList args.toList ds p := hA0
  rw [Try.params3] at hA hval
  obtain ⟨v0, vs0, d0, ds0, p0, q0, hargs, rfl, rfl, h0, r0⟩ := trodAll_cons hA
  obtain ⟨v1, vs1, d1, ds1, p1, q1, rfl, rfl, rfl, h1, r1⟩ := trodAll_cons r0
  obtain ⟨rfl, rfl, rfl⟩ := trodAll_nil r1
  obtain rfl : args = #[v0, v1] := by cases args; simp_all
  obtain ⟨rfl, rfl⟩ := trodVars_none hV
  obtain ⟨a0, len0, cap0, rfl⟩ := okWide_slice Try.underlying23 (hval 0 23 v0 rfl rfl)
  obtain ⟨c1, rfl, _⟩ := okWide_struct Try.underlying27 (hval 1 27 v1 rfl rfl)
  have k0 := h0
  have lt0 : ∀ x ∈ p0, x.block < W.heap.size := by obtain ⟨m, hm⟩ := k0; exact DataW.trod_lt m _ _ _ hm
  have k1 := h1
  have lt1 : ∀ x ∈ p1, x.block < W.heap.size := by obtain ⟨m, hm⟩ := k1; exact DataW.trod_lt m _ _ _ hm
  simp only [List.append_nil] at hk
  have hbk : Rows.uptoBulk d0 + Rows.uptoBulk d1 ≤ 1048576 := by
    have h : Rows.uptoBulkAll [d0, d1] ≤ 1048576 := of_decide_eq_true hk
    simp only [Rows.uptoBulkAll] at h
    omega
  have fin : Calls Try.prog 3 #[.slice a0 len0 cap0, .agg c1] W fun e w' => e = .returned (.bool true) ∧ Below W.heap.size W w' := by
    obtain ⟨fu, hf⟩ := h0
    obtain ⟨fv, hg⟩ := h1
    obtain ⟨a, xs, c, e3, T3, hw3, hl3⟩ := open_nds hf
    obtain ⟨ar, rs, cr, av, vs, cv, d, e4, sr, sv, lr, lv⟩ := open_st hg
    simp [Value.cells] at e3
    obtain ⟨rfl, rfl, rfl⟩ := e3
    have e4' : c1 = (stL ar rs.length cr av vs.length cv d).toArray := by simp [Value.cells] at e4; rw [← Array.toArray_toList (xs := c1), e4]
    rw [e4']
    have lr' : rs.length ≤ Rows.uptoBulk d1 := lr
    have lv' : vs.length ≤ Rows.uptoBulk d1 := lv
    have hl3' : xs.length ≤ Rows.uptoBulk d0 := hl3
    have hl : xs.length ≤ 1048576 := by omega
    have hsz : ∀ n ∈ xs, n.nm.size ≤ maxLen := fun n hn => by have h : n.nm.size ≤ Rows.uptoBulk d0 := hw3 n hn; unfold maxLen; omega
    exact condAsks_any a0 cap0 xs hsz hl rs vs d cr cv ar av (by omega) (by omega) W T3 sr sv
  clear hA0 hval0
  refine fin.mono fun e W' ⟨he, bel⟩ => ?_
  subst he
  exact ⟨_, rfl, _, _, _, [], _, [], hW', trodAll_mk1 (shut_bool Try.underlying4 _), (trodAll_cons_mk (Below.trod laidOut (by kernel_rfl) (of_decide_eq_true (by kernel_rfl)) k0 bel lt0) (trodAll_cons_mk (Below.trod laidOut (by kernel_rfl) (of_decide_eq_true (by kernel_rfl)) k1 bel lt1) trodAll_mk0)), rfl, bel.frame _, fun h => by cases h⟩
theorem condAsks_holds : Rows.CondAsksUptoSaid :=
  OpenClaim.holds_of_cond 3 Try.f3 rfl rfl rfl rfl rfl rfl rfl ⟨rfl, rfl, rfl, rfl, rfl⟩ rfl rfl rfl rfl rfl (by kernel_rfl) Try.func3 (by kernel_rfl)
    (of_decide_eq_true (by kernel_rfl)) (by unfold Func.isWrapper; first | (rw [if_pos (by decide +kernel)]; kernel_rfl) | (rw [if_neg (by decide +kernel)]; exact ⟨rfl, rfl⟩))
    (fun os started H enc _ F => lifted os started H enc F)
#print axioms condAsks_holds
end Go.Proofs.Ytcmkoffamolgmaa

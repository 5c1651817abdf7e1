/- lent, back. -/
import Derived.Test.YtcmkoffamolgmaaL1
import Derived.Test.YtcmkoffamolgmaaKS
namespace Go.Proofs.Ytcmkoffamolgmaa
open Go.RowKit M
set_option linter.unusedSimpArgs false
set_option linter.unusedVariables false

theorem cellsL_get : ∀ (out : List Nd) (j : Nat) (n : Nd), out[j]? = some n → ∀ (i : Nat) (v : Value), (ndL n)[i]? = some v → (cellsL out)[j * 6 + i]? = some v
  | [], j, n, h, i, v, hv => by simp at h
  | m :: r, 0, n, h, i, v, hv => by
    simp at h
    subst h
    show (ndL m ++ r.flatMap ndL)[0 * 6 + i]? = some v
    have hi := (List.getElem?_eq_some_iff.1 hv).1
    rw [Nat.zero_mul, Nat.zero_add, List.getElem?_append_left hi]
    exact hv
  | m :: r, j + 1, n, h, i, v, hv => by
    have := cellsL_get r j n (by simpa using h) i v hv
    show (ndL m ++ r.flatMap ndL)[(j + 1) * 6 + i]? = some v
    have hl : (ndL m).length = 6 := rfl
    rw [List.getElem?_append_right (by rw [hl]; omega), hl, show (j + 1) * 6 + i - 6 = j * 6 + i by omega]
    exact this

theorem nds_cells {w : World} {b o : Nat} {ns : List Nd} (h : Nds w (some ⟨b, o, none⟩) ns) : ∀ j v, (cellsL ns)[j]? = some v → w.cell? ⟨b, o + j, none⟩ = some v := fun j v hv => by
  have hj := (List.getElem?_eq_some_iff.1 hv).1
  rw [cellsL_len] at hj
  obtain ⟨n, hn⟩ : ∃ n, ns[j / 6]? = some n := ⟨_, List.getElem?_eq_getElem (by omega)⟩
  obtain ⟨b', o', e, _, hr⟩ := h _ n hn
  cases e
  have hm : j % 6 < (ndL n).length := by show j % 6 < 6; omega
  have hu : (ndL n)[j % 6]? = some (ndL n)[j % 6] := List.getElem?_eq_getElem hm
  have := cellsL_get ns _ n hn _ _ hu
  rw [show j / 6 * 6 + j % 6 = j by omega, hv] at this
  have e2 := hr (j % 6) _ hu
  rw [show o + j / 6 * 6 + j % 6 = o + j by omega] at e2
  rw [e2, this]
theorem nds_of_isS {w : World} {g : Nat} {ns : List Nd} {more : List Value} (h : IsS w g 46 (cellsL ns ++ more)) : Nds w (some ⟨g, 0, none⟩) ns := fun j n hn => by
  refine ⟨g, 0, rfl, h.lt, fun i v hv => ?_⟩
  have h2 := cellsL_get ns j n hn i v hv
  have hl := (List.getElem?_eq_some_iff.1 h2).1
  rw [h.cell, Nat.zero_add, List.getElem?_append_left hl]
  exact h2
theorem cells_one (ns : List Nd) : ∀ v ∈ cellsL ns, v.oneCell' = true := fun v hv => by
  obtain ⟨n, _, h⟩ := List.mem_flatMap.1 hv
  exact nd_one n v h
theorem putL_at : ∀ (vs xs ys : List Value), ys.length = vs.length → putL (xs ++ ys) xs.length vs = xs ++ vs
  | [], xs, ys, h => by
    have : ys = [] := List.eq_nil_of_length_eq_zero h
    subst this
    rfl
  | v :: vs, xs, [], h => by simp at h
  | v :: vs, xs, y :: ys, h => by
    show putL ((xs ++ y :: ys).set xs.length v) (xs.length + 1) vs = _
    have e : (xs ++ y :: ys).set xs.length v = (xs ++ [v]) ++ ys := by simp
    rw [e]
    have := putL_at vs (xs ++ [v]) ys (by simpa using h)
    rw [List.length_append] at this
    rw [show xs.length + 1 = xs.length + [v].length from rfl, this]
    simp
def n77 : Nd := ⟨77, 0, 0, 0, noName, 0⟩
theorem run_copy6 (w : World) (ty : TypeId) (g dLen dCap : Nat) (a : Option Addr) (cap : Nat) (ns : List Nd) (cur : List Value) (hg : IsS w g 46 cur) (hT : Nds w a ns) (hfit : ns.length * 6 ≤ cur.length) (hd : ns.length ≤ dLen) :
    ∃ w', (Builtin.copy_ #[23, 23] ty #[.slice (some ⟨g, 0, none⟩) dLen dCap, .slice a ns.length cap]).run Try.prog w = .ok (goInt ns.length) w' ∧ Upd w w' g ∧ IsS w' g 46 (cellsL ns ++ cur.drop (ns.length * 6)) := by
  obtain ⟨i0, hi, hz, hs, hby⟩ := partsN
  have hmin : Nat.min ns.length dLen = ns.length := Nat.min_eq_left hd
  by_cases h0 : ns.length = 0
  · have hns : ns = [] := List.eq_nil_of_length_eq_zero h0
    subst hns
    have hl : ∀ (x : Addr), (loadCells x 0).run Try.prog w = .ok #[] w := fun x => by simpa using run_loadCells_list (P := Try.prog) w x [] (by simp)
    refine ⟨w, ?_, Upd.refl w g, by simpa [cellsL] using hg⟩
    cases a <;> simp [Builtin.copy_, run_underlying Try.underlying23, Builtin.lenOf, Builtin.firstCells, sizeOf, typeInfo, hi, hs, storeCells, hl]
  · obtain ⟨n0, hn0⟩ : ∃ n0, ns[0]? = some n0 := ⟨_, List.getElem?_eq_getElem (by omega)⟩
    obtain ⟨b, o, rfl, _, _⟩ := hT 0 n0 hn0
    have hsrc : ∀ j v, (cellsL ns)[j]? = some v → w.cell? ((⟨b, o, none⟩ : Addr).add j) = some v := fun j v hv => by rw [Addr.add_mid]; exact nds_cells hT j v hv
    have hl := run_loadCells_list (P := Try.prog) w ⟨b, o, none⟩ (cellsL ns) hsrc
    have hst := run_storeCells_at Try.prog g 0 46 (cellsL ns) 0 cur.toArray w hg (by simp [cellsL_len]; omega) (cells_one ns)
    rw [cellsL_len] at hl
    refine ⟨w.setRow g (cur.take 0 ++ cellsL ns ++ cur.drop (0 + (cellsL ns).length)).toArray, ?_, Upd.setRow w g _, ?_⟩
    · simp only [Nat.add_zero, List.toList_toArray] at hst
      simp [Builtin.copy_, run_underlying Try.underlying23, Builtin.lenOf, Builtin.firstCells, sizeOf, typeInfo, hi, hs, hmin, hl]
      rw [hst]
      simp
    · have := setRow_heap w g cur.toArray (cur.take 0 ++ cellsL ns ++ cur.drop (0 + (cellsL ns).length)).toArray 46 _ hg
      unfold IsS
      rw [this]
      simp [cellsL_len]
section
variable {w : World} {ops : Array Oper} {rest : List Oper} {op : Oper} {a : Act} {Q : Exit → Act → World → Prop}
theorem wpList_copy6 (hgd : op.guard = none) (d s : Operand) (ho : op.op = .call { callee := .builtin .copy, args := #[d, s], argTypes := #[23, 23] })
    (g dLen dCap : Nat) (ad : Option Addr) (cap : Nat) (ns : List Nd) (cur : List Value) (hd : a.eval d = .slice (some ⟨g, 0, none⟩) dLen dCap) (hs : a.eval s = .slice ad ns.length cap)
    (hg : IsS w g 46 cur) (hT : Nds w ad ns) (hfit : ns.length * 6 ≤ cur.length) (hl : ns.length ≤ dLen)
    (h : ∀ w', Upd w w' g → IsS w' g 46 (cellsL ns ++ cur.drop (ns.length * 6)) → wpList Try.prog ops Q rest (a.put op.dst (goInt ns.length)) w') : wpList Try.prog ops Q (op :: rest) a w := by
  refine wpList_plain hgd fun K hK => ?_
  obtain ⟨w', hr, h1, h2⟩ := run_copy6 w op.type g dLen dCap ad cap ns cur hg hT hfit hl
  unfold Oper.wp
  simp [execOp, ho, resolve, invoke, builtin, hd, hs, hr, Result.andThen]
  exact hK _ _ (h w' h1 h2)
theorem wpList_makeN (hgd : op.guard = none) (l c : Operand) (ho : op.op = .makeSlice 23 l c) (n : Nat) (hn : n ≤ 16777216) (hl : a.eval l = .int .i64 (n : Int)) (hc : a.eval c = .int .i64 (n : Int))
    (h : ∀ W b cs, Fresh w W b → IsS W b 46 cs → cs.length = n * 6 → wpList Try.prog ops Q rest (a.put op.dst (.slice (some ⟨b, 0, none⟩) n n)) W) : wpList Try.prog ops Q (op :: rest) a w := by
  obtain ⟨i0, hi, hz0, hz1, hz2⟩ := partsN
  refine wpList_plain hgd fun K hK => ?_
  have hr := run_make (P := Try.prog) w 23 46 i0 _ Try.underlying23 hi hz0 .i64 .i64 n n (by omega) (by omega) (by rw [hz2]; omega) (by omega)
  unfold Oper.wp execOp
  simp only [ho, hl, hc, Sem.run_bind, hr, Result.andThen_ok, Sem.run_pure, hz1, Int.toNat_natCast]
  refine hK _ _ (h _ _ (madeCells (Value.agg (ndL noNd).toArray).cells (n * 6)).toList (Fresh.alloc w _) ?_ (by simp [size_madeCells]))
  have := IsS.new w 46 (madeCells (Value.agg (ndL noNd).toArray).cells (n * 6)).toList
  simpa using this
end
set_option maxRecDepth 100000 in
set_option maxHeartbeats 1000000 in
theorem lent_any (ad : Option Addr) (cap : Nat) (ns : List Nd) (hn : ns.length ≤ 8388608) (w : World) (hT : Nds w ad ns) :
    Calls Try.prog 4 #[.slice ad ns.length cap] w fun e w' => (∃ g, e = .returned (.slice (some ⟨g, 0, none⟩) ns.length (ns.length + 1)) ∧ w.heap.size ≤ g ∧ IsS w' g 46 (cellsL (ns ++ [n77]))) ∧ Below w.heap.size w w' := by
  have HT : Hid (Nds w ad ns) := hT
  clear hT
  go_enter Try.func4, Try.ntmps4
  go_wp2_with (first
    | (refine wpList_makeN rfl _ _ rfl (ns.length + 1) (by omega) (by first | rfl | (simp; rfl)) (by first | rfl | (simp; rfl)) ?_; intro W1 g cs F1 G1 hcs; have B1 := F1.trans (Below.refl _ w) (Nat.le_refl _); have hg : w.heap.size ≤ g := Nat.le_of_eq F1.at'.symm; have HC : Hid (cs.length = (ns.length + 1) * 6) := hcs; clear F1 hcs))
  obtain ⟨W2, hr, U2, G2⟩ := run_copy6 W1 3 g (ns.length + 1) (ns.length + 1) ad cap ns cs G1 (HT.out.below B1) (by have := HC.out; omega) (by omega)
  have B2 := U2.trans B1 hg
  clear U2 G1 B1
  rw [hr]
  simp only [Result.andThen]
  rw [Oper.upon_value]
  clear hr
  go_wp2_with (first
    | (refine wpList_storeS rfl 46 _ _ rfl rfl (ndL n77) rfl G2 (by have := HC.out; simp [cellsL_len, ndL]; omega) infoNd (nd_one _) ?_; intro W3 U3 G3x; have B3 := U3.trans B2 hg; have G3 : Hid (IsS W3 g 46 (cellsL (ns ++ [n77]))) := (by show IsS _ _ _ _; rw [cellsL_snoc]; have := putL_at (ndL n77) (cellsL ns) (cs.drop (ns.length * 6)) (by have := HC.out; simp [ndL]; omega); rw [cellsL_len] at this; rw [← this]; exact G3x); clear U3 G2 B2 G3x))
  go_ret
  exact ⟨⟨g, rfl, hg, G3.out⟩, B3⟩
end Go.Proofs.Ytcmkoffamolgmaa

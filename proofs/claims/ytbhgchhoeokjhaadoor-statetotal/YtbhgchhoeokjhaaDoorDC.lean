/- Decode of the program and of the reference. -/
import Derived.Test.YtbhgchhoeokjhaaDoorCE
namespace Go.Proofs.YtbhgchhoeokjhaaDoor
open Go.RowKit M
set_option linter.unusedSimpArgs false
set_option linter.unusedVariables false

theorem ret_ST {w : World} {b t k : Nat} {cs : List Value} {fn : Func} {p : Tmp} {R : Ending → World → Prop} {a : Act} (h : fn.results = #[.cell p t, .tmp k]) (hp : a.tmps.getD p undef = .pointer (some ⟨b, 0, none⟩))
    (hd : a.defers = []) (hc : IsS w b t cs) (d : TypeDesc) (hu : Tryd.prog.underlying t = some d) (hr : (match d with | .struct _ => true | .array _ _ => true | _ => false) = true) (hi : (Tryd.prog.info? t).map (·.size) = some cs.length) (v : Value) (hv : a.tmps.getD k undef = v) (hR : R (.returned (.tuple #[.agg cs.toArray, v])) w) : bodyPost Tryd.prog fn R .ret a w := by
  have hc' : w.heap[b]? = some (.cells cs.toArray t (0, 0)) := hc
  have hp' : a.tmps[p]?.getD undef = .pointer (some ⟨b, 0, none⟩) := by simpa using hp
  have hv' : a.tmps[k]?.getD undef = v := by simpa using hv
  refine ⟨hd, .tuple #[.agg cs.toArray, v], ?_, hR⟩
  simp [results, h, hp', hv', asAddr, run_loadVar_row w b t t cs.toArray (0, 0) d hc' hu (by cases d <;> simp_all) (by simpa using hi)]
theorem putL_get : ∀ (vs cs : List Value) (o j : Nat), o + vs.length ≤ cs.length → (putL cs o vs)[j]? = if o ≤ j ∧ j < o + vs.length then vs[j - o]? else cs[j]?
  | [], cs, o, j, h => by rw [if_neg (by simp only [List.length_nil]; omega)]; rfl
  | v :: vs, cs, o, j, h => by
    show (putL (cs.set o v) (o + 1) vs)[j]? = _
    simp only [List.length_cons] at *
    rw [putL_get vs (cs.set o v) (o + 1) j (by rw [List.length_set]; omega)]
    by_cases h1 : o + 1 ≤ j ∧ j < o + 1 + vs.length
    · rw [if_pos h1, if_pos (by omega), show j - o = (j - (o + 1)) + 1 by omega]; rfl
    · rw [if_neg h1]
      by_cases h2 : j = o
      · subst h2
        rw [if_pos (by omega), List.getElem?_set_self (by omega), Nat.sub_self]; rfl
      · rw [if_neg (by omega), List.getElem?_set_ne (by omega)]
theorem putL_all {cs vs : List Value} (h : vs.length = cs.length) : putL cs 0 vs = vs := by
  refine List.ext_getElem? fun j => ?_
  rw [putL_get _ _ _ _ (by omega)]
  by_cases hj : j < vs.length
  · rw [if_pos (by omega)]; rfl
  · rw [if_neg (by omega), List.getElem?_eq_none (by omega), List.getElem?_eq_none (by omega)]
section
variable {w : World} {b : Nat} {x z : FS} {ops : Array Oper} {rest : List Oper} {op : Oper} {a : Act} {Q : Exit → Act → World → Prop}
theorem wpList_build0F (hgd : op.guard = none) (ho : op.op = .build 24 #[]) (h : wpList Tryd.prog ops Q rest (a.put op.dst (.agg (encF FS.zero).toArray)) w) : wpList Tryd.prog ops Q (op :: rest) a w := by
  refine wpList_plain hgd fun K hK => ?_
  unfold Oper.wp
  rw [run_build0 ho]
  exact hK _ _ h
theorem wpList_buildNF (hgd : op.guard = none) (y : Operand) (ho : op.op = .build 24 #[(0, y)]) (n : Int) (hy : a.eval y = .int .i64 n) (h : wpList Tryd.prog ops Q rest (a.put op.dst (.agg (encF (mkF n [])).toArray)) w) : wpList Tryd.prog ops Q (op :: rest) a w := by
  refine wpList_plain hgd fun K hK => ?_
  unfold Oper.wp
  rw [run_buildN ho hy]
  exact hK _ _ h
theorem wpList_storeF (hgd : op.guard = none) (y u : Operand) (ho : op.op = .store 24 y u) (hy : a.eval y = .pointer (some ⟨b, 0, none⟩)) (hu : a.eval u = .agg (encF z).toArray) (hc : IsS w b 24 (encF x))
    (h : ∀ W, Upd w W b → IsS W b 24 (encF z) → wpList Tryd.prog ops Q rest (a.put op.dst undef) W) : wpList Tryd.prog ops Q (op :: rest) a w :=
  wpList_storeS hgd 24 y u ho hy (encF z) hu hc (by rw [encF_len, encF_len]; omega) (infoFx z) (encF_one z) fun W U I => h W U (by rw [putL_all (by rw [encF_len, encF_len])] at I; exact I)
end
theorem takeA_ok {s : ByteArray} {p : Nat} {v : Int} {n : Nat} (h : takeA s (p : Int) = some (v, n)) : p < s.size ∧ n ≤ s.size - p ∧ -9223372036854775808 ≤ v ∧ v ≤ 9223372036854775807 := by
  unfold takeA at h
  by_cases hc : (p : Int) < 0 ∨ (s.size : Int) ≤ p
  · rw [if_pos hc] at h; cases h
  · rw [if_neg hc] at h
    obtain ⟨hv, hn, r, hr⟩ := put_takeO h
    have hlen := congrArg List.length hr
    rw [List.length_drop, List.length_append] at hlen
    have hs : s.data.toList.length = s.size := by simp
    rw [hs] at hlen
    refine ⟨by omega, by omega, hv⟩
theorem decV_none {s : ByteArray} (h : decO s = none) : decV s = .tuple #[.agg (encF FS.zero).toArray, .int .i64 5] := by unfold decV; rw [h]
theorem decV_some {s : ByteArray} {f : FS} (h : decO s = some f) : decV s = .tuple #[.agg (encF f).toArray, .int .i64 0] := by unfold decV; rw [h]
theorem decO_0 {s : ByteArray} (h : takeA s 0 = none) : decO s = none := by unfold decO; rw [h]
theorem decO_1 {s : ByteArray} {n : Int} {k : Nat} (h : takeA s 0 = some (n, k)) (h' : ¬ (0 ≤ n ∧ n ≤ 48)) : decO s = none := by unfold decO; rw [h]; simp only; rw [if_neg h']
theorem decO_2 {s : ByteArray} {N k : Nat} (h : takeA s 0 = some ((N : Int), k)) (h' : N ≤ 48) (hm : manyA s N k = none) : decO s = none := by unfold decO; rw [h]; simp only; rw [if_pos (by omega), Int.toNat_natCast, hm]
theorem decO_3 {s : ByteArray} {N k e : Nat} {vs : List Int} (h : takeA s 0 = some ((N : Int), k)) (h' : N ≤ 48) (hm : manyA s N k = some (vs, e)) : decO s = if e = s.size then some (mkF (N : Int) vs) else none := by unfold decO; rw [h]; simp only; rw [if_pos (by omega), Int.toNat_natCast, hm]
/-- What is taken yet. -/
def Got (s : ByteArray) (N p0 k p : Nat) (vs : List Int) : Prop := manyA s N p0 = match manyA s (N - k) p with | none => none | some (us, e) => some (vs ++ us, e)
theorem Got.start (s : ByteArray) (N p0 : Nat) : Got s N p0 0 p0 [] := by
  unfold Got; rw [Nat.sub_zero]
  cases manyA s N p0 with
  | none => rfl
  | some q => rfl
theorem Got.bad {s : ByteArray} {N p0 k p : Nat} {vs : List Int} (h : Got s N p0 k p vs) (hk : k < N) (ht : takeA s (p : Int) = none) : manyA s N p0 = none := by
  unfold Got at h
  rw [h, show N - k = (N - k - 1) + 1 by omega, manyA, ht]
theorem Got.next {s : ByteArray} {N p0 k p : Nat} {vs : List Int} (h : Got s N p0 k p vs) (hk : k < N) {v : Int} {n : Nat} (ht : takeA s (p : Int) = some (v, n)) : Got s N p0 (k + 1) (p + n) (vs ++ [v]) := by
  unfold Got at *
  rw [h, show N - k = (N - (k + 1)) + 1 by omega, manyA, ht]
  simp only
  generalize manyA s (N - (k + 1)) (p + n) = m
  cases m with
  | none => rfl
  | some q => simp
theorem Got.end' {s : ByteArray} {N p0 p : Nat} {vs : List Int} (h : Got s N p0 N p vs) : manyA s N p0 = some (vs, p) := by
  unfold Got at h
  rw [h, Nat.sub_self, manyA]; simp

end Go.Proofs.YtbhgchhoeokjhaaDoor

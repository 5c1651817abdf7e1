/- Several texts in one: SC9, RG. -/
import Derived.Test.YtegpnicajlndlaaQay
import Derived.Test.YtegpnicajlndlaaQau
/- sc's Play. -/
namespace Go.Proofs.Ytegpnicajlndlaa
open Go.RowKit M
set_option linter.unusedSimpArgs false
set_option linter.unusedVariables false

theorem ret_ST {w : World} {b t k : Nat} {cs : List Value} {fn : Func} {p : Tmp} {R : Ending → World → Prop} {a : Act} (h : fn.results = #[.cell p t, .tmp k]) (hp : a.tmps.getD p undef = .pointer (some ⟨b, 0, none⟩))
    (hd : a.defers = []) (hc : IsS w b t cs) (d : TypeDesc) (hu : Try.prog.underlying t = some d) (hr : (match d with | .struct _ => true | .array _ _ => true | _ => false) = true) (hi : (Try.prog.info? t).map (·.size) = some cs.length) (v : Value) (hv : a.tmps.getD k undef = v) (hR : R (.returned (.tuple #[.agg cs.toArray, v])) w) : bodyPost Try.prog fn R .ret a w := by
  have hc' : w.heap[b]? = some (.cells cs.toArray t (0, 0)) := hc
  have hp' : a.tmps[p]?.getD undef = .pointer (some ⟨b, 0, none⟩) := by simpa using hp
  have hv' : a.tmps[k]?.getD undef = v := by simpa using hv
  refine ⟨hd, .tuple #[.agg cs.toArray, v], ?_, hR⟩
  simp [results, h, hp', hv', asAddr, run_loadVar_row w b t t cs.toArray (0, 0) d hc' hu (by cases d <;> simp_all) (by simpa using hi)]
theorem OwnA.rows {w : World} {B : Nat} {v : Value} {vs : List Value} {xss : List (List Int)} (h : OwnA w B v vs xss) : RowsV w v intE xss := ⟨vs, h.len, own_row h.out, fun j u xs hu hx => own_row (h.row j u xs hu hx)⟩
end Go.Proofs.Ytegpnicajlndlaa
/- Appending to an empty slice makes a new row, and turns nothing. -/
namespace Go.Proofs.Ytegpnicajlndlaa
open Go.RowKit M
set_option linter.unusedSimpArgs false
set_option linter.unusedVariables false
theorem run_app0 {w : World} {t T k by' : Nat} {z : Value} (E : Elt t T k z by') (B b : Nat) (hown : w.ownsRow B t k (.slice (some ⟨b, 0, none⟩) 0 0) 0 []) (u : Value) (m : Nat) (cs : List Value) (hu : RowV w u m cs) (hl : cs.length = m * k) (h1 : ∀ x ∈ cs, x.oneCell' = true) (hn : m ≤ 4194304) (hB : B ≤ w.heap.size) (ty : TypeId) :
    ∃ v' w', (Builtin.append_ #[T, T] ty #[.slice (some ⟨b, 0, none⟩) 0 0, u]).run Try.prog w = .ok v' w' ∧ w'.ownsRow B t k v' m cs ∧ Below w.heap.size w w' := by
  obtain ⟨i0, hi, hz, hs, hby⟩ := E.info
  have hfew := E.few
  obtain ⟨ad, c, rfl, hT, hnil⟩ := hu
  by_cases hm : m = 0
  · subst hm
    have hcs : cs = [] := List.length_eq_zero_iff.1 (by rw [hl, Nat.zero_mul])
    subst hcs
    refine ⟨_, w, ?_, hown, Below.refl _ _⟩
    have hld : ∀ (x : Addr), (loadCells x 0).run Try.prog w = .ok #[] w := fun x => by simpa using run_loadCells_list (P := Try.prog) w x [] (by simp)
    cases ad with
    | none => simp [Builtin.append_, run_underlying E.und, sizeOf, typeInfo, hi, Builtin.lenOf, Builtin.firstCells, storeCells]
    | some x => simp [Builtin.append_, run_underlying E.und, sizeOf, typeInfo, hi, Builtin.lenOf, Builtin.firstCells, storeCells, hld]
  · have hpos := E.pos
    have : 0 < cs.length := by rw [hl]; exact Nat.mul_pos (by omega) hpos
    obtain ⟨b0, o0, rfl, _⟩ := hT 0 cs[0] (List.getElem?_eq_getElem this)
    have hnews : ∀ j y, cs[j]? = some y → w.cell? ((⟨b0, o0, none⟩ : Addr).add j) = some y := fun j y hj => by
      obtain ⟨b', o', e, _, hc⟩ := hT j y hj
      cases e
      rw [Addr.add_mid]
      exact hc
    have hb : (0 + m) * by' ≤ 140737488355328 := Nat.le_trans (Nat.mul_le_mul (by omega : 0 + m ≤ 4194304) hfew) (by decide)
    obtain ⟨v', w', hr, ho, hg, _⟩ := run_append_own (P := Try.prog) w B T ty t i0 z k by' E.und hi hz hs hby E.cells E.pos _ 0 [] hown ⟨b0, o0, none⟩ m c cs hl hnews h1 (by unfold maxLen; omega) hb hB
    have hfit : Builtin.nextslicecap (0 + m) 0 * i0.bytes ≤ 281474976710656 := by rw [Nat.zero_add, nextslicecap_zero (by omega), hby]; have := hb; rw [Nat.zero_add] at this; omega
    have hr2 := run_append_grow (P := Try.prog) (w := w) T ty t i0 z E.und hi hz ⟨b, 0, none⟩ 0 0 [] (by simp) (by simp) ⟨b0, o0, none⟩ m c cs (by rw [hs]; exact hl) hnews (by omega) (by omega) hfit
    rw [hr] at hr2
    injection hr2 with h2 h3
    refine ⟨v', w', hr, by rw [Nat.zero_add, List.nil_append] at ho; exact ho, ?_⟩
    rw [h3]
    exact (below_drew (Below.refl _ w)).alloc (Nat.le_refl _) _
end Go.Proofs.Ytegpnicajlndlaa

/- What the reference's Play prints of a state. -/
import Derived.Test.YtegpnicajlndlaaRA7
namespace Go.Proofs.Ytegpnicajlndlaa
open Go.RowKit M
set_option linter.unusedSimpArgs false
set_option linter.unusedVariables false

theorem padTo_self (q : List Int) (m : Nat) (h : q.length = m) : padTo m q = q := by
  subst h
  refine List.ext_getElem (padTo_len _ _) fun i h1 h2 => ?_
  simp [padTo, h2]
theorem allR_self : ∀ (k : Nat) (rs : List (List ByteArray)) (ri : List (List Int)), k ≤ ri.length → (∀ (i : Nat) q, i < k → ri[i]? = some q → q.length = (rs.getD i []).length) → allR rs ri k = (ri.take k).flatten
  | 0, rs, ri, _, _ => by simp [allR]
  | k + 1, rs, ri, hk, h => by
    have hg : ri[k]? = some (ri.getD k []) := by simp [show k < ri.length by omega]
    rw [allR_next, allR_self k rs ri (by omega) (fun i q hi hq => h i q (by omega) hq), padTo_self _ _ (h k _ (by omega) hg)]
    rw [List.take_add_one, hg]
    simp
/-- Under the state's law the end's numbers are the registers, row by row, and the memory. -/
theorem end_self {p : PG} {pc : List Int} {regs : List (List Int)} {mem : List Int} (hv : Vld p) (hI : Inv p pc regs mem) : (allR p.regs regs p.regs.length ++ padTo p.locs.length mem).take 48 = regs.flatten ++ mem := by
  have e1 : regs.length = p.regs.length := hI.rl.trans hv.rl.symm
  rw [allR_self _ _ _ (by omega) (fun i q hi hq => by
    have : p.regs[i]? = some (p.regs.getD i []) := by simp [hi]
    exact hI.rs i _ _ this hq), padTo_self _ _ hI.ml, List.take_of_length_le (l := regs) (by omega), List.take_of_length_le]
  exact inv_48 hv hI
/-- A state as a value. -/
def StV (W : World) (v : Value) (n : Nat) (t : List Int × List (List Int) × List Int) : Prop := ∃ ap cp ah ch ar cr am cm ab cb, v = .agg #[.slice ap n cp, .slice ah n ch, .slice ar n cr, .slice am t.2.2.length cm, .slice ab n cb, .int .i64 (-1)] ∧ RS W (.slice ap n cp) (.slice ah n ch) (.slice ar n cr) (.slice am t.2.2.length cm) (.slice ab n cb) n t.1 t.2.1 t.2.2
theorem stv_of {W : World} {vpc vph vrg vmm vbf : Value} {n : Nat} {t : List Int × List (List Int) × List Int} (h : RS W vpc vph vrg vmm vbf n t.1 t.2.1 t.2.2) (hl : t.2.1.length = n) : StV W (.agg #[vpc, vph, vrg, vmm, vbf, .int .i64 (-1)]) n t := by
  obtain ⟨ap, cp, e1, _⟩ := h.pc
  obtain ⟨ah, ch, e2, _⟩ := h.ph
  obtain ⟨ar, cr, e3⟩ := h.rg.form
  obtain ⟨am, cm, e4, _⟩ := h.mm
  obtain ⟨ab, cb, e5⟩ := h.bf.form
  rw [hl] at e3
  rw [List.length_replicate] at e5
  subst e1 e2 e3 e4 e5
  exact ⟨ap, cp, ah, ch, ar, cr, am, cm, ab, cb, rfl, h⟩
theorem StV.below {w W : World} {v : Value} {n : Nat} {t : List Int × List (List Int) × List Int} (h : StV w v n t) (hB : Below w.heap.size w W) : StV W v n t := by
  obtain ⟨ap, cp, ah, ch, ar, cr, am, cm, ab, cb, e, hr⟩ := h
  exact ⟨ap, cp, ah, ch, ar, cr, am, cm, ab, cb, e, hr.below hB⟩
/-- One name for both answers of Step. -/
def StepA (ths : List (List Op5)) (n : Nat) (pc : List Int) (regs : List (List Int)) (mem : List Int) (i : Int) (w' : World) (v : Value) : Prop := match stepS ths pc regs mem i with
  | none => v = .agg [.slice none 0 0, .slice none 0 0, .slice none 0 0, .slice none 0 0, .slice none 0 0, .int .i64 0].toArray
  | some t => ∃ vpc vph vrg vmm vbf, v = .agg #[vpc, vph, vrg, vmm, vbf, .int .i64 (-1)] ∧ RSk w' vpc vph vrg vmm vbf n t.1 t.2.1 t.2.2
theorem StepA.below {ths : List (List Op5)} {n : Nat} {pc : List Int} {regs : List (List Int)} {mem : List Int} {i : Int} {w W : World} {v : Value} (h : StepA ths n pc regs mem i w v) (hB : Below w.heap.size w W) : StepA ths n pc regs mem i W v := by
  unfold StepA at h ⊢
  split at h
  · exact h
  · obtain ⟨vpc, vph, vrg, vmm, vbf, e, hr⟩ := h
    exact ⟨vpc, vph, vrg, vmm, vbf, e, hr.below hB⟩
theorem rstep_any (p : PG) (hv : Vld p) (hf : p.Few) (pc : List Int) (regs : List (List Int)) (mem : List Int) (hI : Inv p pc regs mem) (i : Int) (n nm ct cp ch cr cm cb : Nat) (at0 ap ah ar am ab : Option Addr) (vr vl vi vj : Value) (w : World) (hn0 : p.threads.length = n) (hnm : mem.length = nm)
    (hT : RowsV w (.slice at0 n ct) op5L p.threads) (hS : RS w (.slice ap n cp) (.slice ah n ch) (.slice ar n cr) (.slice am nm cm) (.slice ab n cb) n pc regs mem) :
    Calls Try.prog 23 #[.agg #[.slice at0 n ct, vr, vl, vi, vj], .agg #[.slice ap n cp, .slice ah n ch, .slice ar n cr, .slice am nm cm, .slice ab n cb, .int .i64 (-1)], .agg #[.int .i64 i, .int .i64 1, .int .i64 0]] w fun e w' => ∃ v, e = .returned (.tuple #[v, .bool (stepS p.threads pc regs mem i).isSome]) ∧ StepA p.threads n pc regs mem i w' v ∧ Below w.heap.size w w' := by
  cases hs : stepS p.threads pc regs mem i with
  | none =>
    refine (rstep_none p hv hf pc regs mem hI i n nm ct cp ch cr cm cb at0 ap ah ar am ab vr vl vi vj w hn0 hnm hT hS hs).mono ?_
    rintro e w' ⟨rfl, hB⟩
    exact ⟨_, rfl, by unfold StepA; rw [hs], hB⟩
  | some t =>
    refine (rstep_some p hv hf pc regs mem hI i n nm ct cp ch cr cm cb at0 ap ah ar am ab vr vl vi vj w hn0 hnm hT hS t hs).mono ?_
    rintro e w' ⟨vpc, vph, vrg, vmm, vbf, rfl, hR, hB⟩
    exact ⟨_, rfl, by unfold StepA; rw [hs]; exact ⟨vpc, vph, vrg, vmm, vbf, rfl, hR⟩, hB⟩
end Go.Proofs.Ytegpnicajlndlaa

/- Several texts in one: AW, LB1. -/
import Derived.Test.YtegpnicajlndlaaQbl
import Derived.Test.YtegpnicajlndlaaQaz
/- The law's example: sequential consistency's third. -/
namespace Go.Proofs.Ytegpnicajlndlaa
open Go.RowKit M
set_option linter.unusedSimpArgs false
set_option linter.unusedVariables false

end Go.Proofs.Ytegpnicajlndlaa
/- ScBack: the law. -/
namespace Go.Proofs.Ytegpnicajlndlaa
open Go.RowKit M
set_option linter.unusedSimpArgs false
set_option linter.unusedVariables false

theorem wpList_loadGW {w : World} {b t : Nat} {cs : List Value} {ops : Array Oper} {rest : List Oper} {op : Oper} {a : Act} {Q : Exit → Act → World → Prop} (hw : Region.wanted op (yielded ops a.tmps) = true) (ty : TypeId) (x : Operand) (ho : op.op = .load ty x) (hx : a.eval x = .pointer (some ⟨b, 0, none⟩)) (hc : IsS w b t cs) (d : TypeDesc)
    (hu : Try.prog.underlying ty = some d) (hd : d.isRow = true) (hi : (Try.prog.info? ty).map (·.size) = some cs.length)
    (h : wpList Try.prog ops Q rest (a.put op.dst (.agg cs.toArray)) w) : wpList Try.prog ops Q (op :: rest) a w := by
  refine wpList_step fun K hK => ?_
  simp only [hw, if_true]
  have hr := run_loadAt_mid (P := Try.prog) w b 0 ty cs d (fun i u hu => by rw [Nat.zero_add]; exact (hc.cell i).trans hu) hu hd hi
  unfold Oper.wp execOp
  simp only [ho, hx, Sem.run_bind, hr, Result.andThen_ok, Sem.run_pure]
  exact hK _ _ h
theorem flat_bound {α : Type} (m : Nat) : ∀ (l : List (List α)), (∀ q ∈ l, q.length ≤ m) → l.flatten.length ≤ m * l.length
  | [], _ => by simp
  | q :: l, h => by
    rw [List.flatten_cons, List.length_append, List.length_cons, Nat.mul_succ]
    have h1 := h q (by simp)
    have h2 := flat_bound m l fun x hx => h x (List.mem_cons_of_mem _ hx)
    omega
theorem few_fits {p : PG} {s : ST} (hv : Vld p) (h : Fits (shpOf p) s) : s.Few := by
  have hl := shp_len hv
  have h4 := hv.n4
  have h16 := hv.l16
  have e1 := h.pc
  have e2 := h.ph
  have e3 := h.rg
  have e4 := h.bf
  have e5 : s.mem.length = p.locs.length := h.mm
  refine ⟨by omega, by omega, by omega, ?_, by omega, by omega, ?_⟩
  · have := flat_bound 8 s.regs fun q hq => by
      obtain ⟨i, hi, e⟩ := getDS_mem (d := []) hq
      have ht := (h.th i (by omega)).1
      rw [e] at ht
      have hr : (shpOf p).rgs.getD i 0 ≤ 8 := by
        obtain ⟨r, hr⟩ : ∃ r, p.regs[i]? = some r := ⟨_, List.getElem?_eq_getElem (by have := hv.rl; omega)⟩
        have := hv.few i r hr
        unfold shpOf
        simp [hr]
        exact this
      omega
    omega
  · have := flat_bound 64 s.buf fun q hq => by
      obtain ⟨i, hi, e⟩ := getDS_mem (d := []) hq
      have ht := (h.th i (by omega)).2.2.2.1
      rw [e] at ht
      exact ht
    omega
end Go.Proofs.Ytegpnicajlndlaa

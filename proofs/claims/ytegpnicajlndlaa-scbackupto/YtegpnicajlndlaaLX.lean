/- Small laws: a whole struct's load in a drawn region; cells of a state. -/
import Derived.Test.YtegpnicajlndlaaCS6
namespace Go.Proofs.Ytegpnicajlndlaa
open Go.RowKit M
set_option linter.unusedSimpArgs false
set_option linter.unusedVariables false

theorem exec_loadSX {w : World} {b t t' : Nat} {cs : List Value} {op : Oper} {a : Act} {p : Operand} {d : TypeDesc} (ho : op.op = .load t p) (hp : a.eval p = .pointer (some ⟨b, 0, none⟩)) (hc : IsS w b t' cs) (hu : Try.prog.underlying t = some d) (hd : d.isRow = true) (hi : (Try.prog.info? t).map (·.size) = some cs.length) : (execOp a.eval op).run Try.prog w = .ok (.value (.agg cs.toArray)) w := by
  have hr := run_loadAt_mid (P := Try.prog) w b 0 t cs d (fun i u hu => by rw [Nat.zero_add]; exact (hc.cell i).trans hu) hu hd hi
  unfold execOp
  simp only [ho, hp, Sem.run_bind, hr, Result.andThen_ok, Sem.run_pure]
theorem rowV_oneX {w : World} {v : Value} {n : Nat} {cs : List Value} (h : RowV w v n cs) : v.oneCell' = true := by obtain ⟨a, c, rfl, _⟩ := h; rfl
theorem stc_oneX {v0 v1 v2 v3 v4 : Value} {z : Int} (h0 : v0.oneCell' = true) (h1 : v1.oneCell' = true) (h2 : v2.oneCell' = true) (h3 : v3.oneCell' = true) (h4 : v4.oneCell' = true) : ∀ v ∈ [v0, v1, v2, v3, v4, .int .i64 z], v.oneCell' = true := by
  intro v hv
  simp only [List.mem_cons, List.not_mem_nil, or_false] at hv
  rcases hv with rfl | rfl | rfl | rfl | rfl | rfl
  · exact h0
  · exact h1
  · exact h2
  · exact h3
  · exact h4
  · rfl
end Go.Proofs.Ytegpnicajlndlaa

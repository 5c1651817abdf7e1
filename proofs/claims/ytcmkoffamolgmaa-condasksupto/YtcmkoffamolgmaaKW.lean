/- One block written: the frame; regions in which one call writes it; loads of parts of structs. On RJ. -/
import Derived.Test.YtcmkoffamolgmaaRJ
import Derived.Test.YtcmkoffamolgmaaS1
namespace Go.Proofs.Ytcmkoffamolgmaa
open Go Go.RowKit M
set_option linter.unusedSimpArgs false
set_option linter.unusedVariables false

structure One (w W : World) (b : Nat) : Prop where
  os : W.os = w.os
  tape : W.tape = w.tape
  output : W.output = w.output
  size : w.heap.size ≤ W.heap.size
  block : ∀ k, k < w.heap.size → k ≠ b → W.heap[k]? = w.heap[k]?
theorem One.of_below {w W : World} (h : Below w.heap.size w W) (b : Nat) : One w W b := ⟨h.os, h.tape, h.output, h.size, fun k hk _ => h.block k hk⟩
theorem One.of_upd {w W : World} {b : Nat} (h : Upd w W b) : One w W b := ⟨h.os, h.tape, h.output, by rw [h.size]; exact Nat.le_refl _, fun k _ hk => h.block k hk⟩
theorem One.trans {w W W' : World} {b : Nat} (h : One w W b) (h' : One W W' b) : One w W' b :=
  ⟨h'.os.trans h.os, h'.tape.trans h.tape, h'.output.trans h.output, Nat.le_trans h.size h'.size, fun k hk hb => (h'.block k (Nat.lt_of_lt_of_le hk h.size) hb).trans (h.block k hk hb)⟩
theorem One.cell {w W : World} {b k o : Nat} {v : Value} (h : One w W b) (hc : w.cell? ⟨k, o, none⟩ = some v) (hk : k ≠ b) : W.cell? ⟨k, o, none⟩ = some v :=
  (World.cell?_of_block (h.block k (World.block_lt_of_cell? w _ hc) hk)).trans hc
theorem keepG {listed : Array Bool} {i j : Nat} {c : Bool} (hij : i ≠ j) (h : (listed.setIfInBounds i true).getD j false = c) : listed.getD j false = c := by rw [getD_set_ne false hij] at h; exact h
theorem nowT {listed : Array Bool} {i : Nat} (h : i < listed.size) : (listed.setIfInBounds i true).getD i false = true := by simp [h]
theorem keepT {listed : Array Bool} {i j : Nat} (h : listed.getD j false = true) : (listed.setIfInBounds i true).getD j false = true := by
  by_cases hij : i = j
  · subst hij
    have hs : i < listed.size := by
      by_cases hs : i < listed.size
      · exact hs
      · simp [hs] at h
    exact nowT hs
  · rw [getD_set_ne false hij]; exact h
theorem nowU {listed : Array Bool} {i : Nat} (h : listed.getD i true = false) : (listed.setIfInBounds i true).getD i false = true := by
  have hlt : i < listed.size := by
    rcases Nat.lt_or_ge i listed.size with h' | h'
    · exact h'
    · simp [Array.getElem?_eq_none h'] at h
  simp [hlt]
theorem exec_loadR {w : World} {b o t : Nat} {cs : List Value} {op : Oper} {a : Act} {p : Operand} {d : TypeDesc} (ho : op.op = .load t p) (hp : a.eval p = .pointer (some ⟨b, o, none⟩)) (hc : w.rangeAt b o cs) (hu : Try.prog.underlying t = some d) (hd : d.isRow = true) (hi : (Try.prog.info? t).map (·.size) = some cs.length) : (execOp a.eval op).run Try.prog w = .ok (.value (.agg cs.toArray)) w := by
  have hr := run_loadAt_mid (P := Try.prog) w b o t cs d hc hu hd hi
  unfold execOp
  simp only [ho, hp, Sem.run_bind, hr, Result.andThen_ok, Sem.run_pure]
theorem wpOp_cell {ops : Array Oper} {Q : Exit → Act → World → Prop} {i : Nat} {o : Oper} {K : Act → World → Prop} {a : Act} {w : World} {v : Value} {b k : Nat} (hi : ops[i]? = some o) (hg : o.guard = none) (ty : TypeId) (x : Operand) (ho : o.op = .load ty x) (hx : a.eval x = .pointer (some ⟨b, k, none⟩)) (hl : (Instr.loadAt ty (.pointer (some ⟨b, k, none⟩))).run Try.prog w = .ok v w) (h : K (a.put o.dst v) w) : wpOp Try.prog ops Q i K a w :=
  wpOp_value hi hg (by unfold execOp; simp only [ho, hx, Sem.run_bind, hl, Result.andThen_ok, Sem.run_pure]) h
end Go.Proofs.Ytcmkoffamolgmaa

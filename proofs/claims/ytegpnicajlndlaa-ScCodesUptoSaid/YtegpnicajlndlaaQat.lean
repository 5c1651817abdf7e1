/- Several texts in one: LO, SDO. -/
import Derived.Test.YtegpnicajlndlaaQas
/- An instruction that asks no memory is done on registers: the reference's Local. -/
namespace Go.Proofs.Ytegpnicajlndlaa
open Go.RowKit M
set_option linter.unusedSimpArgs false
set_option linter.unusedVariables false

/-- All blocks stay but one. -/
structure One (w W : World) (b : Nat) : Prop where
  os : W.os = w.os
  tape : W.tape = w.tape
  output : W.output = w.output
  size : w.heap.size ≤ W.heap.size
  block : ∀ k, k < w.heap.size → k ≠ b → W.heap[k]? = w.heap[k]?
theorem One.of_below {w W : World} (h : Below w.heap.size w W) (b : Nat) : One w W b := ⟨h.os, h.tape, h.output, h.size, fun k hk _ => h.block k hk⟩
theorem One.of_upd {w W : World} {b : Nat} (h : Upd w W b) : One w W b := ⟨h.os, h.tape, h.output, by rw [h.size]; exact Nat.le_refl _, fun k _ hk => h.block k hk⟩
theorem One.trans {w W W' : World} {b : Nat} (h : One w W b) (h' : One W W' b) : One w W' b :=
  ⟨h'.os.trans h.os, h'.tape.trans h.tape, h'.output.trans h.output, Nat.le_trans h.size h'.size, fun k hk hb => (h'.block k (Nat.lt_of_lt_of_le hk h.size) hb).trans (h.block k hk hb)⟩
theorem info2' : (Try.prog.info? 2).map (·.size) = some 1 := by kernel_rfl
end Go.Proofs.Ytegpnicajlndlaa
/- An instruction is done in the registers of its thread and in memory, which lie apart: sc's do. -/
namespace Go.Proofs.Ytegpnicajlndlaa
open Go.RowKit M
set_option linter.unusedSimpArgs false
set_option linter.unusedVariables false

end Go.Proofs.Ytegpnicajlndlaa

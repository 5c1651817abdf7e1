/- Several texts in one: SC3, SC4. -/
import Derived.Test.YtegpnicajlndlaaQav
/- sc's turn: a thread does its next instruction. -/
namespace Go.Proofs.Ytegpnicajlndlaa
open Go.RowKit M
set_option linter.unusedSimpArgs false
set_option linter.unusedVariables false

theorem ldcIs {b o : Nat} {v : Value} (w : World) (h : w.cell? ⟨b, o, none⟩ = some v) : (Instr.loadAt 29 (.pointer (some ⟨b, o, none⟩))).run Try.prog w = .ok v w := by simp [go_sem, h]
theorem ldcRr {b o : Nat} {v : Value} (w : World) (h : w.cell? ⟨b, o, none⟩ = some v) : (Instr.loadAt 25 (.pointer (some ⟨b, o, none⟩))).run Try.prog w = .ok v w := by simp [go_sem, h]
theorem ldcR {b o : Nat} {v : Value} (w : World) (h : w.cell? ⟨b, o, none⟩ = some v) : (Instr.loadAt 26 (.pointer (some ⟨b, o, none⟩))).run Try.prog w = .ok v w := by simp [go_sem, h]
theorem ldcI {b o : Nat} {v : Value} (w : World) (h : w.cell? ⟨b, o, none⟩ = some v) : (Instr.loadAt 3 (.pointer (some ⟨b, o, none⟩))).run Try.prog w = .ok v w := by simp [go_sem, h]
theorem own_diff {w : World} {B B' t t' s s' n n' k : Nat} {v v' : Value} {xs xs' : List Value} (h : w.ownsRow B t s v n xs) (h' : w.ownsRow B' t' s' v' n' xs') (ht : t ≠ t') (hk : v.ownBlock = some k) : v'.ownBlock ≠ some k := by
  intro hk'
  rcases h.2 with ⟨rfl, _⟩ | ⟨g, cap, cur, rfl, _, hh, _⟩
  · cases hk
  · rcases h'.2 with ⟨rfl, _⟩ | ⟨g', cap', cur', rfl, _, hh', _⟩
    · cases hk'
    · simp [Value.ownBlock] at hk hk'
      subst hk hk'
      rw [hh] at hh'
      simp at hh'
      exact ht hh'.2
/-- What a state's memory of one's own holds: how far the threads are, the registers, the memory. -/
structure StO (w : World) (B : Nat) (vpc vrg vmm : Value) (vs : List Value) (pc : List Int) (regs : List (List Int)) (mem : List Int) : Prop where
  pc : w.ownsRow B 3 1 vpc pc.length (pc.flatMap intE)
  rg : OwnA w B vrg vs regs
  mm : w.ownsRow B 2 1 vmm mem.length (mem.flatMap intE)
  am : ∀ (j : Nat) u k, vs[j]? = some u → u.ownBlock = some k → vmm.ownBlock ≠ some k
theorem OwnA.below {w W : World} {B : Nat} {v : Value} {vs : List Value} {xss : List (List Int)} (h : OwnA w B v vs xss) (hB : Below w.heap.size w W) : OwnA W B v vs xss :=
  ⟨h.len, own_below h.out hB, fun j u xs hu hx => own_below (h.row j u xs hu hx) hB, h.apart⟩
theorem StO.below {w W : World} {B : Nat} {vpc vrg vmm : Value} {vs : List Value} {pc : List Int} {regs : List (List Int)} {mem : List Int} (h : StO w B vpc vrg vmm vs pc regs mem) (hB : Below w.heap.size w W) : StO W B vpc vrg vmm vs pc regs mem :=
  ⟨own_below h.pc hB, h.rg.below hB, own_below h.mm hB, h.am⟩
theorem st6 {v0 v1 v2 v3 v4 v5 : Value} {W : World} {b t : Nat} (h : IsS W b t [v0, v1, v2, v3, v4, v5]) : W.cell? ⟨b, 0, none⟩ = some v0 ∧ W.cell? ⟨b, 1, none⟩ = some v1 ∧ W.cell? ⟨b, 2, none⟩ = some v2 ∧ W.cell? ⟨b, 3, none⟩ = some v3 ∧ W.cell? ⟨b, 4, none⟩ = some v4 ∧ W.cell? ⟨b, 5, none⟩ = some v5 := ⟨h.cell 0, h.cell 1, h.cell 2, h.cell 3, h.cell 4, h.cell 5⟩
end Go.Proofs.Ytegpnicajlndlaa
/- sc's done; slices.Grow and slices.Concat at []int64. -/
namespace Go.Proofs.Ytegpnicajlndlaa
open Go.RowKit M
set_option linter.unusedSimpArgs false
set_option linter.unusedVariables false

end Go.Proofs.Ytegpnicajlndlaa

/- Bits of composed, joined and turned relations. -/
import Derived.Test.YtkccckjiemijeabDoorZ3
import Derived.Test.YtkccckjiemijeabDoorZ8
import Derived.Test.YtkccckjiemijeabDoorX2
namespace Go.Proofs.YtkccckjiemijeabDoor
open Go.RowKit Go.Shelf M P
set_option linter.unusedSimpArgs false
set_option linter.unusedVariables false

/-- The bits below m for which it holds. -/
def rowB (p : Nat → Bool) : Nat → Nat
  | 0 => 0
  | m + 1 => if p m then rowB p m ||| 2 ^ m else rowB p m
theorem rowB_bit (p : Nat → Bool) (m b : Nat) : (rowB p m).testBit b = (decide (b < m) && p b) := by
  induction m with
  | zero => simp [rowB]
  | succ m ih =>
    unfold rowB
    by_cases hp : p m = true
    · rw [if_pos hp, Nat.testBit_or, ih, Nat.testBit_two_pow]
      by_cases e : b = m
      · subst e; simp [hp]
      · have : ¬ m = b := fun h => e h.symm
        have h2 : decide (b < m + 1) = decide (b < m) := by simp only [decide_eq_decide]; omega
        simp [this, h2]
    · rw [if_neg hp, ih]
      by_cases e : b = m
      · subst e; simp [hp]
      · have h2 : decide (b < m + 1) = decide (b < m) := by simp only [decide_eq_decide]; omega
        rw [h2]
theorem rowB_lt (p : Nat → Bool) (m : Nat) (hm : m ≤ 64) : rowB p m < 18446744073709551616 := by
  have h : rowB p m < 2 ^ 64 := Nat.lt_pow_two_of_testBit _ fun b hb => by
    rw [rowB_bit]
    have : decide (b < m) = false := decide_eq_false (by omega)
    rw [this]; rfl
  exact h
theorem mem_edges {N : Nat} {f : Nat → Nat} {a b : Nat} : (a, b) ∈ edgesL N f ↔ a < N ∧ b < 64 ∧ (f a).testBit b = true := by
  unfold edgesL
  rw [List.mem_flatMap]
  constructor
  · rintro ⟨x, hx, hm⟩
    rw [List.mem_map] at hm
    obtain ⟨y, hy, e⟩ := hm
    cases e
    exact ⟨by simpa using hx, mem_lst.1 hy⟩
  · rintro ⟨h1, h2⟩
    exact ⟨a, by simpa using h1, List.mem_map.2 ⟨b, mem_lst.2 h2, rfl⟩⟩
theorem co_bits {N : Nat} {F G : Nat → Nat} (hF : Right N F) (a b : Nat) (ha : a < 64) : Bt (coF G (edgesL N F)) a b ↔ ∃ c, c < 64 ∧ Bt F a c ∧ Bt G c b := by
  unfold Bt
  rw [coF_bit]
  constructor
  · rintro ⟨c, hc, hb⟩
    obtain ⟨h1, h2, h3⟩ := mem_edges.1 hc
    exact ⟨c, h2, h3, hb⟩
  · rintro ⟨c, h1, h2, h3⟩
    exact ⟨c, mem_edges.2 ⟨(right_le hF ha h2).1, h1, h2⟩, h3⟩
theorem right_co {N : Nat} {F G : Nat → Nat} (hF : Right N F) (hG : Right N G) : Right N (coF G (edgesL N F)) := by
  refine right_bits (coF_lt hG.wf _) (fun a b ha h => ?_)
  obtain ⟨c, h1, h2, h3⟩ := (co_bits hF a b ha).1 h
  exact ⟨(right_le hF ha h2).1, (right_le hG h1 h3).2⟩
theorem or_bits (F G : Nat → Nat) (a b : Nat) : Bt (opF orN F G) a b ↔ Bt F a b ∨ Bt G a b := by
  unfold Bt opF orN
  rw [Nat.testBit_or, Bool.or_eq_true]

/-- One round of the reference's closing. -/
def nxt (N : Nat) (G : Nat → Nat) : Nat → Nat := opF orN G (coF G (edgesL N G))
theorem right_nxt {N : Nat} {G : Nat → Nat} (h : Right N G) : Right N (nxt N G) := right_or h (right_co h h)
theorem nxt_bits {N : Nat} {G : Nat → Nat} (h : Right N G) (a b : Nat) (ha : a < 64) : Bt (nxt N G) a b ↔ Bt G a b ∨ ∃ c, c < 64 ∧ Bt G a c ∧ Bt G c b := by
  unfold nxt
  rw [or_bits, co_bits h a b ha]
theorem edges_in (N : Nat) (hN : N ≤ 64) (F : Nat → Nat) : ∀ e ∈ edgesL N F, e.1 < 64 := fun e he => by
  obtain ⟨a, b⟩ := e
  have := (mem_edges.1 he).1
  dsimp only; omega
theorem right_tu {N : Nat} {F : Nat → Nat} (hN : N ≤ 64) (hF : Right N F) : Right N (tuF (edgesL N F)) := by
  refine right_bits (tuF_lt _ (edges_in N hN F)) (fun a b ha h => ?_)
  rw [tuF_bit, decide_eq_true_eq] at h
  obtain ⟨k1, k2, k3⟩ := mem_edges.1 h
  exact ⟨(hF.in' b (by omega) a k2 k3).2, k1⟩

end Go.Proofs.YtkccckjiemijeabDoor

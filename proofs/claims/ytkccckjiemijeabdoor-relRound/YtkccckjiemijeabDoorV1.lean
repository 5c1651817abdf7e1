/- sameInts; works: the chapter's first examples. -/
import Derived.Test.YtkccckjiemijeabDoorG5
namespace Go.Proofs.YtkccckjiemijeabDoor
open Go.RowKit Go.Shelf M P
set_option linter.unusedSimpArgs false
set_option linter.unusedVariables false

/-- A slice's numbers, where they lie. -/
def Nats (w : World) (a : Option Addr) (l : List Nat) : Prop := ∀ j, j < l.length → ∃ b off, a = some ⟨b, off, none⟩ ∧ w.cell? ⟨b, off + j, none⟩ = some (.int .i64 (l.getD j 0 : Nat))
theorem Nats.below {w w' : World} {a : Option Addr} {l : List Nat} (h : Nats w a l) (hb : Below w.heap.size w w') : Nats w' a l := fun j hj => by
  obtain ⟨b, off, rfl, hc⟩ := h j hj
  exact ⟨b, off, rfl, (hb.cell (p := ⟨b, off + j, none⟩) (World.block_lt_of_cell? w _ hc)).trans hc⟩
theorem nats_own {W : World} {base : Nat} {v : Value} {l : List Nat} (h : W.ownsRow base 3 1 v l.length (encI l)) : ∃ a cap, v = .slice a l.length cap ∧ Nats W a l := by
  rcases h.2 with ⟨hv, h0⟩ | ⟨g, cap', cur, hv, hb, hh, rest⟩
  · exact ⟨none, 0, by rw [hv, h0], fun j hj => by omega⟩
  · subst hv
    refine ⟨_, _, rfl, fun j hj => ⟨g, 0, rfl, ?_⟩⟩
    rw [Nat.zero_add, h.cellAt j (by rw [Nat.mul_one]; exact hj)]
    simp [encI, hj, List.getD_eq_getElem?_getD]

set_option maxHeartbeats 1000000 in
theorem sameInts_eq (a a' : Option Addr) (cap cap' : Nat) (l : List Nat) (w : World) (h1 : Hid (Nats w a l)) (h2 : Hid (Nats w a' l)) (hl : l.length ≤ 1152921504606846976) :
    Calls Tryd.prog 35 #[.slice a l.length cap, .slice a' l.length cap'] w fun e w' => e = .returned (.bool true) ∧ ∃ n, w' = w.drewN n := by
  go_enter Tryd.func35, Tryd.ntmps35
  go_wp2
  go_loopw [5] (fun i wr => ∃ k : Nat, k ≤ l.length ∧ i = .int .i64 k ∧ ∃ m, wr = w.drewN m) (fun i _ => l.length - (intOf i).toNat)
  case atStart => exact ⟨0, by omega, rfl, 0, rfl⟩
  case round =>
    obtain ⟨k, hk, rfl, m, rfl⟩ := hrel
    by_cases hlt : k < l.length
    · obtain ⟨b, off, rfl, hc⟩ := h1.out k hlt
      obtain ⟨b', off', rfl, hc'⟩ := h2.out k hlt
      generalize l.getD k 0 = x at *
      go_wp2
      go_quiet (fail)
      go_wp2
      go_roundw
      case rel => exact ⟨k + 1, by omega, by go_num, m + nq, rfl⟩
      case measure => simp [intOf]; omega
    · obtain rfl : k = l.length := by omega
      go_wp2
      go_ret
      exact ⟨rfl, m, rfl⟩

/-- 0 to 1, 1 to 2. -/
def R0 : Nat → Nat := fun j => if j = 0 then 2 else if j = 1 then 4 else 0
theorem r0_right : Right 3 R0 := by
  refine right_bits (fun i => ?_) (fun a b ha h => ?_)
  · unfold R0; split
    · omega
    · split <;> omega
  · have key : ∀ a : Fin 64, ∀ b : Fin 64, (R0 a.val).testBit b.val = true → a.val < 3 ∧ b.val < 3 := by decide +kernel
    have hb : b < 64 := by
      by_cases hlt : b < 64
      · exact hlt
      · have hl : R0 a < 2 ^ 64 := by
          unfold R0; split
          · omega
          · split <;> omega
        rw [Nat.testBit_lt_two_pow (Nat.lt_of_lt_of_le hl (Nat.pow_le_pow_right (n := 2) (by omega) (show 64 ≤ b by omega)))] at h
        cases h
    exact key ⟨a, ha⟩ ⟨b, hb⟩ h
theorem r0_acyc : acyc 3 R0 = true := by decide +kernel
theorem r0_ord : ordL 3 R0 = [0, 1, 2] := by decide +kernel
theorem r0_plus : (edgesL 64 (wsh R0 3)).length = 3 := by decide +kernel
theorem r0_star : (edgesL 64 (opF orN (wsh R0 3) (idF 3))).length = 6 := by decide +kernel
theorem r0_comp : hasE 3 (coF R0 (edgesL 3 R0)) 0 2 = true := by decide +kernel
theorem r0_of : ofV 3 [(0, 1), (1, 2)] = .tuple #[relv 3 R0, .int .i64 0] := by
  have e : ∀ i, i < 64 → ofF [(0, 1), (1, 2)] i = R0 i := by
    intro i hi
    simp only [ofF, List.foldl, stepE, upd, void, R0]
    by_cases h0 : i = 0
    · subst h0; decide
    · by_cases h1 : i = 1
      · subst h1; decide
      · have a0 : ¬ i = Int.toNat 0 := by simpa using h0
        have a1 : ¬ i = Int.toNat 1 := by simpa using h1
        simp [h0, h1]
  unfold ofV
  rw [if_pos (by decide), relv_congr rfl e]

end Go.Proofs.YtkccckjiemijeabDoor

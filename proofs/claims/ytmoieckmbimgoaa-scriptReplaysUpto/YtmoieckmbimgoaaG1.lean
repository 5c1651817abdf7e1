/- The table's own number of a text. -/
import Derived.Test.YtmoieckmbimgoaaGM
namespace Go.Proofs.Ytmoieckmbimgoaa
open Go.RowKit M
set_option linter.unusedSimpArgs false
set_option linter.unusedVariables false

theorem wrap_byte {q : Nat} (h : q < 256) : wrap64 (q : Int) = (q : Int) := by unfold wrap64; omega
set_option maxRecDepth 100000 in
set_option maxHeartbeats 4000000 in
theorem num_any (g : GR) (hf : g.Few) (T : ByteArray) (hT : T.size ≤ 1099511627776) (b : Nat) (w : World) (hG : GB w g b) :
    Calls Try.prog 20 #[.string T, .pointer (some ⟨b, 0, none⟩)] w fun e w' => e = .returned (.int .i64 (numI g T)) ∧ Below w.heap.size w w' := by
  obtain ⟨a, c, hS, hR⟩ := hG.ex
  have hn := hf.t
  obtain ⟨n, en⟩ : ∃ n, g.to.length = n := ⟨_, rfl⟩
  rw [en] at hS hn
  have y0 := hS.cell 0
  simp only [List.getElem?_cons_zero] at y0
  by_cases h1 : T.size = 1
  · obtain ⟨q, hq⟩ : ∃ q, (T[0]'(by omega)).toNat = q := ⟨_, rfl⟩
    have hw : wrap64 (q : Int) = (q : Int) := wrap_byte (by rw [← hq]; exact UInt8.toNat_lt _)
    have c1 : ((T.size : Int) != 1) = false := by rw [h1]; rfl
    by_cases h2 : q < n
    · have e : numI g T = q := by unfold numI numG; rw [dif_pos h1, en, hq, if_pos h2]
      rw [e]
      have c2 : ¬ ((n : Int) ≤ q) := by omega
      clear hG hR hf en e h2 hn
      go_enter Try.func20, Try.ntmps20
      go_wp2
      go_quiet (fail)
      simp only [hw]
      go_wp2
      go_ret
      exact ⟨by show Ending.returned (.int .i64 (wrap64 (q : Int))) = _; rw [hw], below_drewN (Below.refl _ _) _⟩
    · have e : numI g T = -1 := by unfold numI numG; rw [dif_pos h1, en, hq, if_neg h2]
      rw [e]
      have c2 : ((n : Int) ≤ q) := by omega
      clear hG hR hf en e h2 hn
      go_enter Try.func20, Try.ntmps20
      go_wp2
      go_quiet (fail)
      simp only [hw]
      go_wp2
      go_ret
      exact ⟨rfl, below_drewN (Below.refl _ _) _⟩
  · have e : numI g T = -1 := by unfold numI numG; rw [dif_neg h1]
    rw [e]
    have c1 : ((T.size : Int) != 1) = true := by simp only [bne_iff_ne, ne_eq]; omega
    clear hG hR hf en e hn h1
    go_enter Try.func20, Try.ntmps20
    go_wp2
    go_quiet (fail)
    go_wp2
    go_ret
    exact ⟨rfl, below_drewN (Below.refl _ _) _⟩
end Go.Proofs.Ytmoieckmbimgoaa

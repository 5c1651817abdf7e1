/- Right relations: union, meeting, composing; same, Opt, Plus and Star of rel. -/
import Derived.Test.YtdjlfpkemdiadaaDoorRlY7
namespace Go.Proofs.YtdjlfpkemdiadaaDoor
open Go.RowKit Go.Shelf M
set_option linter.unusedSimpArgs false
set_option linter.unusedVariables false

/-- A call answers this value, in whatever world, and leaves all old blocks as they lay. -/
def AnsV (fn : Nat) (args : Array Value) (v : Value) : Prop := ∀ W : World, TabAt W → Calls Tryd.prog fn args W fun e w' => e = .returned v ∧ Below W.heap.size W w'
theorem AnsV.lift {fn : Nat} {args : Array Value} {v : Value} (h : AnsV fn args v) {W : World} (hT : TabAt W) : ∀ W', Below W.heap.size W W' → Calls Tryd.prog fn args W' fun e w' => e = .returned v ∧ Below W.heap.size W w' :=
  fun W' hW => (h W' (hT.below hW)).mono fun e w' ⟨he, hb⟩ => ⟨he, hW.trans (hb.mono hW.size)⟩

theorem right_nN {N : Nat} {F : Nat → Nat} (h : Right N F) (hN : N ≤ 64) : nN (N : Int) F = N := if_pos (right_is h hN)
theorem right_nF {N : Nat} {F : Nat → Nat} (h : Right N F) (hN : N ≤ 64) : nF (N : Int) F = F := if_pos (right_is h hN)
theorem al_N {N : Nat} {F G : Nat → Nat} (hN : N ≤ 64) (hF : Right N F) (hG : Right N G) : alN (N : Int) F N G = N := by unfold alN; rw [right_nN hF hN, right_nN hG hN, if_pos rfl]
theorem al_F {N : Nat} {F G : Nat → Nat} (hN : N ≤ 64) (hF : Right N F) (hG : Right N G) : alF (N : Int) F N G = F := by unfold alF; rw [right_nN hF hN, right_nN hG hN, if_pos rfl, right_nF hF hN]
theorem al_G {N : Nat} {F G : Nat → Nat} (hN : N ≤ 64) (hF : Right N F) (hG : Right N G) : alG (N : Int) F N G = G := by unfold alG; rw [right_nN hF hN, right_nN hG hN, if_pos rfl, right_nF hG hN]
theorem meet_R {N : Nat} {F G : Nat → Nat} (hN : N ≤ 64) (hF : Right N F) (hG : Right N G) : AnsV 80 #[relv N F, relv N G] (relv N (opF andN F G)) := fun W _ => by
  have := meet_any N F N G W hF.wf hG.wf
  rwa [al_N hN hF hG, al_F hN hF hG, al_G hN hF hG] at this
theorem minus_R {N : Nat} {F G : Nat → Nat} (hN : N ≤ 64) (hF : Right N F) (hG : Right N G) : AnsV 40 #[relv N F, relv N G] (relv N (opF notN F G)) := fun W _ => by
  have := minus_any N F N G W hF.wf hG.wf
  rwa [al_N hN hF hG, al_F hN hF hG, al_G hN hF hG] at this
theorem comp_R {N : Nat} {F G : Nat → Nat} (hN : N ≤ 64) (hF : Right N F) (hG : Right N G) : AnsV 38 #[relv N F, relv N G] (relv N (coF G (edgesL N F))) := fun W hT => by
  have := comp_any N F N G W hF.wf hG.wf hT
  rwa [al_N hN hF hG, al_F hN hF hG, al_G hN hF hG, Int.toNat_natCast] at this
theorem right_bits {N : Nat} {F : Nat → Nat} (hw : Wf F) (h : ∀ a b, a < 64 → (F a).testBit b = true → a < N ∧ b < N) : Right N F := ⟨hw, fun a ha b _ hb => h a b ha hb⟩
theorem right_le {N : Nat} {F : Nat → Nat} (h : Right N F) {a b : Nat} (ha : a < 64) (hb : (F a).testBit b = true) : a < N ∧ b < N := by
  refine h.in' a ha b ?_ hb
  by_cases hlt : b < 64
  · exact hlt
  · rw [Nat.testBit_lt_two_pow (Nat.lt_of_lt_of_le (h.wf a) (Nat.pow_le_pow_right (n := 2) (by omega) (show 64 ≤ b by omega)))] at hb
    cases hb
theorem right_and {N : Nat} {F G : Nat → Nat} (hF : Right N F) : Right N (opF andN F G) := by
  refine right_bits (fun i => Nat.lt_of_le_of_lt Nat.and_le_left (hF.wf i)) (fun a b ha h => ?_)
  unfold opF andN at h
  rw [Nat.testBit_and, Bool.and_eq_true] at h
  exact right_le hF ha h.1

/-- Each of N numbers to itself. -/
def idF (N : Nat) : Nat → Nat := onF (bel (N : Int)) N
theorem idF_bit (N a b : Nat) (hN : N ≤ 64) : (idF N a).testBit b = true ↔ a = b ∧ a < N := by
  unfold idF onF
  by_cases h : a < N
  · rw [if_pos h, Nat.testBit_and, Nat.testBit_two_pow, Bool.and_eq_true, decide_eq_true_eq]
    constructor
    · rintro ⟨_, rfl⟩; exact ⟨rfl, h⟩
    · rintro ⟨rfl, _⟩
      refine ⟨?_, rfl⟩
      rw [testBit_bel _ _ (by omega)]
      simpa using h
  · rw [if_neg h, Nat.zero_testBit]
    simp [h]
theorem right_id (N : Nat) (hN : N ≤ 64) : Right N (idF N) := by
  refine right_bits (fun i => ?_) (fun a b _ h => ?_)
  · unfold idF onF
    split
    · exact Nat.lt_of_le_of_lt Nat.and_le_left (bel_lt _)
    · omega
  · have := (idF_bit N a b hN).1 h
    omega

section
variable {ops : Array Oper} {C : World → Prop} {Q : Act → Prop} {rest : List Oper} {op : Oper} {a : Act}
end

end Go.Proofs.YtdjlfpkemdiadaaDoor

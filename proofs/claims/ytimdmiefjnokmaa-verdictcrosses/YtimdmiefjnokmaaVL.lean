/- VerdictCrosses: the law. -/
import Derived.Test.YtimdmiefjnokmaaVX
import Derived.Test.YtimdmiefjnokmaaVY
namespace Go.Proofs.Ytimdmiefjnokmaa
open Go Go.RowKit M
set_option linter.unusedSimpArgs false
set_option linter.unusedVariables false

theorem crossV_is (l m : List FS) : ∃ x n e, crossV l m = tupF x n e := by
  unfold crossV
  by_cases h : setB l = true ∧ setB m = true
  · rw [if_pos h]; exact ⟨_, _, _, rfl⟩
  · rw [if_neg h]; exact ⟨_, _, _, rfl⟩
set_option maxRecDepth 100000 in
set_option maxHeartbeats 4000000 in
theorem crosses_any (a1 a2 : Option Addr) (c1 c2 : Nat) (l m : List FS) (hl : l.length ≤ 4611686018427387903) (hm : m.length ≤ 4611686018427387903) (w : World) (hS1 : Seg w a1 (flatF l)) (hS2 : Seg w a2 (flatF m)) :
    Calls Try.prog 3 #[.slice a1 l.length c1, .slice a2 m.length c2] w fun e w' => e = .returned (.bool true) ∧ Below w.heap.size w w' := by
  have hX := fun W (h1 : Seg W a1 (flatF l)) (h2 : Seg W a2 (flatF m)) => cross_any a1 a2 c1 c2 l m hl hm W h1 h2
  have hY := fun W (h1 : Seg W a1 (flatF l)) (h2 : Seg W a2 (flatF m)) => rcross_any a1 a2 c1 c2 l m hl hm W h1 h2
  obtain ⟨x, n, e, hV⟩ := crossV_is l m
  simp only [hV] at hX hY
  unfold tupF at hX hY
  have HS1 : Hid (Seg w a1 (flatF l)) := hS1
  have HS2 : Hid (Seg w a2 (flatF m)) := hS2
  clear hS1 hS2 hV
  generalize l.length = n1 at *
  generalize m.length = n2 at *

  have ta : True := trivial
  go_enter Try.func3, Try.ntmps3
  go_wp2_with (first
    | (clear ta; go_at_call 4; refine (hX _ HS1.out HS2.out).mono ?_; rintro e' W1 ⟨rfl, B1⟩; have tb : True := trivial)
    | (clear tb; refine wpList_allocS rfl _ rfl (encF FS.zero) zeroF ?_; intro W2 b1 F2 I2; have B2 := Below.then B1 (fresh_b F2); have hb1 : w.heap.size ≤ b1 := (by rw [F2.at']; exact B1.size); have tc : True := trivial)
    | (clear tc; refine wpList_storeF rfl _ _ rfl rfl rfl I2 ?_; intro W3 U3 I3; have B3 := U3.trans B2 hb1; have td : True := trivial)
    | (clear td; go_at_call 5; refine (hY _ (HS1.out.below B3) (HS2.out.below B3)).mono ?_; rintro e' W4 ⟨rfl, B4⟩; have J4 := I3.grown B4; have B34 := Below.then B3 B4; have te : True := trivial)
    | (clear te; refine wpList_allocS rfl _ rfl (encF FS.zero) zeroF ?_; intro W5 b2 F5 I5; have J5 := J4.fresh F5; have B5 := Below.then B34 (fresh_b F5); have hb2 : w.heap.size ≤ b2 := (by rw [F5.at']; exact B34.size); have hne : b1 ≠ b2 := (by rw [F5.at']; exact Nat.ne_of_lt J4.lt); have tf : True := trivial)
    | (clear tf; refine wpList_storeF rfl _ _ rfl rfl rfl I5 ?_; intro W6 U6 I6; have J6 := J5.upd U6 hne; have B6 := U6.trans B5 hb2)
    | (refine wpList_loadF rfl _ rfl rfl J6 ?_)
    | (refine wpList_loadF rfl _ rfl rfl I6 ?_)
    | (refine wpList_eqF rfl _ _ rfl rfl rfl ?_; rw [show decide (x = x) = true from decide_eq_true rfl]))
  go_ret
  exact ⟨ret_bool (by simp), B6⟩
end Go.Proofs.Ytimdmiefjnokmaa

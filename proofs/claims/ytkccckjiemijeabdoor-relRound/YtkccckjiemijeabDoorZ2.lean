/- Right relations: union, meeting, composing; same, Opt, Plus and Star of rel. -/
import Derived.Test.YtkccckjiemijeabDoorY7
import Derived.Test.YtkccckjiemijeabDoorL0
import Derived.Test.YtkccckjiemijeabDoorZ0
import Derived.Test.YtkccckjiemijeabDoorZ1
import Derived.Test.YtkccckjiemijeabDoorP0
namespace Go.Proofs.YtkccckjiemijeabDoor
open Go.RowKit Go.Shelf M P
set_option linter.unusedSimpArgs false
set_option linter.unusedVariables false

/-- A call answers this value, in whatever world, and leaves all old blocks as they lay. -/
def AnsV (fn : Nat) (args : Array Value) (v : Value) : Prop := ∀ W : World, TabAt W → Calls Tryd.prog fn args W fun e w' => e = .returned v ∧ Below W.heap.size W w'
theorem AnsV.lift {fn : Nat} {args : Array Value} {v : Value} (h : AnsV fn args v) {W : World} (hT : TabAt W) : ∀ W', Below W.heap.size W W' → Calls Tryd.prog fn args W' fun e w' => e = .returned v ∧ Below W.heap.size W w' :=
  fun W' hW => (h W' (hT.below hW)).mono fun e w' ⟨he, hb⟩ => ⟨he, hW.trans (hb.mono hW.size)⟩

theorem right_nN {N : Nat} {F : Nat → Nat} (h : Right N F) (hN : N ≤ 64) : nN (N : Int) F = N := if_pos (right_is h hN)
theorem right_nF {N : Nat} {F : Nat → Nat} (h : Right N F) (hN : N ≤ 64) : nF (N : Int) F = F := if_pos (right_is h hN)
theorem al_N {N : Nat} {F G : Nat → Nat} (hN : N ≤ 64) (hF : Right N F) (hG : Right N G) : alN (N : Int) F N G = N := by unfold alN; rw [right_nN hF hN, right_nN hG hN, if_pos rfl]
theorem al_F {N : Nat} {F G : Nat → Nat} (hN : N ≤ 64) (hF : Right N F) (hG : Right N G) : alF (N : Int) F N G = F := by unfold alF; rw [right_nN hF hN, right_nN hG hN, if_pos rfl, right_nF hF hN]
theorem al_G {N : Nat} {F G : Nat → Nat} (hN : N ≤ 64) (hF : Right N F) (hG : Right N G) : alG (N : Int) F N G = G := by unfold alG; rw [right_nN hF hN, right_nN hG hN, if_pos rfl, right_nF hG hN]
theorem union_R {N : Nat} {F G : Nat → Nat} (hN : N ≤ 64) (hF : Right N F) (hG : Right N G) : AnsV 13 #[relv N F, relv N G] (relv N (opF orN F G)) := fun W _ => by
  have := union_any N F N G W hF.wf hG.wf
  rwa [al_N hN hF hG, al_F hN hF hG, al_G hN hF hG] at this
theorem meet_R {N : Nat} {F G : Nat → Nat} (hN : N ≤ 64) (hF : Right N F) (hG : Right N G) : AnsV 14 #[relv N F, relv N G] (relv N (opF andN F G)) := fun W _ => by
  have := meet_any N F N G W hF.wf hG.wf
  rwa [al_N hN hF hG, al_F hN hF hG, al_G hN hF hG] at this
theorem minus_R {N : Nat} {F G : Nat → Nat} (hN : N ≤ 64) (hF : Right N F) (hG : Right N G) : AnsV 16 #[relv N F, relv N G] (relv N (opF notN F G)) := fun W _ => by
  have := minus_any N F N G W hF.wf hG.wf
  rwa [al_N hN hF hG, al_F hN hF hG, al_G hN hF hG] at this
theorem comp_R {N : Nat} {F G : Nat → Nat} (hN : N ≤ 64) (hF : Right N F) (hG : Right N G) : AnsV 18 #[relv N F, relv N G] (relv N (coF G (edgesL N F))) := fun W hT => by
  have := comp_any N F N G W hF.wf hG.wf hT
  rwa [al_N hN hF hG, al_F hN hF hG, al_G hN hF hG, Int.toNat_natCast] at this
theorem right_bits {N : Nat} {F : Nat → Nat} (hw : Wf F) (h : ∀ a b, a < 64 → (F a).testBit b = true → a < N ∧ b < N) : Right N F := ⟨hw, fun a ha b _ hb => h a b ha hb⟩
theorem right_le {N : Nat} {F : Nat → Nat} (h : Right N F) {a b : Nat} (ha : a < 64) (hb : (F a).testBit b = true) : a < N ∧ b < N := by
  refine h.in' a ha b ?_ hb
  by_cases hlt : b < 64
  · exact hlt
  · rw [Nat.testBit_lt_two_pow (Nat.lt_of_lt_of_le (h.wf a) (Nat.pow_le_pow_right (n := 2) (by omega) (show 64 ≤ b by omega)))] at hb
    cases hb
theorem right_or {N : Nat} {F G : Nat → Nat} (hF : Right N F) (hG : Right N G) : Right N (opF orN F G) := by
  refine right_bits (fun i => Nat.or_lt_two_pow (n := 64) (hF.wf i) (hG.wf i)) (fun a b ha h => ?_)
  unfold opF orN at h
  rw [Nat.testBit_or, Bool.or_eq_true] at h
  exact h.elim (right_le hF ha) (right_le hG ha)
theorem right_and {N : Nat} {F G : Nat → Nat} (hF : Right N F) : Right N (opF andN F G) := by
  refine right_bits (fun i => Nat.lt_of_le_of_lt Nat.and_le_left (hF.wf i)) (fun a b ha h => ?_)
  unfold opF andN at h
  rw [Nat.testBit_and, Bool.and_eq_true] at h
  exact right_le hF ha h.1

/-- Each of N numbers to itself. -/
def idF (N : Nat) : Nat → Nat := onF (bel (N : Int)) N
theorem idF_bit (N a b : Nat) (hN : N ≤ 64) : (idF N a).testBit b = true ↔ a = b ∧ a < N := by
  unfold idF onF
  by_cases h : a < N
  · rw [if_pos h, Nat.testBit_and, Nat.testBit_two_pow, Bool.and_eq_true, decide_eq_true_eq]
    constructor
    · rintro ⟨_, rfl⟩; exact ⟨rfl, h⟩
    · rintro ⟨rfl, _⟩
      refine ⟨?_, rfl⟩
      rw [testBit_bel _ _ (by omega)]
      simpa using h
  · rw [if_neg h, Nat.zero_testBit]
    simp [h]
theorem right_id (N : Nat) (hN : N ≤ 64) : Right N (idF N) := by
  refine right_bits (fun i => ?_) (fun a b _ h => ?_)
  · unfold idF onF
    split
    · exact Nat.lt_of_le_of_lt Nat.and_le_left (bel_lt _)
    · omega
  · have := (idF_bit N a b hN).1 h
    omega

set_option maxRecDepth 100000 in
theorem sameN_any (N : Nat) (hN : N ≤ 64) : AnsV 45 #[.int .i64 (N : Int)] (relv N (idF N)) := fun w _ => by
  have c1 : Hid (∀ W, Calls Tryd.prog 41 #[.int .i64 (N : Int)] W fun e w' => e = .returned (.int .u64 (bel N : Nat)) ∧ w' = W) := fun W => all_any N W (by omega) (by omega)
  have c2 : Hid (∀ W, Calls Tryd.prog 11 #[.int .i64 (N : Int), .int .u64 (bel (N : Int) : Nat)] W fun e w' => e = .returned (relv N (idF N)) ∧ Below W.heap.size W w') := fun W => by
    have := on_any N (bel (N : Int)) W (bel_lt _)
    unfold onV at this
    rwa [if_pos ⟨by omega, by omega⟩, Int.toNat_natCast] at this
  generalize idF N = X at *
  generalize bel (N : Int) = y at *
  go_enter Tryd.func45, Tryd.ntmps45
  go_wp2_with (first
    | (refine wpList_allocR rfl rfl ?_; intro W1 b1 F1 r1; have B1 := Fresh.trans (Below.refl _ w) (Nat.le_refl _) F1; have hb1 : w.heap.size ≤ b1 := (by rw [F1.at']; exact Nat.le_refl _); clear F1)
    | (go_at_call 41; refine (c1.out _).mono ?_; rintro e w' ⟨rfl, hw'⟩; replace hw' := hw'.symm; subst hw')
    | (go_at_call 11; refine (c2.out _).mono ?_; rintro e w' ⟨rfl, hw'⟩; replace r1 := r1.grown hw'; replace B1 := B1.trans (hw'.mono B1.size); clear hw')
    | (refine wpList_storeR rfl _ _ rfl rfl rfl r1 ?_; intro W3 U3 r3; replace B1 := U3.trans B1 (by omega)))
  refine ret_R rfl rfl rfl r3 ⟨rfl, B1⟩

section
variable {ops : Array Oper} {C : World → Prop} {Q : Act → Prop} {rest : List Oper} {op : Oper} {a : Act}
theorem wpQuiet_loadN (hw : Region.wanted op (yielded ops a.tmps) = true) (x : Operand) (ho : op.op = .load 3 x) {b : Nat} (hx : a.eval x = .pointer (some ⟨b, 0, none⟩)) {n : Int} {f : Nat → Nat} (hC : ∀ w, C w → IsR w b n f)
    (h : wpQuiet Tryd.prog ops C Q rest (a.put op.dst (.int .i64 n))) : wpQuiet Tryd.prog ops C Q (op :: rest) a := by
  refine wpQuiet_value hw (fun w hc => ?_) h
  unfold execOp
  have := (hC w hc).n
  simp only [ho, hx]
  simp [go_sem, this]
theorem wpQuiet_put (hw : Region.wanted op (yielded ops a.tmps) = true) {v : Value} (hr : ∀ w, (execOp a.eval op).run Tryd.prog w = .ok (.value v) w)
    (h : wpQuiet Tryd.prog ops C Q rest (a.put op.dst v)) : wpQuiet Tryd.prog ops C Q (op :: rest) a := wpQuiet_value hw (fun w _ => hr w) h
end

theorem below_drawn (w : World) : Below w.heap.size w { w with drawn := w.drawn + 1 } := ⟨rfl, rfl, rfl, Nat.le_refl _, fun _ _ => rfl⟩

set_option maxRecDepth 100000 in
set_option maxHeartbeats 1000000 in
theorem opt_any (n : Int) (f : Nat → Nat) (hf : Wf f) : AnsV 25 #[relv n f] (relv (nN n f) (opF orN (nF n f) (idF (nN n f).toNat))) := fun w hT => by
  have c1 : Hid (∀ W, Calls Tryd.prog 43 #[relv n f] W fun e w' => e = .returned (relv (nN n f) (nF n f)) ∧ Below W.heap.size W w') := fun W => right_any n f W hf
  obtain ⟨N, h1, hN64, h3⟩ := n_right' n f hf
  rw [h1] at c1 ⊢
  rw [Int.toNat_natCast]
  have cs : Hid (AnsV 45 #[.int .i64 (N : Int)] (relv N (idF N))) := sameN_any N hN64
  have cu : Hid (AnsV 13 #[relv N (nF n f), relv N (idF N)] (relv N (opF orN (nF n f) (idF N)))) := union_R hN64 h3 (right_id N hN64)
  generalize nF n f = F at *
  generalize opF orN F (idF N) = X at *
  generalize idF N = Y at *
  clear h1 h3
  go_enter Tryd.func25, Tryd.ntmps25
  go_wp2_with (first
    | (refine wpList_boxR rfl _ rfl rfl ?_; intro W1 b1 F1 r1; have B1 := Fresh.trans (Below.refl _ w) (Nat.le_refl _) F1)
    | (refine wpList_allocR rfl rfl ?_; intro W3 b2 F3 r2; replace B1 := Fresh.trans B1 B1.size F3; replace r1 := r1.fresh F3; have hb1 : w.heap.size ≤ b1 := (by rw [F1.at']; exact Nat.le_refl _); have hb2 : b1 < b2 := (by rw [F3.at', F1.size]; omega); clear F1 F3)
    | (refine wpList_loadR rfl _ rfl rfl r1 ?_)
    | (go_at_call 43; refine (c1.out _).mono ?_; rintro e w' ⟨rfl, hw'⟩; replace r1 := r1.grown hw'; replace r2 := r2.grown hw'; replace B1 := B1.trans (hw'.mono B1.size); clear hw')
    | (refine wpList_storeR rfl _ _ rfl rfl rfl r1 ?_; intro W5 U5 q1; replace B1 := U5.trans B1 (by omega); replace r2 := r2.upd U5 (by omega); clear U5 r1; have r1 := q1; clear q1))
  have tW := hT.below B1
  have s1 := cs.out.lift tW
  have u1 := cu.out.lift tW
  have hr1 : ∀ W', Below W5.heap.size W5 W' → IsR W' b1 N F := fun W' h => r1.grown h
  refine wp_quiet_tail (fun W' => Below W5.heap.size W5 W') 5 (by kernel_rfl) (by kernel_rfl) (below_drawn W5) ?_
  simp only [List.take_succ_cons, List.take_zero, List.drop_succ_cons, List.drop_zero]
  refine wpQuiet_loadR rfl _ rfl rfl hr1 ?_
  refine wpQuiet_put rfl (v := .pointer (some ⟨b1, 0, none⟩)) (fun w => by go_simp; done) ?_
  refine wpQuiet_loadN rfl _ rfl rfl hr1 ?_
  refine wpQuiet_call rfl (fun w => by first | rfl | (go_simp; done)) s1 ?_
  refine wpQuiet_call rfl (fun w => by first | rfl | (go_simp; done)) u1 ?_
  refine wpQuiet_nil ?_
  intro W6 hW6
  have q2 := r2.grown hW6
  have B6 := B1.trans (hW6.mono B1.size)
  clear s1 u1 hr1 r1 r2 B1 hW6
  go_wp2_with (refine wpList_storeR rfl _ _ rfl rfl rfl q2 ?_; intro W7 U7 r7)
  refine ret_R rfl rfl rfl r7 ⟨rfl, U7.trans B6 (by omega)⟩
end Go.Proofs.YtkccckjiemijeabDoor

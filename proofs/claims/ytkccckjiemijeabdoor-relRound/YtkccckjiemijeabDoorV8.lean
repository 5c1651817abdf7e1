/- What Reduce leaves, in plain mathematics of rows; Reduce. -/
import Derived.Test.YtkccckjiemijeabDoorV5
namespace Go.Proofs.YtkccckjiemijeabDoor
open Go.RowKit Go.Shelf M P
set_option linter.unusedSimpArgs false
set_option linter.unusedVariables false

/-- The pairs that no way of several steps stands for. -/
def redF (N : Nat) (F : Nat → Nat) : Nat → Nat := opF notN F (coF (wsh F N) (edgesL N F))
theorem right_red {N : Nat} {F : Nat → Nat} (hF : Right N F) : Right N (redF N F) := right_sub hF
theorem red_bits {N : Nat} {F : Nat → Nat} (hN : N ≤ 64) (hF : Right N F) (a b : Nat) (ha : a < 64) (hb : b < 64) : Bt (redF N F) a b ↔ Bt F a b ∧ ¬ ∃ c, c < 64 ∧ Bt F a c ∧ Bt (wsh F N) c b := by
  unfold redF
  rw [sub_bits (right_co hF (right_wsh hN hF N (Nat.le_refl _))).wf a b hb, co_bits hF a b ha]
/-- One step, or one and then more. -/
theorem wsh_head {N : Nat} {F : Nat → Nat} (hN : N ≤ 64) (hF : Right N F) (a b : Nat) (ha : a < 64) (h : Bt (wsh F N) a b) : Bt F a b ∨ ∃ c, c < 64 ∧ Bt F a c ∧ Bt (wsh F N) c b := by
  have hc := wsh_clo hN (fun a b ha hb => right_le hF ha hb)
  have := hc.least (fun a b => a < 64 ∧ b < 64 ∧ (Bt F a b ∨ ∃ c, c < 64 ∧ Bt F a c ∧ Bt (wsh F N) c b)) (fun a b h1 h2 h3 => ⟨h1, h2, Or.inl h3⟩) (fun a b c ⟨h1, h2, h3⟩ ⟨_, h5, h6⟩ => ⟨h1, h5, Or.inr (by
    have hbc : Bt (wsh F N) b c := by
      rcases h6 with h6 | ⟨d, k1, k2, k3⟩
      · exact hc.has b c h2 h6
      · exact hc.trans b d c h2 k1 (hc.has b d h2 k2) k3
    rcases h3 with h3 | ⟨d, k1, k2, k3⟩
    · exact ⟨b, h2, h3, hbc⟩
    · exact ⟨d, k1, k2, hc.trans d b c k1 h2 k3 hbc⟩)⟩) a b ha h
  exact this.2.2
/-- How many lie between. -/
def mids (N : Nat) (F : Nat → Nat) (a b : Nat) : Nat := (List.range 64).countP fun c => (wsh F N a).testBit c && (wsh F N c).testBit b
theorem mids_lt {N : Nat} {F : Nat → Nat} (hac : acyc N F = true) (a b c d e : Nat) (ha : a < 64) (hc : c < 64) (h1 : Bt (wsh F N) a c) (h2 : Bt (wsh F N) c b)
    (hd : ∀ x, x < 64 → Bt (wsh F N) d x → Bt (wsh F N) x e → Bt (wsh F N) a x ∧ Bt (wsh F N) x b) (hx : ¬ (Bt (wsh F N) d c ∧ Bt (wsh F N) c e)) : mids N F d e < mids N F a b := by
  unfold mids
  refine countP_lt _ _ _ (fun x hx' hp => ?_) ⟨c, by simpa using hc, ?_, ?_⟩
  · rw [Bool.and_eq_true] at hp ⊢
    exact hd x (by simpa using hx') hp.1 hp.2
  · rw [Bool.and_eq_true]; exact ⟨h1, h2⟩
  · cases hh : ((wsh F N d).testBit c && (wsh F N c).testBit e)
    · rfl
    · rw [Bool.and_eq_true] at hh
      exact absurd hh hx
theorem red_plus {N : Nat} {F : Nat → Nat} (hN : N ≤ 64) (hF : Right N F) (hac : acyc N F = true) : ∀ (n a b : Nat), a < 64 → b < 64 → mids N F a b ≤ n → Bt (wsh F N) a b → Bt (wsh (redF N F) N) a b := by
  have hX := right_red hF
  have hc := wsh_clo hN (fun a b ha hb => right_le hF ha hb)
  have hcX := wsh_clo hN (fun a b ha hb => right_le hX ha hb)
  intro n
  induction n with
  | zero =>
    intro a b ha hb hm h
    by_cases hx : Bt (redF N F) a b
    · exact hcX.has a b ha hx
    · exfalso
      have hex : ∃ c, c < 64 ∧ Bt F a c ∧ Bt (wsh F N) c b := by
        rcases wsh_head hN hF a b ha h with h1 | h1
        · exact Classical.byContradiction fun hno => hx ((red_bits hN hF a b ha hb).2 ⟨h1, hno⟩)
        · exact h1
      obtain ⟨c, k1, k2, k3⟩ := hex
      have : 0 < mids N F a b := List.countP_pos_iff.2 ⟨c, by simpa using k1, by rw [Bool.and_eq_true]; exact ⟨hc.has a c ha k2, k3⟩⟩
      omega
  | succ n ih =>
    intro a b ha hb hm h
    by_cases hx : Bt (redF N F) a b
    · exact hcX.has a b ha hx
    · have hex : ∃ c, c < 64 ∧ Bt F a c ∧ Bt (wsh F N) c b := by
        rcases wsh_head hN hF a b ha h with h1 | h1
        · exact Classical.byContradiction fun hno => hx ((red_bits hN hF a b ha hb).2 ⟨h1, hno⟩)
        · exact h1
      obtain ⟨c, k1, k2, k3⟩ := hex
      have hac' := hc.has a c ha k2
      have m1 : mids N F a c < mids N F a b := mids_lt (N := N) (F := F) hac a b c a c ha k1 hac' k3 (fun x hx1 h1 h2 => ⟨h1, hc.trans x c b hx1 k1 h2 k3⟩) (fun h1 => acyc_none hN hF hac c k1 h1.2)
      have m2 : mids N F c b < mids N F a b := mids_lt (N := N) (F := F) hac a b c c b ha k1 hac' k3 (fun x hx1 h1 h2 => ⟨hc.trans a c x ha k1 hac' h1, h2⟩) (fun h1 => acyc_none hN hF hac c k1 h1.1)
      exact hcX.trans a c b ha k1 (ih a c ha k1 (by omega) hac') (ih c b k1 hb (by omega) k3)
theorem red_same {N : Nat} {F : Nat → Nat} (hN : N ≤ 64) (hF : Right N F) (hac : acyc N F = true) (j : Nat) (hj : j < 64) : wsh (redF N F) N j = wsh F N j := by
  have hX := right_red hF
  refine row_ext hN (right_wsh hN hX N (Nat.le_refl _)) (right_wsh hN hF N (Nat.le_refl _)) (fun a b ha hb => ⟨fun h => ?_, fun h => red_plus hN hF hac _ a b ha hb (Nat.le_refl _) h⟩) j hj
  exact wsh_le hN hX (wsh_tr hN hF) (right_wsh hN hF N (Nat.le_refl _)) (fun a b ha hb => wsh_ge hN hF a b ha ((red_bits hN hF a b ha (by have := (right_le hX ha hb).2; omega)).1 hb).1) a b ha h
theorem red_sub {N : Nat} {F : Nat → Nat} (hN : N ≤ 64) (hF : Right N F) (j : Nat) (hj : j < 64) : opF notN (redF N F) F j = void j := by
  refine row_ext hN (right_sub (right_red hF)) (right_void N) (fun a b ha hb => ?_) j hj
  rw [sub_bits hF.wf a b hb, red_bits hN hF a b ha hb]
  exact ⟨fun h => (h.2 h.1.1).elim, fun h => (void_bits a b h).elim⟩
/-- Without one of its pairs it leads to less. -/
theorem red_less {N : Nat} {F : Nat → Nat} (hN : N ≤ 64) (hF : Right N F) {E : Nat → Nat} (hE : Right N E) (a b : Nat) (ha : a < 64) (hb : b < 64) (hx : Bt (redF N F) a b) (he : Bt E a b) : ¬ Bt (wsh (opF notN (redF N F) E) N) a b := by
  have hX := right_red hF
  have hY : Right N (opF notN (redF N F) E) := right_sub hX
  intro h
  have hle : ∀ a b, a < 64 → Bt (opF notN (redF N F) E) a b → Bt F a b := fun a b ha h' => by
    have hb' : b < 64 := by have := (right_le hY ha h').2; omega
    exact ((red_bits hN hF a b ha hb').1 ((sub_bits hE.wf a b hb').1 h').1).1
  rcases wsh_head hN hY a b ha h with h1 | ⟨c, k1, k2, k3⟩
  · exact ((sub_bits hE.wf a b hb).1 h1).2 he
  · refine ((red_bits hN hF a b ha hb).1 hx).2 ⟨c, k1, hle a c ha k2, ?_⟩
    exact wsh_le hN hY (wsh_tr hN hF) (right_wsh hN hF N (Nat.le_refl _)) (fun a b ha hb => wsh_ge hN hF a b ha (hle a b ha hb)) c b k1 k3

theorem al_any {n : Int} {f : Nat → Nat} {N : Nat} {G : Nat → Nat} (hN : N ≤ 64) (h : nN n f = (N : Int)) (hG : Right N G) : alN n f N G = N ∧ alF n f N G = nF n f ∧ alG n f N G = G := by
  unfold alN alF alG
  rw [h, right_nN hG hN, right_nF hG hN, if_pos rfl, if_pos rfl, if_pos rfl]
  exact ⟨rfl, rfl, rfl⟩

set_option maxRecDepth 100000 in
set_option maxHeartbeats 1000000 in
theorem reduce_any (n : Int) (f : Nat → Nat) (hf : Wf f) (N : Nat) (h1 : nN n f = (N : Int)) : AnsV 37 #[relv n f] (if acyc N (nF n f) = true then .tuple #[relv N (redF N (nF n f)), .bool true] else .tuple #[relv 0 void, .bool false]) := fun w hT => by
  obtain ⟨M, m1, hN64, h3⟩ := n_right' n f hf
  obtain rfl : N = M := by rw [h1] at m1; omega
  have hP := right_wsh hN64 h3 N (Nat.le_refl _)
  have hC := right_co h3 hP
  have a28 : Hid (AnsV 28 #[relv n f] (.bool (acyc N (nF n f)))) := by
    have := acyclic_any n f hf
    rwa [h1, Int.toNat_natCast] at this
  have a22 : AnsV 22 #[relv n f] (relv N (wsh (nF n f) N)) := by
    have := plus_any n f hf
    rwa [h1, Int.toNat_natCast] at this
  have a18 : AnsV 18 #[relv n f, relv N (wsh (nF n f) N)] (relv N (coF (wsh (nF n f) N) (edgesL N (nF n f)))) := fun W hT' => by
    have := comp_any n f N (wsh (nF n f) N) W hf hP.wf hT'
    obtain ⟨e1, e2, e3⟩ := al_any hN64 h1 hP
    rwa [e1, e2, e3, Int.toNat_natCast] at this
  have a16 : AnsV 16 #[relv n f, relv N (coF (wsh (nF n f) N) (edgesL N (nF n f)))] (relv N (redF N (nF n f))) := fun W hT' => by
    have := minus_any n f N (coF (wsh (nF n f) N) (edgesL N (nF n f))) W hf hC.wf
    obtain ⟨e1, e2, e3⟩ := al_any hN64 h1 hC
    rwa [e1, e2, e3] at this
  generalize redF N (nF n f) = X at *
  generalize coF (wsh (nF n f) N) (edgesL N (nF n f)) = C at *
  generalize wsh (nF n f) N = Pp at *
  generalize acyc N (nF n f) = A at *
  clear h1 h3 hP hC m1
  cases A
  · rw [if_neg (by simp)]
    go_enter Tryd.func37, Tryd.ntmps37
    go_wp2_with (first
      | (refine wpList_boxR rfl _ rfl rfl ?_; intro W1 b1 F1 r1; have B1 := Fresh.trans (Below.refl _ w) (Nat.le_refl _) F1; have hb1 : w.heap.size ≤ b1 := (by rw [F1.at']; exact Nat.le_refl _); clear F1)
      | (refine wpList_allocR rfl rfl ?_; intro W3 b2 F3 r2; have hb2 : w.heap.size ≤ b2 := (by rw [F3.at']; exact B1.size); replace B1 := Fresh.trans B1 B1.size F3; replace r1 := r1.fresh F3; clear F3)
      | (refine wpList_loadR rfl _ rfl rfl r1 ?_)
      | (go_at_call 28; refine (a28.out _ (hT.below B1)).mono ?_; rintro e w' ⟨rfl, hw'⟩; replace r1 := r1.grown hw'; replace r2 := r2.grown hw'; replace B1 := B1.trans (hw'.mono B1.size); clear hw')
      | (refine wpList_buildR0 rfl rfl ?_)
      | (refine wpList_storeR rfl _ _ rfl rfl rfl r2 ?_; intro W5 U5 q2; replace B1 := U5.trans B1 hb2; clear U5 r2))
    refine ret_R2 rfl rfl rfl rfl q2 ⟨rfl, B1⟩
  · rw [if_pos rfl]
    go_enter Tryd.func37, Tryd.ntmps37
    go_wp2_with (first
      | (refine wpList_boxR rfl _ rfl rfl ?_; intro W1 b1 F1 r1; have B1 := Fresh.trans (Below.refl _ w) (Nat.le_refl _) F1; have hb1 : w.heap.size ≤ b1 := (by rw [F1.at']; exact Nat.le_refl _); clear F1)
      | (refine wpList_allocR rfl rfl ?_; intro W3 b2 F3 r2; have hb2 : w.heap.size ≤ b2 := (by rw [F3.at']; exact B1.size); replace B1 := Fresh.trans B1 B1.size F3; replace r1 := r1.fresh F3; clear F3)
      | (refine wpList_loadR rfl _ rfl rfl r1 ?_)
      | (go_at_call 28; refine (a28.out _ (hT.below B1)).mono ?_; rintro e w5 ⟨rfl, hw'⟩; replace r1 := r1.grown hw'; replace r2 := r2.grown hw'; replace B1 := B1.trans (hw'.mono B1.size); clear hw'))
    have tW := hT.below B1
    refine grow_tail 6 (by kernel_rfl) (by kernel_rfl) ?_
    simp only [List.take_succ_cons, List.take_zero, List.drop_succ_cons, List.drop_zero]
    refine wpG_loadR rfl _ rfl rfl r1 ?_
    refine wpG_loadR rfl _ rfl rfl r1 ?_
    refine wpG_loadR rfl _ rfl rfl r1 ?_
    refine wpG_call tW rfl a22 (fun w => by first | rfl | (go_simp; done)) ?_
    refine wpG_call tW rfl a18 (fun w => by first | rfl | (go_simp; done)) ?_
    refine wpG_call tW rfl a16 (fun w => by first | rfl | (go_simp; done)) ?_
    refine wpG_nil ?_
    intro W6 hW6
    try simp only [Act.put, List.setIfInBounds_toArray, List.set_cons_succ, List.set_cons_zero]
    have q2 := r2.grown hW6
    have B6 := B1.trans (hW6.mono B1.size)
    clear r1 r2 B1 hW6 tW
    go_wp2_with (refine wpList_storeR rfl _ _ rfl rfl rfl q2 ?_; intro W7 U7 r7)
    refine ret_R2 rfl rfl rfl rfl r7 ⟨rfl, U7.trans B6 hb2⟩
end Go.Proofs.YtkccckjiemijeabDoor

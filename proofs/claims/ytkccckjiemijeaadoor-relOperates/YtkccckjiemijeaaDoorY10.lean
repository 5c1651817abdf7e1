/- RelOperates: for every two relations and every two sets the law returns true. -/
import Derived.Test.YtkccckjiemijeaaDoorY8
import Derived.Test.YtkccckjiemijeaaDoorY9
import Derived.Test.YtkccckjiemijeaaDoorL1
namespace Go.Proofs.YtkccckjiemijeaaDoor
open Go.RowKit Go.Shelf M
set_option linter.unusedSimpArgs false
set_option linter.unusedVariables false

/-- What a call answers, in whatever world that holds the library's table. -/
def Ans (fn : Nat) (args : Array Value) (p : Int) (q : Nat → Nat) : Prop := ∀ W : World, TabAt W → Calls Tryd.prog fn args W fun e w' => e = .returned (relv p q) ∧ Below W.heap.size W w'

theorem al_void (n : Int) (f : Nat → Nat) (p : Int) (q : Nat → Nat) (h1 : nN n f = 0) (h2 : nF n f = void) (h : Nat → (Nat → Nat) → (Nat → Nat) → Nat → Nat → Bool) : relv (alN n f p q) (matF (alN n f p q).toNat (h (alN n f p q).toNat (alF n f p q) (alG n f p q))) = relv 0 void := by
  have e : alN n f p q = 0 := by unfold alN; split; exact h1; rfl
  rw [e]
  exact relv_congr rfl (fun j _ => by rw [show Int.toNat 0 = 0 from rfl, matF_void]; rfl)

section
variable (n : Int) (f : Nat → Nat) (m : Int) (g : Nat → Nat)
theorem pair_union (hf : Wf f) (hg : Wf g) : ∃ p q, Ans 26 #[relv n f, relv m g] p q ∧ Ans 27 #[.int .i64 0, relv n f, relv m g] p q := by
  obtain ⟨N, h1, h2, h3, h4⟩ := al_right n f m g hf hg
  refine ⟨alN n f m g, opF orN (alF n f m g) (alG n f m g), fun W _ => union_any n f m g W hf hg, fun W _ => ?_⟩
  rw [relv_congr rfl (fun j hj => or_mat h3 h4 j hj)]
  have := two0_any n f m g W hf hg
  rw [h1, Int.toNat_natCast] at this
  rw [h1]
  exact this
theorem pair_meet (hf : Wf f) (hg : Wf g) : ∃ p q, Ans 28 #[relv n f, relv m g] p q ∧ Ans 27 #[.int .i64 1, relv n f, relv m g] p q := by
  obtain ⟨N, h1, h2, h3, h4⟩ := al_right n f m g hf hg
  refine ⟨alN n f m g, opF andN (alF n f m g) (alG n f m g), fun W _ => meet_any n f m g W hf hg, fun W _ => ?_⟩
  rw [relv_congr rfl (fun j hj => and_mat h3 j hj)]
  have := two1_any n f m g W hf hg
  rw [h1, Int.toNat_natCast] at this
  rw [h1]
  exact this
theorem pair_minus (hf : Wf f) (hg : Wf g) : ∃ p q, Ans 29 #[relv n f, relv m g] p q ∧ Ans 27 #[.int .i64 2, relv n f, relv m g] p q := by
  obtain ⟨N, h1, h2, h3, h4⟩ := al_right n f m g hf hg
  refine ⟨alN n f m g, opF notN (alF n f m g) (alG n f m g), fun W _ => minus_any n f m g W hf hg, fun W _ => ?_⟩
  rw [relv_congr rfl (fun j hj => sub_mat h2 h3 h4.wf j hj)]
  have := two2_any n f m g W hf hg
  rw [h1, Int.toNat_natCast] at this
  rw [h1]
  exact this
theorem pair_comp (hf : Wf f) (hg : Wf g) : ∃ p q, Ans 30 #[relv n f, relv m g] p q ∧ Ans 27 #[.int .i64 3, relv n f, relv m g] p q := by
  obtain ⟨N, h1, h2, h3, h4⟩ := al_right n f m g hf hg
  refine ⟨alN n f m g, coF (alG n f m g) (edgesL (alN n f m g).toNat (alF n f m g)), fun W hT => comp_any n f m g W hf hg hT, fun W _ => ?_⟩
  have := two3_any n f m g W hf hg
  rw [h1, Int.toNat_natCast] at this ⊢
  rw [relv_congr rfl (fun j hj => co_mat h2 h3 h4 j hj)]
  exact this
theorem pair_inv (hf : Wf f) : ∃ p q, Ans 31 #[relv n f] p q ∧ Ans 32 #[relv n f] p q := by
  obtain ⟨N, h1, h2, h3⟩ := n_right' n f hf
  refine ⟨nN n f, tuF (edgesL (nN n f).toNat (nF n f)), fun W hT => inv_any n f W hf hT, fun W _ => ?_⟩
  have := rinv_any n f W hf
  rw [h1, Int.toNat_natCast] at this ⊢
  rw [relv_congr rfl (fun j hj => tu_inv j hj)]
  exact this
theorem pair_not (hf : Wf f) : ∃ p q, Ans 33 #[relv n f] p q ∧ Ans 34 #[relv n f] p q := by
  obtain ⟨N, h1, h2, h3⟩ := n_right' n f hf
  refine ⟨nN n f, upTo (xoN (nN n f).toNat) (nF n f) void (nN n f).toNat, fun W hT => not_any n f W hf, fun W _ => ?_⟩
  have := rnot_any n f W hf
  rw [h1, Int.toNat_natCast] at this ⊢
  rw [relv_congr rfl (fun j hj => xo_mat h2 h3 j hj)]
  exact this
theorem pair_restrict (hf : Wf f) (s t : Nat) (hs : s < 18446744073709551616) (ht : t < 18446744073709551616) : ∃ p q, Ans 35 #[relv n f, .int .u64 s, .int .u64 t] p q ∧ Ans 36 #[relv n f, .int .u64 s, .int .u64 t] p q := by
  obtain ⟨p, q, hc, hq⟩ := crV_parts n s t
  obtain ⟨N, h1, h2, h3, h4⟩ := al_right n f p q hf hq
  refine ⟨alN n f p q, opF andN (alF n f p q) (alG n f p q), fun W hT => restrict_any n f s t W hf hs ht hT p q hc hq, fun W _ => ?_⟩
  rw [relv_congr rfl (fun j hj => and_mat h3 j hj)]
  by_cases hr : rightB n f = true
  · have e1 : nN n f = n := if_pos hr
    have e2 : nF n f = f := if_pos hr
    have := rrestrict_any n f s t W hf hs ht p q (by rw [e1]; exact hc) hq
    rw [e1, e2] at this
    rw [h1, Int.toNat_natCast] at this
    rw [h1]
    exact this
  · have e1 : nN n f = 0 := if_neg hr
    have e2 : nF n f = void := if_neg hr
    obtain ⟨p', q', hc', hq'⟩ := crV_parts (nN n f) s t
    have := rrestrict_any n f s t W hf hs ht p' q' hc' hq'
    have z1 : nN (nN n f) (nF n f) = 0 := by rw [e1]; unfold nN; split <;> rfl
    have z2 : nF (nN n f) (nF n f) = void := by rw [e1, e2]; unfold nF; split <;> rfl
    rw [al_void (nN n f) (nF n f) p' q' z1 z2 hAnd] at this
    have v1 := al_void n f p q e1 e2 hAnd
    rw [h1, Int.toNat_natCast] at v1
    rw [h1, v1]
    exact this
end

set_option maxRecDepth 100000 in
set_option maxHeartbeats 2000000 in
theorem relOperates_any (n : Int) (f : Nat → Nat) (m : Int) (g : Nat → Nat) (s t : Nat) (w : World) (hf : Wf f) (hg : Wf g) (hs : s < 18446744073709551616) (ht : t < 18446744073709551616) (hT : TabAt w) :
    Calls Tryd.prog 5 #[relv n f, relv m g, .int .u64 s, .int .u64 t] w fun e w' => e = .returned (.bool true) ∧ Below w.heap.size w w' := by
  obtain ⟨pu, qu, U1, U2⟩ := pair_union n f m g hf hg
  obtain ⟨pv, qv, V1, V2⟩ := pair_meet n f m g hf hg
  obtain ⟨px, qx, X1, X2⟩ := pair_minus n f m g hf hg
  obtain ⟨py, qy, Y1, Y2⟩ := pair_comp n f m g hf hg
  obtain ⟨pi, qi, I1, I2⟩ := pair_inv n f hf
  obtain ⟨pn, qn, N1, N2⟩ := pair_not n f hf
  obtain ⟨pr, qr, R1, R2⟩ := pair_restrict n f hf s t hs ht
  have tk1 : True := trivial
  go_enter Tryd.func5, Tryd.ntmps5
  go_wp2_with (first
    | (refine wpList_boxR rfl _ rfl rfl ?_; clear tk1; intro W1 b4 F1 r4; have B1 := Fresh.trans (Below.refl _ w) (Nat.le_refl _) F1)
    | (refine wpList_boxR rfl _ rfl rfl ?_; intro W2 b5 F2 r5; replace B1 := Fresh.trans B1 B1.size F2; replace r4 := r4.fresh F2))
  clear F1 F2
  have lift : ∀ {fn : Nat} {args : Array Value} {p : Int} {q : Nat → Nat}, Ans fn args p q → ∀ W', Below W2.heap.size W2 W' → Calls Tryd.prog fn args W' fun e w' => e = .returned (relv p q) ∧ Below W2.heap.size W2 w' := fun h W' hW => (h W' (hT.below (B1.trans (hW.mono B1.size)))).mono fun e w' ⟨he, hb⟩ => ⟨he, hW.trans (hb.mono hW.size)⟩
  have u1 := lift U1; have u2 := lift U2; have v1 := lift V1; have v2 := lift V2; have x1 := lift X1; have x2 := lift X2; have y1 := lift Y1; have y2 := lift Y2
  have i1 := lift I1; have i2 := lift I2; have n1 := lift N1; have n2 := lift N2; have r1 := lift R1; have r2 := lift R2
  have hr4 : ∀ W', Below W2.heap.size W2 W' → IsR W' b4 n f := fun W' h => r4.grown h
  have hr5 : ∀ W', Below W2.heap.size W2 W' → IsR W' b5 m g := fun W' h => r5.grown h
  have hqu := eqlR pu qu; have hqv := eqlR pv qv; have hqx := eqlR px qx; have hqy := eqlR py qy; have hqi := eqlR pi qi; have hqn := eqlR pn qn; have hqr := eqlR pr qr
  have hgg := eqGuardR .eql
  have HB : Hid (Below w.heap.size w W2) := B1
  clear U1 U2 V1 V2 X1 X2 Y1 Y2 I1 I2 N1 N2 R1 R2 lift r4 r5 B1
  refine wp_region_quiet_at (C := fun W' => Below W2.heap.size W2 W') (by kernel_rfl) (by kernel_rfl) ⟨rfl, rfl, rfl, Nat.le_refl _, fun _ _ => rfl⟩ ?_
  refine wpQuiet_loadR rfl _ rfl rfl hr4 ?_
  refine wpQuiet_loadR rfl _ rfl rfl hr5 ?_
  (refine wpQuiet_step (fun K hK => ?_); go_simp; refine ⟨_, u1, hK _ ?_⟩; clear hK K)
  refine wpQuiet_loadR rfl _ rfl rfl hr4 ?_
  refine wpQuiet_loadR rfl _ rfl rfl hr5 ?_
  (refine wpQuiet_step (fun K hK => ?_); go_simp; refine ⟨_, u2, hK _ ?_⟩; clear hK K)
  (refine wpQuiet_step (fun K hK => ?_); go_simp; first | (refine hK _ ?_; clear hK K) | (refine ⟨_, fun _ _ => rfl, hK _ ?_⟩; clear hK K))
  (refine wpQuiet_step (fun K hK => ?_); go_simp; first | (refine hK _ ?_; clear hK K) | (refine ⟨_, fun _ _ => rfl, hK _ ?_⟩; clear hK K))
  refine wpQuiet_loadR rfl _ rfl rfl hr4 ?_
  refine wpQuiet_loadR rfl _ rfl rfl hr5 ?_
  (refine wpQuiet_step (fun K hK => ?_); go_simp; refine ⟨_, v1, hK _ ?_⟩; clear hK K)
  refine wpQuiet_loadR rfl _ rfl rfl hr4 ?_
  refine wpQuiet_loadR rfl _ rfl rfl hr5 ?_
  (refine wpQuiet_step (fun K hK => ?_); go_simp; refine ⟨_, v2, hK _ ?_⟩; clear hK K)
  (refine wpQuiet_step (fun K hK => ?_); go_simp; first | (refine hK _ ?_; clear hK K) | (refine ⟨_, fun _ _ => rfl, hK _ ?_⟩; clear hK K))
  (refine wpQuiet_step (fun K hK => ?_); go_simp; first | (refine hK _ ?_; clear hK K) | (refine ⟨_, fun _ _ => rfl, hK _ ?_⟩; clear hK K))
  (refine wpQuiet_step (fun K hK => ?_); go_simp; first | (refine hK _ ?_; clear hK K) | (refine ⟨_, fun _ _ => rfl, hK _ ?_⟩; clear hK K))
  refine wpQuiet_loadR rfl _ rfl rfl hr4 ?_
  refine wpQuiet_loadR rfl _ rfl rfl hr5 ?_
  (refine wpQuiet_step (fun K hK => ?_); go_simp; refine ⟨_, x1, hK _ ?_⟩; clear hK K)
  refine wpQuiet_loadR rfl _ rfl rfl hr4 ?_
  refine wpQuiet_loadR rfl _ rfl rfl hr5 ?_
  (refine wpQuiet_step (fun K hK => ?_); go_simp; refine ⟨_, x2, hK _ ?_⟩; clear hK K)
  (refine wpQuiet_step (fun K hK => ?_); go_simp; first | (refine hK _ ?_; clear hK K) | (refine ⟨_, fun _ _ => rfl, hK _ ?_⟩; clear hK K))
  (refine wpQuiet_step (fun K hK => ?_); go_simp; first | (refine hK _ ?_; clear hK K) | (refine ⟨_, fun _ _ => rfl, hK _ ?_⟩; clear hK K))
  (refine wpQuiet_step (fun K hK => ?_); go_simp; first | (refine hK _ ?_; clear hK K) | (refine ⟨_, fun _ _ => rfl, hK _ ?_⟩; clear hK K))
  refine wpQuiet_loadR rfl _ rfl rfl hr4 ?_
  refine wpQuiet_loadR rfl _ rfl rfl hr5 ?_
  (refine wpQuiet_step (fun K hK => ?_); go_simp; refine ⟨_, y1, hK _ ?_⟩; clear hK K)
  refine wpQuiet_loadR rfl _ rfl rfl hr4 ?_
  refine wpQuiet_loadR rfl _ rfl rfl hr5 ?_
  (refine wpQuiet_step (fun K hK => ?_); go_simp; refine ⟨_, y2, hK _ ?_⟩; clear hK K)
  (refine wpQuiet_step (fun K hK => ?_); go_simp; first | (refine hK _ ?_; clear hK K) | (refine ⟨_, fun _ _ => rfl, hK _ ?_⟩; clear hK K))
  (refine wpQuiet_step (fun K hK => ?_); go_simp; first | (refine hK _ ?_; clear hK K) | (refine ⟨_, fun _ _ => rfl, hK _ ?_⟩; clear hK K))
  (refine wpQuiet_step (fun K hK => ?_); go_simp; first | (refine hK _ ?_; clear hK K) | (refine ⟨_, fun _ _ => rfl, hK _ ?_⟩; clear hK K))
  refine wpQuiet_loadR rfl _ rfl rfl hr4 ?_
  (refine wpQuiet_step (fun K hK => ?_); go_simp; refine ⟨_, i1, hK _ ?_⟩; clear hK K)
  refine wpQuiet_loadR rfl _ rfl rfl hr4 ?_
  (refine wpQuiet_step (fun K hK => ?_); go_simp; refine ⟨_, i2, hK _ ?_⟩; clear hK K)
  (refine wpQuiet_step (fun K hK => ?_); go_simp; first | (refine hK _ ?_; clear hK K) | (refine ⟨_, fun _ _ => rfl, hK _ ?_⟩; clear hK K))
  (refine wpQuiet_step (fun K hK => ?_); go_simp; first | (refine hK _ ?_; clear hK K) | (refine ⟨_, fun _ _ => rfl, hK _ ?_⟩; clear hK K))
  (refine wpQuiet_step (fun K hK => ?_); go_simp; first | (refine hK _ ?_; clear hK K) | (refine ⟨_, fun _ _ => rfl, hK _ ?_⟩; clear hK K))
  refine wpQuiet_loadR rfl _ rfl rfl hr4 ?_
  (refine wpQuiet_step (fun K hK => ?_); go_simp; refine ⟨_, n1, hK _ ?_⟩; clear hK K)
  refine wpQuiet_loadR rfl _ rfl rfl hr4 ?_
  (refine wpQuiet_step (fun K hK => ?_); go_simp; refine ⟨_, n2, hK _ ?_⟩; clear hK K)
  (refine wpQuiet_step (fun K hK => ?_); go_simp; first | (refine hK _ ?_; clear hK K) | (refine ⟨_, fun _ _ => rfl, hK _ ?_⟩; clear hK K))
  (refine wpQuiet_step (fun K hK => ?_); go_simp; first | (refine hK _ ?_; clear hK K) | (refine ⟨_, fun _ _ => rfl, hK _ ?_⟩; clear hK K))
  (refine wpQuiet_step (fun K hK => ?_); go_simp; first | (refine hK _ ?_; clear hK K) | (refine ⟨_, fun _ _ => rfl, hK _ ?_⟩; clear hK K))
  refine wpQuiet_loadR rfl _ rfl rfl hr4 ?_
  (refine wpQuiet_step (fun K hK => ?_); go_simp; first | (refine hK _ ?_; clear hK K) | (refine ⟨_, fun _ _ => rfl, hK _ ?_⟩; clear hK K))
  (refine wpQuiet_step (fun K hK => ?_); go_simp; first | (refine hK _ ?_; clear hK K) | (refine ⟨_, fun _ _ => rfl, hK _ ?_⟩; clear hK K))
  (refine wpQuiet_step (fun K hK => ?_); go_simp; refine ⟨_, r1, hK _ ?_⟩; clear hK K)
  refine wpQuiet_loadR rfl _ rfl rfl hr4 ?_
  (refine wpQuiet_step (fun K hK => ?_); go_simp; first | (refine hK _ ?_; clear hK K) | (refine ⟨_, fun _ _ => rfl, hK _ ?_⟩; clear hK K))
  (refine wpQuiet_step (fun K hK => ?_); go_simp; first | (refine hK _ ?_; clear hK K) | (refine ⟨_, fun _ _ => rfl, hK _ ?_⟩; clear hK K))
  (refine wpQuiet_step (fun K hK => ?_); go_simp; refine ⟨_, r2, hK _ ?_⟩; clear hK K)
  (refine wpQuiet_step (fun K hK => ?_); go_simp; first | (refine hK _ ?_; clear hK K) | (refine ⟨_, fun _ _ => rfl, hK _ ?_⟩; clear hK K))
  (refine wpQuiet_step (fun K hK => ?_); go_simp; first | (refine hK _ ?_; clear hK K) | (refine ⟨_, fun _ _ => rfl, hK _ ?_⟩; clear hK K))
  (refine wpQuiet_step (fun K hK => ?_); go_simp; first | (refine hK _ ?_; clear hK K) | (refine ⟨_, fun _ _ => rfl, hK _ ?_⟩; clear hK K))
  refine wpQuiet_nil ?_
  intro W8 hW8
  clear u1 u2 v1 v2 x1 x2 y1 y2 i1 i2 n1 n2 r1 r2 hr4 hr5
  go_wp2
  go_ret
  exact ⟨rfl, HB.out.trans (hW8.mono HB.out.size)⟩
end Go.Proofs.YtkccckjiemijeaaDoor

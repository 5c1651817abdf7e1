/- RelWalks: for every relation and all numbers it returns true: the walk of the law itself. -/
import Derived.Test.YtkccckjiemijeaaDoorX4
import Derived.Test.YtkccckjiemijeaaDoorL1
namespace Go.Proofs.YtkccckjiemijeaaDoor
open Go.RowKit M
set_option linter.unusedSimpArgs false
set_option linter.unusedVariables false

theorem prs_of_own {W : World} {base cap n : Nat} {a : Option Addr} {l : List (Int × Int)} (h : W.ownsRow base 29 2 (.slice a n cap) n (cellsE l)) (hn : l.length = n) (k : Nat) : Prs W a (l.take k) := by
  intro j hj
  rw [List.length_take] at hj
  rcases h.2 with ⟨hv, h0⟩ | ⟨g, cap', cur, hv, hb, hh, rest⟩
  · omega
  · cases hv
    have hg := cellsE_get l j (by omega)
    have hl := cellsE_len l
    refine ⟨g, 0, rfl, ?_, ?_⟩
    · rw [Nat.zero_add, h.cellAt (j * 2) (by omega), hg.1, List.getD_eq_getElem?_getD, List.getD_eq_getElem?_getD, List.getElem?_take]
      rw [if_pos (by omega)]
    · rw [Nat.zero_add, h.cellAt (j * 2 + 1) (by omega), hg.2, List.getD_eq_getElem?_getD, List.getD_eq_getElem?_getD, List.getElem?_take]
      rw [if_pos (by omega)]

theorem own_cap {W : World} {base e s n cap : Nat} {a : Option Addr} {xs : List Value} (h : W.ownsRow base e s (.slice a n cap) n xs) : n ≤ cap := by
  rcases h.2 with ⟨hv, h0⟩ | ⟨g, cap', cur, hv, _, _, hc, _⟩
  · omega
  · cases hv; exact hc
theorem toI_take (l : List (Nat × Nat)) (k : Nat) : (toI l).take k = toI (l.take k) := by simp [toI, List.map_take]
theorem same_pairs (a a' : Option Addr) (cap cap' n : Nat) (l : List (Nat × Nat)) (hn : (toI l).length = n) (W : World) (h1 : Prs W a (toI l)) (h2 : Prs W a' (toI l)) (hl : n ≤ 4096) :
    Calls Tryd.prog 14 #[.slice a n cap, .slice a' n cap'] W fun e w' => e = .returned (.bool true) ∧ Below W.heap.size W w' := by
  have := same_any a a' cap cap' (toI l) W h1 h2 (by omega)
  rw [hn] at this
  exact this.mono fun e w' ⟨he, m, hw⟩ => ⟨he, by rw [hw]; exact below_drewN (Below.refl _ _) m⟩

theorem equalFn (d : Nat) (fn : Fn) (cs lb : Array Value) (w : World) : (Op.equalIn (d + 1) 43 (.func fn cs lb) .nilFunc).run Tryd.prog w = .ok false w := by
  simp [Op.equalIn, run_underlying Tryd.underlying43]
theorem eqlFn (fn : Fn) (cs lb : Array Value) (w : World) : (binOp .eql 43 (.func fn cs lb) .nilFunc).run Tryd.prog w = .ok (.bool false) w := by
  have h := equalFn 9999 fn cs lb w
  simp only [binOp]
  simp [Op.equal, Op.maxDepth, h]

set_option maxRecDepth 1000000 in
set_option maxHeartbeats 4000000 in
theorem relWalks_walk (rn : Int) (rf : Nat → Nat) (a b most : Int) (w : World) (hrf : Wf rf) (hm : most < 9223372036854775808) (hT : TabAt w) :
    Calls Tryd.prog 4 #[relv rn rf, .int .i64 a, .int .i64 b, .int .i64 most] w fun e w' => e = .returned (.bool true) ∧ Below w.heap.size w w' := by
  obtain ⟨N, hN, hN64, hrt⟩ := n_right rn rf hrf
  have hgw : Hid (Wf (nF rn rf)) := nF_wf rn rf hrf
  have HEq := edgesL_right (nF rn rf) N hrt 64 hN64 (Nat.le_refl _)
  have hlen := edgesL_le (nF rn rf) N
  have c19 : Hid (∀ W, Calls Tryd.prog 19 #[relv rn rf] W fun e w' => ∃ b, e = .returned (.func (.func 73) #[] #[.pointer (some ⟨b, 0, none⟩)]) ∧ W.heap.size ≤ b ∧ IsR w' b N (nF rn rf) ∧ Below W.heap.size W w') := fun W => by
    have := edges_any rn rf W hrf
    rw [hN] at this; exact this
  have c20 : Hid (∀ W, Calls Tryd.prog 20 #[relv rn rf] W fun e w' => ∃ v, e = .returned v ∧ w'.ownsRow W.heap.size 29 2 v (edgesL N (nF rn rf)).length (cellsE (toI (edgesL N (nF rn rf)))) ∧ Below W.heap.size W w') := fun W => by
    have := redges_any rn rf W hrf
    rw [HEq] at this; exact this
  have c21 : Hid (∀ W, Calls Tryd.prog 21 #[relv rn rf] W fun e w' => e = .returned (.int .i64 ((edgesL N (nF rn rf)).length : Nat)) ∧ Below W.heap.size W w') := fun W => by
    have := count_any rn rf W hrf
    rw [HEq] at this; exact this
  have c22 : Hid (∀ W, Calls Tryd.prog 22 #[relv rn rf, .int .i64 a, .int .i64 b] W fun e w' => e = .returned (.bool (hasE N (nF rn rf) a b)) ∧ Below W.heap.size W w') := fun W => by
    have := has_rel rn rf a b W hrf
    rw [hN] at this; exact this
  have c24 : Hid (∀ W, Calls Tryd.prog 24 #[relv rn rf] W fun e w' => e = .returned (relv N (nF rn rf)) ∧ Below W.heap.size W w') := fun W => by
    have := rright_any rn rf W hrf
    rw [hN] at this; exact this
  have c23 : Hid (∀ W, Calls Tryd.prog 23 #[relv N (nF rn rf), .int .i64 a, .int .i64 b] W fun e w' => e = .returned (.bool (hasE N (nF rn rf) a b)) ∧ Below W.heap.size W w') := fun W => rhas_any N hN64 (nF rn rf) a b W hgw
  generalize nF rn rf = g at *
  clear hN hrt HEq
  have c25 : Hid (∀ (W : World) (bb m : Nat), IsR W bb N g → TabAt W → Calls Tryd.prog 25 #[.func (.func 73) #[] #[.pointer (some ⟨bb, 0, none⟩)], .int .i64 (m : Nat)] W fun e w' => ∃ v, e = .returned v ∧ w'.ownsRow W.heap.size 29 2 v ((edgesL N g).take m).length (cellsE (toI ((edgesL N g).take m))) ∧ Below W.heap.size W w') := fun W bb m h1 h2 => take_any bb N hN64 g hgw m W h1 h2
  generalize hasE N g a b = hb at *
  obtain ⟨L, hL⟩ : ∃ L, edgesL N g = L := ⟨_, rfl⟩
  rw [hL] at c20 c21 c25 hlen
  clear hL
  have hLl : L.length ≤ 4096 := by omega
  clear hlen
  have heqf := eqlFn
  go_enter Tryd.func4, Tryd.ntmps4
  go_wp2_with (first
    | (refine wpList_boxR rfl _ rfl rfl ?_; intro W1 b1 F1 r1; have B1 := Fresh.trans (Below.refl _ w) (Nat.le_refl _) F1)
    | (refine wpList_loadR rfl _ rfl rfl r1 ?_)
    | (go_at_call 19; refine (c19.out _).mono ?_; rintro e w2 ⟨bi, rfl, hbi, ri, hb2⟩; replace r1 := r1.grown hb2; replace B1 := B1.trans (hb2.mono B1.size))
    | (go_at_call 20; refine (c20.out _).mono ?_; rintro e w3 ⟨v3, rfl, own3, hb3⟩; obtain ⟨a3, cap3, rfl⟩ := own_form own3; replace r1 := r1.grown hb3; replace ri := ri.grown hb3; replace B1 := B1.trans (hb3.mono B1.size)))
  have E3 := own3
  have hr1 : ∀ W', Below w3.heap.size w3 W' → IsR W' b1 rn rf := fun W' h => r1.grown h
  have h21 : ∀ W', Below w3.heap.size w3 W' → Calls Tryd.prog 21 #[relv rn rf] W' fun e w' => e = .returned (.int .i64 (L.length : Nat)) ∧ Below w3.heap.size w3 w' := fun W' h => (c21.out W').mono fun e w' ⟨he, hb⟩ => ⟨he, h.trans (hb.mono h.size)⟩
  have h22 : ∀ W', Below w3.heap.size w3 W' → Calls Tryd.prog 22 #[relv rn rf, .int .i64 a, .int .i64 b] W' fun e w' => e = .returned (.bool hb) ∧ Below w3.heap.size w3 w' := fun W' h => (c22.out W').mono fun e w' ⟨he, hb⟩ => ⟨he, h.trans (hb.mono h.size)⟩
  have h24 : ∀ W', Below w3.heap.size w3 W' → Calls Tryd.prog 24 #[relv rn rf] W' fun e w' => e = .returned (relv N g) ∧ Below w3.heap.size w3 w' := fun W' h => (c24.out W').mono fun e w' ⟨he, hb⟩ => ⟨he, h.trans (hb.mono h.size)⟩
  have h23 : ∀ W', Below w3.heap.size w3 W' → Calls Tryd.prog 23 #[relv N g, .int .i64 a, .int .i64 b] W' fun e w' => e = .returned (.bool hb) ∧ Below w3.heap.size w3 w' := fun W' h => (c23.out W').mono fun e w' ⟨he, hb⟩ => ⟨he, h.trans (hb.mono h.size)⟩
  have HE : Hid (Below w.heap.size w w3) := B1
  have HT : Hid (TabAt w3) := hT.below B1
  have HI : Hid (IsR w3 bi N g) := ri
  have HO : Hid (w3.ownsRow w2.heap.size 29 2 (.slice a3 L.length cap3) L.length (cellsE (toI L))) := own3
  clear c19 c20 c21 c22 c23 c24 B1 hT ri own3 E3 r1 hb2 hb3 F1 hbi hrf heqf
  refine wp_region_quiet_at (C := fun W' => Below w3.heap.size w3 W') (by kernel_rfl) (by kernel_rfl) ⟨rfl, rfl, rfl, Nat.le_refl _, fun _ _ => rfl⟩ ?_
  refine wpQuiet_loadR rfl _ rfl rfl hr1 ?_
  (refine wpQuiet_step (fun K hK => ?_); go_simp; refine ⟨_, h21, hK _ ?_⟩; clear hK K)
  (refine wpQuiet_step (fun K hK => ?_); go_simp; first | (refine hK _ ?_; clear hK K) | (refine ⟨_, fun _ _ => rfl, hK _ ?_⟩; clear hK K))
  (refine wpQuiet_step (fun K hK => ?_); go_simp; first | (refine hK _ ?_; clear hK K) | (refine ⟨_, fun _ _ => rfl, hK _ ?_⟩; clear hK K))
  (refine wpQuiet_step (fun K hK => ?_); go_simp; first | (refine hK _ ?_; clear hK K) | (refine ⟨_, fun _ _ => rfl, hK _ ?_⟩; clear hK K))
  (refine wpQuiet_step (fun K hK => ?_); go_simp; first | (refine hK _ ?_; clear hK K) | (refine ⟨_, fun _ _ => rfl, hK _ ?_⟩; clear hK K))
  refine wpQuiet_loadR rfl _ rfl rfl hr1 ?_
  (refine wpQuiet_step (fun K hK => ?_); go_simp; first | (refine hK _ ?_; clear hK K) | (refine ⟨_, fun _ _ => rfl, hK _ ?_⟩; clear hK K))
  (refine wpQuiet_step (fun K hK => ?_); go_simp; first | (refine hK _ ?_; clear hK K) | (refine ⟨_, fun _ _ => rfl, hK _ ?_⟩; clear hK K))
  (refine wpQuiet_step (fun K hK => ?_); go_simp; refine ⟨_, h22, hK _ ?_⟩; clear hK K)
  refine wpQuiet_loadR rfl _ rfl rfl hr1 ?_
  (refine wpQuiet_step (fun K hK => ?_); go_simp; refine ⟨_, h24, hK _ ?_⟩; clear hK K)
  (refine wpQuiet_step (fun K hK => ?_); go_simp; first | (refine hK _ ?_; clear hK K) | (refine ⟨_, fun _ _ => rfl, hK _ ?_⟩; clear hK K))
  (refine wpQuiet_step (fun K hK => ?_); go_simp; first | (refine hK _ ?_; clear hK K) | (refine ⟨_, fun _ _ => rfl, hK _ ?_⟩; clear hK K))
  (refine wpQuiet_step (fun K hK => ?_); go_simp; refine ⟨_, h23, hK _ ?_⟩; clear hK K)
  (refine wpQuiet_step (fun K hK => ?_); go_simp; first | (refine hK _ ?_; clear hK K) | (refine ⟨_, fun _ _ => rfl, hK _ ?_⟩; clear hK K))
  (refine wpQuiet_step (fun K hK => ?_); go_simp; first | (refine hK _ ?_; clear hK K) | (refine ⟨_, fun _ _ => rfl, hK _ ?_⟩; clear hK K))
  refine wpQuiet_nil ?_
  intro W8 hW8
  have HB := HE.out.trans (hW8.mono HE.out.size)
  have tT := HT.out.below hW8
  have iR := HI.out.grown hW8
  have o3 := own_below HO.out hW8
  clear hr1 h21 h22 h23 h24 HE HT HI HO hW8
  obtain ⟨M, hM⟩ : ∃ M : Nat, (if 0 < most then most else 0) = (M : Int) := ⟨(if 0 < most then most else 0).toNat, by split <;> omega⟩
  have c25a := c25.out W8 bi M iR tT
  have c25b : Hid (∀ W, IsR W bi N g → TabAt W → Calls Tryd.prog 25 #[.func (.func 73) #[] #[.pointer (some ⟨bi, 0, none⟩)], .int .i64 5000] W fun e w' => ∃ v, e = .returned v ∧ w'.ownsRow W.heap.size 29 2 v L.length (cellsE (toI L)) ∧ Below W.heap.size W w') := fun W h1 h2 => by
    have := c25.out W bi 5000 h1 h2
    rw [List.take_of_length_le (by omega)] at this
    exact this
  clear c25
  have tk : True := trivial
  by_cases hML : M < L.length
  · have hK : (toI (L.take M)).length = M := by rw [toI_len, List.length_take]; omega
    have hcap := own_cap o3
    have hcap2 : M ≤ cap3 := by omega
    have hKl : M ≤ 4096 := by omega
    have hLt : (toI L).length = L.length := toI_len L
    have hMi : (M : Int) < (L.length : Int) := by omega
    rw [show (L.take M).length = M by rw [← toI_len]; exact hK] at c25a
    have HPA : Hid (∀ W, W.ownsRow w2.heap.size 29 2 (.slice a3 L.length cap3) L.length (cellsE (toI L)) → Prs W a3 (toI (L.take M)) ∧ Prs W a3 (toI L)) := fun W h => by
      have h1 := prs_of_own h hLt M
      have h2 := prs_of_own h hLt L.length
      rw [toI_take] at h1 h2
      rw [List.take_length] at h2
      exact ⟨h1, h2⟩
    have HPB : Hid (∀ (W : World) (B : Nat) a cap, W.ownsRow B 29 2 (.slice a M cap) M (cellsE (toI (L.take M))) → Prs W a (toI (L.take M))) := fun W B a cap h => by
      have h1 := prs_of_own h hK M
      rw [List.take_of_length_le (by omega)] at h1
      exact h1
    have HPC : Hid (∀ (W : World) (B : Nat) a cap, W.ownsRow B 29 2 (.slice a L.length cap) L.length (cellsE (toI L)) → Prs W a (toI L)) := fun W B a cap h => by
      have h1 := prs_of_own h hLt L.length
      rw [toI_take, List.take_length] at h1
      exact h1
    have HK : Hid ((toI (L.take M)).length = M) := hK
    have HLt : Hid ((toI L).length = L.length) := hLt
    clear hK hLt
    go_wp2_with (first
      | (go_at_call 25; clear tk; refine c25a.mono ?_; rintro e w4 ⟨v4, rfl, o4, hb4⟩; obtain ⟨a4, cap4, rfl⟩ := own_form o4; replace iR := iR.grown hb4; replace tT := tT.below hb4; replace o3 := own_below o3 hb4; replace HB := HB.trans (hb4.mono HB.size))
      | (go_at_call 25; refine (c25b.out _ iR tT).mono ?_; rintro e w5 ⟨v5, rfl, o5, hb5⟩; obtain ⟨a5, cap5, rfl⟩ := own_form o5; replace o3 := own_below o3 hb5; replace o4 := own_below o4 hb5; replace HB := HB.trans (hb5.mono HB.size); have P3 := HPA.out _ o3; have P4 := HPB.out _ _ _ _ o4; have P5 := HPC.out _ _ _ _ o5; clear o3 o4 o5; have c14a := same_pairs a4 a3 cap4 cap3 M (L.take M) HK.out w5 P4 P3.1 hKl; have c14b : Hid (∀ W, Below w5.heap.size w5 W → Calls Tryd.prog 14 #[.slice a5 L.length cap5, .slice a3 L.length cap3] W fun e w' => e = .returned (.bool true) ∧ Below W.heap.size W w') := (fun W h => same_pairs a5 a3 cap5 cap3 L.length L HLt.out W (P5.below h) (P3.2.below h) hLl); clear P3 P4 P5; have tk2 : True := trivial)
      | (go_at_call 14; clear tk2; refine c14a.mono ?_; rintro e w6 ⟨rfl, hb6⟩; replace HB := HB.trans (hb6.mono HB.size))
      | (go_at_call 14; refine (c14b.out _ hb6).mono ?_; rintro e w7 ⟨rfl, hb7⟩; replace HB := HB.trans (hb7.mono HB.size)))
    go_ret
    exact ⟨rfl, HB⟩
  · have hK : (toI (L.take M)).length = L.length := by rw [toI_len, List.length_take]; omega
    have hcap := own_cap o3
    have hcap2 : L.length ≤ cap3 := by omega
    have hKl : L.length ≤ 4096 := by omega
    have hLt : (toI L).length = L.length := toI_len L
    have hMi : ¬ (M : Int) < (L.length : Int) := by omega
    have hMj : (L.length : Int) ≤ (M : Int) := by omega
    rw [show (L.take M).length = L.length by rw [← toI_len]; exact hK] at c25a
    have HPA : Hid (∀ W, W.ownsRow w2.heap.size 29 2 (.slice a3 L.length cap3) L.length (cellsE (toI L)) → Prs W a3 (toI (L.take M)) ∧ Prs W a3 (toI L)) := fun W h => by
      have h1 := prs_of_own h hLt M
      have h2 := prs_of_own h hLt L.length
      rw [toI_take] at h1 h2
      rw [List.take_length] at h2
      exact ⟨h1, h2⟩
    have HPB : Hid (∀ (W : World) (B : Nat) a cap, W.ownsRow B 29 2 (.slice a L.length cap) L.length (cellsE (toI (L.take M))) → Prs W a (toI (L.take M))) := fun W B a cap h => by
      have h1 := prs_of_own h hK L.length
      rw [List.take_of_length_le (by omega)] at h1
      exact h1
    have HPC : Hid (∀ (W : World) (B : Nat) a cap, W.ownsRow B 29 2 (.slice a L.length cap) L.length (cellsE (toI L)) → Prs W a (toI L)) := fun W B a cap h => by
      have h1 := prs_of_own h hLt L.length
      rw [toI_take, List.take_length] at h1
      exact h1
    have HK : Hid ((toI (L.take M)).length = L.length) := hK
    have HLt : Hid ((toI L).length = L.length) := hLt
    clear hK hLt
    go_wp2_with (first
      | (go_at_call 25; clear tk; refine c25a.mono ?_; rintro e w4 ⟨v4, rfl, o4, hb4⟩; obtain ⟨a4, cap4, rfl⟩ := own_form o4; replace iR := iR.grown hb4; replace tT := tT.below hb4; replace o3 := own_below o3 hb4; replace HB := HB.trans (hb4.mono HB.size))
      | (go_at_call 25; refine (c25b.out _ iR tT).mono ?_; rintro e w5 ⟨v5, rfl, o5, hb5⟩; obtain ⟨a5, cap5, rfl⟩ := own_form o5; replace o3 := own_below o3 hb5; replace o4 := own_below o4 hb5; replace HB := HB.trans (hb5.mono HB.size); have P3 := HPA.out _ o3; have P4 := HPB.out _ _ _ _ o4; have P5 := HPC.out _ _ _ _ o5; clear o3 o4 o5; have c14a := same_pairs a4 a3 cap4 cap3 L.length (L.take M) HK.out w5 P4 P3.1 hKl; have c14b : Hid (∀ W, Below w5.heap.size w5 W → Calls Tryd.prog 14 #[.slice a5 L.length cap5, .slice a3 L.length cap3] W fun e w' => e = .returned (.bool true) ∧ Below W.heap.size W w') := (fun W h => same_pairs a5 a3 cap5 cap3 L.length L HLt.out W (P5.below h) (P3.2.below h) hLl); clear P3 P4 P5; have tk2 : True := trivial)
      | (go_at_call 14; clear tk2; refine c14a.mono ?_; rintro e w6 ⟨rfl, hb6⟩; replace HB := HB.trans (hb6.mono HB.size))
      | (go_at_call 14; refine (c14b.out _ hb6).mono ?_; rintro e w7 ⟨rfl, hb7⟩; replace HB := HB.trans (hb7.mono HB.size)))
    go_ret
    exact ⟨rfl, HB⟩
end Go.Proofs.YtkccckjiemijeaaDoor

/- RelLeast: for every two relations the law returns true. -/
import Derived.Test.YtkccckjiemijeabDoorV3
namespace Go.Proofs.YtkccckjiemijeabDoor
open Go.RowKit Go.Shelf M P
set_option linter.unusedSimpArgs false
set_option linter.unusedVariables false

set_option maxRecDepth 100000 in
set_option maxHeartbeats 4000000 in
theorem relLeast_right (N : Nat) (F G : Nat → Nat) (w : World) (hN : N ≤ 64) (hF : Right N F) (hG : Right N G) (hT : TabAt w) :
    Calls Tryd.prog 4 #[relv N F, relv N G] w fun e w' => e = .returned (.bool true) ∧ Below w.heap.size w w' := by
  have a8 : Hid (AnsV 8 #[] (.bool true)) := works_any
  have a10f : Hid (∀ W, Calls Tryd.prog 10 #[relv N F] W fun e w' => e = .returned (.int .i64 0) ∧ Below W.heap.size W w') := fun W => by
    have := check_any N F W hF.wf
    unfold checkN at this
    rwa [if_pos (right_is hF hN)] at this
  have a10g : Hid (∀ W, Calls Tryd.prog 10 #[relv N G] W fun e w' => e = .returned (.int .i64 0) ∧ Below W.heap.size W w') := fun W => by
    have := check_any N G W hG.wf
    unfold checkN at this
    rwa [if_pos (right_is hG hN)] at this
  have a9 : Hid (∀ W, Calls Tryd.prog 9 #[.int .i64 0] W fun e w' => e = .returned (.int .i64 0) ∧ w' = W) := fun W => num_any 0 W
  have hP := right_wsh hN hF N (Nat.le_refl _)
  have hV := right_or hF hG
  have hU := right_wsh hN hV N (Nat.le_refl _)
  have tP := wsh_tr hN hF
  have a22 : AnsV 22 #[relv N F] (relv N (wsh F N)) := plus_R hN hF
  have a23p : AnsV 23 #[relv N (wsh F N)] (.bool true) := by
    have := trans_R hN hP
    rwa [(tra_iff hN hP).2 tP] at this
  have a13a : AnsV 13 #[relv N (wsh F N), relv N F] (relv N (wsh F N)) := union_same hN hP hF (wsh_ge hN hF)
  have a22b : AnsV 22 #[relv N (wsh F N)] (relv N (wsh F N)) := plus_same hN hP tP
  have a24 : AnsV 24 #[relv N F] (relv N (opF orN (wsh F N) (idF N))) := star_R hN hF
  have a25 : AnsV 25 #[relv N (wsh F N)] (relv N (opF orN (wsh F N) (idF N))) := opt_R hN hP
  have a24b : AnsV 24 #[relv N (opF orN (wsh F N) (idF N))] (relv N (opF orN (wsh F N) (idF N))) := star_star hN hF
  have a13b : AnsV 13 #[relv N F, relv N G] (relv N (opF orN F G)) := union_R hN hF hG
  have a22c : AnsV 22 #[relv N (opF orN F G)] (relv N (wsh (opF orN F G) N)) := plus_R hN hV
  have a13c : AnsV 13 #[relv N (wsh (opF orN F G) N), relv N (wsh F N)] (relv N (wsh (opF orN F G) N)) :=
    union_same hN hU hP (fun a b ha hb => wsh_le hN hF (wsh_tr hN hV) hU (fun a b ha hb => wsh_ge hN hV a b ha ((or_bits F G a b).2 (Or.inl hb))) a b ha hb)
  have a23s : AnsV 23 #[relv N G] (.bool (tra N G)) := trans_R hN hG
  have a13d : AnsV 13 #[relv N G, relv N F] (relv N (opF orN G F)) := union_R hN hG hF
  have a13e : Hid (tra N G = true → rowsEq (opF orN G F) G = true → AnsV 13 #[relv N G, relv N F] (relv N G) ∧ AnsV 13 #[relv N G, relv N (wsh F N)] (relv N G)) := fun ht hc => by
    have hle : ∀ a b, a < 64 → Bt F a b → Bt G a b := fun a b ha hb => by
      have := (rowsEq_iff _ _).1 hc a ha
      have h2 : Bt (opF orN G F) a b := (or_bits G F a b).2 (Or.inr hb)
      unfold Bt at h2 ⊢
      rwa [this] at h2
    exact ⟨union_same hN hG hF hle, union_same hN hG hP (fun a b ha hb => wsh_le hN hF ((tra_iff hN hG).1 ht) hG hle a b ha hb)⟩
  generalize opF orN (wsh F N) (idF N) = S at *
  generalize wsh (opF orN F G) N = U at *
  generalize opF orN F G = V at *
  generalize wsh F N = Pp at *
  generalize opF orN G F = Xd at *
  clear hP hV hU tP hF hG
  have tk1 : True := trivial
  have tk2 : True := trivial
  have tk3 : True := trivial
  go_enter Tryd.func4, Tryd.ntmps4
  go_wp2_with (first
    | (refine wpList_boxR rfl _ rfl rfl ?_; clear tk1; intro W1 b2 F1 r2; have B1 := Fresh.trans (Below.refl _ w) (Nat.le_refl _) F1; have hb2 : w.heap.size ≤ b2 := (by rw [F1.at']; exact Nat.le_refl _); clear F1)
    | (refine wpList_boxR rfl _ rfl rfl ?_; intro W2 b3 F2 r3; have hb3 : w.heap.size ≤ b3 := (by rw [F2.at']; exact B1.size); have h23 : b2 < b3 := (by rw [F2.at']; exact r2.lt); replace B1 := Fresh.trans B1 B1.size F2; replace r2 := r2.fresh F2; clear F2)
    | (go_at_call 8; refine (a8.out _ (hT.below B1)).mono ?_; rintro e w' ⟨rfl, hw'⟩; replace r2 := r2.grown hw'; replace r3 := r3.grown hw'; replace B1 := B1.trans (hw'.mono B1.size); clear hw')
    | (refine wpList_loadR rfl _ rfl rfl r2 ?_)
    | (refine wpList_loadRg rfl _ rfl rfl r3 ?_)
    | (go_at_call 10; clear tk2; refine (a10f.out _).mono ?_; rintro e w' ⟨rfl, hw'⟩; replace r2 := r2.grown hw'; replace r3 := r3.grown hw'; replace B1 := B1.trans (hw'.mono B1.size); clear hw')
    | (go_at_call 10; refine (a10g.out _).mono ?_; rintro e w' ⟨rfl, hw'⟩; replace r2 := r2.grown hw'; replace r3 := r3.grown hw'; replace B1 := B1.trans (hw'.mono B1.size); clear hw'; have cn2 := r2.n; have cn3 := r3.n)
    | (go_at_call 9; refine (a9.out _).mono ?_; rintro e w' ⟨rfl, hw'⟩; replace hw' := hw'.symm; subst hw')
    | (go_at_call 22; refine (a22 _ (hT.below B1)).mono ?_; rintro e w' ⟨rfl, hw'⟩; replace r2 := r2.grown hw'; replace r3 := r3.grown hw'; replace B1 := B1.trans (hw'.mono B1.size); clear hw' cn2 cn3)
    | (refine wpList_allocR rfl rfl ?_; intro W5 b5 F5 r5; have hb5 : w.heap.size ≤ b5 := (by rw [F5.at']; exact B1.size); have h25 : b2 ≠ b5 := (by rw [F5.at']; have := r2.lt; omega); have h35 : b3 ≠ b5 := (by rw [F5.at']; have := r3.lt; omega); replace B1 := Fresh.trans B1 B1.size F5; replace r2 := r2.fresh F5; replace r3 := r3.fresh F5; clear F5)
    | (refine wpList_storeR rfl _ _ rfl rfl rfl r5 ?_; intro W6 U6 q5; replace B1 := U6.trans B1 hb5; replace r2 := r2.upd U6 h25; replace r3 := r3.upd U6 h35; clear U6 r5; have r5 := q5; clear q5))
  have tW := hT.below B1
  refine grow_all (by kernel_rfl) (by kernel_rfl) ?_
  refine wpG_loadR rfl _ rfl rfl r5 ?_
  refine wpG_call tW rfl a23p (fun w => by first | rfl | (go_simp; done)) ?_
  refine wpG_put rfl (v := .bool false) (fun w => by first | rfl | (go_simp; done)) ?_
  try simp only [Act.put, List.setIfInBounds_toArray, List.set_cons_succ, List.set_cons_zero]
  refine wpG_put rfl (v := .bool false) (fun w => by first | rfl | (go_simp; done)) ?_
  refine wpG_loadR rfl _ rfl rfl r5 ?_
  refine wpG_loadR rfl _ rfl rfl r2 ?_
  try simp only [Act.put, List.setIfInBounds_toArray, List.set_cons_succ, List.set_cons_zero]
  refine wpG_call tW rfl a13a (fun w => by first | rfl | (go_simp; done)) ?_
  refine wpG_loadR rfl _ rfl rfl r5 ?_
  refine wpG_neRR rfl _ _ rfl rfl rfl ?_
  try simp only [Act.put, List.setIfInBounds_toArray, List.set_cons_succ, List.set_cons_zero]
  refine wpG_put rfl (v := .bool false) (fun w => by first | rfl | (go_simp; done)) ?_
  refine wpG_put rfl (v := .bool false) (fun w => by first | rfl | (go_simp; done)) ?_
  refine wpG_loadR rfl _ rfl rfl r5 ?_
  try simp only [Act.put, List.setIfInBounds_toArray, List.set_cons_succ, List.set_cons_zero]
  refine wpG_call tW rfl a22b (fun w => by first | rfl | (go_simp; done)) ?_
  refine wpG_loadR rfl _ rfl rfl r5 ?_
  refine wpG_neRR rfl _ _ rfl rfl rfl ?_
  try simp only [Act.put, List.setIfInBounds_toArray, List.set_cons_succ, List.set_cons_zero]
  refine wpG_put rfl (v := .bool false) (fun w => by first | rfl | (go_simp; done)) ?_
  refine wpG_put rfl (v := .bool false) (fun w => by first | rfl | (go_simp; done)) ?_
  refine wpG_loadR rfl _ rfl rfl r2 ?_
  try simp only [Act.put, List.setIfInBounds_toArray, List.set_cons_succ, List.set_cons_zero]
  refine wpG_call tW rfl a24 (fun w => by first | rfl | (go_simp; done)) ?_
  refine wpG_loadR rfl _ rfl rfl r5 ?_
  refine wpG_call tW rfl a25 (fun w => by first | rfl | (go_simp; done)) ?_
  try simp only [Act.put, List.setIfInBounds_toArray, List.set_cons_succ, List.set_cons_zero]
  refine wpG_neRR rfl _ _ rfl rfl rfl ?_
  refine wpG_put rfl (v := .bool false) (fun w => by first | rfl | (go_simp; done)) ?_
  refine wpG_put rfl (v := .bool false) (fun w => by first | rfl | (go_simp; done)) ?_
  try simp only [Act.put, List.setIfInBounds_toArray, List.set_cons_succ, List.set_cons_zero]
  refine wpG_loadR rfl _ rfl rfl r2 ?_
  refine wpG_call tW rfl a24 (fun w => by first | rfl | (go_simp; done)) ?_
  refine wpG_call tW rfl a24b (fun w => by first | rfl | (go_simp; done)) ?_
  try simp only [Act.put, List.setIfInBounds_toArray, List.set_cons_succ, List.set_cons_zero]
  refine wpG_loadR rfl _ rfl rfl r2 ?_
  refine wpG_call tW rfl a24 (fun w => by first | rfl | (go_simp; done)) ?_
  refine wpG_neRR rfl _ _ rfl rfl rfl ?_
  try simp only [Act.put, List.setIfInBounds_toArray, List.set_cons_succ, List.set_cons_zero]
  refine wpG_put rfl (v := .bool false) (fun w => by first | rfl | (go_simp; done)) ?_
  try simp only [Act.put, List.setIfInBounds_toArray, List.set_cons_succ, List.set_cons_zero]

  refine wpG_nil ?_
  intro W7 hW7
  try simp only [Act.put, List.setIfInBounds_toArray, List.set_cons_succ, List.set_cons_zero]
  replace r2 := r2.grown hW7
  replace r3 := r3.grown hW7
  replace r5 := r5.grown hW7
  replace B1 := B1.trans (hW7.mono B1.size)
  clear hW7 tW a23p a13a a22b a24 a25 a24b
  go_wp2_with (first
    | (refine wpList_loadR rfl _ rfl rfl r2 ?_)
    | (refine wpList_loadR rfl _ rfl rfl r3 ?_)
    | (go_at_call 13; refine (a13b _ (hT.below B1)).mono ?_; rintro e w' ⟨rfl, hw'⟩; replace r2 := r2.grown hw'; replace r3 := r3.grown hw'; replace r5 := r5.grown hw'; replace B1 := B1.trans (hw'.mono B1.size); clear hw')
    | (go_at_call 22; refine (a22c _ (hT.below B1)).mono ?_; rintro e w' ⟨rfl, hw'⟩; replace r2 := r2.grown hw'; replace r3 := r3.grown hw'; replace r5 := r5.grown hw'; replace B1 := B1.trans (hw'.mono B1.size); clear hw')
    | (refine wpList_allocR rfl rfl ?_; intro W8 b6 F8 r6; have hb6 : w.heap.size ≤ b6 := (by rw [F8.at']; exact B1.size); have h26 : b2 ≠ b6 := (by rw [F8.at']; have := r2.lt; omega); have h36 : b3 ≠ b6 := (by rw [F8.at']; have := r3.lt; omega); have h56 : b5 ≠ b6 := (by rw [F8.at']; have := r5.lt; omega); replace B1 := Fresh.trans B1 B1.size F8; replace r2 := r2.fresh F8; replace r3 := r3.fresh F8; replace r5 := r5.fresh F8; clear F8)
    | (refine wpList_storeR rfl _ _ rfl rfl rfl r6 ?_; intro W9 U9 q6; replace B1 := U9.trans B1 hb6; replace r2 := r2.upd U9 h26; replace r3 := r3.upd U9 h36; replace r5 := r5.upd U9 h56; clear U9 r6; have r6 := q6; clear q6))
  have tW := hT.below B1
  refine grow_all (by kernel_rfl) (by kernel_rfl) ?_
  refine wpG_loadR rfl _ rfl rfl r6 ?_
  refine wpG_loadR rfl _ rfl rfl r5 ?_
  refine wpG_call tW rfl a13c (fun w => by first | rfl | (go_simp; done)) ?_
  try simp only [Act.put, List.setIfInBounds_toArray, List.set_cons_succ, List.set_cons_zero]
  refine wpG_loadR rfl _ rfl rfl r6 ?_
  refine wpG_neRR rfl _ _ rfl rfl rfl ?_
  try simp only [Act.put, List.setIfInBounds_toArray, List.set_cons_succ, List.set_cons_zero]

  refine wpG_nil ?_
  intro W10 hW10
  try simp only [Act.put, List.setIfInBounds_toArray, List.set_cons_succ, List.set_cons_zero]
  replace r2 := r2.grown hW10
  replace r3 := r3.grown hW10
  replace r5 := r5.grown hW10
  replace r6 := r6.grown hW10
  replace B1 := B1.trans (hW10.mono B1.size)
  clear hW10 tW a13b a22c a13c a22
  have tW := hT.below B1
  go_wp2_with fail
  refine grow_all (by kernel_rfl) (by kernel_rfl) ?_
  cases ht : tra N G
  · rw [ht] at a23s
    clear a13e
    refine wpG_loadR rfl _ rfl rfl r3 ?_
    try simp only [Act.put, List.setIfInBounds_toArray, List.set_cons_succ, List.set_cons_zero]
    refine wpG_call tW rfl a23s (fun w => by first | rfl | (go_simp; done)) ?_
    try simp only [Act.put, List.setIfInBounds_toArray, List.set_cons_succ, List.set_cons_zero]
    refine wpG_put rfl (v := .bool true) (fun w => by first | rfl | (go_simp; done)) ?_
    try simp only [Act.put, List.setIfInBounds_toArray, List.set_cons_succ, List.set_cons_zero]
    refine wpG_put rfl (v := .bool true) (fun w => by first | rfl | (go_simp; done)) ?_
    try simp only [Act.put, List.setIfInBounds_toArray, List.set_cons_succ, List.set_cons_zero]
    refine wpG_skip rfl ?_
    try simp only [Act.put, List.setIfInBounds_toArray, List.set_cons_succ, List.set_cons_zero]
    refine wpG_skip rfl ?_
    try simp only [Act.put, List.setIfInBounds_toArray, List.set_cons_succ, List.set_cons_zero]
    refine wpG_skip rfl ?_
    try simp only [Act.put, List.setIfInBounds_toArray, List.set_cons_succ, List.set_cons_zero]
    refine wpG_skip rfl ?_
    try simp only [Act.put, List.setIfInBounds_toArray, List.set_cons_succ, List.set_cons_zero]
    refine wpG_skip rfl ?_
    try simp only [Act.put, List.setIfInBounds_toArray, List.set_cons_succ, List.set_cons_zero]
    refine wpG_put rfl (v := .bool true) (fun w => by first | rfl | (go_simp; done)) ?_
    try simp only [Act.put, List.setIfInBounds_toArray, List.set_cons_succ, List.set_cons_zero]
    refine wpG_put rfl (v := .bool true) (fun w => by first | rfl | (go_simp; done)) ?_
    try simp only [Act.put, List.setIfInBounds_toArray, List.set_cons_succ, List.set_cons_zero]
    refine wpG_skip rfl ?_
    try simp only [Act.put, List.setIfInBounds_toArray, List.set_cons_succ, List.set_cons_zero]
    refine wpG_skip rfl ?_
    try simp only [Act.put, List.setIfInBounds_toArray, List.set_cons_succ, List.set_cons_zero]
    refine wpG_skip rfl ?_
    try simp only [Act.put, List.setIfInBounds_toArray, List.set_cons_succ, List.set_cons_zero]
    refine wpG_skip rfl ?_
    try simp only [Act.put, List.setIfInBounds_toArray, List.set_cons_succ, List.set_cons_zero]
    refine wpG_skip rfl ?_
    try simp only [Act.put, List.setIfInBounds_toArray, List.set_cons_succ, List.set_cons_zero]
    refine wpG_put rfl (v := .bool true) (fun w => by first | rfl | (go_simp; done)) ?_
    try simp only [Act.put, List.setIfInBounds_toArray, List.set_cons_succ, List.set_cons_zero]
    refine wpG_put rfl (v := .bool true) (fun w => by first | rfl | (go_simp; done)) ?_
    try simp only [Act.put, List.setIfInBounds_toArray, List.set_cons_succ, List.set_cons_zero]
    refine wpG_nil ?_
    intro W12 hW12
    try simp only [Act.put, List.setIfInBounds_toArray, List.set_cons_succ, List.set_cons_zero]
    have B12 := B1.trans (hW12.mono B1.size)
    clear r2 r3 r5 r6 B1 hW12 tW
    go_wp2
    go_ret
    exact ⟨rfl, B12⟩
  · rw [ht] at a23s
    cases hc : rowsEq Xd G
    · have hcon : rowsEq Xd G = false := hc
      clear a13e hc
      refine wpG_loadR rfl _ rfl rfl r3 ?_
      try simp only [Act.put, List.setIfInBounds_toArray, List.set_cons_succ, List.set_cons_zero]
      refine wpG_call tW rfl a23s (fun w => by first | rfl | (go_simp; done)) ?_
      try simp only [Act.put, List.setIfInBounds_toArray, List.set_cons_succ, List.set_cons_zero]
      refine wpG_put rfl (v := .bool false) (fun w => by first | rfl | (go_simp; done)) ?_
      try simp only [Act.put, List.setIfInBounds_toArray, List.set_cons_succ, List.set_cons_zero]
      refine wpG_put rfl (v := .bool false) (fun w => by first | rfl | (go_simp; done)) ?_
      try simp only [Act.put, List.setIfInBounds_toArray, List.set_cons_succ, List.set_cons_zero]
      refine wpG_loadR rfl _ rfl rfl r3 ?_
      try simp only [Act.put, List.setIfInBounds_toArray, List.set_cons_succ, List.set_cons_zero]
      refine wpG_loadR rfl _ rfl rfl r2 ?_
      try simp only [Act.put, List.setIfInBounds_toArray, List.set_cons_succ, List.set_cons_zero]
      refine wpG_call tW rfl a13d (fun w => by first | rfl | (go_simp; done)) ?_
      try simp only [Act.put, List.setIfInBounds_toArray, List.set_cons_succ, List.set_cons_zero]
      refine wpG_loadR rfl _ rfl rfl r3 ?_
      try simp only [Act.put, List.setIfInBounds_toArray, List.set_cons_succ, List.set_cons_zero]
      refine wpG_neR rfl _ _ rfl rfl rfl ?_
      rw [hcon, Bool.not_false]
      try simp only [Act.put, List.setIfInBounds_toArray, List.set_cons_succ, List.set_cons_zero]
      refine wpG_put rfl (v := .bool true) (fun w => by first | rfl | (go_simp; done)) ?_
      try simp only [Act.put, List.setIfInBounds_toArray, List.set_cons_succ, List.set_cons_zero]
      refine wpG_put rfl (v := .bool true) (fun w => by first | rfl | (go_simp; done)) ?_
      try simp only [Act.put, List.setIfInBounds_toArray, List.set_cons_succ, List.set_cons_zero]
      refine wpG_skip rfl ?_
      try simp only [Act.put, List.setIfInBounds_toArray, List.set_cons_succ, List.set_cons_zero]
      refine wpG_skip rfl ?_
      try simp only [Act.put, List.setIfInBounds_toArray, List.set_cons_succ, List.set_cons_zero]
      refine wpG_skip rfl ?_
      try simp only [Act.put, List.setIfInBounds_toArray, List.set_cons_succ, List.set_cons_zero]
      refine wpG_skip rfl ?_
      try simp only [Act.put, List.setIfInBounds_toArray, List.set_cons_succ, List.set_cons_zero]
      refine wpG_skip rfl ?_
      try simp only [Act.put, List.setIfInBounds_toArray, List.set_cons_succ, List.set_cons_zero]
      refine wpG_put rfl (v := .bool true) (fun w => by first | rfl | (go_simp; done)) ?_
      try simp only [Act.put, List.setIfInBounds_toArray, List.set_cons_succ, List.set_cons_zero]
      refine wpG_put rfl (v := .bool true) (fun w => by first | rfl | (go_simp; done)) ?_
      try simp only [Act.put, List.setIfInBounds_toArray, List.set_cons_succ, List.set_cons_zero]
      refine wpG_nil ?_
      intro W12 hW12
      try simp only [Act.put, List.setIfInBounds_toArray, List.set_cons_succ, List.set_cons_zero]
      have B12 := B1.trans (hW12.mono B1.size)
      clear r2 r3 r5 r6 B1 hW12 tW
      go_wp2
      go_ret
      exact ⟨rfl, B12⟩
    · obtain ⟨a13d, a13e⟩ := a13e.out ht hc
      refine wpG_loadR rfl _ rfl rfl r3 ?_
      try simp only [Act.put, List.setIfInBounds_toArray, List.set_cons_succ, List.set_cons_zero]
      refine wpG_call tW rfl a23s (fun w => by first | rfl | (go_simp; done)) ?_
      try simp only [Act.put, List.setIfInBounds_toArray, List.set_cons_succ, List.set_cons_zero]
      refine wpG_put rfl (v := .bool false) (fun w => by first | rfl | (go_simp; done)) ?_
      try simp only [Act.put, List.setIfInBounds_toArray, List.set_cons_succ, List.set_cons_zero]
      refine wpG_put rfl (v := .bool false) (fun w => by first | rfl | (go_simp; done)) ?_
      try simp only [Act.put, List.setIfInBounds_toArray, List.set_cons_succ, List.set_cons_zero]
      refine wpG_loadR rfl _ rfl rfl r3 ?_
      try simp only [Act.put, List.setIfInBounds_toArray, List.set_cons_succ, List.set_cons_zero]
      refine wpG_loadR rfl _ rfl rfl r2 ?_
      try simp only [Act.put, List.setIfInBounds_toArray, List.set_cons_succ, List.set_cons_zero]
      refine wpG_call tW rfl a13d (fun w => by first | rfl | (go_simp; done)) ?_
      try simp only [Act.put, List.setIfInBounds_toArray, List.set_cons_succ, List.set_cons_zero]
      refine wpG_loadR rfl _ rfl rfl r3 ?_
      try simp only [Act.put, List.setIfInBounds_toArray, List.set_cons_succ, List.set_cons_zero]
      refine wpG_neRR rfl _ _ rfl rfl rfl ?_
      try simp only [Act.put, List.setIfInBounds_toArray, List.set_cons_succ, List.set_cons_zero]
      refine wpG_put rfl (v := .bool false) (fun w => by first | rfl | (go_simp; done)) ?_
      try simp only [Act.put, List.setIfInBounds_toArray, List.set_cons_succ, List.set_cons_zero]
      refine wpG_put rfl (v := .bool false) (fun w => by first | rfl | (go_simp; done)) ?_
      try simp only [Act.put, List.setIfInBounds_toArray, List.set_cons_succ, List.set_cons_zero]
      refine wpG_loadR rfl _ rfl rfl r3 ?_
      try simp only [Act.put, List.setIfInBounds_toArray, List.set_cons_succ, List.set_cons_zero]
      refine wpG_loadR rfl _ rfl rfl r5 ?_
      try simp only [Act.put, List.setIfInBounds_toArray, List.set_cons_succ, List.set_cons_zero]
      refine wpG_call tW rfl a13e (fun w => by first | rfl | (go_simp; done)) ?_
      try simp only [Act.put, List.setIfInBounds_toArray, List.set_cons_succ, List.set_cons_zero]
      refine wpG_loadR rfl _ rfl rfl r3 ?_
      try simp only [Act.put, List.setIfInBounds_toArray, List.set_cons_succ, List.set_cons_zero]
      refine wpG_eqRR rfl _ _ rfl rfl rfl ?_
      try simp only [Act.put, List.setIfInBounds_toArray, List.set_cons_succ, List.set_cons_zero]
      refine wpG_put rfl (v := .bool true) (fun w => by first | rfl | (go_simp; done)) ?_
      try simp only [Act.put, List.setIfInBounds_toArray, List.set_cons_succ, List.set_cons_zero]
      refine wpG_put rfl (v := .bool true) (fun w => by first | rfl | (go_simp; done)) ?_
      try simp only [Act.put, List.setIfInBounds_toArray, List.set_cons_succ, List.set_cons_zero]
      refine wpG_nil ?_
      intro W12 hW12
      try simp only [Act.put, List.setIfInBounds_toArray, List.set_cons_succ, List.set_cons_zero]
      have B12 := B1.trans (hW12.mono B1.size)
      clear r2 r3 r5 r6 B1 hW12 tW
      go_wp2
      go_ret
      exact ⟨rfl, B12⟩

set_option maxRecDepth 100000 in
set_option maxHeartbeats 1000000 in
theorem relLeast_any (n m : Int) (f g : Nat → Nat) (w : World) (hf : Wf f) (hg : Wf g) (hT : TabAt w) :
    Calls Tryd.prog 4 #[relv n f, relv m g] w fun e w' => e = .returned (.bool true) ∧ Below w.heap.size w w' := by
  have a8 : Hid (AnsV 8 #[] (.bool true)) := works_any
  have a9 : Hid (∀ z W, Calls Tryd.prog 9 #[.int .i64 z] W fun e w' => e = .returned (.int .i64 z) ∧ w' = W) := fun z W => num_any z W
  have a10f : Hid (∀ W, Calls Tryd.prog 10 #[relv n f] W fun e w' => e = .returned (.int .i64 (checkN n f)) ∧ Below W.heap.size W w') := fun W => check_any n f W hf
  have a10g : Hid (∀ W, Calls Tryd.prog 10 #[relv m g] W fun e w' => e = .returned (.int .i64 (checkN m g)) ∧ Below W.heap.size W w') := fun W => check_any m g W hg
  have tk1 : True := trivial
  have tk2 : True := trivial
  cases h1 : rightB n f
  · have e1 : checkN n f = 20 := by unfold checkN; rw [h1]; rfl
    rw [e1] at a10f
    clear e1 h1 a10g
    go_enter Tryd.func4, Tryd.ntmps4
    go_wp2_with (first
      | (refine wpList_boxR rfl _ rfl rfl ?_; clear tk1; intro W1 b2 F1 r2; have B1 := Fresh.trans (Below.refl _ w) (Nat.le_refl _) F1; clear F1)
      | (refine wpList_boxR rfl _ rfl rfl ?_; intro W2 b3 F2 r3; replace B1 := Fresh.trans B1 B1.size F2; replace r2 := r2.fresh F2; clear F2)
      | (go_at_call 8; refine (a8.out _ (hT.below B1)).mono ?_; rintro e w' ⟨rfl, hw'⟩; replace r2 := r2.grown hw'; replace r3 := r3.grown hw'; replace B1 := B1.trans (hw'.mono B1.size); clear hw')
      | (refine wpList_loadR rfl _ rfl rfl r2 ?_)
      | (go_at_call 10; refine (a10f.out _).mono ?_; rintro e w' ⟨rfl, hw'⟩; replace r2 := r2.grown hw'; replace r3 := r3.grown hw'; replace B1 := B1.trans (hw'.mono B1.size); clear hw')
      | (go_at_call 9; refine (a9.out _ _).mono ?_; rintro e w' ⟨rfl, hw'⟩; replace hw' := hw'.symm; subst hw'))
    go_ret
    exact ⟨rfl, B1⟩
  · cases h2 : rightB m g
    · have e1 : checkN n f = 0 := by unfold checkN; rw [h1]; rfl
      have e2 : checkN m g = 20 := by unfold checkN; rw [h2]; rfl
      rw [e1] at a10f
      rw [e2] at a10g
      clear e1 h1 e2 h2
      go_enter Tryd.func4, Tryd.ntmps4
      go_wp2_with (first
        | (refine wpList_boxR rfl _ rfl rfl ?_; clear tk1; intro W1 b2 F1 r2; have B1 := Fresh.trans (Below.refl _ w) (Nat.le_refl _) F1; clear F1)
        | (refine wpList_boxR rfl _ rfl rfl ?_; intro W2 b3 F2 r3; replace B1 := Fresh.trans B1 B1.size F2; replace r2 := r2.fresh F2; clear F2)
        | (go_at_call 8; refine (a8.out _ (hT.below B1)).mono ?_; rintro e w' ⟨rfl, hw'⟩; replace r2 := r2.grown hw'; replace r3 := r3.grown hw'; replace B1 := B1.trans (hw'.mono B1.size); clear hw')
        | (refine wpList_loadR rfl _ rfl rfl r2 ?_)
        | (refine wpList_loadRg rfl _ rfl rfl r3 ?_)
        | (go_at_call 10; clear tk2; refine (a10f.out _).mono ?_; rintro e w' ⟨rfl, hw'⟩; replace r2 := r2.grown hw'; replace r3 := r3.grown hw'; replace B1 := B1.trans (hw'.mono B1.size); clear hw')
        | (go_at_call 10; refine (a10g.out _).mono ?_; rintro e w' ⟨rfl, hw'⟩; replace r2 := r2.grown hw'; replace r3 := r3.grown hw'; replace B1 := B1.trans (hw'.mono B1.size); clear hw')
        | (go_at_call 9; refine (a9.out _ _).mono ?_; rintro e w' ⟨rfl, hw'⟩; replace hw' := hw'.symm; subst hw'))
      go_ret
      exact ⟨rfl, B1⟩
    · by_cases hnm : n = m
      · subst hnm
        obtain ⟨N, k1, k2, k3⟩ := n_right' n f hf
        obtain ⟨M, j1, j2, j3⟩ := n_right' n g hg
        have e1 : nN n f = n := if_pos h1
        have e2 : nF n f = f := if_pos h1
        have e3 : nN n g = n := if_pos h2
        have e4 : nF n g = g := if_pos h2
        rw [e1] at k1
        rw [e2] at k3
        rw [e3] at j1
        rw [e4] at j3
        subst k1
        obtain rfl : N = M := by omega
        exact relLeast_right N f g w k2 k3 j3 hT
      · have e1 : checkN n f = 0 := by unfold checkN; rw [h1]; rfl
        have e2 : checkN m g = 0 := by unfold checkN; rw [h2]; rfl
        rw [e1] at a10f
        rw [e2] at a10g
        clear e1 h1 e2 h2
        go_enter Tryd.func4, Tryd.ntmps4
        go_wp2_with (first
          | (refine wpList_boxR rfl _ rfl rfl ?_; clear tk1; intro W1 b2 F1 r2; have B1 := Fresh.trans (Below.refl _ w) (Nat.le_refl _) F1; clear F1)
          | (refine wpList_boxR rfl _ rfl rfl ?_; intro W2 b3 F2 r3; replace B1 := Fresh.trans B1 B1.size F2; replace r2 := r2.fresh F2; clear F2)
          | (go_at_call 8; refine (a8.out _ (hT.below B1)).mono ?_; rintro e w' ⟨rfl, hw'⟩; replace r2 := r2.grown hw'; replace r3 := r3.grown hw'; replace B1 := B1.trans (hw'.mono B1.size); clear hw')
          | (refine wpList_loadR rfl _ rfl rfl r2 ?_)
          | (refine wpList_loadRg rfl _ rfl rfl r3 ?_)
          | (go_at_call 10; clear tk2; refine (a10f.out _).mono ?_; rintro e w' ⟨rfl, hw'⟩; replace r2 := r2.grown hw'; replace r3 := r3.grown hw'; replace B1 := B1.trans (hw'.mono B1.size); clear hw')
          | (go_at_call 10; refine (a10g.out _).mono ?_; rintro e w' ⟨rfl, hw'⟩; replace r2 := r2.grown hw'; replace r3 := r3.grown hw'; replace B1 := B1.trans (hw'.mono B1.size); clear hw'; have cn2 := r2.n; have cn3 := r3.n)
          | (go_at_call 9; refine (a9.out _ _).mono ?_; rintro e w' ⟨rfl, hw'⟩; replace hw' := hw'.symm; subst hw'))
        go_ret
        exact ⟨rfl, B1⟩
end Go.Proofs.YtkccckjiemijeabDoor

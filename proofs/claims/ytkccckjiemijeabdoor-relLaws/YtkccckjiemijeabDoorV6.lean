/- RelLaws: for every three relations the law returns true. -/
import Derived.Test.YtkccckjiemijeabDoorV5
namespace Go.Proofs.YtkccckjiemijeabDoor
open Go.RowKit Go.Shelf M P
set_option linter.unusedSimpArgs false
set_option linter.unusedVariables false

set_option maxRecDepth 100000 in
set_option maxHeartbeats 20000000 in
theorem relLaws_right (N : Nat) (F G H : Nat → Nat) (w : World) (hN : N ≤ 64) (hF : Right N F) (hG : Right N G) (hH : Right N H) (hT : TabAt w) :
    Calls Tryd.prog 3 #[relv N F, relv N G, relv N H] w fun e w' => e = .returned (.bool true) ∧ Below w.heap.size w w' := by
  have a8 : Hid (AnsV 8 #[] (.bool true)) := works_any
  have chk : ∀ X : Nat → Nat, Right N X → ∀ W, Calls Tryd.prog 10 #[relv N X] W fun e w' => e = .returned (.int .i64 0) ∧ Below W.heap.size W w' := fun X hX W => by
    have := check_any N X W hX.wf
    unfold checkN at this
    rwa [if_pos (right_is hX hN)] at this
  have a10f : Hid (∀ W, Calls Tryd.prog 10 #[relv N F] W fun e w' => e = .returned (.int .i64 0) ∧ Below W.heap.size W w') := chk F hF
  have a10g : Hid (∀ W, Calls Tryd.prog 10 #[relv N G] W fun e w' => e = .returned (.int .i64 0) ∧ Below W.heap.size W w') := chk G hG
  have a10h : Hid (∀ W, Calls Tryd.prog 10 #[relv N H] W fun e w' => e = .returned (.int .i64 0) ∧ Below W.heap.size W w') := chk H hH
  clear chk
  have a9 : Hid (∀ W, Calls Tryd.prog 9 #[.int .i64 0] W fun e w' => e = .returned (.int .i64 0) ∧ w' = W) := fun W => num_any 0 W
  have hu := right_or hF hG
  have hm := right_and (G := G) hF
  have hrs := right_co hF hG
  have a12 := allS_any
  have a11 := on_R N hN
  have au : AnsV 13 #[relv N F, relv N G] (relv N (opF orN F G)) := union_R hN hF hG
  have am : AnsV 14 #[relv N F, relv N G] (relv N (opF andN F G)) := meet_R hN hF hG
  have ars : AnsV 18 #[relv N F, relv N G] (relv N (coF G (edgesL N F))) := comp_R hN hF hG
  have ubk := union_back hN hF hG
  have mbk := meet_back hN hF hG
  have nu := not_N hN hu
  have nF := not_N hN hF
  have nG := not_N hN hG
  have mor := morgan hN hF hG
  have nnF := not_not hN hF
  have mi : AnsV 16 #[relv N F, relv N G] (relv N (opF notN F G)) := minus_R hN hF hG
  have mino := minus_no hN hF hG
  have mno := meet_no hN hF
  have uH : AnsV 13 #[relv N (opF orN F G), relv N H] (relv N (opF orN (opF orN F G) H)) := union_R hN hu hH
  have GH : AnsV 13 #[relv N G, relv N H] (relv N (opF orN G H)) := union_R hN hG hH
  have uas := union_assoc hN hF hG hH
  have mGH : AnsV 14 #[relv N F, relv N (opF orN G H)] (relv N (opF andN F (opF orN G H))) := meet_R hN hF (right_or hG hH)
  have mFH : AnsV 14 #[relv N F, relv N H] (relv N (opF andN F H)) := meet_R hN hF hH
  have msp := meet_spread (G := G) (H := H) hN hF
  have cu := count_R hN hu
  have cm := count_R hN hm
  have cF := count_R hN hF
  have cG := count_R hN hG
  have hcnt := edges_or F G 64
  have lu := edgesL_le (opF orN F G) 64
  have lm := edgesL_le (opF andN F G) 64
  have lF := edgesL_le F 64
  have lG := edgesL_le G 64
  have rsH : AnsV 18 #[relv N (coF G (edgesL N F)), relv N H] (relv N (coF H (edgesL N (coF G (edgesL N F))))) := comp_R hN hrs hH
  have cGH : AnsV 18 #[relv N G, relv N H] (relv N (coF H (edgesL N G))) := comp_R hN hG hH
  have cas := comp_assoc hN hF hG hH
  have cFgh : AnsV 18 #[relv N F, relv N (opF orN G H)] (relv N (coF (opF orN G H) (edgesL N F))) := comp_R hN hF (right_or hG hH)
  have cFH : AnsV 18 #[relv N F, relv N H] (relv N (coF H (edgesL N F))) := comp_R hN hF hH
  have csp := comp_spread hN hF hG hH
  have c1 := comp_one hN hF
  have c1b := one_comp hN hF
  have cv := comp_void hN hF
  have irs := inv_R hN hrs
  have iG := inv_R hN hG
  have iF := inv_R hN hF
  have icomp := inv_comp hN hF hG
  have iiF := inv_inv hN hF
  have dI := dom_inv hN hF
  have rF := rng_R hN hF
  clear hu hm hrs hF hG hH
  generalize (edgesL 64 (opF orN F G)).length = ku at *
  generalize (edgesL 64 (opF andN F G)).length = km at *
  generalize (edgesL 64 F).length = kF at *
  generalize (edgesL 64 G).length = kG at *
  generalize rng F 64 = kr at *
  generalize tuF (edgesL N (coF G (edgesL N F))) = irsF at *
  generalize tuF (edgesL N F) = iFF at *
  generalize tuF (edgesL N G) = iGF at *
  generalize coF H (edgesL N (coF G (edgesL N F))) = rsHF at *
  generalize coF G (edgesL N F) = rs at *
  generalize coF (opF orN G H) (edgesL N F) = cfgh at *
  generalize coF H (edgesL N F) = cfh at *
  generalize coF H (edgesL N G) = cgh at *
  generalize opF andN F (opF orN G H) = mgh at *
  generalize opF andN F H = mfh at *
  generalize opF orN (opF orN F G) H = uHF at *
  generalize opF orN G H = gh at *
  generalize noF N (opF orN F G) = nuF at *
  generalize noF N F = nFF at *
  generalize noF N G = nGF at *
  generalize opF notN F G = miF at *
  generalize opF orN F G = u at *
  generalize opF andN F G = m at *
  have tk1 : True := trivial
  have tk2 : True := trivial
  have tk3 : True := trivial
  have tk4 : True := trivial
  go_enter Tryd.func3, Tryd.ntmps3
  go_wp2_with (first
    | (refine wpList_boxR rfl _ rfl rfl ?_; clear tk1; intro W1 b3 F1 r3; have B1 := Fresh.trans (Below.refl _ w) (Nat.le_refl _) F1; clear F1)
    | (refine wpList_boxR rfl _ rfl rfl ?_; clear tk2; intro W2 b4 F2 r4; replace B1 := Fresh.trans B1 B1.size F2; replace r3 := r3.fresh F2; clear F2)
    | (refine wpList_boxR rfl _ rfl rfl ?_; intro W2 b5 F2 r5; replace B1 := Fresh.trans B1 B1.size F2; replace r3 := r3.fresh F2; replace r4 := r4.fresh F2; clear F2)
    | (go_at_call 8; refine (a8.out _ (hT.below B1)).mono ?_; rintro e w' ⟨rfl, hw'⟩; replace r3 := r3.grown hw'; replace r4 := r4.grown hw'; replace r5 := r5.grown hw'; replace B1 := B1.trans (hw'.mono B1.size); clear hw')
    | (refine wpList_loadR rfl _ rfl rfl r3 ?_)
    | (refine wpList_loadRg rfl _ rfl rfl r4 ?_)
    | (refine wpList_loadRg rfl _ rfl rfl r5 ?_)
    | (go_at_call 10; clear tk3; refine (a10f.out _).mono ?_; rintro e w' ⟨rfl, hw'⟩; replace r3 := r3.grown hw'; replace r4 := r4.grown hw'; replace r5 := r5.grown hw'; replace B1 := B1.trans (hw'.mono B1.size); clear hw')
    | (go_at_call 10; clear tk4; refine (a10g.out _).mono ?_; rintro e w' ⟨rfl, hw'⟩; replace r3 := r3.grown hw'; replace r4 := r4.grown hw'; replace r5 := r5.grown hw'; replace B1 := B1.trans (hw'.mono B1.size); clear hw')
    | (go_at_call 10; refine (a10h.out _).mono ?_; rintro e w5 ⟨rfl, hw'⟩; replace r3 := r3.grown hw'; replace r4 := r4.grown hw'; replace r5 := r5.grown hw'; replace B1 := B1.trans (hw'.mono B1.size); clear hw'; have cn3 := r3.n; have cn4 := r4.n; have cn5 := r5.n)
    | (go_at_call 9; refine (a9.out _).mono ?_; rintro e w' ⟨rfl, hw'⟩; replace hw' := hw'.symm; subst hw'))
  clear cn3 cn4 cn5 a8 a9 a10f a10g a10h
  have tW := hT.below B1
  refine grow_make 4 _ (MadeR w5) (by kernel_rfl) (by kernel_rfl) rfl rfl (madeR_grown w5) (madeR_make rfl w5) ?_
  simp only [List.take_succ_cons, List.take_zero, List.drop_succ_cons, List.drop_zero]
  refine wpG_put rfl (v := .pointer (some ⟨b3, 0, none⟩)) (fun w => by go_simp; done) ?_
  refine wpG_loadN rfl _ rfl rfl r3 ?_
  refine wpG_call tW rfl a12 (fun w => by first | rfl | (go_simp; done)) ?_
  refine wpG_call tW rfl a11 (fun w => by first | rfl | (go_simp; done)) ?_
  refine wpG_nil ?_
  rintro v W6 ⟨hW6, b7, rfl, hb7, r7⟩
  try simp only [Act.put, List.setIfInBounds_toArray, List.set_cons_succ, List.set_cons_zero]
  have hb7' : w.heap.size ≤ b7 := by have := B1.size; omega
  have n3 : b3 ≠ b7 := by have := r3.lt; omega
  have n4 : b4 ≠ b7 := by have := r4.lt; omega
  have n5 : b5 ≠ b7 := by have := r5.lt; omega
  replace r3 := r3.grown hW6
  replace r4 := r4.grown hW6
  replace r5 := r5.grown hW6
  replace B1 := B1.trans (hW6.mono B1.size)
  clear hW6 tW hb7 a12 a11
  refine wpList_storeR rfl _ _ rfl rfl rfl r7 ?_
  intro W7 U7 q7
  replace r3 := r3.upd U7 n3; replace r4 := r4.upd U7 n4; replace r5 := r5.upd U7 n5
  replace B1 := U7.trans B1 hb7'
  clear U7 r7 n3 n4 n5
  have r7 := q7
  clear q7
  have cn3 := r3.n
  have tkA : True := trivial
  have tkB : True := trivial
  go_wp2_with (first
    | (refine wpList_buildRN rfl _ rfl rfl ?_)
    | (refine wpList_loadR rfl _ rfl rfl r3 ?_)
    | (refine wpList_loadR rfl _ rfl rfl r4 ?_)
    | (refine wpList_allocR rfl rfl ?_; clear tkA cn3; intro W8 b8 F8 r8; have hb8 : w.heap.size ≤ b8 := (by rw [F8.at']; exact B1.size); have n3 : b3 ≠ b8 := (by rw [F8.at']; have := r3.lt; omega); have n4 : b4 ≠ b8 := (by rw [F8.at']; have := r4.lt; omega); have n5 : b5 ≠ b8 := (by rw [F8.at']; have := r5.lt; omega); have n7 : b7 ≠ b8 := (by rw [F8.at']; have := r7.lt; omega); replace B1 := Fresh.trans B1 B1.size F8; replace r3 := r3.fresh F8; replace r4 := r4.fresh F8; replace r5 := r5.fresh F8; replace r7 := r7.fresh F8; clear F8)
    | (refine wpList_storeR rfl _ _ rfl rfl rfl r8 ?_; intro W8' U8 q8; replace B1 := U8.trans B1 hb8; replace r3 := r3.upd U8 n3; replace r4 := r4.upd U8 n4; replace r5 := r5.upd U8 n5; replace r7 := r7.upd U8 n7; clear U8 r8 n3 n4 n5 n7; have r8 := q8; clear q8)
    | (go_at_call 13; refine (au _ (hT.below B1)).mono ?_; rintro e w' ⟨rfl, hw'⟩; replace r3 := r3.grown hw'; replace r4 := r4.grown hw'; replace r5 := r5.grown hw'; replace r7 := r7.grown hw'; replace r8 := r8.grown hw'; replace B1 := B1.trans (hw'.mono B1.size); clear hw')
    | (refine wpList_allocR rfl rfl ?_; clear tkB; intro W9 b9 F9 r9; have hb9 : w.heap.size ≤ b9 := (by rw [F9.at']; exact B1.size); have n3 : b3 ≠ b9 := (by rw [F9.at']; have := r3.lt; omega); have n4 : b4 ≠ b9 := (by rw [F9.at']; have := r4.lt; omega); have n5 : b5 ≠ b9 := (by rw [F9.at']; have := r5.lt; omega); have n7 : b7 ≠ b9 := (by rw [F9.at']; have := r7.lt; omega); have n8 : b8 ≠ b9 := (by rw [F9.at']; have := r8.lt; omega); replace B1 := Fresh.trans B1 B1.size F9; replace r3 := r3.fresh F9; replace r4 := r4.fresh F9; replace r5 := r5.fresh F9; replace r7 := r7.fresh F9; replace r8 := r8.fresh F9; clear F9)
    | (refine wpList_storeR rfl _ _ rfl rfl rfl r9 ?_; intro W9' U9 q9; replace B1 := U9.trans B1 hb9; replace r3 := r3.upd U9 n3; replace r4 := r4.upd U9 n4; replace r5 := r5.upd U9 n5; replace r7 := r7.upd U9 n7; replace r8 := r8.upd U9 n8; clear U9 r9 n3 n4 n5 n7 n8; have r9 := q9; clear q9)
    | (go_at_call 14; refine (am _ (hT.below B1)).mono ?_; rintro e w' ⟨rfl, hw'⟩; replace r3 := r3.grown hw'; replace r4 := r4.grown hw'; replace r5 := r5.grown hw'; replace r7 := r7.grown hw'; replace r8 := r8.grown hw'; replace r9 := r9.grown hw'; replace B1 := B1.trans (hw'.mono B1.size); clear hw')
    | (refine wpList_allocR rfl rfl ?_; intro W10 b10 F10 r10; have hb10 : w.heap.size ≤ b10 := (by rw [F10.at']; exact B1.size); have n3 : b3 ≠ b10 := (by rw [F10.at']; have := r3.lt; omega); have n4 : b4 ≠ b10 := (by rw [F10.at']; have := r4.lt; omega); have n5 : b5 ≠ b10 := (by rw [F10.at']; have := r5.lt; omega); have n7 : b7 ≠ b10 := (by rw [F10.at']; have := r7.lt; omega); have n8 : b8 ≠ b10 := (by rw [F10.at']; have := r8.lt; omega); have n9 : b9 ≠ b10 := (by rw [F10.at']; have := r9.lt; omega); replace B1 := Fresh.trans B1 B1.size F10; replace r3 := r3.fresh F10; replace r4 := r4.fresh F10; replace r5 := r5.fresh F10; replace r7 := r7.fresh F10; replace r8 := r8.fresh F10; replace r9 := r9.fresh F10; clear F10)
    | (refine wpList_storeR rfl _ _ rfl rfl rfl r10 ?_; intro W10' U10 q10; replace B1 := U10.trans B1 hb10; replace r3 := r3.upd U10 n3; replace r4 := r4.upd U10 n4; replace r5 := r5.upd U10 n5; replace r7 := r7.upd U10 n7; replace r8 := r8.upd U10 n8; replace r9 := r9.upd U10 n9; clear U10 r10 n3 n4 n5 n7 n8 n9; have r10 := q10; clear q10))
  clear au am
  have tW := hT.below B1
  refine grow_all (by kernel_rfl) (by kernel_rfl) ?_
  refine wpG_loadR rfl _ rfl rfl r9 ?_
  refine wpG_loadR rfl _ rfl rfl r4 ?_
  try simp only [Act.put, List.setIfInBounds_toArray, List.set_cons_succ, List.set_cons_zero]
  refine wpG_loadR rfl _ rfl rfl r3 ?_
  refine wpG_call tW rfl ubk (fun w => by first | rfl | (go_simp; done)) ?_
  try simp only [Act.put, List.setIfInBounds_toArray, List.set_cons_succ, List.set_cons_zero]
  refine wpG_neRR rfl _ _ rfl rfl rfl ?_
  refine wpG_put rfl (v := .bool false) (fun w => by first | rfl | (go_simp; done)) ?_
  try simp only [Act.put, List.setIfInBounds_toArray, List.set_cons_succ, List.set_cons_zero]
  refine wpG_loadR rfl _ rfl rfl r10 ?_
  refine wpG_loadR rfl _ rfl rfl r4 ?_
  try simp only [Act.put, List.setIfInBounds_toArray, List.set_cons_succ, List.set_cons_zero]
  refine wpG_loadR rfl _ rfl rfl r3 ?_
  refine wpG_call tW rfl mbk (fun w => by first | rfl | (go_simp; done)) ?_
  try simp only [Act.put, List.setIfInBounds_toArray, List.set_cons_succ, List.set_cons_zero]
  refine wpG_neRR rfl _ _ rfl rfl rfl ?_
  refine wpG_put rfl (v := .bool false) (fun w => by first | rfl | (go_simp; done)) ?_
  try simp only [Act.put, List.setIfInBounds_toArray, List.set_cons_succ, List.set_cons_zero]
  refine wpG_put rfl (v := .bool false) (fun w => by first | rfl | (go_simp; done)) ?_
  refine wpG_loadR rfl _ rfl rfl r9 ?_
  try simp only [Act.put, List.setIfInBounds_toArray, List.set_cons_succ, List.set_cons_zero]
  refine wpG_call tW rfl nu (fun w => by first | rfl | (go_simp; done)) ?_
  refine wpG_loadR rfl _ rfl rfl r3 ?_
  try simp only [Act.put, List.setIfInBounds_toArray, List.set_cons_succ, List.set_cons_zero]
  refine wpG_call tW rfl nF (fun w => by first | rfl | (go_simp; done)) ?_
  refine wpG_loadR rfl _ rfl rfl r4 ?_
  try simp only [Act.put, List.setIfInBounds_toArray, List.set_cons_succ, List.set_cons_zero]
  refine wpG_call tW rfl nG (fun w => by first | rfl | (go_simp; done)) ?_
  refine wpG_call tW rfl mor (fun w => by first | rfl | (go_simp; done)) ?_
  try simp only [Act.put, List.setIfInBounds_toArray, List.set_cons_succ, List.set_cons_zero]
  refine wpG_neRR rfl _ _ rfl rfl rfl ?_
  refine wpG_put rfl (v := .bool false) (fun w => by first | rfl | (go_simp; done)) ?_
  try simp only [Act.put, List.setIfInBounds_toArray, List.set_cons_succ, List.set_cons_zero]
  refine wpG_put rfl (v := .bool false) (fun w => by first | rfl | (go_simp; done)) ?_
  refine wpG_loadR rfl _ rfl rfl r3 ?_
  try simp only [Act.put, List.setIfInBounds_toArray, List.set_cons_succ, List.set_cons_zero]
  refine wpG_call tW rfl nF (fun w => by first | rfl | (go_simp; done)) ?_
  refine wpG_call tW rfl nnF (fun w => by first | rfl | (go_simp; done)) ?_
  try simp only [Act.put, List.setIfInBounds_toArray, List.set_cons_succ, List.set_cons_zero]
  refine wpG_loadR rfl _ rfl rfl r3 ?_
  refine wpG_neRR rfl _ _ rfl rfl rfl ?_
  try simp only [Act.put, List.setIfInBounds_toArray, List.set_cons_succ, List.set_cons_zero]
  refine wpG_put rfl (v := .bool false) (fun w => by first | rfl | (go_simp; done)) ?_
  refine wpG_put rfl (v := .bool false) (fun w => by first | rfl | (go_simp; done)) ?_
  try simp only [Act.put, List.setIfInBounds_toArray, List.set_cons_succ, List.set_cons_zero]
  refine wpG_loadR rfl _ rfl rfl r3 ?_
  refine wpG_loadR rfl _ rfl rfl r4 ?_
  try simp only [Act.put, List.setIfInBounds_toArray, List.set_cons_succ, List.set_cons_zero]
  refine wpG_call tW rfl mi (fun w => by first | rfl | (go_simp; done)) ?_
  refine wpG_loadR rfl _ rfl rfl r3 ?_
  try simp only [Act.put, List.setIfInBounds_toArray, List.set_cons_succ, List.set_cons_zero]
  refine wpG_loadR rfl _ rfl rfl r4 ?_
  refine wpG_call tW rfl nG (fun w => by first | rfl | (go_simp; done)) ?_
  try simp only [Act.put, List.setIfInBounds_toArray, List.set_cons_succ, List.set_cons_zero]
  refine wpG_call tW rfl mino (fun w => by first | rfl | (go_simp; done)) ?_
  refine wpG_neRR rfl _ _ rfl rfl rfl ?_
  try simp only [Act.put, List.setIfInBounds_toArray, List.set_cons_succ, List.set_cons_zero]
  refine wpG_put rfl (v := .bool false) (fun w => by first | rfl | (go_simp; done)) ?_
  refine wpG_put rfl (v := .bool false) (fun w => by first | rfl | (go_simp; done)) ?_
  try simp only [Act.put, List.setIfInBounds_toArray, List.set_cons_succ, List.set_cons_zero]
  refine wpG_loadR rfl _ rfl rfl r3 ?_
  refine wpG_loadR rfl _ rfl rfl r3 ?_
  try simp only [Act.put, List.setIfInBounds_toArray, List.set_cons_succ, List.set_cons_zero]
  refine wpG_call tW rfl nF (fun w => by first | rfl | (go_simp; done)) ?_
  refine wpG_call tW rfl mno (fun w => by first | rfl | (go_simp; done)) ?_
  try simp only [Act.put, List.setIfInBounds_toArray, List.set_cons_succ, List.set_cons_zero]
  refine wpG_loadR rfl _ rfl rfl r8 ?_
  refine wpG_neRR rfl _ _ rfl rfl rfl ?_
  try simp only [Act.put, List.setIfInBounds_toArray, List.set_cons_succ, List.set_cons_zero]
  refine wpG_put rfl (v := .bool false) (fun w => by first | rfl | (go_simp; done)) ?_
  try simp only [Act.put, List.setIfInBounds_toArray, List.set_cons_succ, List.set_cons_zero]

  refine wpG_nil ?_
  intro W11 hW11
  replace r3 := r3.grown hW11; replace r4 := r4.grown hW11; replace r5 := r5.grown hW11; replace r7 := r7.grown hW11; replace r8 := r8.grown hW11; replace r9 := r9.grown hW11; replace r10 := r10.grown hW11
  replace B1 := B1.trans (hW11.mono B1.size)
  clear hW11 tW ubk mbk nu nF nG mor nnF mi mino mno
  go_wp2_with fail
  have tW := hT.below B1
  refine grow_all (by kernel_rfl) (by kernel_rfl) ?_
  refine wpG_loadR rfl _ rfl rfl r9 ?_
  refine wpG_loadR rfl _ rfl rfl r5 ?_
  try simp only [Act.put, List.setIfInBounds_toArray, List.set_cons_succ, List.set_cons_zero]
  refine wpG_call tW rfl uH (fun w => by first | rfl | (go_simp; done)) ?_
  refine wpG_loadR rfl _ rfl rfl r3 ?_
  try simp only [Act.put, List.setIfInBounds_toArray, List.set_cons_succ, List.set_cons_zero]
  refine wpG_loadR rfl _ rfl rfl r4 ?_
  refine wpG_loadR rfl _ rfl rfl r5 ?_
  try simp only [Act.put, List.setIfInBounds_toArray, List.set_cons_succ, List.set_cons_zero]
  refine wpG_call tW rfl GH (fun w => by first | rfl | (go_simp; done)) ?_
  refine wpG_call tW rfl uas (fun w => by first | rfl | (go_simp; done)) ?_
  try simp only [Act.put, List.setIfInBounds_toArray, List.set_cons_succ, List.set_cons_zero]
  refine wpG_neRR rfl _ _ rfl rfl rfl ?_
  refine wpG_put rfl (v := .bool false) (fun w => by first | rfl | (go_simp; done)) ?_
  try simp only [Act.put, List.setIfInBounds_toArray, List.set_cons_succ, List.set_cons_zero]
  refine wpG_loadR rfl _ rfl rfl r3 ?_
  refine wpG_loadR rfl _ rfl rfl r4 ?_
  try simp only [Act.put, List.setIfInBounds_toArray, List.set_cons_succ, List.set_cons_zero]
  refine wpG_loadR rfl _ rfl rfl r5 ?_
  refine wpG_call tW rfl GH (fun w => by first | rfl | (go_simp; done)) ?_
  try simp only [Act.put, List.setIfInBounds_toArray, List.set_cons_succ, List.set_cons_zero]
  refine wpG_call tW rfl mGH (fun w => by first | rfl | (go_simp; done)) ?_
  refine wpG_loadR rfl _ rfl rfl r10 ?_
  try simp only [Act.put, List.setIfInBounds_toArray, List.set_cons_succ, List.set_cons_zero]
  refine wpG_loadR rfl _ rfl rfl r3 ?_
  refine wpG_loadR rfl _ rfl rfl r5 ?_
  try simp only [Act.put, List.setIfInBounds_toArray, List.set_cons_succ, List.set_cons_zero]
  refine wpG_call tW rfl mFH (fun w => by first | rfl | (go_simp; done)) ?_
  refine wpG_call tW rfl msp (fun w => by first | rfl | (go_simp; done)) ?_
  try simp only [Act.put, List.setIfInBounds_toArray, List.set_cons_succ, List.set_cons_zero]
  refine wpG_neRR rfl _ _ rfl rfl rfl ?_
  refine wpG_put rfl (v := .bool false) (fun w => by first | rfl | (go_simp; done)) ?_
  try simp only [Act.put, List.setIfInBounds_toArray, List.set_cons_succ, List.set_cons_zero]
  refine wpG_put rfl (v := .bool false) (fun w => by first | rfl | (go_simp; done)) ?_
  refine wpG_loadR rfl _ rfl rfl r9 ?_
  try simp only [Act.put, List.setIfInBounds_toArray, List.set_cons_succ, List.set_cons_zero]
  refine wpG_call tW rfl cu (fun w => by first | rfl | (go_simp; done)) ?_
  refine wpG_loadR rfl _ rfl rfl r10 ?_
  try simp only [Act.put, List.setIfInBounds_toArray, List.set_cons_succ, List.set_cons_zero]
  refine wpG_call tW rfl cm (fun w => by first | rfl | (go_simp; done)) ?_
  refine wpG_put rfl (v := .int .i64 (((ku + km : Nat) : Int))) (fun w => by simp [execOp, go_sem]; first | (rw [IntKind.wrap_i64]; omega) | (simp only [IntKind.wrap_i64, wrap64]; omega)) ?_
  try simp only [Act.put, List.setIfInBounds_toArray, List.set_cons_succ, List.set_cons_zero]
  refine wpG_loadR rfl _ rfl rfl r3 ?_
  refine wpG_call tW rfl cF (fun w => by first | rfl | (go_simp; done)) ?_
  try simp only [Act.put, List.setIfInBounds_toArray, List.set_cons_succ, List.set_cons_zero]
  refine wpG_loadR rfl _ rfl rfl r4 ?_
  refine wpG_call tW rfl cG (fun w => by first | rfl | (go_simp; done)) ?_
  try simp only [Act.put, List.setIfInBounds_toArray, List.set_cons_succ, List.set_cons_zero]
  refine wpG_put rfl (v := .int .i64 (((kF + kG : Nat) : Int))) (fun w => by simp [execOp, go_sem]; first | (rw [IntKind.wrap_i64]; omega) | (simp only [IntKind.wrap_i64, wrap64]; omega)) ?_
  refine wpG_put rfl (v := .bool false) (fun w => by simp [execOp, go_sem]; omega) ?_
  try simp only [Act.put, List.setIfInBounds_toArray, List.set_cons_succ, List.set_cons_zero]
  refine wpG_put rfl (v := .bool false) (fun w => by first | rfl | (go_simp; done)) ?_
  try simp only [Act.put, List.setIfInBounds_toArray, List.set_cons_succ, List.set_cons_zero]

  refine wpG_nil ?_
  intro W12 hW12
  replace r3 := r3.grown hW12; replace r4 := r4.grown hW12; replace r5 := r5.grown hW12; replace r7 := r7.grown hW12; replace r8 := r8.grown hW12; replace r9 := r9.grown hW12; replace r10 := r10.grown hW12
  replace B1 := B1.trans (hW12.mono B1.size)
  clear hW12 tW uH uas mGH mFH msp cu cm cF cG hcnt lu lm lF lG r9 r10
  go_wp2_with (first
    | (refine wpList_loadR rfl _ rfl rfl r3 ?_)
    | (refine wpList_loadR rfl _ rfl rfl r4 ?_)
    | (go_at_call 18; refine (ars _ (hT.below B1)).mono ?_; rintro e w' ⟨rfl, hw'⟩; replace r3 := r3.grown hw'; replace r4 := r4.grown hw'; replace r5 := r5.grown hw'; replace r7 := r7.grown hw'; replace r8 := r8.grown hw'; replace B1 := B1.trans (hw'.mono B1.size); clear hw')
    | (refine wpList_allocR rfl rfl ?_; intro W13 b11 F13 r11; have hb11 : w.heap.size ≤ b11 := (by rw [F13.at']; exact B1.size); have n3 : b3 ≠ b11 := (by rw [F13.at']; have := r3.lt; omega); have n4 : b4 ≠ b11 := (by rw [F13.at']; have := r4.lt; omega); have n5 : b5 ≠ b11 := (by rw [F13.at']; have := r5.lt; omega); have n7 : b7 ≠ b11 := (by rw [F13.at']; have := r7.lt; omega); have n8 : b8 ≠ b11 := (by rw [F13.at']; have := r8.lt; omega); replace B1 := Fresh.trans B1 B1.size F13; replace r3 := r3.fresh F13; replace r4 := r4.fresh F13; replace r5 := r5.fresh F13; replace r7 := r7.fresh F13; replace r8 := r8.fresh F13; clear F13)
    | (refine wpList_storeR rfl _ _ rfl rfl rfl r11 ?_; intro W13' U13 q11; replace B1 := U13.trans B1 hb11; replace r3 := r3.upd U13 n3; replace r4 := r4.upd U13 n4; replace r5 := r5.upd U13 n5; replace r7 := r7.upd U13 n7; replace r8 := r8.upd U13 n8; clear U13 r11 n3 n4 n5 n7 n8; have r11 := q11; clear q11))
  clear ars
  have tW := hT.below B1
  refine grow_all (by kernel_rfl) (by kernel_rfl) ?_
  refine wpG_loadR rfl _ rfl rfl r11 ?_
  refine wpG_loadR rfl _ rfl rfl r5 ?_
  try simp only [Act.put, List.setIfInBounds_toArray, List.set_cons_succ, List.set_cons_zero]
  refine wpG_call tW rfl rsH (fun w => by first | rfl | (go_simp; done)) ?_
  refine wpG_loadR rfl _ rfl rfl r3 ?_
  try simp only [Act.put, List.setIfInBounds_toArray, List.set_cons_succ, List.set_cons_zero]
  refine wpG_loadR rfl _ rfl rfl r4 ?_
  refine wpG_loadR rfl _ rfl rfl r5 ?_
  try simp only [Act.put, List.setIfInBounds_toArray, List.set_cons_succ, List.set_cons_zero]
  refine wpG_call tW rfl cGH (fun w => by first | rfl | (go_simp; done)) ?_
  refine wpG_call tW rfl cas (fun w => by first | rfl | (go_simp; done)) ?_
  try simp only [Act.put, List.setIfInBounds_toArray, List.set_cons_succ, List.set_cons_zero]
  refine wpG_neRR rfl _ _ rfl rfl rfl ?_
  refine wpG_put rfl (v := .bool false) (fun w => by first | rfl | (go_simp; done)) ?_
  try simp only [Act.put, List.setIfInBounds_toArray, List.set_cons_succ, List.set_cons_zero]
  refine wpG_loadR rfl _ rfl rfl r3 ?_
  refine wpG_loadR rfl _ rfl rfl r4 ?_
  try simp only [Act.put, List.setIfInBounds_toArray, List.set_cons_succ, List.set_cons_zero]
  refine wpG_loadR rfl _ rfl rfl r5 ?_
  refine wpG_call tW rfl GH (fun w => by first | rfl | (go_simp; done)) ?_
  try simp only [Act.put, List.setIfInBounds_toArray, List.set_cons_succ, List.set_cons_zero]
  refine wpG_call tW rfl cFgh (fun w => by first | rfl | (go_simp; done)) ?_
  refine wpG_loadR rfl _ rfl rfl r11 ?_
  try simp only [Act.put, List.setIfInBounds_toArray, List.set_cons_succ, List.set_cons_zero]
  refine wpG_loadR rfl _ rfl rfl r3 ?_
  refine wpG_loadR rfl _ rfl rfl r5 ?_
  try simp only [Act.put, List.setIfInBounds_toArray, List.set_cons_succ, List.set_cons_zero]
  refine wpG_call tW rfl cFH (fun w => by first | rfl | (go_simp; done)) ?_
  refine wpG_call tW rfl csp (fun w => by first | rfl | (go_simp; done)) ?_
  try simp only [Act.put, List.setIfInBounds_toArray, List.set_cons_succ, List.set_cons_zero]
  refine wpG_neRR rfl _ _ rfl rfl rfl ?_
  refine wpG_put rfl (v := .bool false) (fun w => by first | rfl | (go_simp; done)) ?_
  try simp only [Act.put, List.setIfInBounds_toArray, List.set_cons_succ, List.set_cons_zero]
  refine wpG_put rfl (v := .bool false) (fun w => by first | rfl | (go_simp; done)) ?_
  refine wpG_loadR rfl _ rfl rfl r3 ?_
  try simp only [Act.put, List.setIfInBounds_toArray, List.set_cons_succ, List.set_cons_zero]
  refine wpG_loadR rfl _ rfl rfl r7 ?_
  refine wpG_call tW rfl c1 (fun w => by first | rfl | (go_simp; done)) ?_
  try simp only [Act.put, List.setIfInBounds_toArray, List.set_cons_succ, List.set_cons_zero]
  refine wpG_loadR rfl _ rfl rfl r3 ?_
  refine wpG_neRR rfl _ _ rfl rfl rfl ?_
  try simp only [Act.put, List.setIfInBounds_toArray, List.set_cons_succ, List.set_cons_zero]
  refine wpG_put rfl (v := .bool false) (fun w => by first | rfl | (go_simp; done)) ?_
  refine wpG_put rfl (v := .bool false) (fun w => by first | rfl | (go_simp; done)) ?_
  try simp only [Act.put, List.setIfInBounds_toArray, List.set_cons_succ, List.set_cons_zero]
  refine wpG_loadR rfl _ rfl rfl r7 ?_
  refine wpG_loadR rfl _ rfl rfl r3 ?_
  try simp only [Act.put, List.setIfInBounds_toArray, List.set_cons_succ, List.set_cons_zero]
  refine wpG_call tW rfl c1b (fun w => by first | rfl | (go_simp; done)) ?_
  refine wpG_loadR rfl _ rfl rfl r3 ?_
  try simp only [Act.put, List.setIfInBounds_toArray, List.set_cons_succ, List.set_cons_zero]
  refine wpG_neRR rfl _ _ rfl rfl rfl ?_
  refine wpG_put rfl (v := .bool false) (fun w => by first | rfl | (go_simp; done)) ?_
  try simp only [Act.put, List.setIfInBounds_toArray, List.set_cons_succ, List.set_cons_zero]
  refine wpG_put rfl (v := .bool false) (fun w => by first | rfl | (go_simp; done)) ?_
  refine wpG_loadR rfl _ rfl rfl r3 ?_
  try simp only [Act.put, List.setIfInBounds_toArray, List.set_cons_succ, List.set_cons_zero]
  refine wpG_loadR rfl _ rfl rfl r8 ?_
  refine wpG_call tW rfl cv (fun w => by first | rfl | (go_simp; done)) ?_
  try simp only [Act.put, List.setIfInBounds_toArray, List.set_cons_succ, List.set_cons_zero]
  refine wpG_loadR rfl _ rfl rfl r8 ?_
  refine wpG_neRR rfl _ _ rfl rfl rfl ?_
  try simp only [Act.put, List.setIfInBounds_toArray, List.set_cons_succ, List.set_cons_zero]
  refine wpG_put rfl (v := .bool false) (fun w => by first | rfl | (go_simp; done)) ?_
  try simp only [Act.put, List.setIfInBounds_toArray, List.set_cons_succ, List.set_cons_zero]

  refine wpG_nil ?_
  intro W14 hW14
  replace r3 := r3.grown hW14; replace r4 := r4.grown hW14; replace r5 := r5.grown hW14; replace r7 := r7.grown hW14; replace r8 := r8.grown hW14; replace r11 := r11.grown hW14
  replace B1 := B1.trans (hW14.mono B1.size)
  clear hW14 tW rsH cGH cas GH cFgh cFH csp c1 c1b cv r7 r8 r5
  go_wp2_with fail
  have tW := hT.below B1
  refine grow_all (by kernel_rfl) (by kernel_rfl) ?_
  refine wpG_loadR rfl _ rfl rfl r11 ?_
  refine wpG_call tW rfl irs (fun w => by first | rfl | (go_simp; done)) ?_
  try simp only [Act.put, List.setIfInBounds_toArray, List.set_cons_succ, List.set_cons_zero]
  refine wpG_loadR rfl _ rfl rfl r4 ?_
  refine wpG_call tW rfl iG (fun w => by first | rfl | (go_simp; done)) ?_
  try simp only [Act.put, List.setIfInBounds_toArray, List.set_cons_succ, List.set_cons_zero]
  refine wpG_loadR rfl _ rfl rfl r3 ?_
  refine wpG_call tW rfl iF (fun w => by first | rfl | (go_simp; done)) ?_
  try simp only [Act.put, List.setIfInBounds_toArray, List.set_cons_succ, List.set_cons_zero]
  refine wpG_call tW rfl icomp (fun w => by first | rfl | (go_simp; done)) ?_
  refine wpG_eqRR rfl _ _ rfl rfl rfl ?_
  try simp only [Act.put, List.setIfInBounds_toArray, List.set_cons_succ, List.set_cons_zero]
  refine wpG_put rfl (v := .bool true) (fun w => by first | rfl | (go_simp; done)) ?_
  refine wpG_loadR rfl _ rfl rfl r3 ?_
  try simp only [Act.put, List.setIfInBounds_toArray, List.set_cons_succ, List.set_cons_zero]
  refine wpG_call tW rfl iF (fun w => by first | rfl | (go_simp; done)) ?_
  refine wpG_call tW rfl iiF (fun w => by first | rfl | (go_simp; done)) ?_
  try simp only [Act.put, List.setIfInBounds_toArray, List.set_cons_succ, List.set_cons_zero]
  refine wpG_loadR rfl _ rfl rfl r3 ?_
  refine wpG_eqRR rfl _ _ rfl rfl rfl ?_
  try simp only [Act.put, List.setIfInBounds_toArray, List.set_cons_succ, List.set_cons_zero]
  refine wpG_put rfl (v := .bool true) (fun w => by first | rfl | (go_simp; done)) ?_
  refine wpG_put rfl (v := .bool true) (fun w => by first | rfl | (go_simp; done)) ?_
  try simp only [Act.put, List.setIfInBounds_toArray, List.set_cons_succ, List.set_cons_zero]
  refine wpG_loadR rfl _ rfl rfl r3 ?_
  refine wpG_call tW rfl iF (fun w => by first | rfl | (go_simp; done)) ?_
  try simp only [Act.put, List.setIfInBounds_toArray, List.set_cons_succ, List.set_cons_zero]
  refine wpG_call tW rfl dI (fun w => by first | rfl | (go_simp; done)) ?_
  refine wpG_loadR rfl _ rfl rfl r3 ?_
  try simp only [Act.put, List.setIfInBounds_toArray, List.set_cons_succ, List.set_cons_zero]
  refine wpG_call tW rfl rF (fun w => by first | rfl | (go_simp; done)) ?_
  refine wpG_put rfl (v := .bool true) (fun w => by go_simp; done) ?_
  try simp only [Act.put, List.setIfInBounds_toArray, List.set_cons_succ, List.set_cons_zero]
  refine wpG_put rfl (v := .bool true) (fun w => by first | rfl | (go_simp; done)) ?_
  refine wpG_put rfl (v := .bool true) (fun w => by first | rfl | (go_simp; done)) ?_
  try simp only [Act.put, List.setIfInBounds_toArray, List.set_cons_succ, List.set_cons_zero]

  refine wpG_nil ?_
  intro W15 hW15
  have B15 := B1.trans (hW15.mono B1.size)
  clear r3 r4 r11 B1 hW15 tW
  go_wp2
  go_ret
  exact ⟨rfl, B15⟩
end Go.Proofs.YtkccckjiemijeabDoor

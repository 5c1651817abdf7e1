/- The reference's Opt, Plus and Star. -/
import Derived.Test.YtkccckjiemijeaaDoorZ3
import Derived.Test.YtkccckjiemijeaaDoorY9
import Derived.Test.YtkccckjiemijeaaDoorZ8
import Derived.Deep.LoopGhost
namespace Go.Proofs.YtkccckjiemijeaaDoor
open Go.RowKit Go.Shelf M P
set_option linter.unusedSimpArgs false
set_option linter.unusedVariables false

theorem two0_R {N : Nat} {F G : Nat → Nat} (hN : N ≤ 64) (hF : Right N F) (hG : Right N G) : AnsV 27 #[.int .i64 0, relv N F, relv N G] (relv N (opF orN F G)) := fun W _ => by
  have := two0_any N F N G W hF.wf hG.wf
  rw [al_N hN hF hG, al_F hN hF hG, al_G hN hF hG, Int.toNat_natCast] at this
  rwa [relv_congr rfl (fun j hj => or_mat hF hG j hj)]
theorem two2_R {N : Nat} {F G : Nat → Nat} (hN : N ≤ 64) (hF : Right N F) (hG : Right N G) : AnsV 27 #[.int .i64 2, relv N F, relv N G] (relv N (opF notN F G)) := fun W _ => by
  have := two2_any N F N G W hF.wf hG.wf
  rw [al_N hN hF hG, al_F hN hF hG, al_G hN hF hG, Int.toNat_natCast] at this
  rwa [relv_congr rfl (fun j hj => sub_mat hN hF hG.wf j hj)]
theorem two3_R {N : Nat} {F G : Nat → Nat} (hN : N ≤ 64) (hF : Right N F) (hG : Right N G) : AnsV 27 #[.int .i64 3, relv N F, relv N G] (relv N (coF G (edgesL N F))) := fun W _ => by
  have := two3_any N F N G W hF.wf hG.wf
  rw [al_N hN hF hG, al_F hN hF hG, al_G hN hF hG, Int.toNat_natCast] at this
  rwa [relv_congr rfl (fun j hj => co_mat hN hF hG j hj)]
theorem co_bits {N : Nat} {F G : Nat → Nat} (hF : Right N F) (a b : Nat) (ha : a < 64) : Bt (coF G (edgesL N F)) a b ↔ ∃ c, c < 64 ∧ Bt F a c ∧ Bt G c b := by
  unfold Bt
  rw [coF_bit]
  constructor
  · rintro ⟨c, hc, hb⟩
    obtain ⟨h1, h2, h3⟩ := mem_edges.1 hc
    exact ⟨c, h2, h3, hb⟩
  · rintro ⟨c, h1, h2, h3⟩
    exact ⟨c, mem_edges.2 ⟨(right_le hF ha h2).1, h1, h2⟩, h3⟩
theorem right_co {N : Nat} {F G : Nat → Nat} (hF : Right N F) (hG : Right N G) : Right N (coF G (edgesL N F)) := by
  refine right_bits (coF_lt hG.wf _) (fun a b ha h => ?_)
  obtain ⟨c, h1, h2, h3⟩ := (co_bits hF a b ha).1 h
  exact ⟨(right_le hF ha h2).1, (right_le hG h1 h3).2⟩
theorem or_bits (F G : Nat → Nat) (a b : Nat) : Bt (opF orN F G) a b ↔ Bt F a b ∨ Bt G a b := by
  unfold Bt opF orN
  rw [Nat.testBit_or, Bool.or_eq_true]

/-- One round of the reference's closing. -/
def nxt (N : Nat) (G : Nat → Nat) : Nat → Nat := opF orN G (coF G (edgesL N G))
theorem right_nxt {N : Nat} {G : Nat → Nat} (h : Right N G) : Right N (nxt N G) := right_or h (right_co h h)
theorem nxt_bits {N : Nat} {G : Nat → Nat} (h : Right N G) (a b : Nat) (ha : a < 64) : Bt (nxt N G) a b ↔ Bt G a b ∨ ∃ c, c < 64 ∧ Bt G a c ∧ Bt G c b := by
  unfold nxt
  rw [or_bits, co_bits h a b ha]
/-- What the rounds keep. -/
structure Mid (F G : Nat → Nat) : Prop where
  has : ∀ a b, a < 64 → Bt F a b → Bt G a b
  least : ∀ T : Nat → Nat → Prop, (∀ a b, a < 64 → b < 64 → Bt F a b → T a b) → (∀ a b c, T a b → T b c → T a c) → ∀ a b, a < 64 → Bt G a b → T a b
theorem mid_start {N : Nat} {F : Nat → Nat} (hN : N ≤ 64) (hF : Right N F) : Mid F F :=
  ⟨fun _ _ _ h => h, fun T hT _ a b ha h => hT a b ha (by have := (right_le hF ha h).2; omega) h⟩
theorem mid_next {N : Nat} {F G : Nat → Nat} (hG : Right N G) (h : Mid F G) : Mid F (nxt N G) := by
  refine ⟨fun a b ha hb => (nxt_bits hG a b ha).2 (Or.inl (h.has a b ha hb)), fun T hT hT' a b ha hb => ?_⟩
  rcases (nxt_bits hG a b ha).1 hb with h1 | ⟨c, hc, h1, h2⟩
  · exact h.least T hT hT' a b ha h1
  · exact hT' a c b (h.least T hT hT' a c ha h1) (h.least T hT hT' c b hc h2)
theorem mid_end {N : Nat} {F G : Nat → Nat} (hN : N ≤ 64) (hF : Right N F) (hG : Right N G) (h : Mid F G) (he : rowsEq (nxt N G) G = true) (j : Nat) (hj : j < 64) : G j = wsh F N j := by
  have he' := (rowsEq_iff _ _).1 he
  have cG : Clo F G := ⟨h.has, fun a b c ha hb h1 h2 => by
    have : Bt (nxt N G) a c := (nxt_bits hG a c ha).2 (Or.inr ⟨b, hb, h1, h2⟩)
    unfold Bt at this ⊢
    rwa [he' a ha] at this, h.least⟩
  have inF : In N F := fun a b ha h => right_le hF ha h
  refine Clo.eq (fun a b ha hb => by have := (right_le hF ha hb).2; omega) cG (wsh_clo hN inF) (fun a b ha hb => by have := (right_le hG ha hb).2; omega) (fun a b ha hb => ?_) j hj
  have := (wsh_in hN inF N (Nat.le_refl _) a b ha hb).2
  omega
theorem nxt_cnt {N : Nat} {G : Nat → Nat} (hN : N ≤ 64) (hG : Right N G) (he : rowsEq (nxt N G) G = false) : cnt G < cnt (nxt N G) := by
  refine cnt_lt (fun a b ha hb => (nxt_bits hG a b ha).2 (Or.inl hb)) ?_
  apply Classical.byContradiction
  intro hno
  have : rowsEq (nxt N G) G = true := (rowsEq_iff _ _).2 (fun i hi => by
    apply Nat.eq_of_testBit_eq
    intro b
    have k1 : Bt (nxt N G) i b → Bt G i b := fun h => by
      apply Classical.byContradiction
      intro hn
      exact hno ⟨i, b, hi, by have := (right_le (right_nxt hG) hi h).2; omega, h, hn⟩
    have k2 : Bt G i b → Bt (nxt N G) i b := fun h => (nxt_bits hG i b hi).2 (Or.inl h)
    unfold Bt at k1 k2
    cases h1 : (nxt N G i).testBit b <;> cases h2 : (G i).testBit b <;> simp_all)
  rw [this] at he
  cases he

set_option maxRecDepth 100000 in
set_option maxHeartbeats 1000000 in
theorem ropt_any (n : Int) (f : Nat → Nat) (hf : Wf f) : AnsV 38 #[relv n f] (relv (nN n f) (opF orN (nF n f) (idF (nN n f).toNat))) := fun w hT => by
  have c1 : Hid (∀ W, Calls Tryd.prog 24 #[relv n f] W fun e w' => e = .returned (relv (nN n f) (nF n f)) ∧ Below W.heap.size W w') := fun W => rright_any n f W hf
  obtain ⟨N, h1, hN64, h3⟩ := n_right' n f hf
  rw [h1] at c1 ⊢
  rw [Int.toNat_natCast]
  have hid : ∀ j, j < 64 → onF 18446744073709551615 N j = idF N j := fun j hj => by
    unfold idF onF
    split
    · rename_i h
      apply Nat.eq_of_testBit_eq
      intro b
      rw [Nat.testBit_and, Nat.testBit_and, Nat.testBit_two_pow]
      by_cases hb : j = b
      · subst hb
        rw [testBit_bel _ _ hj]
        have : (18446744073709551615 : Nat).testBit j = true := by
          rw [show (18446744073709551615 : Nat) = 2 ^ 64 - 1 from rfl, Nat.testBit_two_pow_sub_one]; simpa using hj
        simp [this, h]
      · simp [hb]
    · rfl
  have cs : Hid (AnsV 18 #[.int .i64 (N : Int), .int .u64 18446744073709551615] (relv N (idF N))) := fun W _ => by
    have := ron_any N 18446744073709551615 W (by decide)
    unfold onV at this
    rw [if_pos ⟨by omega, by omega⟩, Int.toNat_natCast, relv_congr rfl hid] at this
    exact this
  have cu : Hid (AnsV 27 #[.int .i64 0, relv N (nF n f), relv N (idF N)] (relv N (opF orN (nF n f) (idF N)))) := two0_R hN64 h3 (right_id N hN64)
  generalize nF n f = F at *
  generalize opF orN F (idF N) = X at *
  generalize idF N = Y at *
  clear h1 h3 hid
  go_enter Tryd.func38, Tryd.ntmps38
  go_wp2_with (first
    | (refine wpList_boxR rfl _ rfl rfl ?_; intro W1 b1 F1 r1; have B1 := Fresh.trans (Below.refl _ w) (Nat.le_refl _) F1)
    | (refine wpList_allocR rfl rfl ?_; intro W3 b2 F3 r2; replace B1 := Fresh.trans B1 B1.size F3; replace r1 := r1.fresh F3; have hb1 : w.heap.size ≤ b1 := (by rw [F1.at']; exact Nat.le_refl _); have hb2 : b1 < b2 := (by rw [F3.at', F1.size]; omega); clear F1 F3)
    | (refine wpList_loadR rfl _ rfl rfl r1 ?_)
    | (go_at_call 24; refine (c1.out _).mono ?_; rintro e w' ⟨rfl, hw'⟩; replace r1 := r1.grown hw'; replace r2 := r2.grown hw'; replace B1 := B1.trans (hw'.mono B1.size); clear hw')
    | (refine wpList_storeR rfl _ _ rfl rfl rfl r1 ?_; intro W5 U5 q1; replace B1 := U5.trans B1 (by omega); replace r2 := r2.upd U5 (by omega); clear U5 r1; have r1 := q1; clear q1))
  have tW := hT.below B1
  have s1 := cs.out.lift tW
  have u1 := cu.out.lift tW
  have hr1 : ∀ W', Below W5.heap.size W5 W' → IsR W' b1 N F := fun W' h => r1.grown h
  refine wp_quiet_tail (fun W' => Below W5.heap.size W5 W') 5 (by kernel_rfl) (by kernel_rfl) (below_drawn W5) ?_
  simp only [List.take_succ_cons, List.take_zero, List.drop_succ_cons, List.drop_zero]
  refine wpQuiet_loadR rfl _ rfl rfl hr1 ?_
  refine wpQuiet_put rfl (v := .pointer (some ⟨b1, 0, none⟩)) (fun w => by go_simp; done) ?_
  refine wpQuiet_loadN rfl _ rfl rfl hr1 ?_
  refine wpQuiet_call rfl (fun w => by first | rfl | (go_simp; done)) s1 ?_
  refine wpQuiet_call rfl (fun w => by first | rfl | (go_simp; done)) u1 ?_
  refine wpQuiet_nil ?_
  intro W6 hW6
  have q2 := r2.grown hW6
  have B6 := B1.trans (hW6.mono B1.size)
  clear s1 u1 hr1 r1 r2 B1 hW6
  go_wp2_with (refine wpList_storeR rfl _ _ rfl rfl rfl q2 ?_; intro W7 U7 r7)
  refine ret_R rfl rfl rfl r7 ⟨rfl, U7.trans B6 (by omega)⟩

set_option maxRecDepth 100000 in
set_option maxHeartbeats 1000000 in
theorem rplus_any (n : Int) (f : Nat → Nat) (hf : Wf f) : AnsV 40 #[relv n f] (relv (nN n f) (wsh (nF n f) (nN n f).toNat)) := fun w hT => by
  have c1 : Hid (∀ W, Calls Tryd.prog 24 #[relv n f] W fun e w' => e = .returned (relv (nN n f) (nF n f)) ∧ Below W.heap.size W w') := fun W => rright_any n f W hf
  obtain ⟨N, h1, hN64, h3⟩ := n_right' n f hf
  rw [h1] at c1 ⊢
  rw [Int.toNat_natCast]
  have hR : Hid (Right N (nF n f)) := h3
  generalize nF n f = F at *
  clear h1 h3
  go_enter Tryd.func40, Tryd.ntmps40
  go_wp2_with (first
    | (refine wpList_boxR rfl _ rfl rfl ?_; intro W1 b1 F1 r1; have B1 := Fresh.trans (Below.refl _ w) (Nat.le_refl _) F1)
    | (refine wpList_allocR rfl rfl ?_; intro W3 b2 F3 r2; replace B1 := Fresh.trans B1 B1.size F3; replace r1 := r1.fresh F3; have hb1 : w.heap.size ≤ b1 := (by rw [F1.at']; exact Nat.le_refl _); have hb2 : b1 < b2 := (by rw [F3.at', F1.size]; omega); clear F1 F3)
    | (refine wpList_loadR rfl _ rfl rfl r1 ?_)
    | (go_at_call 24; refine (c1.out _).mono ?_; rintro e w' ⟨rfl, hw'⟩; replace r1 := r1.grown hw'; replace r2 := r2.grown hw'; replace B1 := B1.trans (hw'.mono B1.size); clear hw')
    | (refine wpList_storeR rfl _ _ rfl rfl rfl r1 ?_; intro W5 U5 q1; replace B1 := U5.trans B1 (by omega); replace r2 := r2.upd U5 (by omega); clear U5 r1; have r1 := q1; clear q1))
  clear c1
  dsimp only [Act.put]
  go_loopg [3] (4096 - cnt F) (fun g p wr => ∃ G, g = 4096 - cnt G ∧ Right N G ∧ Mid F G ∧ IsR wr b1 N G ∧ IsR wr b2 0 void ∧ Below w.heap.size w wr)
  case atStart => exact ⟨F, rfl, hR.out, mid_start hN64 hR.out, r1, r2, B1⟩
  case round =>
    clear r1 r2 B1
    obtain ⟨G, hg, hRG, hM, q1, q2, BB⟩ := hrel
    have hc := cnt_le (nxt N G)
    have HM : Hid (Right N G ∧ Mid F G ∧ gk = 4096 - cnt G ∧ cnt (nxt N G) ≤ 4096) := ⟨hRG, hM, hg, hc⟩
    have tW := hT.below BB
    have s1 : AnsV 27 #[.int .i64 3, relv N G, relv N G] (relv N (coF G (edgesL N G))) := two3_R hN64 hRG hRG
    have u1 : AnsV 27 #[.int .i64 0, relv N G, relv N (coF G (edgesL N G))] (relv N (nxt N G)) := two0_R hN64 hRG (right_co hRG hRG)
    have hq := eqlG (N : Int) (nxt N G) G
    have hgg := eqGuardR .eql
    generalize coF G (edgesL N G) = Y at *
    clear hg hRG hM hc
    cases he : rowsEq (nxt N G) G
    · rw [he] at hq
      have HX : Hid (Right N (nxt N G) ∧ Mid F (nxt N G) ∧ 4096 - cnt (nxt N G) < gk) := by
        obtain ⟨k1, k2, k3, k4⟩ := HM.out
        have := nxt_cnt hN64 k1 he
        exact ⟨right_nxt k1, mid_next k1 k2, by omega⟩
      clear he HM
      generalize nxt N G = X at *
      go_wp2_with fail
      refine grow_make 5 _ (MadeR wr) (by kernel_rfl) (by kernel_rfl) rfl rfl (madeR_grown wr) (madeR_make rfl wr) ?_
      simp only [List.take_succ_cons, List.take_zero, List.drop_succ_cons, List.drop_zero]
      refine wpG_loadR rfl _ rfl rfl q1 ?_
      refine wpG_loadR rfl _ rfl rfl q1 ?_
      refine wpG_loadR rfl _ rfl rfl q1 ?_
      refine wpG_call tW rfl s1 (fun w => by first | rfl | (go_simp; done)) ?_
      refine wpG_call tW rfl u1 (fun w => by first | rfl | (go_simp; done)) ?_
      refine wpG_nil ?_
      rintro v W6 ⟨hW6, b3, rfl, hb3, r3⟩
      simp only [Act.put, List.setIfInBounds_toArray, List.set_cons_succ, List.set_cons_zero]
      have hn1 : b1 ≠ b3 := by have := q1.lt; omega
      have hn2 : b2 ≠ b3 := by have := q2.lt; omega
      have hb3' : w.heap.size ≤ b3 := by have := BB.size; omega
      replace q1 := q1.grown hW6
      replace q2 := q2.grown hW6
      replace BB := BB.trans (hW6.mono BB.size)
      clear s1 u1 hW6 tW hb3
      refine wpList_storeR rfl _ _ rfl rfl rfl r3 ?_
      intro W8 U8 q3
      replace q1 := q1.upd U8 hn1
      replace q2 := q2.upd U8 hn2
      replace BB := U8.trans BB hb3'
      clear r3 U8
      go_wp2_with (first
        | (refine wpList_loadR rfl _ rfl rfl q1 ?_)
        | (refine wpList_loadR rfl _ rfl rfl q3 ?_)
        | (refine wpList_storeR rfl _ _ rfl rfl rfl q1 ?_; intro W9 U9 q9; replace q2 := q2.upd U9 (by omega); replace BB := U9.trans BB (by omega); clear q1 U9))
      go_roundg (4096 - cnt X)
      case measure => exact HX.out.2.2
      case rel => exact ⟨X, rfl, HX.out.1, HX.out.2.1, q9, q2, BB⟩
    · rw [he] at hq
      have HX : Hid (relv (N : Int) G = relv N (wsh F N)) := by
        obtain ⟨k1, k2, k3, k4⟩ := HM.out
        exact relv_congr rfl (fun j hj => mid_end hN64 hR.out k1 k2 he j hj)
      clear he HM
      generalize nxt N G = X at *
      go_wp2_with fail
      refine grow_make 5 _ (MadeR wr) (by kernel_rfl) (by kernel_rfl) rfl rfl (madeR_grown wr) (madeR_make rfl wr) ?_
      simp only [List.take_succ_cons, List.take_zero, List.drop_succ_cons, List.drop_zero]
      refine wpG_loadR rfl _ rfl rfl q1 ?_
      refine wpG_loadR rfl _ rfl rfl q1 ?_
      refine wpG_loadR rfl _ rfl rfl q1 ?_
      refine wpG_call tW rfl s1 (fun w => by first | rfl | (go_simp; done)) ?_
      refine wpG_call tW rfl u1 (fun w => by first | rfl | (go_simp; done)) ?_
      refine wpG_nil ?_
      rintro v W6 ⟨hW6, b3, rfl, hb3, r3⟩
      simp only [Act.put, List.setIfInBounds_toArray, List.set_cons_succ, List.set_cons_zero]
      have hn1 : b1 ≠ b3 := by have := q1.lt; omega
      have hn2 : b2 ≠ b3 := by have := q2.lt; omega
      have hb3' : w.heap.size ≤ b3 := by have := BB.size; omega
      replace q1 := q1.grown hW6
      replace q2 := q2.grown hW6
      replace BB := BB.trans (hW6.mono BB.size)
      clear s1 u1 hW6 tW hb3
      refine wpList_storeR rfl _ _ rfl rfl rfl r3 ?_
      intro W8 U8 q3
      replace q1 := q1.upd U8 hn1
      replace q2 := q2.upd U8 hn2
      replace BB := U8.trans BB hb3'
      clear r3 U8
      go_wp2_with (first
        | (refine wpList_loadR rfl _ rfl rfl q1 ?_)
        | (refine wpList_loadR rfl _ rfl rfl q3 ?_)
        | (refine wpList_storeR rfl _ _ rfl rfl rfl q2 ?_; intro W9 U9 q9; replace BB := U9.trans BB (by omega); clear q2 U9))
      refine ret_R rfl rfl rfl q9 ⟨by rw [HX.out], BB⟩

set_option maxRecDepth 100000 in
theorem rstar_any (n : Int) (f : Nat → Nat) (hf : Wf f) : AnsV 42 #[relv n f] (relv (nN n f) (opF orN (wsh (nF n f) (nN n f).toNat) (idF (nN n f).toNat))) := fun w hT => by
  have cp : Hid (AnsV 40 #[relv n f] (relv (nN n f) (wsh (nF n f) (nN n f).toNat))) := rplus_any n f hf
  obtain ⟨N, h1, hN64, h3⟩ := n_right' n f hf
  rw [h1] at cp ⊢
  rw [Int.toNat_natCast] at cp ⊢
  have hW := right_wsh hN64 h3 N (Nat.le_refl _)
  have co : Hid (AnsV 38 #[relv N (wsh (nF n f) N)] (relv N (opF orN (wsh (nF n f) N) (idF N)))) := by
    have := ropt_any N (wsh (nF n f) N) hW.wf
    rwa [right_nN hW hN64, right_nF hW hN64, Int.toNat_natCast] at this
  generalize opF orN (wsh (nF n f) N) (idF N) = X at *
  generalize wsh (nF n f) N = Y at *
  clear h1 h3 hW
  go_enter Tryd.func42, Tryd.ntmps42
  go_wp2_with (first
    | (refine wpList_boxR rfl _ rfl rfl ?_; intro W1 b1 F1 r1; have B1 := Fresh.trans (Below.refl _ w) (Nat.le_refl _) F1)
    | (refine wpList_allocR rfl rfl ?_; intro W3 b2 F3 r2; replace B1 := Fresh.trans B1 B1.size F3; replace r1 := r1.fresh F3; have hb1 : w.heap.size ≤ b1 := (by rw [F1.at']; exact Nat.le_refl _); have hb2 : b1 < b2 := (by rw [F3.at', F1.size]; omega); clear F1 F3)
    | (refine wpList_loadR rfl _ rfl rfl r1 ?_)
    | (go_at_call 40; refine (cp.out _ (hT.below B1)).mono ?_; rintro e w' ⟨rfl, hw'⟩; replace r1 := r1.grown hw'; replace r2 := r2.grown hw'; replace B1 := B1.trans (hw'.mono B1.size); clear hw')
    | (go_at_call 38; refine (co.out _ (hT.below B1)).mono ?_; rintro e w' ⟨rfl, hw'⟩; replace r1 := r1.grown hw'; replace r2 := r2.grown hw'; replace B1 := B1.trans (hw'.mono B1.size); clear hw')
    | (refine wpList_storeR rfl _ _ rfl rfl rfl r2 ?_; intro W5 U5 q1; replace B1 := U5.trans B1 (by omega)))
  refine ret_R rfl rfl rfl q1 ⟨rfl, B1⟩
end Go.Proofs.YtkccckjiemijeaaDoor

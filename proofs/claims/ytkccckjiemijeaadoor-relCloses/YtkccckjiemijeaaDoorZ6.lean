/- The reference's Domain, Range, Irreflexive, Transitive and Acyclic. -/
import Derived.Test.YtkccckjiemijeaaDoorZ5
import Derived.Test.YtkccckjiemijeaaDoorX3
namespace Go.Proofs.YtkccckjiemijeaaDoor
open Go.RowKit Go.Shelf M P
set_option linter.unusedSimpArgs false
set_option linter.unusedVariables false

theorem own_pairs {W : World} {base n : Nat} {v : Value} {l : List (Int × Int)} (h : W.ownsRow base 29 2 v n (cellsE l)) (hn : l.length = n) : ∃ a cap, v = .slice a n cap ∧ Prs W a l := by
  rcases h.2 with ⟨hv, h0⟩ | ⟨g, cap', cur, hv, hb, hh, rest⟩
  · refine ⟨none, 0, by rw [hv, h0], fun j hj => ?_⟩
    omega
  · subst hv
    refine ⟨_, _, rfl, fun j hj => ⟨g, 0, rfl, ?_, ?_⟩⟩
    · have hg := cellsE_get l j hj
      have hl := cellsE_len l
      rw [Nat.zero_add, h.cellAt (j * 2) (by omega), hg.1]
    · have hg := cellsE_get l j hj
      have hl := cellsE_len l
      rw [Nat.zero_add, h.cellAt (j * 2 + 1) (by omega), hg.2]

/-- The first numbers of pairs, as a set. -/
def fsts (l : List (Nat × Nat)) : Nat := l.foldl (fun s e => s ||| 2 ^ e.1) 0
theorem fsts_snoc (l : List (Nat × Nat)) (e : Nat × Nat) : fsts (l ++ [e]) = fsts l ||| 2 ^ e.1 := by simp [fsts]
theorem fsts_from (l : List (Nat × Nat)) (a : Nat) : ∀ s : Nat, (l.foldl (fun s e => s ||| 2 ^ e.1) s).testBit a = true ↔ s.testBit a = true ∨ ∃ b, (a, b) ∈ l := by
  induction l with
  | nil => intro s; simp
  | cons e l ih =>
    intro s
    rw [List.foldl_cons, ih, Nat.testBit_or, Bool.or_eq_true, Nat.testBit_two_pow, decide_eq_true_eq]
    constructor
    · rintro ((h | rfl) | ⟨b, hb⟩)
      · exact Or.inl h
      · exact Or.inr ⟨e.2, by simp⟩
      · exact Or.inr ⟨b, by simp [hb]⟩
    · rintro (h | ⟨b, hb⟩)
      · exact Or.inl (Or.inl h)
      · rcases List.mem_cons.1 hb with hb | hb
        · exact Or.inl (Or.inr (by rw [← hb]))
        · exact Or.inr ⟨b, hb⟩
theorem fsts_bit (l : List (Nat × Nat)) (a : Nat) : (fsts l).testBit a = true ↔ ∃ b, (a, b) ∈ l := by
  unfold fsts
  rw [fsts_from, Nat.zero_testBit]
  simp
theorem fsts_lt (l : List (Nat × Nat)) (h : ∀ e ∈ l, e.1 < 64) : fsts l < 18446744073709551616 := by
  have : fsts l < 2 ^ 64 := Nat.lt_pow_two_of_testBit _ fun a ha => by
    cases hb : (fsts l).testBit a
    · rfl
    · obtain ⟨b, hm⟩ := (fsts_bit l a).1 hb
      have := h _ hm
      dsimp only at this
      omega
  exact this
theorem fsts_dom {N : Nat} {F : Nat → Nat} (hN : N ≤ 64) (hF : Right N F) : fsts (edgesL 64 F) = dom F N := by
  apply Nat.eq_of_testBit_eq
  intro a
  rw [Bool.eq_iff_iff, fsts_bit]
  unfold dom
  rw [rowB_bit, Bool.and_eq_true, decide_eq_true_eq, decide_eq_true_eq]
  constructor
  · rintro ⟨b, hb⟩
    obtain ⟨h1, h2, h3⟩ := mem_edges.1 hb
    refine ⟨(hF.in' a h1 b h2 h3).1, fun h0 => ?_⟩
    rw [h0, Nat.zero_testBit] at h3
    cases h3
  · rintro ⟨h1, h2⟩
    obtain ⟨b, hb⟩ : ∃ b, (F a).testBit b = true := Nat.exists_testBit_of_ne_zero h2
    refine ⟨b, mem_edges.2 ⟨by omega, ?_, hb⟩⟩
    have := (right_le hF (show a < 64 by omega) hb).2
    omega
theorem edges_in (N : Nat) (hN : N ≤ 64) (F : Nat → Nat) : ∀ e ∈ edgesL N F, e.1 < 64 := fun e he => by
  obtain ⟨a, b⟩ := e
  have := (mem_edges.1 he).1
  dsimp only; omega
theorem toI_get (l : List (Nat × Nat)) (k : Nat) (h : k < l.length) : (toI l).getD k (0, 0) = ((((l.getD k (0, 0)).1 : Nat) : Int), (((l.getD k (0, 0)).2 : Nat) : Int)) := by
  simp [toI, List.getD_eq_getElem?_getD, List.getElem?_eq_getElem h]
theorem take_get (l : List (Nat × Nat)) (k : Nat) (h : k < l.length) : l.take (k + 1) = l.take k ++ [l.getD k (0, 0)] := by
  rw [List.take_succ_eq_append_getElem h, List.getD_eq_getElem?_getD, List.getElem?_eq_getElem h]; rfl

set_option maxRecDepth 100000 in
set_option maxHeartbeats 1000000 in
theorem rdomain_any (n : Int) (f : Nat → Nat) (hf : Wf f) : AnsV 44 #[relv n f] (.int .u64 (dom (nF n f) (nN n f).toNat : Nat)) := fun w hT => by
  obtain ⟨N, h1, hN64, h3⟩ := n_right' n f hf
  rw [h1, Int.toNat_natCast, ← fsts_dom hN64 h3]
  have c1 : Hid (∀ W, Calls Tryd.prog 20 #[relv n f] W fun e w' => ∃ a cap, e = .returned (.slice a (edgesL 64 (nF n f)).length cap) ∧ Prs w' a (toI (edgesL 64 (nF n f))) ∧ Below W.heap.size W w') := fun W => (redges_any n f W hf).mono fun e w' ⟨v, he, ho, hb⟩ => by
    obtain ⟨a, cap, hv, hp⟩ := own_pairs ho (toI_len _)
    exact ⟨a, cap, by rw [he, hv], hp, hb⟩
  have hlen := edgesL_le (nF n f) 64
  have HI : Hid (∀ e ∈ edgesL 64 (nF n f), e.1 < 64) := edges_in 64 (by omega) _
  generalize edgesL 64 (nF n f) = L at *
  clear h1 h3 hT
  go_enter Tryd.func44, Tryd.ntmps44
  go_wp2_with (first
    | (refine wpList_boxR rfl _ rfl rfl ?_; intro W1 b1 F1 r1; have B1 := Fresh.trans (Below.refl _ w) (Nat.le_refl _) F1; clear F1)
    | (refine wpList_loadR rfl _ rfl rfl r1 ?_)
    | (go_at_call 20; refine (c1.out _).mono ?_; rintro e w' ⟨ad, cap, rfl, hp, hw'⟩; replace B1 := B1.trans (hw'.mono B1.size); clear hw' r1))
  have HP : Hid (Prs w' ad (toI L)) := hp
  clear hp
  go_loop [4, 5] (fun s i => ∃ k : Nat, k ≤ L.length ∧ i = .int .i64 k ∧ s = .int .u64 (fsts (L.take k) : Nat)) (fun _ i => L.length - (intOf i).toNat)
  case atStart => exact ⟨0, by omega, rfl, rfl⟩
  case round =>
    obtain ⟨k, hk, rfl, rfl⟩ := hrel
    by_cases hlt : k < L.length
    · obtain ⟨b, off, rfl, hc1, hc2⟩ := HP.out k (by rw [toI_len]; exact hlt)
      rw [toI_get L k hlt] at hc1
      dsimp only at hc1
      have hX : (L.getD k (0, 0)).1 < 64 := HI.out _ (by rw [List.getD_eq_getElem?_getD, List.getElem?_eq_getElem hlt]; simp)
      have HS : Hid (fsts (L.take (k + 1)) = fsts (L.take k) ||| 2 ^ (L.getD k (0, 0)).1) := (show fsts (L.take (k + 1)) = _ by rw [take_get L k hlt, fsts_snoc])
      have hsl := fsts_lt (L.take k) (fun e he => HI.out e (List.mem_of_mem_take he))
      have hor := or_pow (fsts (L.take k)) (L.getD k (0, 0)).1 hsl hX
      have hw := wrap_pow (L.getD k (0, 0)).1 hX
      generalize (L.getD k (0, 0)).1 = X at *
      have hXi : (X : Int) < 64 := by omega
      generalize fsts (L.take k) ||| 2 ^ X = z1 at *
      generalize fsts (L.take k) = z at *
      clear hc2
      go_wp2
      go_round
      case rel => exact ⟨k + 1, by omega, by go_num, by rw [HS.out]⟩
      case measure => simp [intOf]; omega
    · obtain rfl : k = L.length := by omega
      have HT : Hid (L.take L.length = L) := List.take_length
      go_wp2
      go_ret
      exact ⟨rfl, B1⟩

theorem dom_inv {N : Nat} {F : Nat → Nat} (hN : N ≤ 64) (hF : Right N F) : dom (tuF (edgesL N F)) N = rng F 64 := by
  have key : ∀ K, K ≤ 64 → ∀ b, (rng F K).testBit b = true ↔ ∃ a, a < K ∧ (F a).testBit b = true := by
    intro K
    induction K with
    | zero => intro _ b; simp [rng]
    | succ K ih =>
      intro hK b
      unfold rng
      rw [Nat.testBit_or, Bool.or_eq_true, ih (by omega)]
      constructor
      · rintro (⟨a, h1, h2⟩ | h)
        · exact ⟨a, by omega, h2⟩
        · exact ⟨K, by omega, h⟩
      · rintro ⟨a, h1, h2⟩
        by_cases e : a = K
        · subst e; exact Or.inr h2
        · exact Or.inl ⟨a, by omega, h2⟩
  apply Nat.eq_of_testBit_eq
  intro b
  rw [Bool.eq_iff_iff, key 64 (Nat.le_refl _)]
  unfold dom
  rw [rowB_bit, Bool.and_eq_true, decide_eq_true_eq, decide_eq_true_eq]
  constructor
  · rintro ⟨h1, h2⟩
    obtain ⟨a, ha⟩ := Nat.exists_testBit_of_ne_zero h2
    rw [tuF_bit, decide_eq_true_eq] at ha
    obtain ⟨k1, k2, k3⟩ := mem_edges.1 ha
    exact ⟨a, by omega, k3⟩
  · rintro ⟨a, h1, h2⟩
    obtain ⟨k1, k2⟩ := right_le hF h1 h2
    refine ⟨k2, fun h0 => ?_⟩
    have : (tuF (edgesL N F) b).testBit a = true := by
      rw [tuF_bit, decide_eq_true_eq]
      exact mem_edges.2 ⟨k1, by omega, h2⟩
    rw [h0, Nat.zero_testBit] at this
    cases this
theorem right_tu {N : Nat} {F : Nat → Nat} (hN : N ≤ 64) (hF : Right N F) : Right N (tuF (edgesL N F)) := by
  refine right_bits (tuF_lt _ (edges_in N hN F)) (fun a b ha h => ?_)
  rw [tuF_bit, decide_eq_true_eq] at h
  obtain ⟨k1, k2, k3⟩ := mem_edges.1 h
  exact ⟨(hF.in' b (by omega) a k2 k3).2, k1⟩

set_option maxRecDepth 100000 in
theorem rrange_any (n : Int) (f : Nat → Nat) (hf : Wf f) : AnsV 46 #[relv n f] (.int .u64 (rng (nF n f) 64 : Nat)) := fun w hT => by
  obtain ⟨N, h1, hN64, h3⟩ := n_right' n f hf
  have c1 : Hid (∀ W, Calls Tryd.prog 32 #[relv n f] W fun e w' => e = .returned (relv N (tuF (edgesL N (nF n f)))) ∧ Below W.heap.size W w') := fun W => by
    have := rinv_any n f W hf
    rw [h1, Int.toNat_natCast] at this
    rwa [relv_congr rfl (fun j hj => tu_inv j hj)]
  have c2 : Hid (AnsV 44 #[relv N (tuF (edgesL N (nF n f)))] (.int .u64 (rng (nF n f) 64 : Nat))) := by
    have hT' := right_tu hN64 h3
    have := rdomain_any N (tuF (edgesL N (nF n f))) hT'.wf
    rwa [right_nN hT' hN64, right_nF hT' hN64, Int.toNat_natCast, dom_inv hN64 h3] at this
  generalize rng (nF n f) 64 = z at *
  generalize tuF (edgesL N (nF n f)) = X at *
  clear h1 h3
  go_enter Tryd.func46, Tryd.ntmps46
  go_wp2_with (first
    | (refine wpList_boxR rfl _ rfl rfl ?_; intro W1 b1 F1 r1; have B1 := Fresh.trans (Below.refl _ w) (Nat.le_refl _) F1)
    | (refine wpList_loadR rfl _ rfl rfl r1 ?_)
    | (go_at_call 32; refine (c1.out _).mono ?_; rintro e w' ⟨rfl, hw'⟩; replace r1 := r1.grown hw'; replace B1 := B1.trans (hw'.mono B1.size); clear hw')
    | (go_at_call 44; refine (c2.out _ (hT.below B1)).mono ?_; rintro e w' ⟨rfl, hw'⟩; replace r1 := r1.grown hw'; replace B1 := B1.trans (hw'.mono B1.size); clear hw'))
  go_ret
  exact ⟨rfl, B1⟩

theorem irr_bad {N : Nat} {F : Nat → Nat} {k : Nat} (hk : k < N) (h : (F k).testBit k = true) : irr N F = false := by
  unfold irr
  rw [List.all_eq_false]
  exact ⟨k, by simpa using hk, by simp [h]⟩

set_option maxRecDepth 100000 in
set_option maxHeartbeats 1000000 in
theorem rirreflexive_any (n : Int) (f : Nat → Nat) (hf : Wf f) : AnsV 48 #[relv n f] (.bool (irr (nN n f).toNat (nF n f))) := fun w hT => by
  have c1 : Hid (∀ W, Calls Tryd.prog 24 #[relv n f] W fun e w' => e = .returned (relv (nN n f) (nF n f)) ∧ Below W.heap.size W w') := fun W => rright_any n f W hf
  obtain ⟨N, h1, hN64, h3⟩ := n_right' n f hf
  rw [h1] at c1 ⊢
  rw [Int.toNat_natCast]
  have cF : Hid (∀ a W, a < N → Calls Tryd.prog 23 #[relv N (nF n f), .int .i64 (a : Nat), .int .i64 (a : Nat)] W fun e w' => e = .returned (.bool ((nF n f a).testBit a)) ∧ Below W.heap.size W w') := fun a W ha => by
    have := rhas_any N hN64 (nF n f) a a W h3.wf
    rw [hasE_in N (nF n f) a a ha ha] at this
    exact this
  generalize nF n f = F at *
  clear h1 h3 hT
  go_enter Tryd.func48, Tryd.ntmps48
  go_wp2_with (first
    | (refine wpList_boxR rfl _ rfl rfl ?_; intro W1 b1 F1 r1; have B1 := Fresh.trans (Below.refl _ w) (Nat.le_refl _) F1; have hb1 : w.heap.size ≤ b1 := (by rw [F1.at']; exact Nat.le_refl _); clear F1)
    | (refine wpList_loadR rfl _ rfl rfl r1 ?_)
    | (go_at_call 24; refine (c1.out _).mono ?_; rintro e w' ⟨rfl, hw'⟩; replace r1 := r1.grown hw'; replace B1 := B1.trans (hw'.mono B1.size); clear hw')
    | (refine wpList_storeR rfl _ _ rfl rfl rfl r1 ?_; intro W5 U5 q1; replace B1 := U5.trans B1 (by omega); clear U5 r1; have r1 := q1; clear q1; have cn1 := r1.n))
  clear cn1 c1
  go_loopw [3] (fun i wr => ∃ k : Nat, k ≤ N ∧ i = .int .i64 k ∧ Hid (∀ j, j < k → (F j).testBit j = false) ∧ IsR wr b1 N F ∧ Below w.heap.size w wr) (fun i _ => N - (intOf i).toNat)
  case atStart => exact ⟨0, by omega, rfl, fun j hj => by omega, r1, B1⟩
  case round =>
    clear r1 B1
    obtain ⟨k, hk, rfl, HK, q1, BB⟩ := hrel
    have hcn := q1.n
    by_cases hlt : k < N
    · have hki : (k : Int) < (N : Int) := by omega
      have ch := fun W => cF.out k W hlt
      cases hb : (F k).testBit k
      · rw [hb] at ch
        have HK' : Hid (∀ j, j < k + 1 → (F j).testBit j = false) := fun j hj => by
          by_cases e : j = k
          · subst e; exact hb
          · exact HK.out j (by omega)
        clear hb
        go_wp2_with (first
          | (refine wpList_loadR rfl _ rfl rfl q1 ?_)
          | (go_at_call 23; refine (ch _).mono ?_; rintro e w' ⟨rfl, hw'⟩; replace q1 := q1.grown hw'; replace BB := BB.trans (hw'.mono BB.size); clear hw'))
        go_roundw
        case rel => exact ⟨k + 1, by omega, by go_num, HK', q1, BB⟩
        case measure => simp [intOf]; omega
      · rw [hb] at ch
        have HV : Hid (irr N F = false) := irr_bad hlt hb
        clear hb
        go_wp2_with (first
          | (refine wpList_loadR rfl _ rfl rfl q1 ?_)
          | (go_at_call 23; refine (ch _).mono ?_; rintro e w' ⟨rfl, hw'⟩; replace q1 := q1.grown hw'; replace BB := BB.trans (hw'.mono BB.size); clear hw'))
        go_ret
        exact ⟨ret_bool (by rw [HV.out]), BB⟩
    · obtain rfl : k = N := by omega
      have hki : ¬ (k : Int) < (k : Int) := by omega
      have HV : Hid (irr k F = true) := (show irr k F = true by unfold irr; rw [List.all_eq_true]; intro j hj; simp [HK.out j (by simpa using hj)])
      go_wp2
      go_ret
      exact ⟨ret_bool (by rw [HV.out]), BB⟩

theorem tra_eq {N : Nat} {F : Nat → Nat} (hN : N ≤ 64) (hF : Right N F) : rowsEq (opF notN (coF F (edgesL N F)) F) void = tra N F := by
  unfold tra
  rw [Bool.eq_iff_iff, rowsEq_iff, rowsEq_iff]
  have e : ∀ a, a < 64 → ∀ b, ((opF notN (coF F (edgesL N F)) F) a).testBit b = ((coF F (edgesL N F) a).testBit b && !(F a).testBit b) := fun a ha b => by
    have := sub_mat hN (right_co hF hF) hF.wf a ha
    rw [this, matF_bit]
    unfold hSub
    cases h1 : (coF F (edgesL N F) a).testBit b
    · simp
    · obtain ⟨a1, a2⟩ := right_le (right_co hF hF) ha h1; simp [a1, a2]
  constructor
  · intro h a ha
    apply Nat.eq_of_testBit_eq
    intro b
    have h1 := e a ha b
    rw [h a ha] at h1
    unfold void at h1
    rw [Nat.zero_testBit] at h1
    unfold nxt opF orN
    rw [Nat.testBit_or]
    cases h2 : (F a).testBit b
    · rw [h2] at h1; simpa using h1.symm
    · simp
  · intro h a ha
    unfold void
    apply Nat.eq_of_testBit_eq
    intro b
    rw [Nat.zero_testBit, e a ha b]
    have h1 := h a ha
    unfold nxt opF orN at h1
    have h2 : (F a ||| coF F (edgesL N F) a).testBit b = (F a).testBit b := by rw [h1]
    rw [Nat.testBit_or] at h2
    cases h3 : (F a).testBit b
    · rw [h3] at h2; simpa using h2
    · simp

set_option maxRecDepth 100000 in
set_option maxHeartbeats 1000000 in
theorem rtransitive_any (n : Int) (f : Nat → Nat) (hf : Wf f) : AnsV 50 #[relv n f] (.bool (tra (nN n f).toNat (nF n f))) := fun w hT => by
  have c1 : Hid (∀ W, Calls Tryd.prog 24 #[relv n f] W fun e w' => e = .returned (relv (nN n f) (nF n f)) ∧ Below W.heap.size W w') := fun W => rright_any n f W hf
  obtain ⟨N, h1, hN64, h3⟩ := n_right' n f hf
  rw [h1] at c1 ⊢
  rw [Int.toNat_natCast]
  have cs : Hid (AnsV 27 #[.int .i64 3, relv N (nF n f), relv N (nF n f)] (relv N (coF (nF n f) (edgesL N (nF n f))))) := two3_R hN64 h3 h3
  have cu : Hid (AnsV 27 #[.int .i64 2, relv N (coF (nF n f) (edgesL N (nF n f))), relv N (nF n f)] (relv N (opF notN (coF (nF n f) (edgesL N (nF n f))) (nF n f)))) := two2_R hN64 (right_co h3 h3) h3
  have HE : Hid (rowsEq (opF notN (coF (nF n f) (edgesL N (nF n f))) (nF n f)) void = tra N (nF n f)) := tra_eq hN64 h3
  generalize nF n f = F at *
  generalize opF notN (coF F (edgesL N F)) F = X at *
  generalize coF F (edgesL N F) = Y at *
  clear h1 h3
  go_enter Tryd.func50, Tryd.ntmps50
  go_wp2_with (first
    | (refine wpList_boxR rfl _ rfl rfl ?_; intro W1 b1 F1 r1; have B1 := Fresh.trans (Below.refl _ w) (Nat.le_refl _) F1; have hb1 : w.heap.size ≤ b1 := (by rw [F1.at']; exact Nat.le_refl _); clear F1)
    | (refine wpList_loadR rfl _ rfl rfl r1 ?_)
    | (go_at_call 24; refine (c1.out _).mono ?_; rintro e w' ⟨rfl, hw'⟩; replace r1 := r1.grown hw'; replace B1 := B1.trans (hw'.mono B1.size); clear hw')
    | (refine wpList_storeR rfl _ _ rfl rfl rfl r1 ?_; intro W5 U5 q1; replace B1 := U5.trans B1 (by omega); clear U5 r1; have r1 := q1; clear q1))
  have tW := hT.below B1
  refine grow_all (by kernel_rfl) (by kernel_rfl) ?_
  refine wpG_loadR rfl _ rfl rfl r1 ?_
  refine wpG_loadR rfl _ rfl rfl r1 ?_
  refine wpG_call tW rfl cs.out (fun w => by first | rfl | (go_simp; done)) ?_
  refine wpG_loadR rfl _ rfl rfl r1 ?_
  refine wpG_call tW rfl cu.out (fun w => by first | rfl | (go_simp; done)) ?_
  refine wpG_put rfl (v := .pointer (some ⟨b1, 0, none⟩)) (fun w => by go_simp; done) ?_
  refine wpG_loadN rfl _ rfl rfl r1 ?_
  simp only [Act.put, List.setIfInBounds_toArray, List.set_cons_succ, List.set_cons_zero]
  refine wpG_buildRN rfl _ rfl rfl ?_
  refine wpG_eqR rfl _ _ rfl rfl rfl ?_
  refine wpG_put rfl (fun w => rfl) ?_
  refine wpG_nil ?_
  intro W6 hW6
  simp only [Act.put, List.setIfInBounds_toArray, List.set_cons_succ, List.set_cons_zero]
  have B6 := B1.trans (hW6.mono B1.size)
  clear r1 B1 hW6 tW
  go_wp2
  go_ret
  exact ⟨ret_bool (by rw [HE.out]), B6⟩

set_option maxRecDepth 100000 in
theorem racyclic_any (n : Int) (f : Nat → Nat) (hf : Wf f) : AnsV 52 #[relv n f] (.bool (irr (nN n f).toNat (wsh (nF n f) (nN n f).toNat))) := fun w hT => by
  have cp : Hid (AnsV 40 #[relv n f] (relv (nN n f) (wsh (nF n f) (nN n f).toNat))) := rplus_any n f hf
  obtain ⟨N, h1, hN64, h3⟩ := n_right' n f hf
  rw [h1] at cp ⊢
  rw [Int.toNat_natCast] at cp ⊢
  have hW := right_wsh hN64 h3 N (Nat.le_refl _)
  have co : Hid (AnsV 48 #[relv N (wsh (nF n f) N)] (.bool (irr N (wsh (nF n f) N)))) := by
    have := rirreflexive_any N (wsh (nF n f) N) hW.wf
    rwa [right_nN hW hN64, right_nF hW hN64, Int.toNat_natCast] at this
  generalize irr N (wsh (nF n f) N) = X at *
  generalize wsh (nF n f) N = Y at *
  clear h1 h3 hW
  go_enter Tryd.func52, Tryd.ntmps52
  go_wp2_with (first
    | (refine wpList_boxR rfl _ rfl rfl ?_; intro W1 b1 F1 r1; have B1 := Fresh.trans (Below.refl _ w) (Nat.le_refl _) F1)
    | (refine wpList_loadR rfl _ rfl rfl r1 ?_)
    | (go_at_call 40; refine (cp.out _ (hT.below B1)).mono ?_; rintro e w' ⟨rfl, hw'⟩; replace r1 := r1.grown hw'; replace B1 := B1.trans (hw'.mono B1.size); clear hw')
    | (go_at_call 48; refine (co.out _ (hT.below B1)).mono ?_; rintro e w' ⟨rfl, hw'⟩; replace r1 := r1.grown hw'; replace B1 := B1.trans (hw'.mono B1.size); clear hw'))
  go_ret
  exact ⟨rfl, B1⟩
end Go.Proofs.YtkccckjiemijeaaDoor

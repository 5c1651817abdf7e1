/- Plus, Star of rel. -/
import Derived.Test.YtkccckjiemijeabDoorZ2
namespace Go.Proofs.YtkccckjiemijeabDoor
open Go.RowKit Go.Shelf M P
set_option linter.unusedSimpArgs false
set_option linter.unusedVariables false

/-- One round of closing by k, as far as row m. -/
def stpTo (G : Nat → Nat) (k m : Nat) : Nat → Nat := fun j => if j < m then stp G k j else G j
theorem stpTo_at (G : Nat → Nat) (k m : Nat) : stpTo G k m m = G m := by unfold stpTo; simp
theorem stp_self (G : Nat → Nat) (k : Nat) : stp G k k = G k := by unfold stp; split <;> simp
theorem stpTo_by (G : Nat → Nat) (k m : Nat) : stpTo G k m k = G k := by
  unfold stpTo
  split
  · exact stp_self G k
  · rfl
theorem stpTo_yes (G : Nat → Nat) (k m : Nat) (h : (G m).testBit k = true) (j : Nat) : upd (stpTo G k m) m (G m ||| G k) j = stpTo G k (m + 1) j := by
  unfold upd stpTo
  by_cases e : j = m
  · subst e; simp [stp, h]
  · rw [if_neg e]
    by_cases h2 : j < m
    · rw [if_pos h2, if_pos (by omega)]
    · rw [if_neg h2, if_neg (by omega)]
theorem stpTo_no (G : Nat → Nat) (k m : Nat) (h : (G m).testBit k = false) (j : Nat) : stpTo G k m j = stpTo G k (m + 1) j := by
  unfold stpTo
  by_cases e : j = m
  · subst e; simp [stp, h]
  · by_cases h2 : j < m
    · rw [if_pos h2, if_pos (by omega)]
    · rw [if_neg h2, if_neg (by omega)]
theorem right_wsh {N : Nat} {F : Nat → Nat} (hN : N ≤ 64) (h : Right N F) (K : Nat) (hK : K ≤ N) : Right N (wsh F K) :=
  right_bits (wsh_lt h.wf K) (fun a b ha hb => wsh_in hN (fun a b ha h' => right_le h ha h') K hK a b ha hb)
theorem stpTo_end {N : Nat} {F : Nat → Nat} (hN : N ≤ 64) (h : Right N F) (k : Nat) (hk : k < N) (j : Nat) (hj : j < 64) : stpTo (wsh F k) k N j = wsh F (k + 1) j := by
  unfold stpTo
  split
  · rfl
  · rename_i hn
    have h1 := right_zero (right_wsh hN h k (by omega)) j (by omega) hj
    have h2 := right_zero (right_wsh hN h (k + 1) (by omega)) j (by omega) hj
    rw [h1, h2]

set_option maxRecDepth 100000 in
set_option maxHeartbeats 1000000 in
theorem plus_any (n : Int) (f : Nat → Nat) (hf : Wf f) : AnsV 22 #[relv n f] (relv (nN n f) (wsh (nF n f) (nN n f).toNat)) := fun w hT => by
  have c1 : Hid (∀ W, Calls Tryd.prog 43 #[relv n f] W fun e w' => e = .returned (relv (nN n f) (nF n f)) ∧ Below W.heap.size W w') := fun W => right_any n f W hf
  obtain ⟨N, h1, hN64, h3⟩ := n_right' n f hf
  rw [h1] at c1 ⊢
  rw [Int.toNat_natCast]
  have hR : Hid (Right N (nF n f)) := h3
  generalize nF n f = F at *
  clear h1 h3
  go_enter Tryd.func22, Tryd.ntmps22
  go_wp2_with (first
    | (refine wpList_boxR rfl _ rfl rfl ?_; intro W1 b1 F1 r1; have B1 := Fresh.trans (Below.refl _ w) (Nat.le_refl _) F1)
    | (refine wpList_allocR rfl rfl ?_; intro W3 b2 F3 r2; replace B1 := Fresh.trans B1 B1.size F3; replace r1 := r1.fresh F3; have hb1 : w.heap.size ≤ b1 := (by rw [F1.at']; exact Nat.le_refl _); have hb2 : b1 < b2 := (by rw [F3.at', F1.size]; omega); clear F1 F3)
    | (refine wpList_loadR rfl _ rfl rfl r1 ?_)
    | (go_at_call 43; refine (c1.out _).mono ?_; rintro e w' ⟨rfl, hw'⟩; replace r1 := r1.grown hw'; replace r2 := r2.grown hw'; replace B1 := B1.trans (hw'.mono B1.size); clear hw')
    | (refine wpList_storeR rfl _ _ rfl rfl rfl r1 ?_; intro W5 U5 q1; replace B1 := U5.trans B1 (by omega); replace r2 := r2.upd U5 (by omega); clear U5 r1; have r1 := q1; clear q1; have cn1 := r1.n))
  clear cn1 c1
  go_loopw [9] (fun i wr => ∃ k : Nat, k ≤ N ∧ i = .int .i64 k ∧ IsR wr b1 N (wsh F k) ∧ IsR wr b2 0 void ∧ Below w.heap.size w wr) (fun i _ => N - (intOf i).toNat)
  case atStart => exact ⟨0, by omega, rfl, r1, r2, B1⟩
  case round =>
    clear r1 r2 B1
    obtain ⟨k, hk, rfl, q1, q2, BB⟩ := hrel
    by_cases hlt : k < N
    · have hki : (k : Int) < (N : Int) := by omega
      have hk64 : (k : Int) < 64 := by omega
      have hcn := q1.n
      have HE : Hid (∀ j, j < 64 → stpTo (wsh F k) k N j = wsh F (k + 1) j) := fun j hj => stpTo_end hN64 hR.out k hlt j hj
      have HL : Hid (Wf (wsh F k)) := wsh_lt hR.out.wf k
      generalize wsh F k = G at *
      go_wp2_with fail
      go_loopw [14] (fun i wr => ∃ m : Nat, m ≤ N ∧ i = .int .i64 m ∧ IsR wr b1 N (stpTo G k m) ∧ IsR wr b2 0 void ∧ Below w.heap.size w wr) (fun i _ => N - (intOf i).toNat)
      case atStart => exact ⟨0, by omega, rfl, q1.congr (fun j _ => by simp [stpTo]), q2, BB⟩
      case round =>
        clear q1 q2 BB hcn
        obtain ⟨m, hm, rfl, q1, q2, BB⟩ := hrel
        by_cases hml : m < N
        · have hmi : (m : Int) < (N : Int) := by omega
          have hm64 : (m : Int) < 64 := by omega
          have hcn := q1.n
          have hrow := q1.row m (by omega)
          have hrow2 := q1.row k (by omega)
          rw [stpTo_at] at hrow
          rw [stpTo_by] at hrow2
          have hfz := q1.frozen (1 + m)
          have hsh := shr_bits (G m) k (by omega) (HL.out m)
          rw [bit_of] at hsh
          have hop := u64_or_nat (G m) (G k) (HL.out m) (HL.out k)
          cases hb : (G m).testBit k
          · rw [hb] at hsh
            have HQ : Hid (IsR wr b1 N (stpTo G k (m + 1))) := q1.congr (fun j _ => stpTo_no G k m hb j)
            clear hb hop hfz hrow2 q1
            go_wp2_with fail
            go_roundw
            case rel => exact ⟨m + 1, by omega, by simp, HQ.out, q2, BB⟩
            case measure => simp [intOf]; omega
          · rw [hb] at hsh
            have U := Upd.setCell wr b1 (1 + m) (.int .u64 ((G m ||| G k : Nat) : Int))
            have HQ : Hid (IsR (wr.setCell ⟨b1, 1 + m, none⟩ (.int .u64 ((G m ||| G k : Nat) : Int))) b1 N (stpTo G k (m + 1)) ∧ IsR (wr.setCell ⟨b1, 1 + m, none⟩ (.int .u64 ((G m ||| G k : Nat) : Int))) b2 0 void ∧ Below w.heap.size w (wr.setCell ⟨b1, 1 + m, none⟩ (.int .u64 ((G m ||| G k : Nat) : Int)))) := ⟨(q1.set m (G m ||| G k) (by omega)).congr (fun j _ => stpTo_yes G k m hb j), q2.upd U (by omega), U.trans BB (by omega)⟩
            clear hb U q1 q2 BB HE HL hR
            generalize G m ||| G k = z at *
            generalize G m = z1 at *
            generalize G k = z2 at *
            go_wp2_with fail
            go_still_tail 11, (by kernel_rfl)
            go_wp2_with fail
            go_roundw
            case rel => exact ⟨m + 1, by omega, by simp, HQ.out.1.drew, HQ.out.2.1.drew, HQ.out.2.2.drew⟩
            case measure => simp [intOf]; omega
        · obtain rfl : m = N := by omega
          have hmi : ¬ (m : Int) < (m : Int) := by omega
          have hcn := q1.n
          have HQ : Hid (IsR wr b1 m (wsh F (k + 1))) := q1.congr HE.out
          clear q1
          go_wp2_with fail
          go_roundw
          case rel => exact ⟨k + 1, by omega, by simp, HQ.out, q2, BB⟩
          case measure => simp [intOf]; omega
    · obtain rfl : k = N := by omega
      have hki : ¬ (k : Int) < (k : Int) := by omega
      clear hR
      go_wp2_with (first
        | (refine wpList_loadR rfl _ rfl rfl q1 ?_)
        | (refine wpList_storeR rfl _ _ rfl rfl rfl q2 ?_; intro W4 U4 r4))
      refine ret_R rfl rfl rfl r4 ⟨rfl, U4.trans BB (by omega)⟩

set_option maxRecDepth 100000 in
theorem star_any (n : Int) (f : Nat → Nat) (hf : Wf f) : AnsV 24 #[relv n f] (relv (nN n f) (opF orN (wsh (nF n f) (nN n f).toNat) (idF (nN n f).toNat))) := fun w hT => by
  have cp : Hid (AnsV 22 #[relv n f] (relv (nN n f) (wsh (nF n f) (nN n f).toNat))) := plus_any n f hf
  obtain ⟨N, h1, hN64, h3⟩ := n_right' n f hf
  rw [h1] at cp ⊢
  rw [Int.toNat_natCast] at cp ⊢
  have hW := right_wsh hN64 h3 N (Nat.le_refl _)
  have co : Hid (AnsV 25 #[relv N (wsh (nF n f) N)] (relv N (opF orN (wsh (nF n f) N) (idF N)))) := by
    have := opt_any N (wsh (nF n f) N) hW.wf
    rwa [right_nN hW hN64, right_nF hW hN64, Int.toNat_natCast] at this
  generalize opF orN (wsh (nF n f) N) (idF N) = X at *
  generalize wsh (nF n f) N = Y at *
  clear h1 h3 hW
  go_enter Tryd.func24, Tryd.ntmps24
  go_wp2_with (first
    | (refine wpList_boxR rfl _ rfl rfl ?_; intro W1 b1 F1 r1; have B1 := Fresh.trans (Below.refl _ w) (Nat.le_refl _) F1)
    | (refine wpList_allocR rfl rfl ?_; intro W3 b2 F3 r2; replace B1 := Fresh.trans B1 B1.size F3; replace r1 := r1.fresh F3; have hb1 : w.heap.size ≤ b1 := (by rw [F1.at']; exact Nat.le_refl _); have hb2 : b1 < b2 := (by rw [F3.at', F1.size]; omega); clear F1 F3)
    | (refine wpList_loadR rfl _ rfl rfl r1 ?_)
    | (go_at_call 22; refine (cp.out _ (hT.below B1)).mono ?_; rintro e w' ⟨rfl, hw'⟩; replace r1 := r1.grown hw'; replace r2 := r2.grown hw'; replace B1 := B1.trans (hw'.mono B1.size); clear hw')
    | (go_at_call 25; refine (co.out _ (hT.below B1)).mono ?_; rintro e w' ⟨rfl, hw'⟩; replace r1 := r1.grown hw'; replace r2 := r2.grown hw'; replace B1 := B1.trans (hw'.mono B1.size); clear hw')
    | (refine wpList_storeR rfl _ _ rfl rfl rfl r2 ?_; intro W5 U5 q1; replace B1 := U5.trans B1 (by omega)))
  refine ret_R rfl rfl rfl q1 ⟨rfl, B1⟩
end Go.Proofs.YtkccckjiemijeabDoor

/- Orders: the number of a list. -/
import Derived.Test.YtghfomammdbgoaaO3
namespace Go.Proofs.Ytghfomammdbgoaa
open Go.RowKit Go.Shelf Go.Sort K
set_option linter.unusedSimpArgs false
set_option linter.unusedVariables false

/-- What a round reckons. -/
theorem r_arith (r K acc V rr : Nat) (hb : factN (r + 1) < 18446744073709551616) (hK : K < r + 1) (hr : r < 64) (hV : acc + (K * factN r + rr) = V) (hV64 : V < 18446744073709551616) :
    IntKind.u64.wrap ((factN (r + 1) : Nat) / ((r + 1 : Nat) : Int)) = ((factN r : Nat) : Int) ∧ IntKind.u64.wrap ((r + 1 : Nat) : Int) = ((r + 1 : Nat) : Int) ∧ IntKind.u64.wrap (K : Int) = (K : Int) ∧ IntKind.u64.wrap ((K : Int) * ((factN r : Nat) : Int)) = ((K * factN r : Nat) : Int) ∧ IntKind.u64.wrap ((acc : Int) + ((K * factN r : Nat) : Int)) = ((acc + K * factN r : Nat) : Int) := by
  have hFs : factN (r + 1) = factN r * (r + 1) := rfl
  have hle : factN r ≤ factN (r + 1) := factN_mono (Nat.le_succ r)
  have h1 : acc + K * factN r < 18446744073709551616 := by rw [← Nat.add_assoc] at hV; exact Nat.lt_of_le_of_lt (by rw [← hV]; exact Nat.le_add_right _ _) hV64
  have h2 : K * factN r < 18446744073709551616 := Nat.lt_of_le_of_lt (Nat.le_add_left _ _) h1
  refine ⟨?_, wrapU _ (by omega), wrapU _ (by omega), ?_, ?_⟩
  · rw [show ((factN (r + 1) : Nat) / ((r + 1 : Nat) : Int)) = ((factN (r + 1) / (r + 1) : Nat) : Int) from rfl, hFs, Nat.mul_div_cancel _ (Nat.succ_pos r)]
    exact wrapU _ (Nat.lt_of_le_of_lt hle hb)
  · rw [mulN]; exact wrapU _ h2
  · rw [addN]; exact wrapU _ h1

set_option maxRecDepth 100000 in
set_option maxHeartbeats 1000000 in
theorem orank_any (n : Nat) (hn : n ≤ 64) (a : Option Addr) (cap : Nat) (xs : List Int) (w : World) (hA : Hid (Nums w a xs)) (hp : Hid (xs.Perm (risZ n))) (h64 : Hid (factN n < 18446744073709551616)) (hV64 : Hid (rkO n (risZ n) xs < 18446744073709551616)) :
    Calls Try.prog 79 #[.int .i64 n, .slice a n cap] w fun e w' => e = .returned (.int .u64 (rkO n (risZ n) xs : Nat)) ∧ Below w.heap.size w w' := by
  have hsz := osize_any n w hn
  rw [scV, if_pos h64.out] at hsz
  have hxl : Hid (xs.length = n) := (show xs.length = n by have := hp.out.length_eq; rwa [risZ_len] at this)
  go_enter Try.func79, Try.ntmps79
  go_wp2_with (first
    | (go_at_call 80; refine hsz.mono ?_; rintro e w1 ⟨rfl, hB1⟩; clear hsz)
    | (go_at_call 81; refine (rising_any n _ hn).mono ?_; rintro e w2 ⟨⟨rfl, hr⟩, hB2⟩
       have hBB : Hid (Below w.heap.size w w2) := Below.then hB1 hB2
       have hlt2 : Hid (w1.heap.size < w2.heap.size) := hr.lt
       have hH2 : Hid (Holds (Value.int .i64) w2 w1.heap.size 0 (risZ n).toArray) := holds_of_row hr
       have hs1 : Hid (w.heap.size ≤ w1.heap.size) := hB1.size
       obtain ⟨b, hb⟩ : ∃ b, w1.heap.size = b := ⟨_, rfl⟩
       rw [hb] at hH2 hlt2 hs1 ⊢
       clear hr hB2 hB1 hb))
  obtain ⟨V, hV⟩ : ∃ V, rkO n (risZ n) xs = V := ⟨_, rfl⟩
  replace hV : Hid (rkO n (risZ n) xs = V) := hV
  go_loopw [5, 7, 8, 21] (fun E R N I wr => ∃ (k : Nat) (rest : List Int) (acc : Nat), k + rest.length = n ∧ I = .int .i64 (k : Nat) ∧ E = .int .u64 (factN rest.length : Nat) ∧ R = .slice (some ⟨b, 0, none⟩) rest.length n ∧ N = .int .u64 (acc : Nat) ∧ Hid (acc + rkO rest.length rest (xs.drop k) = V) ∧ Hid ((xs.drop k).Perm rest) ∧ Hid (Holds (Value.int .i64) wr b 0 rest.toArray) ∧ Hid (b < wr.heap.size) ∧ Hid (Below w.heap.size w wr)) (fun _ R _ _ _ => slen R)
  case atStart => exact ⟨0, risZ n, 0, by rw [risZ_len]; omega, rfl, by rw [risZ_len], by rw [risZ_len], rfl, (show _ = V by rw [risZ_len, List.drop_zero, Nat.zero_add]; exact hV.out), (show List.Perm _ _ by rw [List.drop_zero]; exact hp.out), hH2, hlt2, hBB⟩
  case round =>
    obtain ⟨k, rest, acc, hlen, rfl, rfl, rfl, rfl, hq, hperm, hH, hlb, hB⟩ := hrel
    clear hH2 hlt2 hBB
    cases hql : rest.length with
    | zero =>
      have hkn : k = n := by omega
      subst hkn
      have HE : Hid (acc = rkO k (risZ k) xs) := (show acc = _ by have h := hq.out; rw [hql] at h; rw [hV.out]; simpa [rkO] using h)
      clear hq hperm hH hV hql hA hp h64 hV64 hlen hxl
      go_wp2
      go_ret
      exact ⟨by rw [← HE.out]; rfl, hB.out⟩
    | succ r =>
      have hkl : k < xs.length := by rw [hxl.out]; omega
      have hd : xs.drop k = xs.getD k 0 :: xs.drop (k + 1) := by
        rw [List.drop_eq_getElem_cons hkl, List.getD_eq_getElem?_getD, List.getElem?_eq_getElem hkl]; rfl
      have hq1 := hq.out
      have hp1 := hperm.out
      rw [hql, hd, rkO] at hq1
      rw [hd] at hp1
      obtain ⟨hi1, hi2, hi3⟩ := perm_erase hp1
      have hmem : Hid (xs.getD k 0 ∈ rest) := hp1.mem_iff.1 (List.mem_cons_self)
      have HV : Hid (acc + rest.idxOf (xs.getD k 0) * factN r + rkO r (rest.eraseIdx (rest.idxOf (xs.getD k 0))) (xs.drop (k + 1)) = V) := (show _ = V by rw [Nat.add_assoc]; exact hq1)
      have HP2 : Hid ((xs.drop (k + 1)).Perm (rest.eraseIdx (rest.idxOf (xs.getD k 0)))) := hi3
      have hel : Hid ((rest.eraseIdx (rest.idxOf (xs.getD k 0))).length = r) := erase_len hql hi1
      have hrn : r + 1 ≤ n := by omega
      have HAR : Hid _ := r_arith r (rest.idxOf (xs.getD k 0)) acc V _ (Nat.lt_of_le_of_lt (factN_mono hrn) h64.out) (by rw [← hql]; exact hi1) (by omega) hq1 (by rw [← hV.out]; exact hV64.out)
      have hKq : rest.idxOf (xs.getD k 0) < r + 1 := by rw [← hql]; exact hi1
      have hidx : Hid (∀ W, Holds (Value.int .i64) W b 0 rest.toArray → Calls Try.prog 85 #[.slice (some ⟨b, 0, none⟩) (r + 1) n, .int .i64 (xs.getD k 0)] W fun e w' => e = .returned (.int .i64 (rest.idxOf (xs.getD k 0) : Nat)) ∧ w' = W) := fun W hW => by
        have := index_any (some ⟨b, 0, none⟩) n rest (xs.getD k 0) W (nums_of_holds hW) (by omega) hmem
        rw [hql] at this
        exact this
      have hdel : Hid (∀ W, Holds (Value.int .i64) W b 0 rest.toArray → Calls Try.prog 82 #[.slice (some ⟨b, 0, none⟩) (r + 1) n, .int .i64 (rest.idxOf (xs.getD k 0) : Nat), .int .i64 ((rest.idxOf (xs.getD k 0) : Nat) + 1)] W fun e w' => e = .returned (.slice (some ⟨b, 0, none⟩) r n) ∧ Holds (Value.int .i64) w' b 0 (rest.eraseIdx (rest.idxOf (xs.getD k 0))).toArray ∧ W.grownBy w' (some b)) := fun W hW => by
        have := delete_any b n (rest.idxOf (xs.getD k 0)) rest W hW (by omega) hn hi1
        rw [hql] at this
        exact this
      obtain ⟨ba, oa, rfl, hc⟩ := (hA.out.below hB.out) k hkl
      have hkn : (k : Int) < (n : Int) := by omega
      have hqi : ((r + 1 : Nat) : Int) ≠ 0 := ofn_ne (Nat.succ_pos r)
      have hK64 : rest.idxOf (xs.getD k 0) < 64 := by omega
      clear hd hq1 hp1 hi1 hi2 hi3 hmem hq hperm hA hp h64 hV64
      generalize xs.getD k 0 = x at *
      obtain ⟨F1, hF1⟩ : ∃ F1, factN (r + 1) = F1 := ⟨_, rfl⟩
      rw [hF1] at HAR ⊢
      obtain ⟨F, hF⟩ : ∃ F, factN r = F := ⟨_, rfl⟩
      have HF : Hid (factN r = F) := hF
      rw [hF] at HAR HV
      generalize rest.idxOf x = K at *
      obtain ⟨M, hM⟩ : ∃ M, K * F = M := ⟨_, rfl⟩
      rw [hM] at HAR HV
      obtain ⟨A2, hA2⟩ : ∃ A2, acc + M = A2 := ⟨_, rfl⟩
      rw [hA2] at HAR HV
      clear hF hF1 hM hA2
      obtain ⟨q, hqe⟩ : ∃ q, r + 1 = q := ⟨_, rfl⟩
      have HZ : Hid (r + 1 = q ∧ k + rest.length = n ∧ rest.length = r + 1 ∧ k < n) := ⟨hqe, hlen, hql, by rw [← hxl.out]; exact hkl⟩
      rw [hqe] at HAR hqi hidx hdel hKq ⊢
      clear hqe hlen hql hkl hrn hxl hKq
      obtain ⟨e2, e1, e7, e8, e9⟩ := HAR.out
      clear HAR
      have hi := hidx.out wr hH.out
      have hd := hdel.out wr hH.out
      clear hidx hdel hV
      go_wp2_with (first
        | (go_at_call 85; refine hi.mono ?_; rintro e wz ⟨rfl, hwz⟩; replace hwz := hwz.symm; subst hwz; clear hi)
        | (go_at_call 82; refine hd.mono ?_; rintro e wb ⟨rfl, hHb, hgb⟩
           have hBb : Hid (Below w.heap.size w wb) := hB.out.grown hgb hB.out.size (fun k e => by cases e; exact hs1.out)
           have hlb2 : Hid (b < wb.heap.size) := Nat.lt_of_lt_of_le hlb.out hgb.size
           replace hHb : Hid _ := hHb
           clear hgb hd e1 e2 e7 e8 e9))
      go_roundw
      case rel => exact ⟨k + 1, rest.eraseIdx K, A2, by rw [hel.out]; have := HZ.out; omega, by go_num, by rw [hel.out, HF.out], by rw [hel.out], rfl, (show _ = V by rw [hel.out]; exact HV.out), HP2.out, hHb.out, hlb2, hBb⟩
      case measure => have := HZ.out.1; simp [slen]; omega
end Go.Proofs.Ytghfomammdbgoaa

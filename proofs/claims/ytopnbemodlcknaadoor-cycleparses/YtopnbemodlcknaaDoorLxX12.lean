/- quoted. -/
import Derived.Test.YtopnbemodlcknaaDoorLxX11
namespace Go.Proofs.YtopnbemodlcknaaDoor.Lx
open Go.RowKit M
set_option linter.unusedSimpArgs false
set_option linter.unusedVariables false

theorem quot_ok {l : List UInt8} {n : Nat} {c : UInt8} (hn : quotLen l = n) (hc : l[n]? = some c) (h : c.toNat = 34) : quotPiece l = ⟨3, (l.take n).drop 1, 0, n + 1, 0⟩ := by
  unfold quotPiece; rw [hn, if_pos ⟨c, hc, h⟩]
theorem quot_bad {l : List UInt8} {n : Nat} (hn : quotLen l = n) (h : ∀ c, l[n]? = some c → c.toNat ≠ 34) : quotPiece l = ⟨0, [], 0, n, 50⟩ := by
  unfold quotPiece; rw [hn, if_neg (by rintro ⟨c, hc, h'⟩; exact h c hc h')]
theorem getL (s : ByteArray) (n : Nat) (h : n < s.size) : s.data.toList[n]? = some s[n] := by
  rw [List.getElem?_eq_getElem (by simpa using h)]; rfl

set_option maxRecDepth 100000 in
set_option maxHeartbeats 1000000 in
theorem quoted_any (s : ByteArray) (hs : s.size < 4611686018427387904) (h0 : 0 < s.size) (w : World) : Calls Tryd.prog 40 #[.string s] w fun e w' => e = .returned (pieceV (quotPiece s.data.toList)) ∧ Below w.heap.size w w' := by
  have HE0 : Hid (quotLen s.data.toList = 1 + twl (fun c => decide (c.toNat ≠ 34 ∧ c.toNat ≠ 10)) (s.data.toList.drop 1)) := rfl
  go_enter Tryd.func40, Tryd.ntmps40
  go_wp2_with (first
    | (refine wpList_allocS rfl 81 rfl _ Tryd.zeroValue81 ?_; intro W1 b1 F1 N1; have hb1 : w.heap.size ≤ b1 := Nat.le_of_eq F1.at'.symm; have B1 := F1.trans (Below.refl _ _) (Nat.le_refl _); clear F1))
  go_loop [3] (fun t => ∃ n : Nat, 1 ≤ n ∧ n ≤ s.size ∧ t = .int .i64 (n : Int) ∧ Hid (quotLen s.data.toList = n + twl (fun c => decide (c.toNat ≠ 34 ∧ c.toNat ≠ 10)) (s.data.toList.drop n))) (fun t => s.size - (intOf t).toNat)
  case atStart => exact ⟨1, by omega, by omega, rfl, HE0⟩
  case round =>
    obtain ⟨n, h1, hn, rfl, HN⟩ := hrel
    clear HE0
    have hI : (n : Int) ≤ s.size := by omega
    by_cases hlt : n < s.size
    · have hi : (n : Int) < s.size := by omega
      have hne : ((n : Int) == s.size) = false := by simp; omega
      by_cases q : s[n].toNat = 34
      · have x : ((s[n].toNat : Int) == 34) = true := by simp; omega
        have x' : ((s[n].toNat : Int) != 34) = false := by simp; omega
        have y : ((s[n].toNat : Int) == 10) = false := by simp; omega
        have he : quotLen s.data.toList = n := (by rw [HN.out, twl_stop _ s n hlt (by simp [q])]; rfl)
        have HF : Hid (quotPiece s.data.toList = ⟨3, (s.data.toList.take n).drop 1, 0, n + 1, 0⟩) := quot_ok he (getL s n hlt) q
        clear he HN
        have hI1 : (1 : Int) ≤ n := by omega
        go_wp2_with (first
          | (refine wpList_storeS rfl 81 _ _ rfl rfl _ rfl N1 (by simp) info75 (by simp [Value.oneCell']) ?_; intro W2 U2 N2; have B2 := U2.trans B1 hb1; clear U2 N1 B1))
        refine ret_S rfl rfl rfl N2 _ Tryd.underlying81 rfl info75 ⟨?_, B2⟩
        rw [HF.out, pieceV, pieceL, exA]; simp [putL]
      · have x : ((s[n].toNat : Int) == 34) = false := by simp; omega
        have x' : ((s[n].toNat : Int) != 34) = true := by simp; omega
        by_cases r : s[n].toNat = 10
        · have y : ((s[n].toNat : Int) == 10) = true := by simp; omega
          have y' : ((s[n].toNat : Int) != 10) = false := by simp; omega
          have he : quotLen s.data.toList = n := (by rw [HN.out, twl_stop _ s n hlt (by simp [r])]; rfl)
          have HF : Hid (quotPiece s.data.toList = ⟨0, [], 0, n, 50⟩) := quot_bad he (fun c hc => by rw [getL s n hlt] at hc; cases hc; exact q)
          clear he HN
          go_wp2_with (first
            | (refine wpList_storeS rfl 81 _ _ rfl rfl _ rfl N1 (by simp) info75 (by simp [Value.oneCell']) ?_; intro W2 U2 N2; have B2 := U2.trans B1 hb1; clear U2 N1 B1))
          refine ret_S rfl rfl rfl N2 _ Tryd.underlying81 rfl info75 ⟨?_, B2⟩
          rw [HF.out]; rfl
        · have y : ((s[n].toNat : Int) == 10) = false := by simp; omega
          have y' : ((s[n].toNat : Int) != 10) = true := by simp; omega
          have HG : Hid (quotLen s.data.toList = n + 1 + twl (fun c => decide (c.toNat ≠ 34 ∧ c.toNat ≠ 10)) (s.data.toList.drop (n + 1))) := (by show quotLen _ = _; rw [HN.out, twl_go _ s n hlt (by simp [q, r])]; omega)
          clear HN
          go_wp2_with fail
          go_round
          case rel => exact ⟨n + 1, by omega, by omega, by go_num, HG⟩
          case measure => simp [intOf]; omega
    · obtain rfl : n = s.size := by omega
      have HF : Hid (quotPiece s.data.toList = ⟨0, [], 0, s.size, 50⟩) := quot_bad (by rw [HN.out, drop_end s _ (Nat.le_refl _)]; rfl) (fun c hc => by rw [sizeL s, List.getElem?_eq_none (Nat.le_refl _)] at hc; cases hc)
      clear HN
      go_wp2_with (first
        | (refine wpList_storeS rfl 81 _ _ rfl rfl _ rfl N1 (by simp) info75 (by simp [Value.oneCell']) ?_; intro W2 U2 N2; have B2 := U2.trans B1 hb1; clear U2 N1 B1))
      refine ret_S rfl rfl rfl N2 _ Tryd.underlying81 rfl info75 ⟨?_, B2⟩
      rw [HF.out]; rfl

end Go.Proofs.YtopnbemodlcknaaDoor.Lx

/- signLength, sign, name. -/
import Derived.Test.YtopnbemodlcknaaDoorLxX9
import Derived.Test.YtopnbemodlcknaaDoorD5
namespace Go.Proofs.YtopnbemodlcknaaDoor.Lx
open Go.RowKit M
set_option linter.unusedSimpArgs false
set_option linter.unusedVariables false

/-- A piece's cells, and the piece as a value. -/
def pieceL (p : Piece) : List Value := [.int .i64 (p.kind : Int), .string ⟨p.text.toArray⟩, .int .i64 p.value, .int .i64 (p.length : Int), .int .i64 (p.wrong : Int)]
def pieceV (p : Piece) : Value := .agg (pieceL p).toArray
theorem exA (s : ByteArray) (a b : Nat) : s.extract a b = ⟨((s.data.toList.take b).drop a).toArray⟩ := by
  apply ByteArray.ext
  apply Array.toList_inj.1
  rw [exL]
theorem info75 : (Tryd.prog.info? 81).map (·.size) = some 5 := by kernel_rfl

theorem idx_sign : ∀ n : Fin 256, decide (0 ≤ Lib.indexByte [123, 125, 40, 41, 91, 93, 59, 44, 58, 124, 61, 36, 126, 38, 43, 42, 63] n.val.toUInt8) = oneSign n.val := by decide +kernel
theorem sign_a {l : List UInt8} (h : begB l [94, 45, 49] = true) : signLen l = 3 := by unfold signLen; rw [if_pos h]
theorem sign_b {l : List UInt8} (h : begB l [94, 45, 49] = false) (h2 : (begB l [47, 92] || begB l [92, 47]) = true) : signLen l = 2 := by unfold signLen; rw [if_neg (by rw [h]; decide), if_pos h2]
theorem sign_c {c : UInt8} {r : List UInt8} (h : begB (c :: r) [94, 45, 49] = false) (h2 : (begB (c :: r) [47, 92] || begB (c :: r) [92, 47]) = false) : signLen (c :: r) = if c.toNat = 92 ∨ oneSign c.toNat = true then 1 else 0 := by
  unfold signLen; rw [if_neg (by rw [h]; decide), if_neg (by rw [h2]; decide)]

set_option maxRecDepth 100000 in
set_option maxHeartbeats 1000000 in
theorem signLength_any (s : ByteArray) (h0 : 0 < s.size) (w : World) : Calls Tryd.prog 52 #[.string s] w fun e w' => e = .returned (.int .i64 (signLen s.data.toList : Nat)) ∧ w' = w := by
  have p1 := fun w => pre_any s ⟨#[94, 45, 49]⟩ w
  have p2 := fun w => pre_any s ⟨#[47, 92]⟩ w
  have p3 := fun w => pre_any s ⟨#[92, 47]⟩ w
  rw [show (ByteArray.mk #[94, 45, 49]).data.toList = [94, 45, 49] from rfl] at p1
  rw [show (ByteArray.mk #[47, 92]).data.toList = [47, 92] from rfl] at p2
  rw [show (ByteArray.mk #[92, 47]).data.toList = [92, 47] from rfl] at p3
  have e0 := drop_cons s 0 h0
  rw [List.drop_zero] at e0
  have hi0 : (0 : Int) < s.size := by omega
  have t1 : True := trivial
  have t2 : True := trivial
  cases a : begB s.data.toList [94, 45, 49] with
  | true =>
    have HE : Hid (signLen s.data.toList = 3) := sign_a a
    rw [a] at p1
    clear a e0 p2 p3
    go_enter Tryd.func52, Tryd.ntmps52
    go_wp2_with (go_at_call 47; refine (p1 _).mono ?_; rintro e w' ⟨rfl, hw'⟩; replace hw' := hw'.symm; subst hw')
    go_ret
    exact ⟨by rw [HE.out]; rfl, rfl⟩
  | false =>
    cases b : begB s.data.toList [47, 92] with
    | true =>
      have HE : Hid (signLen s.data.toList = 2) := sign_b a (by rw [b]; rfl)
      rw [a] at p1
      rw [b] at p2
      clear a b e0 p3
      go_enter Tryd.func52, Tryd.ntmps52
      go_wp2_with (first
        | (go_at_call 47; clear t1; refine (p1 _).mono ?_; rintro e w' ⟨rfl, hw'⟩; replace hw' := hw'.symm; subst hw')
        | (go_at_call 47; refine (p2 _).mono ?_; rintro e w' ⟨rfl, hw'⟩; replace hw' := hw'.symm; subst hw'))
      go_ret
      exact ⟨by rw [HE.out]; rfl, rfl⟩
    | false =>
      cases c : begB s.data.toList [92, 47] with
      | true =>
        have HE : Hid (signLen s.data.toList = 2) := sign_b a (by rw [b, c]; rfl)
        rw [a] at p1
        rw [b] at p2
        rw [c] at p3
        clear a b c e0
        go_enter Tryd.func52, Tryd.ntmps52
        go_wp2_with (first
          | (go_at_call 47; clear t1; refine (p1 _).mono ?_; rintro e w' ⟨rfl, hw'⟩; replace hw' := hw'.symm; subst hw')
          | (go_at_call 47; clear t2; refine (p2 _).mono ?_; rintro e w' ⟨rfl, hw'⟩; replace hw' := hw'.symm; subst hw')
          | (go_at_call 47; refine (p3 _).mono ?_; rintro e w' ⟨rfl, hw'⟩; replace hw' := hw'.symm; subst hw'))
        go_ret
        exact ⟨by rw [HE.out]; rfl, rfl⟩
      | false =>
        have HE : Hid (signLen s.data.toList = if s[0].toNat = 92 ∨ oneSign s[0].toNat = true then 1 else 0) := (by
          have a' := a; have b' : (begB s.data.toList [47, 92] || begB s.data.toList [92, 47]) = false := (by rw [b, c]; rfl)
          show signLen _ = _
          rw [e0] at a' b' ⊢
          exact sign_c a' b')
        have hX := fun w => Tryd.strings_IndexByte ⟨#[123, 125, 40, 41, 91, 93, 59, 44, 58, 124, 61, 36, 126, 38, 43, 42, 63]⟩ (s[0].toNat : Int) w
        have hJ := idx_sign ⟨s[0].toNat, s[0].toNat_lt⟩
        rw [show ((s[0].toNat : Int).toNat.toUInt8) = s[0].toNat.toUInt8 from rfl, show (ByteArray.mk #[123, 125, 40, 41, 91, 93, 59, 44, 58, 124, 61, 36, 126, 38, 43, 42, 63]).data.toList = [123, 125, 40, 41, 91, 93, 59, 44, 58, 124, 61, 36, 126, 38, 43, 42, 63] from rfl] at hX
        dsimp only at hJ
        generalize Lib.indexByte [123, 125, 40, 41, 91, 93, 59, 44, 58, 124, 61, 36, 126, 38, 43, 42, 63] s[0].toNat.toUInt8 = J at *
        rw [a] at p1
        rw [b] at p2
        rw [c] at p3
        clear a b c e0
        by_cases h92 : s[0].toNat = 92
        · have x : ((s[0].toNat : Int) == 92) = true := by simp; omega
          have HF : Hid (signLen s.data.toList = 1) := (by show signLen _ = _; rw [HE.out, if_pos (.inl h92)])
          clear h92 HE hJ
          go_enter Tryd.func52, Tryd.ntmps52
          go_wp2_with (first
            | (go_at_call 47; clear t1; refine (p1 _).mono ?_; rintro e w' ⟨rfl, hw'⟩; replace hw' := hw'.symm; subst hw')
            | (go_at_call 47; clear t2; refine (p2 _).mono ?_; rintro e w' ⟨rfl, hw'⟩; replace hw' := hw'.symm; subst hw')
            | (go_at_call 47; refine (p3 _).mono ?_; rintro e w' ⟨rfl, hw'⟩; replace hw' := hw'.symm; subst hw'))
          go_ret
          exact ⟨by rw [HF.out]; rfl, rfl⟩
        · have x : ((s[0].toNat : Int) == 92) = false := by simp; omega
          cases d : oneSign s[0].toNat with
          | true =>
            have y : 0 ≤ J := by rw [d] at hJ; exact of_decide_eq_true hJ
            have HF : Hid (signLen s.data.toList = 1) := (by show signLen _ = _; rw [HE.out, if_pos (.inr d)])
            clear h92 HE hJ d
            go_enter Tryd.func52, Tryd.ntmps52
            go_wp2_with (first
              | (go_at_call 47; clear t1; refine (p1 _).mono ?_; rintro e w' ⟨rfl, hw'⟩; replace hw' := hw'.symm; subst hw')
              | (go_at_call 47; clear t2; refine (p2 _).mono ?_; rintro e w' ⟨rfl, hw'⟩; replace hw' := hw'.symm; subst hw')
              | (go_at_call 47; refine (p3 _).mono ?_; rintro e w' ⟨rfl, hw'⟩; replace hw' := hw'.symm; subst hw')
              | (go_at_call 60; refine (hX _).mono ?_; rintro e w' ⟨rfl, hw'⟩; replace hw' := hw'.symm; subst hw'))
            go_ret
            exact ⟨by rw [HF.out]; rfl, rfl⟩
          | false =>
            have y : ¬ (0 ≤ J) := by rw [d] at hJ; exact of_decide_eq_false hJ
            have HF : Hid (signLen s.data.toList = 0) := (by show signLen _ = _; rw [HE.out, if_neg (by rw [d]; simp; exact h92)])
            clear h92 HE hJ d
            go_enter Tryd.func52, Tryd.ntmps52
            go_wp2_with (first
              | (go_at_call 47; clear t1; refine (p1 _).mono ?_; rintro e w' ⟨rfl, hw'⟩; replace hw' := hw'.symm; subst hw')
              | (go_at_call 47; clear t2; refine (p2 _).mono ?_; rintro e w' ⟨rfl, hw'⟩; replace hw' := hw'.symm; subst hw')
              | (go_at_call 47; refine (p3 _).mono ?_; rintro e w' ⟨rfl, hw'⟩; replace hw' := hw'.symm; subst hw')
              | (go_at_call 60; refine (hX _).mono ?_; rintro e w' ⟨rfl, hw'⟩; replace hw' := hw'.symm; subst hw'))
            go_ret
            exact ⟨by rw [HF.out]; rfl, rfl⟩

set_option maxRecDepth 100000 in
set_option maxHeartbeats 1000000 in
theorem sign_any (s : ByteArray) (hs : s.size < 4611686018427387904) (h0 : 0 < s.size) (w : World) : Calls Tryd.prog 41 #[.string s] w fun e w' => e = .returned (pieceV (signPiece s.data.toList)) ∧ Below w.heap.size w w' := by
  have c1 := fun w => signLength_any s h0 w
  have hl := signLen_le s.data.toList
  rw [← sizeL] at hl
  by_cases hz : signLen s.data.toList = 0
  · have HE : Hid (signPiece s.data.toList = ⟨0, [], 0, 0, 50⟩) := if_pos hz
    rw [hz] at c1
    clear hz hl
    go_enter Tryd.func41, Tryd.ntmps41
    go_wp2_with (first
      | (refine wpList_allocS rfl 81 rfl _ Tryd.zeroValue81 ?_; intro W1 b1 F1 N1; have hb1 : w.heap.size ≤ b1 := Nat.le_of_eq F1.at'.symm; have B1 := F1.trans (Below.refl _ _) (Nat.le_refl _); clear F1)
      | (go_at_call 52; refine (c1 _).mono ?_; rintro e w' ⟨rfl, hw'⟩; replace hw' := hw'.symm; subst hw')
      | (refine wpList_storeS rfl 81 _ _ rfl rfl _ rfl N1 (by simp) info75 (by simp [Value.oneCell']) ?_; intro W2 U2 N2; have B2 := U2.trans B1 hb1; clear U2 N1 B1))
    refine ret_S rfl rfl rfl N2 _ Tryd.underlying81 rfl info75 ⟨?_, B2⟩
    rw [HE.out]; rfl
  · have HE : Hid (signPiece s.data.toList = ⟨4, s.data.toList.take (signLen s.data.toList), 0, signLen s.data.toList, 0⟩) := if_neg hz
    obtain ⟨n, hn⟩ : ∃ n, signLen s.data.toList = n := ⟨_, rfl⟩
    rw [hn] at c1 HE hl hz
    clear hn
    have hi : (n : Int) ≤ s.size := by omega
    have hz' : ((n : Int) == 0) = false := by simp; omega
    go_enter Tryd.func41, Tryd.ntmps41
    go_wp2_with (first
      | (refine wpList_allocS rfl 81 rfl _ Tryd.zeroValue81 ?_; intro W1 b1 F1 N1; have hb1 : w.heap.size ≤ b1 := Nat.le_of_eq F1.at'.symm; have B1 := F1.trans (Below.refl _ _) (Nat.le_refl _); clear F1)
      | (go_at_call 52; refine (c1 _).mono ?_; rintro e w' ⟨rfl, hw'⟩; replace hw' := hw'.symm; subst hw')
      | (refine wpList_storeS rfl 81 _ _ rfl rfl _ rfl N1 (by simp) info75 (by simp [Value.oneCell']) ?_; intro W2 U2 N2; have B2 := U2.trans B1 hb1; clear U2 N1 B1))
    refine ret_S rfl rfl rfl N2 _ Tryd.underlying81 rfl info75 ⟨?_, B2⟩
    rw [HE.out, pieceV, pieceL, exA]; rfl
end Go.Proofs.YtopnbemodlcknaaDoor.Lx

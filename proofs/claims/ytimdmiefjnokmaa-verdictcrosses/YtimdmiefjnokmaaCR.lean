/- Compare of the reference. -/
import Derived.Test.YtimdmiefjnokmaaCM
namespace Go.Proofs.Ytimdmiefjnokmaa
open Go.RowKit M
set_option linter.unusedSimpArgs false
set_option linter.unusedVariables false

set_option maxRecDepth 100000 in
set_option maxHeartbeats 2000000 in
theorem rcompare_any (x y : FS) (w : World) :
    Calls Try.prog 9 #[.agg (encF x).toArray, .agg (encF y).toArray] w fun e w' => e = .returned (.int .i64 (cmpF x y)) ∧ Grew w w' := by
  have h0 : ∀ w b, IsS w b 25 (encF x) → w.cell? ⟨b, 0, none⟩ = some (.int .i64 x.n) := fun w b I => I.cell 0
  have k0 : ∀ w b, IsS w b 25 (encF y) → w.cell? ⟨b, 0, none⟩ = some (.int .i64 y.n) := fun w b I => I.cell 0
  by_cases hn : x.n = y.n
  · have HC : Hid (cmpF x y = cmpL x.v y.v) := by show _ = _; unfold cmpF; rw [if_neg (by omega), if_neg (by omega)]
    have hne : (x.n != y.n) = false := by simp [hn]
    have hx : ∀ W a, IsS W a 25 (encF x) → ∀ j, j < 48 → W.cell? ⟨a, 1 + j, none⟩ = some (.int .i64 (x.v.getD j 0)) := fun W a I j hj => by rw [I.cell, show 1 + j = j + 1 by omega, encF_get x _ (by omega)]
    have hy : ∀ W a, IsS W a 25 (encF y) → ∀ j, j < 48 → W.cell? ⟨a, 1 + j, none⟩ = some (.int .i64 (y.v.getD j 0)) := fun W a I j hj => by rw [I.cell, show 1 + j = j + 1 by omega, encF_get y _ (by omega)]
    have HX := x.h
    have HY := y.h
    generalize hl : x.v = l at *
    generalize hm : y.v = m at *
    clear hl hm
    clear hn
    have ta : True := trivial
    have tb : True := trivial
    go_enter Try.func9, Try.ntmps9
    go_wp2_with (first
      | (clear ta; refine wpList_boxGr rfl _ _ rfl (encF x) rfl ?_; intro w1 b1 F1 G1 I1)
      | (clear tb; refine wpList_boxGr rfl _ _ rfl (encF y) rfl ?_; intro w2 b2 F2 G2 I2; have J2 := I1.fresh F2; have c1 := h0 _ _ J2; have c2 := k0 _ _ I2))
    have G3 := G1.trans G2
    clear F1 F2 G1 G2 I1 c1 c2 h0 k0
    go_loopw [5] (fun i wr => ∃ k : Nat, k ≤ 48 ∧ i = .int .i64 (k : Int) ∧ Hid (∀ j, j < k → l.getD j 0 = m.getD j 0) ∧ Grew w2 wr) (fun i _ => 48 - (intOf i).toNat)
    case atStart => exact ⟨0, Nat.zero_le _, rfl, fun j hj => absurd hj (Nat.not_lt_zero _), Grew.refl _⟩
    case round =>
      obtain ⟨k, hk, rfl, HE, GR⟩ := hrel
      by_cases hlt : k < 48
      · have ca := hx wr _ (J2.grown GR.below) k hlt
        have cb := hy wr _ (I2.grown GR.below) k hlt
        have HN : Hid (cmpL l m = if l.getD k 0 < m.getD k 0 then -1 else if m.getD k 0 < l.getD k 0 then 1 else cmpL (l.drop (k + 1)) (m.drop (k + 1))) := cmpL_next HE.out (by omega) (by omega)
        have HE' : Hid (l.getD k 0 = m.getD k 0 → ∀ j, j < k + 1 → l.getD j 0 = m.getD j 0) := fun h j hj => by
          rcases Nat.lt_succ_iff_lt_or_eq.1 hj with h1 | h1
          · exact HE.out j h1
          · rw [h1, h]
        generalize l.getD k 0 = u at *
        generalize m.getD k 0 = v at *
        clear HE hx hy HX HY
        by_cases h1 : u < v
        · rw [if_pos h1] at HN
          clear HE'
          have hd : decide (u < v) = true := by simpa using h1
          clear h1
          go_wp2
          go_quiet (fail)
          go_wp2
          go_ret
          exact ⟨ret_int (by rw [HC.out, HN.out]), G3.trans (GR.trans (Grew.drewN _ _))⟩
        · have hd : decide (u < v) = false := by simpa using h1
          rw [if_neg h1] at HN
          by_cases h2 : v < u
          · rw [if_pos h2] at HN
            have hd2 : decide (v < u) = true := by simpa using h2
            clear HE' h1 h2
            go_wp2
            go_quiet (fail)
            go_wp2
            go_quiet (fail)
            go_wp2
            go_ret
            exact ⟨ret_int (by rw [HC.out, HN.out]), G3.trans ((GR.trans (Grew.drewN _ _)).trans (Grew.drewN _ _))⟩
          · have hd2 : decide (v < u) = false := by simpa using h2
            have HE2 : Hid _ := HE'.out (by omega)
            clear HE' h1 h2 HN
            go_wp2
            go_quiet (fail)
            go_wp2
            go_quiet (fail)
            go_wp2
            go_roundw
            case rel => exact ⟨k + 1, by omega, by go_num, HE2, GR.trans (Grew.drewN _ _)⟩
            case measure => simp [intOf]; omega
      · have HE2 : Hid (cmpL l m = 0) := cmpL_end (by omega) fun j hj => HE.out j (by omega)
        have e : k = 48 := by omega
        subst e
        clear HE hx hy hlt hk
        go_wp2
        go_ret
        exact ⟨ret_int (by rw [HC.out, HE2.out]), G3.trans GR⟩
  · have hne : (x.n != y.n) = true := by simpa using hn
    by_cases h1 : x.n < y.n
    · have HC : Hid (cmpF x y = -1) := by show _ = _; unfold cmpF; rw [if_pos h1]
      have hd : decide (x.n < y.n) = true := by simpa using h1
      clear hn h1
      have ta : True := trivial
      have tb : True := trivial
      go_enter Try.func9, Try.ntmps9
      go_wp2_with (first
        | (clear ta; refine wpList_boxGr rfl _ _ rfl (encF x) rfl ?_; intro w1 b1 F1 G1 I1)
        | (clear tb; refine wpList_boxGr rfl _ _ rfl (encF y) rfl ?_; intro w2 b2 F2 G2 I2; have J2 := I1.fresh F2; have c1 := h0 _ _ J2; have c2 := k0 _ _ I2))
      go_ret
      exact ⟨ret_int HC.out.symm, G1.trans G2⟩
    · have HC : Hid (cmpF x y = 1) := by show _ = _; unfold cmpF; rw [if_neg h1, if_pos (by omega)]
      have hd : decide (x.n < y.n) = false := by simpa using h1
      clear hn h1
      have ta : True := trivial
      have tb : True := trivial
      go_enter Try.func9, Try.ntmps9
      go_wp2_with (first
        | (clear ta; refine wpList_boxGr rfl _ _ rfl (encF x) rfl ?_; intro w1 b1 F1 G1 I1)
        | (clear tb; refine wpList_boxGr rfl _ _ rfl (encF y) rfl ?_; intro w2 b2 F2 G2 I2; have J2 := I1.fresh F2; have c1 := h0 _ _ J2; have c2 := k0 _ _ I2))
      go_ret
      exact ⟨ret_int HC.out.symm, G1.trans G2⟩
end Go.Proofs.Ytimdmiefjnokmaa

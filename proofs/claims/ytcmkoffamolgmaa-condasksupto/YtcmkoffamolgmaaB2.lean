/- compareRefs. -/
import Derived.Test.YtcmkoffamolgmaaB1
namespace Go.Proofs.Ytcmkoffamolgmaa
open Go Go.RowKit M
set_option linter.unusedSimpArgs false
set_option linter.unusedVariables false

theorem cmI_vals (x y : Int) : cmI x y = -1 ∨ cmI x y = 0 ∨ cmI x y = 1 := by
  unfold cmI
  by_cases h1 : x < y
  · simp [h1]
  · by_cases h2 : y < x <;> simp [h1, h2]
theorem cmK_raw (p q : Int) (x y : RK) (hp : thI x = p) (hq : thI y = q) : cmK x y = if ((p == -1) != (q == -1)) = true then - cmI p q else if cmI p q ≠ 0 then cmI p q else cmS x.2 y.2 := by
  subst hp hq
  unfold cmK
  rfl
set_option maxRecDepth 100000 in
set_option maxHeartbeats 2000000 in
theorem compareK_any (x y : RK) (w : World) :
    Calls Try.prog 16 #[.agg (rkL x).toArray, .agg (rkL y).toArray] w fun e w' => e = .returned (.int .i64 (cmK x y)) ∧ Grew w w' := by
  have h0 : ∀ w b, IsS w b 39 (rkL x) → w.cell? ⟨b, 0, none⟩ = some (.int .i64 (thI x)) := fun w b I => I.cell 0
  have h1 : ∀ w b, IsS w b 39 (rkL x) → w.cell? ⟨b, 1, none⟩ = some (.string x.2) := fun w b I => I.cell 1
  have k0 : ∀ w b, IsS w b 39 (rkL y) → w.cell? ⟨b, 0, none⟩ = some (.int .i64 (thI y)) := fun w b I => I.cell 0
  have k1 : ∀ w b, IsS w b 39 (rkL y) → w.cell? ⟨b, 1, none⟩ = some (.string y.2) := fun w b I => I.cell 1
  obtain ⟨p, hp⟩ : ∃ p, thI x = p := ⟨_, rfl⟩
  obtain ⟨q, hq⟩ : ∃ q, thI y = q := ⟨_, rfl⟩
  have HC : Hid (cmK x y = if ((p == -1) != (q == -1)) = true then - cmI p q else if cmI p q ≠ 0 then cmI p q else cmS x.2 y.2) := cmK_raw p q x y hp hq
  rw [hp] at h0
  rw [hq] at k0
  have hcn := fun W => compareN_any p q W
  have hcs := fun W => compareS_any x.2 y.2 W
  have hv := cmI_vals p q
  generalize cmI p q = r at *
  clear hp hq
  obtain ⟨vx, ex⟩ : ∃ v, rkL x = v := ⟨_, rfl⟩
  obtain ⟨vy, ey⟩ : ∃ v, rkL y = v := ⟨_, rfl⟩
  rw [ex] at h0 h1 ⊢
  rw [ey] at k0 k1 ⊢
  generalize x.2 = s at *
  generalize y.2 = t at *
  clear ex ey
  have ta : True := trivial
  have tb : True := trivial
  cases hb : ((p == -1) != (q == -1)) with
  | true =>
    rw [hb, if_pos rfl] at HC
    have hb2 : ((p == -1) == (q == -1)) = false := by revert hb; cases (p == -1) <;> cases (q == -1) <;> simp
    clear hb
    have hw : IntKind.i64.wrap (-r) = -r := by rw [IntKind.wrap_i64]; omega
    clear hcs
    go_enter Try.func16, Try.ntmps16
    go_wp2_with (first
      | (clear ta; refine wpList_boxGr rfl _ _ rfl vx rfl ?_; intro w1 b1 F1 G1 I1)
      | (clear tb; refine wpList_boxGr rfl _ _ rfl vy rfl ?_; intro w2 b2 F2 G2 I2; have J2 := I1.fresh F2; have c0 := h0 _ _ J2; have c1 := k0 _ _ I2)
      | (go_at_call 27; refine (hcn _).mono ?_; rintro e w' ⟨rfl, hw'⟩; replace hw' := hw'.symm; subst hw'))
    go_ret
    exact ⟨ret_int (by rw [HC.out]), G1.trans G2⟩
  | false =>
    rw [hb, if_neg (by decide)] at HC
    have hb2 : ((p == -1) == (q == -1)) = true := by revert hb; cases (p == -1) <;> cases (q == -1) <;> simp
    clear hb
    go_enter Try.func16, Try.ntmps16
    go_wp2_with (first
      | (clear ta; refine wpList_boxGr rfl _ _ rfl vx rfl ?_; intro w1 b1 F1 G1 I1)
      | (clear tb; refine wpList_boxGr rfl _ _ rfl vy rfl ?_; intro w2 b2 F2 G2 I2; have J2 := I1.fresh F2; have c0 := h0 _ _ J2; have c1 := k0 _ _ I2; have c2 := h1 _ _ J2; have c3 := k1 _ _ I2))
    refine wp_quiet_tail (fun w' => ∃ m, w' = w2.drewN m) 10 (by kernel_rfl) (by kernel_rfl) ⟨1, rfl⟩ ?_
    simp only [List.take_succ_cons, List.take_zero, List.drop_succ_cons, List.drop_zero]
    repeat (quiet_step (first
      | (go_at_call 27; exact Calls.quiet_of_same (hcn _))
      | (go_at_call 29; exact Calls.quiet_of_same (hcs _))))
    refine wpQuiet_nil ?_
    intro w3 hw3
    obtain ⟨nq, hw3'⟩ := hw3
    have G3 : Grew w2 w3 := by rw [hw3']; exact Grew.drewN _ _
    clear hw3'
    have hor := fun W b I => or2_any b r (cmS s t) W I
    generalize (if r ≠ 0 then r else cmS s t) = z at *
    clear hcn hcs
    go_wp2_with (first
      | (refine wpList_build2I rfl _ _ rfl r (cmS s t) rfl rfl ?_; intro w4 b4 G4 I4)
      | (go_at_call 28; refine (hor _ _ I4).mono ?_; rintro e w' ⟨rfl, hw'⟩; replace hw' := hw'.symm; subst hw'))
    go_ret
    exact ⟨ret_int HC.out.symm, ((G1.trans G2).trans G3).trans G4⟩
end Go.Proofs.Ytcmkoffamolgmaa

/- Below of the reference. -/
import Derived.Test.YtcmkoffamolgmaaB5
namespace Go.Proofs.Ytcmkoffamolgmaa
open Go Go.RowKit M
set_option linter.unusedSimpArgs false
set_option linter.unusedVariables false

theorem cmI_neg (x y : Int) : cmI x y < 0 ↔ x < y := by
  unfold cmI
  by_cases h1 : x < y
  · simp [h1]
  · by_cases h2 : y < x <;> simp [h1, h2]
def belF (p q : Int) (s t : ByteArray) : Bool := if ((p == -1) == (q == -1)) = false then q == -1 else if p = q then decide (cmS s t < 0) else decide (p < q)
theorem belF_eq (x y : NK) : belF (thI (unN x)) (thI (unN y)) x.2 y.2 = decide (cmN x y < 0) := by
  rw [Bool.eq_iff_iff, decide_eq_true_iff, cmN_less]
  unfold belF thI unN
  by_cases h1 : x.1 = 0 <;> by_cases h2 : y.1 = 0
  · have e1 : ((x.1 : Int) - 1 == -1) = true := by simp; omega
    have e2 : ((y.1 : Int) - 1 == -1) = true := by simp; omega
    simp only [e1, e2]
    rw [if_neg (by decide), if_pos (by omega)]
    simp [h1, h2]
  · have e1 : ((x.1 : Int) - 1 == -1) = true := by simp; omega
    have e2 : ((y.1 : Int) - 1 == -1) = false := by simp; omega
    simp only [e1, e2]
    simp [h1, h2]
  · have e1 : ((x.1 : Int) - 1 == -1) = false := by simp; omega
    have e2 : ((y.1 : Int) - 1 == -1) = true := by simp; omega
    simp only [e1, e2]
    simp [h1, h2]
  · have e1 : ((x.1 : Int) - 1 == -1) = false := by simp; omega
    have e2 : ((y.1 : Int) - 1 == -1) = false := by simp; omega
    simp only [e1, e2]
    rw [if_neg (by decide)]
    by_cases h3 : x.1 = y.1
    · rw [if_pos (by omega)]
      simp [h1, h2, h3]
    · rw [if_neg (by omega)]
      simp [h1, h2, h3]
set_option maxRecDepth 100000 in
set_option maxHeartbeats 2000000 in
theorem below_any (x y : NK) (w : World) :
    Calls Try.prog 19 #[.agg (nkL x).toArray, .agg (nkL y).toArray] w fun e w' => e = .returned (.bool (decide (cmN x y < 0))) ∧ Below w.heap.size w w' := by
  rw [← belF_eq]
  have h0 : ∀ w b, IsS w b 39 (nkL x) → w.cell? ⟨b, 0, none⟩ = some (.int .i64 (thI (unN x))) := fun w b I => I.cell 0
  have h1 : ∀ w b, IsS w b 39 (nkL x) → w.cell? ⟨b, 1, none⟩ = some (.string x.2) := fun w b I => I.cell 1
  have k0 : ∀ w b, IsS w b 39 (nkL y) → w.cell? ⟨b, 0, none⟩ = some (.int .i64 (thI (unN y))) := fun w b I => I.cell 0
  have k1 : ∀ w b, IsS w b 39 (nkL y) → w.cell? ⟨b, 1, none⟩ = some (.string y.2) := fun w b I => I.cell 1
  generalize thI (unN x) = p at *
  generalize thI (unN y) = q at *
  generalize nkL x = vx at *
  generalize nkL y = vy at *
  generalize x.2 = s at *
  generalize y.2 = t at *
  obtain ⟨z, hz⟩ : ∃ z, belF p q s t = z := ⟨_, rfl⟩
  have HZ : Hid (belF p q s t = z) := hz
  rw [hz]
  unfold belF at hz
  have HS : Hid (Op.bytesLess s.toList t.toList = decide (cmS s t < 0)) := by
    show _ = _
    rw [toL, toL, less_cb]; rfl
  clear HZ
  have ta : True := trivial
  have tb : True := trivial
  cases hb : ((p == -1) == (q == -1)) with
  | false =>
    rw [hb, if_pos rfl] at hz
    subst hz
    go_enter Try.func19, Try.ntmps19
    go_wp2_with (first
      | (clear ta; refine wpList_boxS rfl 39 _ rfl vx rfl ?_; intro w1 b1 F1 I1; have B1 := F_b F1)
      | (clear tb; refine wpList_boxS rfl 39 _ rfl vy rfl ?_; intro w2 b2 F2 I2; have B2 := F_b F2; have J2 := I1.fresh F2; have c0 := h0 _ _ J2; have c1 := k0 _ _ I2))
    go_ret
    exact ⟨rfl, Below.then B1 B2⟩
  | true =>
    rw [hb, if_neg (by decide)] at hz
    by_cases hpq : p = q
    · rw [if_pos hpq, ← HS.out] at hz
      have hpq2 : (p == q) = true := by simpa using hpq
      subst hz
      clear HS
      go_enter Try.func19, Try.ntmps19
      go_wp2_with (first
        | (clear ta; refine wpList_boxS rfl 39 _ rfl vx rfl ?_; intro w1 b1 F1 I1; have B1 := F_b F1)
        | (clear tb; refine wpList_boxS rfl 39 _ rfl vy rfl ?_; intro w2 b2 F2 I2; have B2 := F_b F2; have J2 := I1.fresh F2; have c0 := h0 _ _ J2; have c1 := k0 _ _ I2; have c2 := h1 _ _ J2; have c3 := k1 _ _ I2))
      go_ret
      exact ⟨rfl, Below.then B1 B2⟩
    · rw [if_neg hpq] at hz
      have hpq2 : (p != q) = true := by simpa using hpq
      subst hz
      clear HS
      go_enter Try.func19, Try.ntmps19
      go_wp2_with (first
        | (clear ta; refine wpList_boxS rfl 39 _ rfl vx rfl ?_; intro w1 b1 F1 I1; have B1 := F_b F1)
        | (clear tb; refine wpList_boxS rfl 39 _ rfl vy rfl ?_; intro w2 b2 F2 I2; have B2 := F_b F2; have J2 := I1.fresh F2; have c0 := h0 _ _ J2; have c1 := k0 _ _ I2))
      go_ret
      exact ⟨rfl, Below.then B1 B2⟩
end Go.Proofs.Ytcmkoffamolgmaa

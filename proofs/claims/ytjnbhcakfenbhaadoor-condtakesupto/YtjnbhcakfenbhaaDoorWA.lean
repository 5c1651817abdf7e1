/- How many stand open behind a reader, whatever it found. -/
import Derived.Test.YtjnbhcakfenbhaaDoorW9
namespace Go.Proofs.YtjnbhcakfenbhaaDoor
open Go.RowKit Go.Shelf M
set_option linter.unusedSimpArgs false
set_option linter.unusedVariables false

theorem take_dp (gs : List GT) (σ : CS) : (takeC gs σ).deep = σ.deep := by unfold takeC; split <;> rfl
theorem fail_dp (σ : CS) (g : GT) (e : Int) : (failC σ g e).deep = σ.deep := by unfold failC; split <;> rfl
theorem sign_dp (gs : List GT) (σ : CS) (x : List UInt8) : (signC gs σ x).deep = σ.deep := by unfold signC; split; exact take_dp gs σ; exact fail_dp σ _ _
theorem name_dp (gs : List GT) (σ : CS) : (nameC gs σ).deep = σ.deep := by unfold nameC; split; exact take_dp gs σ; exact fail_dp σ _ _
theorem nbr_dp (gs : List GT) (σ : CS) : (nbrC gs σ).deep = σ.deep := by unfold nbrC; split; exact take_dp gs σ; exact fail_dp σ _ _
theorem node_dp (gs : List GT) (σ : CS) (nd : Nd) : (nodeC gs σ nd).deep = σ.deep := by
  unfold nodeC; split
  · rfl
  · split
    · exact fail_dp σ _ _
    · rfl
theorem ref_dp (gs : List GT) (σ : CS) : (refC gs σ).deep = σ.deep := by
  unfold refC; split
  · rw [sign_dp, name_dp, take_dp]
  · split
    · rw [name_dp, sign_dp, take_dp]
    · rw [name_dp]
theorem eq_dp (gs : List GT) (σ : CS) : (eqC gs σ).deep = σ.deep := by unfold eqC eqS; rw [node_dp, nbr_dp, sign_dp, ref_dp]
theorem isT_none {gs : List GT} {σ : CS} {on : Nat} {kd : Int} {x : List UInt8} {y : Int × Int × Int} (h : σ.F = some y) : isT gs σ on kd x = false := by unfold isT; rw [h]; rfl
/-- Where something is wrong already, nothing turns. -/
theorem go_stay (gs : List GT) {σ : CS} {y : Int × Int × Int} (h : σ.F = some y) : ∀ (f : Nat) (m : Option Int) (lvl : Nat), (goC gs f m lvl σ).2 = σ
  | 0, _, _ => rfl
  | f + 1, some a, lvl => by unfold goC; rw [if_neg (by rw [isT_none h]; simp)]
  | f + 1, none, lvl + 1 => by unfold goC; rw [go_stay gs h f none lvl]; exact go_stay gs h f _ lvl
  | f + 1, none, 0 => by unfold goC; rw [if_pos (by rw [h]; rfl)]
theorem node_stay (gs : List GT) {σ : CS} {y : Int × Int × Int} (h : σ.F = some y) (nd : Nd) : nodeC gs σ nd = σ := if_pos (by rw [h]; rfl)
theorem open_cases (gs : List GT) {σ : CS} (hF : σ.F = none) : (64 ≤ σ.deep ∧ (openC gs σ).deep = σ.deep ∧ ∃ y, (openC gs σ).F = some y) ∨ (σ.deep < 64 ∧ (openC gs σ).deep = σ.deep + 1) := by
  unfold openC
  by_cases h : 64 ≤ σ.deep
  · rw [if_pos h]
    refine .inl ⟨h, fail_dp σ _ _, ?_⟩
    unfold failC
    rw [if_neg (by rw [hF]; simp)]
    exact ⟨_, rfl⟩
  · rw [if_neg h]
    exact .inr ⟨by omega, take_dp gs _⟩
theorem go_dp (gs : List GT) : ∀ (f : Nat) (m : Option Int) (lvl : Nat) (σ : CS), σ.deep - 1 ≤ (goC gs f m lvl σ).2.deep ∧ (goC gs f m lvl σ).2.deep ≤ σ.deep
  | 0, _, _, σ => ⟨by show σ.deep - 1 ≤ σ.deep; omega, Int.le_refl _⟩
  | f + 1, some a, lvl, σ => by
    unfold goC
    by_cases hB : isT gs σ 0 4 (sgnOf lvl) = true
    · rw [if_pos hB]
      have h1 := go_dp gs f none lvl (takeC gs σ)
      have h2 := kp_go gs f none lvl (takeC gs σ)
      rw [take_dp] at h1
      generalize goC gs f none lvl (takeC gs σ) = r at *
      obtain ⟨i, τ⟩ := r
      dsimp only at *
      rcases F_or τ with g | ⟨y, u⟩
      · have h3 := h2.deep g
        rw [take_dp] at h3
        have h4 := go_dp gs f (some (nodeI τ)) lvl (nodeC gs τ (nd2 (opOf lvl) a i))
        rw [node_dp, h3] at h4
        exact h4
      · rw [node_stay gs u, go_stay gs u]
        exact h1
    · rw [if_neg hB]
      exact ⟨by show σ.deep - 1 ≤ σ.deep; omega, Int.le_refl _⟩
  | f + 1, none, lvl + 1, σ => by
    unfold goC
    have h1 := go_dp gs f none lvl σ
    have h2 := kp_go gs f none lvl σ
    generalize goC gs f none lvl σ = r at *
    obtain ⟨i, τ⟩ := r
    dsimp only at *
    rcases F_or τ with g | ⟨y, u⟩
    · have h4 := go_dp gs f (some i) lvl τ
      rw [h2.deep g] at h4
      exact h4
    · rw [go_stay gs u]
      exact h1
  | f + 1, none, 0, σ => by
    rcases F_or σ with hF | ⟨y, u⟩
    · have ho := open_cases gs hF
      rw [go_zero hF]
      split
      · have h1 := go_dp gs f none 0 (openC gs σ)
        rw [node_dp]
        show σ.deep - 1 ≤ (goC gs f none 0 (openC gs σ)).2.deep - 1 ∧ (goC gs f none 0 (openC gs σ)).2.deep - 1 ≤ σ.deep
        rcases ho with ⟨_, e, y, u⟩ | ⟨_, e⟩
        · rw [go_stay gs u, e]; omega
        · rw [e] at h1; omega
      · split
        · have h1 := go_dp gs f none 2 (openC gs σ)
          show σ.deep - 1 ≤ (signC gs (goC gs f none 2 (openC gs σ)).2 [41]).deep - 1 ∧ (signC gs (goC gs f none 2 (openC gs σ)).2 [41]).deep - 1 ≤ σ.deep
          rw [sign_dp]
          rcases ho with ⟨_, e, y, u⟩ | ⟨_, e⟩
          · rw [go_stay gs u, e]; omega
          · rw [e] at h1; omega
        · split
          · dsimp only; rw [node_dp, take_dp]; omega
          · dsimp only; rw [eq_dp]; omega
    · rw [go_stay gs u]; omega
end Go.Proofs.YtjnbhcakfenbhaaDoor

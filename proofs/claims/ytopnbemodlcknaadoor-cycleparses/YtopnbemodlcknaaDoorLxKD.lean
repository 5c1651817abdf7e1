/- Every text is read as tokens and one error or none. -/
import Derived.Test.YtopnbemodlcknaaDoorLxK7A
namespace Go.Proofs.YtopnbemodlcknaaDoor.Lx
open Go.RowKit Go.Shelf M
set_option linter.unusedSimpArgs false
set_option linter.unusedVariables false

theorem dec_ex (l : List UInt8) : ∃ (ts : List Tok) (st : LS), rounds l = ts.map Rd.tok ++ st.rd.toList ∧ ts.length ≤ 1048576 ∧ (st.rd = none ∨ st.F.2.2 ≠ 0) := by
  have key : ∀ (g : Nat) (us : List Tok) (st : LS), TokJ l us g st → ∃ (ts : List Tok) (st' : LS), rounds l = ts.map Rd.tok ++ st'.rd.toList ∧ ts.length ≤ 1048576 ∧ (st'.rd = none ∨ st'.F.2.2 ≠ 0) := by
    intro g
    induction g using Nat.strongRecOn with
    | ind g ih =>
      intro us st h
      obtain ⟨st', t, hst, hgd⟩ := step_ex (tokJ_good h).1
      rcases tokJ_step h hst with ⟨g', _, _, hg, h'⟩ | ⟨hex, hr⟩
      · exact ih g' hg _ _ h'
      · refine ⟨us, st', hr, (tokJ_good h).2, ?_⟩
        rcases hex with h | ⟨h, _⟩
        · exact .inr h
        · refine .inl ?_
          cases st' with
          | ok p => rfl
          | bad x y e => exact absurd h (by intro e'; have := hgd.1; simp [LS.F] at e'; omega)
          | long => exact absurd h (by decide)
  exact key _ _ _ (tokJ_start l)

end Go.Proofs.YtopnbemodlcknaaDoor.Lx

/- The law LexisGaps in all its outcomes. -/
import Derived.Test.YtbelajboalikcaaG4
namespace Go.Proofs.Ytbelajboalikcaa.Gp
open Go.RowKit Go.Shelf Go.Proofs.Ytbelajboalikcaa M
set_option linter.unusedSimpArgs false
set_option linter.unusedVariables false

theorem gaps_any (s g : ByteArray) (hs : s.size ≤ 1048576) (hg : g.size ≤ 1048576) (w : World) :
    Calls Try.prog 8 #[.string s, .string g] w fun e w' => e = .returned (.bool true) ∧ Below w.heap.size w w' := by
  obtain ⟨ts, er, hr, hne, hl⟩ := shape s.data.toList
  cases er with
  | some r => exact gaps_e s g w (allBad_of (by omega) hr hne hl)
  | none =>
    have hr' : rounds s.data.toList = ts.map Rd.tok := by rw [hr]; simp
    have cA : AllOk s (ts.map toG) := allOk_of (by omega) hr' rfl hl
    have cG := fun w => gap_any g (by omega) w
    cases hgap : gapF g.data.toList 0 with
    | false => rw [hgap] at cG; exact gaps_n s g w _ cA cG
    | true =>
      rw [hgap] at cG
      obtain ⟨P, hP⟩ : ∃ P, (ts.length + 1) * (g.size + 1) = P := ⟨_, rfl⟩
      have hPb : P ≤ 1048577 * 1048577 := by rw [← hP]; exact Nat.mul_le_mul (by omega) (by omega)
      have hPi : ((ts.length : Int) + 1) * ((g.size : Int) + 1) = (P : Int) := by rw [← hP]; simp
      have hW : IntKind.i64.wrap (((ts.length : Int) + 1) * ((g.size : Int) + 1)) = (P : Int) := by
        rw [hPi, IntKind.wrap_i64]; omega
      have hGl : (ts.map toG).length = ts.length := by simp
      by_cases hbig : (1048576 : Int) < s.size + P
      · exact gaps_l s g w ts.length g.size P hs _ hGl rfl hW (by omega) hbig hl hg cA cG
      · have hsum : s.data.toList.length + (ts.length + 1) * (g.data.toList.length + 1) ≤ 1048576 := by
          rw [← sizeL, ← sizeL, hP]; omega
        obtain ⟨us, u1, u2, u3, u4⟩ := gaps_back hr' hgap hsum
        have sp := spots hr'
        refine gaps_ok s g w ts.length g.size P hs _ hGl rfl hW (by omega) hbig hl hg cA cG (ts.map fun t => (s.data.toList.drop t.at').take (t.fin - t.at')) (by simp) ?_ u4 (us.map toG) ((ts.map toG).map bareG) (allOk_of (ts := us) ?_ ?_ rfl (by omega)) (bareOk_of u2 (by simp; omega)) (bareOk_of rfl (by simp; omega)) (sameOk_of (by simp; omega))
        · intro j x hx
          rw [List.getElem?_map] at hx
          obtain ⟨t, ht, rfl⟩ := Option.map_eq_some_iff.1 hx
          have hm := List.mem_of_getElem? ht
          obtain ⟨h1, h2, h3, _, _⟩ := back_own hr' hm
          rw [← sizeL] at h2
          refine ⟨(t.kind : Int), t.value, (t.line : Int), (t.col : Int), ⟨t.text.toArray⟩, t.at', t.fin, h1, h2, rfl, ?_, fun w => ?_⟩
          · rw [List.getElem?_map, ht, exL, List.drop_take]; rfl
          · have := place_in s (by omega) t.at' (by omega) w
            rw [← sp t hm] at this
            exact this
        · rw [sizeL]; simp only [List.toList_toArray]; omega
        · exact u1
end Go.Proofs.Ytbelajboalikcaa.Gp

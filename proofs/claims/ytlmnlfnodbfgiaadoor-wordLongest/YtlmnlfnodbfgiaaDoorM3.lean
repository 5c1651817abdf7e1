/-
  Plain mathematics: the longest number at the beginning of a text is the same in every part of the text that holds it. No program is named.
-/
import Derived.Test.YtlmnlfnodbfgiaaDoorM1
namespace Go.Proofs.YtlmnlfnodbfgiaaDoor.M
set_option linter.unusedSimpArgs false
set_option linter.unusedVariables false

theorem dl_of_take (b : Nat) (l : List UInt8) (m : Nat) : dl b (l.take m) = (dl b l).take m := by unfold dl; rw [List.take_takeWhile]
theorem minusB_take {l : List UInt8} {m : Nat} (hm : 1 ≤ m) : minusB (l.take m) = minusB l := by
  cases m with
  | zero => omega
  | succ m => cases l <;> rfl
theorem markB_take {r : List UInt8} {m : Nat} (hm : 2 ≤ m) : markB (r.take m) = markB r := by
  match m, hm with
  | m + 2, _ =>
      match r with
      | [] => rfl
      | [a] => rfl
      | a :: b :: r => rfl
theorem markB_of_take {r : List UInt8} {m : Nat} (h : markB (r.take m) = true) : markB r = true := by
  match m, r, h with
  | 0, _, h => simp [markB] at h
  | m + 1, [], h => simp [markB] at h
  | 1, [a], h => simp [markB] at h
  | 1, a :: b :: r, h => simp [markB] at h
  | m + 2, [a], h => simp [markB] at h
  | m + 2, a :: b :: r, h => exact h
theorem bodyF_take {r : List UInt8} {m : Nat} (hn : (bodyF r).2.1 ≠ []) (hm : (bodyF r).2.2 ≤ m) : bodyF (r.take m) = bodyF r := by
  by_cases hx : markB r = true ∧ dl 16 (r.drop 2) ≠ []
  · have hb : bodyF r = (16, dl 16 (r.drop 2), 2 + (dl 16 (r.drop 2)).length) := by unfold bodyF; rw [if_pos hx]
    rw [hb] at hm hn ⊢
    have hl : 1 ≤ (dl 16 (r.drop 2)).length := by
      cases e : dl 16 (r.drop 2) with
      | nil => exact absurd e hx.2
      | cons a t => simp
    have hm' : 2 + (dl 16 (r.drop 2)).length ≤ m := hm
    have hd : dl 16 ((r.take m).drop 2) = dl 16 (r.drop 2) := by
      rw [List.drop_take, dl_of_take, List.take_of_length_le (by omega)]
    unfold bodyF
    rw [hd, if_pos ⟨by rw [markB_take (by omega)]; exact hx.1, hx.2⟩]
  · have hb : bodyF r = (10, dl 10 r, (dl 10 r).length) := by unfold bodyF; rw [if_neg hx]
    rw [hb] at hm hn ⊢
    have hm' : (dl 10 r).length ≤ m := hm
    have hd : dl 10 (r.take m) = dl 10 r := by rw [dl_of_take, List.take_of_length_le hm']
    unfold bodyF
    rw [if_neg, hd]
    rintro ⟨h1, h2⟩
    have h3 := markB_of_take h1
    have h4 : dl 16 (r.drop 2) = [] := Classical.byContradiction fun h => hx ⟨h3, h⟩
    exact h2 (by rw [List.drop_take, dl_of_take, h4]; simp)
theorem bodyF_pos {r : List UInt8} (hn : (bodyF r).2.1 ≠ []) : 1 ≤ (bodyF r).2.2 := by
  unfold bodyF at hn ⊢
  split
  · show 1 ≤ 2 + _; omega
  · rename_i h
    rw [if_neg h] at hn
    show 1 ≤ (dl 10 r).length
    cases e : dl 10 r with
    | nil => exact absurd e hn
    | cons a t => simp
theorem num_take {l : List UInt8} {m : Nat} (hn : digF l ≠ []) (hm : lenF l ≤ m) : digF (l.take m) = digF l ∧ baseF (l.take m) = baseF l ∧ lenF (l.take m) = lenF l ∧ minusB (l.take m) = minusB l := by
  have hp := bodyF_pos hn
  have h1 : 1 ≤ m := by unfold lenF at hm; omega
  have hmi := minusB_take (l := l) h1
  have hs : sgn (l.take m) = sgn l := by unfold sgn; rw [hmi]
  have hb : bodyF ((l.take m).drop (sgn l)) = bodyF (l.drop (sgn l)) := by
    rw [List.drop_take]
    exact bodyF_take hn (by unfold lenF at hm; omega)
  refine ⟨?_, ?_, ?_, hmi⟩
  · unfold digF; rw [hs, hb]
  · unfold baseF; rw [hs, hb]
  · unfold lenF; rw [hs, hb]
theorem parse_at {l : List UInt8} {v : Int} {n : Nat} (h : nextO l = (v, n, 0)) : 1 ≤ n ∧ n ≤ l.length ∧ parseO (l.take n) = (v, 0) ∧ (n < l.length → (parseO (l.take (n + 1))).2 = 40) := by
  unfold nextO at h
  by_cases hd : digF l = []
  · rw [if_pos hd] at h; simp at h
  · rw [if_neg hd] at h
    cases ho : numF l with
    | none => rw [ho] at h; simp [nNum] at h
    | some x =>
        rw [ho] at h
        obtain ⟨rfl, rfl⟩ : x = v ∧ lenF l = n := by simpa [nNum] using h
        have hle := lenF_le l
        have hp := bodyF_pos hd
        refine ⟨by unfold lenF; omega, hle, ?_, fun hlt => ?_⟩
        · obtain ⟨h1, h2, h3, h4⟩ := num_take hd (Nat.le_refl (lenF l))
          unfold parseO
          rw [h1, h3, List.length_take, if_neg (by rw [Nat.min_eq_left hle]; simp; exact hd)]
          have : numF (l.take (lenF l)) = numF l := by unfold numF; rw [h1, h2, h4]
          rw [this, ho]; rfl
        · obtain ⟨h1, h2, h3, h4⟩ := num_take hd (Nat.le_succ (lenF l))
          unfold parseO
          rw [if_pos (Or.inr (by rw [h3, List.length_take]; omega))]
theorem next_none {l : List UInt8} {v : Int} {n e : Nat} (h : nextO l = (v, n, e)) (he : e ≠ 0) : v = 0 ∧ n = 0 := by
  unfold nextO at h
  by_cases hd : digF l = []
  · rw [if_pos hd] at h; simp at h; exact ⟨h.1.symm, h.2.1.symm⟩
  · rw [if_neg hd] at h
    cases ho : numF l with
    | none => rw [ho] at h; simp [nNum] at h; exact ⟨h.1.symm, h.2.1.symm⟩
    | some x => rw [ho] at h; simp [nNum] at h; exact absurd h.2.2.symm he
end Go.Proofs.YtlmnlfnodbfgiaaDoor.M

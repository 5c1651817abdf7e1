/- A piece depends on its own bytes alone, with any gap behind it: plain mathematics. -/
import Derived.Test.YtbelajboalikcaaN2
namespace Go.Proofs.Ytbelajboalikcaa.Gp
open Go.Proofs.Ytbelajboalikcaa M
set_option linter.unusedSimpArgs false
set_option linter.unusedVariables false

/-- What stands behind a token: nothing, a blank, or the sign that a comment begins with. -/
def SepG (r : List UInt8) : Prop := r = [] ∨ ∃ c r', r = c :: r' ∧ (c = 32 ∨ c = 9 ∨ c = 10 ∨ c = 13 ∨ c = 40)
theorem run_sep {r : List UInt8} (h : SepG r) : nameRun r = 0 := by
  rcases h with rfl | ⟨c, r', rfl, hc⟩
  · rfl
  · rw [nameRun, if_neg]
    rcases hc with rfl | rfl | rfl | rfl | rfl <;> cases r' <;> simp [innN, letN, digN, joinsB]
theorem run_same : ∀ (x r1 r2 : List UInt8), SepG r2 → nameRun (x ++ r1) = x.length → nameRun (x ++ r2) = x.length
  | [], r1, r2, h, _ => by rw [List.nil_append]; exact run_sep h
  | d :: x, r1, r2, h, e => by
    rw [List.cons_append, nameRun] at e
    by_cases hc : (innN d.toNat || joinsB (d :: (x ++ r1))) = true
    · rw [if_pos hc] at e
      have e' : nameRun (x ++ r1) = x.length := by simp at e; omega
      have ih := run_same x r1 r2 h e'
      rw [List.cons_append, nameRun, if_pos]
      · rw [ih, List.length_cons]; omega
      · cases hi : innN d.toNat with
        | true => rfl
        | false =>
          rw [hi, Bool.false_or] at hc
          rw [Bool.false_or]
          cases x with
          | nil =>
            exfalso
            cases r1 with
            | nil => cases hc
            | cons y r1' =>
              simp only [List.nil_append, joinsB, Bool.and_eq_true] at hc
              have hy : innN y.toNat = true := by unfold innN; rw [hc.2]; rfl
              rw [List.nil_append, nameRun, hy] at e'
              simp at e'
          | cons y x' => exact hc
    · rw [if_neg hc] at e; simp at e
theorem tw_same (P : UInt8 → Bool) (hP : P 32 = false ∧ P 9 = false ∧ P 10 = false ∧ P 13 = false ∧ P 40 = false) : ∀ (x r1 r2 : List UInt8), SepG r2 → ((x ++ r1).takeWhile P).length = x.length → ((x ++ r2).takeWhile P).length = x.length
  | [], r1, r2, h, _ => by
    obtain ⟨p1, p2, p3, p4, p5⟩ := hP
    rcases h with rfl | ⟨c, r', rfl, hc⟩
    · rfl
    · rcases hc with rfl | rfl | rfl | rfl | rfl <;> simp [List.takeWhile_cons, p1, p2, p3, p4, p5]
  | d :: x, r1, r2, h, e => by
    rw [List.cons_append, List.takeWhile_cons] at e ⊢
    cases hd : P d with
    | true =>
      rw [hd] at e
      simp at e ⊢
      exact tw_same P hP x r1 r2 h e
    | false => rw [hd] at e; simp at e
theorem tw_mid (P : UInt8 → Bool) (d : UInt8) (hd : P d = false) : ∀ (x r1 r2 : List UInt8), ((x ++ d :: r1).takeWhile P).length = x.length → ((x ++ d :: r2).takeWhile P).length = x.length
  | [], r1, r2, _ => by simp [List.takeWhile_cons, hd]
  | y :: x, r1, r2, e => by
    rw [List.cons_append, List.takeWhile_cons] at e ⊢
    cases hy : P y with
    | true =>
      rw [hy] at e
      simp at e ⊢
      exact tw_mid P d hd x r1 r2 e
    | false => rw [hy] at e; simp at e
theorem take_own (b r : List UInt8) : (b ++ r).take b.length = b := by simp

theorem name_same {c : UInt8} {x r1 r2 : List UInt8} (hl : letN c.toNat = true) (h2 : SepG r2) (hw : (namePiece (c :: (x ++ r1))).wrong = 0) (hn : (namePiece (c :: (x ++ r1))).length = x.length + 1) : namePiece (c :: (x ++ r2)) = namePiece (c :: (x ++ r1)) := by
  have e1 : nameLen (c :: (x ++ r1)) = 1 + nameRun (x ++ r1) := by rw [nameLen, if_pos hl]
  have e2 : nameLen (c :: (x ++ r2)) = 1 + nameRun (x ++ r2) := by rw [nameLen, if_pos hl]
  unfold namePiece at hw hn
  by_cases h64 : 64 < nameLen (c :: (x ++ r1))
  · rw [if_pos h64] at hw; cases hw
  · rw [if_neg h64] at hn
    have hr : nameRun (x ++ r1) = x.length := by
      have : nameLen (c :: (x ++ r1)) = x.length + 1 := hn
      omega
    have hr2 := run_same x r1 r2 h2 hr
    have el : nameLen (c :: (x ++ r2)) = nameLen (c :: (x ++ r1)) := by omega
    unfold namePiece
    rw [el, if_neg h64, if_neg h64]
    have e3 : nameLen (c :: (x ++ r1)) = (c :: x).length := by simp; omega
    rw [e3, show c :: (x ++ r2) = (c :: x) ++ r2 from rfl, show c :: (x ++ r1) = (c :: x) ++ r1 from rfl, take_own, take_own]
theorem num_same {c : UInt8} {x r1 r2 : List UInt8} (h2 : SepG r2) (hw : (numPiece (c :: (x ++ r1))).wrong = 0) (hn : (numPiece (c :: (x ++ r1))).length = x.length + 1) : numPiece (c :: (x ++ r2)) = numPiece (c :: (x ++ r1)) ∧ numLen (c :: (x ++ r1)) = x.length + 1 := by
  unfold numPiece at hw hn
  by_cases h0 : (parseO ((c :: (x ++ r1)).take (numLen (c :: (x ++ r1))))).2 = 0
  · rw [if_pos h0] at hn
    have e1 : numLen (c :: (x ++ r1)) = x.length + 1 := hn
    have e1' : ((x ++ r1).takeWhile fun c => innN c.toNat).length = x.length := by
      have : 1 + ((x ++ r1).takeWhile fun c => innN c.toNat).length = x.length + 1 := e1
      omega
    have e2' := tw_same (fun c => innN c.toNat) (by decide) x r1 r2 h2 e1'
    have e2 : numLen (c :: (x ++ r2)) = x.length + 1 := by
      show 1 + ((x ++ r2).takeWhile fun c => innN c.toNat).length = _
      omega
    refine ⟨?_, e1⟩
    have t1 : (c :: (x ++ r1)).take (x.length + 1) = c :: x := by simp
    have t2 : (c :: (x ++ r2)).take (x.length + 1) = c :: x := by simp
    unfold numPiece
    rw [e1, e2, t1, t2]
  · rw [if_neg h0] at hw; exact absurd hw h0
theorem quot_same {c : UInt8} {x r1 r2 : List UInt8} (hw : (quotPiece (c :: (x ++ r1))).wrong = 0) (hn : (quotPiece (c :: (x ++ r1))).length = x.length + 1) : quotPiece (c :: (x ++ r2)) = quotPiece (c :: (x ++ r1)) := by
  unfold quotPiece at hw hn
  by_cases h0 : ∃ d, (c :: (x ++ r1))[quotLen (c :: (x ++ r1))]? = some d ∧ d.toNat = 34
  · rw [if_pos h0] at hn
    have e1 : quotLen (c :: (x ++ r1)) = x.length := by
      have : quotLen (c :: (x ++ r1)) + 1 = x.length + 1 := hn
      omega
    obtain ⟨d, hd, h34⟩ := h0
    have hx : x ≠ [] := by
      rintro rfl
      have : 1 + (([] ++ r1).takeWhile fun c : UInt8 => decide (c.toNat ≠ 34 ∧ c.toNat ≠ 10)).length = 0 := e1
      omega
    obtain ⟨y, z, rfl⟩ : ∃ y z, x = y ++ [z] := ⟨x.dropLast, x.getLast hx, (List.dropLast_concat_getLast hx).symm⟩
    have hz : z = d := by
      rw [e1] at hd
      simp at hd
      exact hd
    subst hz
    have hl : (y ++ [z]).length = y.length + 1 := by simp
    have k1 : ((y ++ z :: r1).takeWhile fun c : UInt8 => decide (c.toNat ≠ 34 ∧ c.toNat ≠ 10)).length = y.length := by
      have : 1 + ((y ++ [z] ++ r1).takeWhile fun c : UInt8 => decide (c.toNat ≠ 34 ∧ c.toNat ≠ 10)).length = (y ++ [z]).length := e1
      rw [hl, List.append_assoc] at this
      simp only [List.singleton_append] at this
      omega
    have k2 := tw_mid (fun c : UInt8 => decide (c.toNat ≠ 34 ∧ c.toNat ≠ 10)) z (by simp [h34]) y r1 r2 k1
    have e2 : quotLen (c :: (y ++ [z] ++ r2)) = (y ++ [z]).length := by
      show 1 + ((y ++ [z] ++ r2).takeWhile fun c : UInt8 => decide (c.toNat ≠ 34 ∧ c.toNat ≠ 10)).length = _
      rw [List.append_assoc, hl]
      simp only [List.singleton_append]
      omega
    have g : ∀ r : List UInt8, (c :: (y ++ [z] ++ r))[(y ++ [z]).length]? = some z := fun r => by simp
    have t : ∀ r : List UInt8, ((c :: (y ++ [z] ++ r)).take (y ++ [z]).length).drop 1 = y := fun r => by simp
    unfold quotPiece
    rw [e1, e2, g r1, g r2, if_pos ⟨z, rfl, h34⟩, if_pos ⟨z, rfl, h34⟩, t r1, t r2]
  · rw [if_neg h0] at hw; cases hw

theorem beg_app {p b r : List UInt8} (h : p.length ≤ b.length) : begB (b ++ r) p = begB b p := by
  unfold begB
  rw [Bool.eq_iff_iff, List.isPrefixOf_iff_prefix, List.isPrefixOf_iff_prefix]
  constructor
  · intro hp; exact List.prefix_of_prefix_length_le hp (List.prefix_append _ _) h
  · intro hp; exact hp.trans (List.prefix_append _ _)
theorem beg_first {c d : UInt8} {l p : List UInt8} (h : c ≠ d) : begB (c :: l) (d :: p) = false := by
  unfold begB
  simp [List.isPrefixOf, Ne.symm h]
theorem beg_eq {b r p : List UInt8} (h : begB (b ++ r) p = true) (hl : p.length = b.length) : b = p := by
  rw [beg_app (by omega)] at h
  exact ((List.isPrefixOf_iff_prefix.1 h).eq_of_length hl).symm
theorem sign_same {b r1 r2 : List UInt8} (hb : b ≠ []) (h2 : SepG r2) (hw : (signPiece (b ++ r1)).wrong = 0) (hn : (signPiece (b ++ r1)).length = b.length) : signPiece (b ++ r2) = signPiece (b ++ r1) ∧ signLen (b ++ r1) = b.length := by
  unfold signPiece at hw hn
  by_cases h0 : signLen (b ++ r1) = 0
  · rw [if_pos h0] at hw; cases hw
  · rw [if_neg h0] at hn
    have e1 : signLen (b ++ r1) = b.length := hn
    refine ⟨?_, e1⟩
    have key : signLen (b ++ r2) = b.length := by
      have e := e1
      unfold signLen at e
      by_cases p1 : begB (b ++ r1) [94, 45, 49] = true
      · rw [if_pos p1] at e
        have := beg_eq p1 (by simpa using e)
        subst this
        unfold signLen
        rw [if_pos (by rw [beg_app (by simp)]; decide)]; rfl
      · rw [if_neg p1] at e
        by_cases p2 : (begB (b ++ r1) [47, 92] || begB (b ++ r1) [92, 47]) = true
        · rw [if_pos p2] at e
          have hb2 : b = [47, 92] ∨ b = [92, 47] := by
            rcases Bool.or_eq_true_iff.1 p2 with h | h
            · exact .inl (beg_eq h (by simpa using e))
            · exact .inr (beg_eq h (by simpa using e))
          unfold signLen
          rcases hb2 with rfl | rfl
          · rw [if_neg (by rw [show ([47, 92] ++ r2 : List UInt8) = 47 :: 92 :: r2 from rfl, beg_first (by decide)]; decide), if_pos (by rw [beg_app (by simp)]; rfl)]; rfl
          · rw [if_neg (by rw [show ([92, 47] ++ r2 : List UInt8) = 92 :: 47 :: r2 from rfl, beg_first (by decide)]; decide), if_pos (by rw [beg_app (p := [92, 47]) (by simp)]; simp [begB, List.isPrefixOf])]; rfl
        · rw [if_neg p2] at e
          cases b with
          | nil => exact absurd rfl hb
          | cons c b' =>
            rw [List.cons_append] at e
            dsimp only at e
            by_cases hc : c.toNat = 92 ∨ oneSign c.toNat = true
            · rw [if_pos hc] at e
              have hb' : b' = [] := by
                cases b' with
                | nil => rfl
                | cons y z => simp at e
              subst hb'
              have n94 : c ≠ 94 := by rintro rfl; revert hc; decide
              have n47 : c ≠ 47 := by rintro rfl; revert hc; decide
              have q3 : begB ([c] ++ r2) [92, 47] = false := by
                rcases h2 with rfl | ⟨d, r', rfl, hd⟩
                · simp [begB, List.isPrefixOf]
                · rcases hd with rfl | rfl | rfl | rfl | rfl <;> simp [begB, List.isPrefixOf]
              unfold signLen
              rw [if_neg (by rw [show ([c] ++ r2 : List UInt8) = c :: r2 from rfl, beg_first n94]; decide), if_neg (by rw [q3, show ([c] ++ r2 : List UInt8) = c :: r2 from rfl, beg_first n47]; decide)]
              show (if c.toNat = 92 ∨ oneSign c.toNat = true then 1 else 0) = _
              rw [if_pos hc]; rfl
            · rw [if_neg hc] at e; simp at e
    unfold signPiece
    rw [e1, key]
    have hbl : b.length ≠ 0 := by omega
    rw [if_neg hbl, if_neg hbl, take_own, take_own]

/-- A piece that is a token depends on its bytes alone. -/
theorem cut_same {b r1 r2 : List UInt8} (h2 : SepG r2) (hw : (cutF (b ++ r1)).wrong = 0) (hn : (cutF (b ++ r1)).length = b.length) : cutF (b ++ r2) = cutF (b ++ r1) := by
  have hpos := cut_pos hw
  cases b with
  | nil => rw [hn] at hpos; simp at hpos
  | cons c x =>
    rw [List.cons_append] at hw hn ⊢
    rw [List.cons_append]
    have u : ∀ r, cutF (c :: (x ++ r)) = if letN c.toNat then namePiece (c :: (x ++ r)) else if numB (c :: (x ++ r)) then numPiece (c :: (x ++ r)) else if c.toNat = 34 then quotPiece (c :: (x ++ r)) else signPiece (c :: (x ++ r)) := fun r => rfl
    rw [u] at hw hn
    rw [u, u]
    by_cases hl : letN c.toNat = true
    · rw [if_pos hl] at hw hn
      rw [if_pos hl, if_pos hl]
      exact name_same hl h2 hw (by simpa using hn)
    · rw [if_neg hl] at hw hn
      rw [if_neg hl, if_neg hl]
      by_cases hnb : numB (c :: (x ++ r1)) = true
      · rw [if_pos hnb] at hw hn
        obtain ⟨k1, k2⟩ := num_same h2 hw (by simpa using hn)
        have hnb2 : numB (c :: (x ++ r2)) = true := by
          cases x with
          | nil =>
            have hd : digN c.toNat = true := by
              cases hd : digN c.toNat with
              | true => rfl
              | false =>
                exfalso
                cases r1 with
                | nil => simp [numB, hd] at hnb
                | cons y r1' =>
                  simp [numB, hd] at hnb
                  have hy : innN y.toNat = true := by unfold innN; rw [hnb.2]; simp
                  have : 1 + ((y :: r1').takeWhile fun c => innN c.toNat).length = 1 := k2
                  rw [List.takeWhile_cons, hy] at this
                  simp at this
            simp [numB, hd]
          | cons y x' => exact hnb
        rw [if_pos hnb, if_pos hnb2]
        exact k1
      · rw [if_neg hnb] at hw hn
        have hdg : digN c.toNat = false := by
          cases hd : digN c.toNat with
          | false => rfl
          | true => exact absurd (by simp [numB, hd]) hnb
        by_cases hq : c.toNat = 34
        · rw [if_pos hq] at hw hn
          have h45 : c.toNat ≠ 45 := by omega
          have hnb2 : ¬ numB (c :: (x ++ r2)) = true := by simp [numB, hdg, h45]
          rw [if_neg hnb2, if_neg hnb, if_pos hq, if_pos hq]
          exact quot_same hw (by simpa using hn)
        · rw [if_neg hq] at hw hn
          obtain ⟨k1, k2⟩ := sign_same (b := c :: x) (by simp) h2 hw hn
          have hnb2 : ¬ numB (c :: (x ++ r2)) = true := by
            have h45 : c.toNat ≠ 45 := by
              intro h45
              have hc : c = 45 := UInt8.toNat_inj.1 h45
              subst hc
              have : signLen (45 :: (x ++ r1)) = 0 := by
                unfold signLen
                rw [if_neg (by rw [beg_first (by decide)]; decide), if_neg (by rw [beg_first (by decide), beg_first (by decide)]; decide)]
                show (if (45 : UInt8).toNat = 92 ∨ oneSign (45 : UInt8).toNat = true then 1 else 0) = 0
                rw [if_neg (by decide)]
              rw [show (45 :: x ++ r1 : List UInt8) = 45 :: (x ++ r1) from rfl, this] at k2
              simp at k2
            simp [numB, hdg, h45]
          rw [if_neg hnb2, if_neg hnb, if_neg hq, if_neg hq]
          exact k1
theorem stop_same {b r1 r2 : List UInt8} (hb : b ≠ []) (h2 : SepG r2) (h : Stopped (b ++ r1)) : Stopped (b ++ r2) := by
  cases b with
  | nil => exact absurd rfl hb
  | cons c x =>
    rw [List.cons_append] at h ⊢
    refine ⟨h.1, ?_⟩
    have := h.2
    cases x with
    | cons y x' => exact this
    | nil =>
      rcases h2 with rfl | ⟨d, r', rfl, hd⟩
      · rfl
      · rcases hd with rfl | rfl | rfl | rfl | rfl <;> simp [opB]
end Go.Proofs.Ytbelajboalikcaa.Gp

/- Several texts in one: N1, N2. -/
import Derived.Test.YtbelajboalikcaaW2
/- A piece depends on its own bytes alone: plain mathematics. -/
namespace Go.Proofs.Ytbelajboalikcaa
open M
set_option linter.unusedSimpArgs false
set_option linter.unusedVariables false

/-- What stands behind a token that is written: nothing, or a blank. -/
def Sep (r : List UInt8) : Prop := r = [] ∨ ∃ r', r = 32 :: r'
theorem run_sep {r : List UInt8} (h : Sep r) : nameRun r = 0 := by
  rcases h with rfl | ⟨r', rfl⟩
  · rfl
  · rw [nameRun, if_neg]
    cases r' with
    | nil => decide
    | cons y r'' => simp [innN, letN, digN, joinsB]
theorem run_same : ∀ (x r1 r2 : List UInt8), Sep r2 → nameRun (x ++ r1) = x.length → nameRun (x ++ r2) = x.length
  | [], r1, r2, h, _ => by rw [List.nil_append]; exact run_sep h
  | d :: x, r1, r2, h, e => by
    rw [List.cons_append, nameRun] at e
    by_cases hc : (innN d.toNat || joinsB (d :: (x ++ r1))) = true
    · rw [if_pos hc] at e
      have e' : nameRun (x ++ r1) = x.length := by simp at e; omega
      have ih := run_same x r1 r2 h e'
      rw [List.cons_append, nameRun, if_pos]
      · rw [ih, List.length_cons]; omega
      · cases hi : innN d.toNat with
        | true => rfl
        | false =>
          rw [hi, Bool.false_or] at hc
          rw [Bool.false_or]
          cases x with
          | nil =>
            exfalso
            cases r1 with
            | nil => cases hc
            | cons y r1' =>
              simp only [List.nil_append, joinsB, Bool.and_eq_true] at hc
              have hy : innN y.toNat = true := by unfold innN; rw [hc.2]; rfl
              rw [List.nil_append, nameRun, hy] at e'
              simp at e'
          | cons y x' => exact hc
    · rw [if_neg hc] at e; simp at e
theorem tw_same (P : UInt8 → Bool) (hP : P 32 = false) : ∀ (x r1 r2 : List UInt8), Sep r2 → ((x ++ r1).takeWhile P).length = x.length → ((x ++ r2).takeWhile P).length = x.length
  | [], r1, r2, h, _ => by
    rcases h with rfl | ⟨r', rfl⟩
    · rfl
    · simp [List.takeWhile_cons, hP]
  | d :: x, r1, r2, h, e => by
    rw [List.cons_append, List.takeWhile_cons] at e ⊢
    cases hd : P d with
    | true =>
      rw [hd] at e
      simp at e ⊢
      exact tw_same P hP x r1 r2 h e
    | false => rw [hd] at e; simp at e
theorem tw_mid (P : UInt8 → Bool) (d : UInt8) (hd : P d = false) : ∀ (x r1 r2 : List UInt8), ((x ++ d :: r1).takeWhile P).length = x.length → ((x ++ d :: r2).takeWhile P).length = x.length
  | [], r1, r2, _ => by simp [List.takeWhile_cons, hd]
  | y :: x, r1, r2, e => by
    rw [List.cons_append, List.takeWhile_cons] at e ⊢
    cases hy : P y with
    | true =>
      rw [hy] at e
      simp at e ⊢
      exact tw_mid P d hd x r1 r2 e
    | false => rw [hy] at e; simp at e
theorem take_own (b r : List UInt8) : (b ++ r).take b.length = b := by simp

theorem name_same {c : UInt8} {x r1 r2 : List UInt8} (hl : letN c.toNat = true) (h2 : Sep r2) (hw : (namePiece (c :: (x ++ r1))).wrong = 0) (hn : (namePiece (c :: (x ++ r1))).length = x.length + 1) : namePiece (c :: (x ++ r2)) = namePiece (c :: (x ++ r1)) := by
  have e1 : nameLen (c :: (x ++ r1)) = 1 + nameRun (x ++ r1) := by rw [nameLen, if_pos hl]
  have e2 : nameLen (c :: (x ++ r2)) = 1 + nameRun (x ++ r2) := by rw [nameLen, if_pos hl]
  unfold namePiece at hw hn
  by_cases h64 : 64 < nameLen (c :: (x ++ r1))
  · rw [if_pos h64] at hw; cases hw
  · rw [if_neg h64] at hn
    have hr : nameRun (x ++ r1) = x.length := by
      have : nameLen (c :: (x ++ r1)) = x.length + 1 := hn
      omega
    have hr2 := run_same x r1 r2 h2 hr
    have el : nameLen (c :: (x ++ r2)) = nameLen (c :: (x ++ r1)) := by omega
    unfold namePiece
    rw [el, if_neg h64, if_neg h64]
    have e3 : nameLen (c :: (x ++ r1)) = (c :: x).length := by simp; omega
    rw [e3, show c :: (x ++ r2) = (c :: x) ++ r2 from rfl, show c :: (x ++ r1) = (c :: x) ++ r1 from rfl, take_own, take_own]
theorem num_same {c : UInt8} {x r1 r2 : List UInt8} (h2 : Sep r2) (hw : (numPiece (c :: (x ++ r1))).wrong = 0) (hn : (numPiece (c :: (x ++ r1))).length = x.length + 1) : numPiece (c :: (x ++ r2)) = numPiece (c :: (x ++ r1)) ∧ numLen (c :: (x ++ r1)) = x.length + 1 := by
  unfold numPiece at hw hn
  by_cases h0 : (parseO ((c :: (x ++ r1)).take (numLen (c :: (x ++ r1))))).2 = 0
  · rw [if_pos h0] at hn
    have e1 : numLen (c :: (x ++ r1)) = x.length + 1 := hn
    have e1' : ((x ++ r1).takeWhile fun c => innN c.toNat).length = x.length := by
      have : 1 + ((x ++ r1).takeWhile fun c => innN c.toNat).length = x.length + 1 := e1
      omega
    have e2' := tw_same (fun c => innN c.toNat) (by decide) x r1 r2 h2 e1'
    have e2 : numLen (c :: (x ++ r2)) = x.length + 1 := by
      show 1 + ((x ++ r2).takeWhile fun c => innN c.toNat).length = _
      omega
    refine ⟨?_, e1⟩
    have t1 : (c :: (x ++ r1)).take (x.length + 1) = c :: x := by simp
    have t2 : (c :: (x ++ r2)).take (x.length + 1) = c :: x := by simp
    unfold numPiece
    rw [e1, e2, t1, t2]
  · rw [if_neg h0] at hw; exact absurd hw h0
theorem quot_same {c : UInt8} {x r1 r2 : List UInt8} (hw : (quotPiece (c :: (x ++ r1))).wrong = 0) (hn : (quotPiece (c :: (x ++ r1))).length = x.length + 1) : quotPiece (c :: (x ++ r2)) = quotPiece (c :: (x ++ r1)) := by
  unfold quotPiece at hw hn
  by_cases h0 : ∃ d, (c :: (x ++ r1))[quotLen (c :: (x ++ r1))]? = some d ∧ d.toNat = 34
  · rw [if_pos h0] at hn
    have e1 : quotLen (c :: (x ++ r1)) = x.length := by
      have : quotLen (c :: (x ++ r1)) + 1 = x.length + 1 := hn
      omega
    obtain ⟨d, hd, h34⟩ := h0
    have hx : x ≠ [] := by
      rintro rfl
      have : 1 + (([] ++ r1).takeWhile fun c : UInt8 => decide (c.toNat ≠ 34 ∧ c.toNat ≠ 10)).length = 0 := e1
      omega
    obtain ⟨y, z, rfl⟩ : ∃ y z, x = y ++ [z] := ⟨x.dropLast, x.getLast hx, (List.dropLast_concat_getLast hx).symm⟩
    have hz : z = d := by
      rw [e1] at hd
      simp at hd
      exact hd
    subst hz
    have hl : (y ++ [z]).length = y.length + 1 := by simp
    have k1 : ((y ++ z :: r1).takeWhile fun c : UInt8 => decide (c.toNat ≠ 34 ∧ c.toNat ≠ 10)).length = y.length := by
      have : 1 + ((y ++ [z] ++ r1).takeWhile fun c : UInt8 => decide (c.toNat ≠ 34 ∧ c.toNat ≠ 10)).length = (y ++ [z]).length := e1
      rw [hl, List.append_assoc] at this
      simp only [List.singleton_append] at this
      omega
    have k2 := tw_mid (fun c : UInt8 => decide (c.toNat ≠ 34 ∧ c.toNat ≠ 10)) z (by simp [h34]) y r1 r2 k1
    have e2 : quotLen (c :: (y ++ [z] ++ r2)) = (y ++ [z]).length := by
      show 1 + ((y ++ [z] ++ r2).takeWhile fun c : UInt8 => decide (c.toNat ≠ 34 ∧ c.toNat ≠ 10)).length = _
      rw [List.append_assoc, hl]
      simp only [List.singleton_append]
      omega
    have g : ∀ r : List UInt8, (c :: (y ++ [z] ++ r))[(y ++ [z]).length]? = some z := fun r => by simp
    have t : ∀ r : List UInt8, ((c :: (y ++ [z] ++ r)).take (y ++ [z]).length).drop 1 = y := fun r => by simp
    unfold quotPiece
    rw [e1, e2, g r1, g r2, if_pos ⟨z, rfl, h34⟩, if_pos ⟨z, rfl, h34⟩, t r1, t r2]
  · rw [if_neg h0] at hw; cases hw

theorem beg_app {p b r : List UInt8} (h : p.length ≤ b.length) : begB (b ++ r) p = begB b p := by
  unfold begB
  rw [Bool.eq_iff_iff, List.isPrefixOf_iff_prefix, List.isPrefixOf_iff_prefix]
  constructor
  · intro hp; exact List.prefix_of_prefix_length_le hp (List.prefix_append _ _) h
  · intro hp; exact hp.trans (List.prefix_append _ _)
theorem beg_first {c d : UInt8} {l p : List UInt8} (h : c ≠ d) : begB (c :: l) (d :: p) = false := by
  unfold begB
  simp [List.isPrefixOf, Ne.symm h]
theorem beg_eq {b r p : List UInt8} (h : begB (b ++ r) p = true) (hl : p.length = b.length) : b = p := by
  rw [beg_app (by omega)] at h
  exact ((List.isPrefixOf_iff_prefix.1 h).eq_of_length hl).symm
theorem sign_same {b r1 r2 : List UInt8} (hb : b ≠ []) (h2 : Sep r2) (hw : (signPiece (b ++ r1)).wrong = 0) (hn : (signPiece (b ++ r1)).length = b.length) : signPiece (b ++ r2) = signPiece (b ++ r1) ∧ signLen (b ++ r1) = b.length := by
  unfold signPiece at hw hn
  by_cases h0 : signLen (b ++ r1) = 0
  · rw [if_pos h0] at hw; cases hw
  · rw [if_neg h0] at hn
    have e1 : signLen (b ++ r1) = b.length := hn
    refine ⟨?_, e1⟩
    have key : signLen (b ++ r2) = b.length := by
      have e := e1
      unfold signLen at e
      by_cases p1 : begB (b ++ r1) [94, 45, 49] = true
      · rw [if_pos p1] at e
        have := beg_eq p1 (by simpa using e)
        subst this
        unfold signLen
        rw [if_pos (by rw [beg_app (by simp)]; decide)]; rfl
      · rw [if_neg p1] at e
        by_cases p2 : (begB (b ++ r1) [47, 92] || begB (b ++ r1) [92, 47]) = true
        · rw [if_pos p2] at e
          have hb2 : b = [47, 92] ∨ b = [92, 47] := by
            rcases Bool.or_eq_true_iff.1 p2 with h | h
            · exact .inl (beg_eq h (by simpa using e))
            · exact .inr (beg_eq h (by simpa using e))
          unfold signLen
          rcases hb2 with rfl | rfl
          · rw [if_neg (by rw [show ([47, 92] ++ r2 : List UInt8) = 47 :: 92 :: r2 from rfl, beg_first (by decide)]; decide), if_pos (by rw [beg_app (by simp)]; rfl)]; rfl
          · rw [if_neg (by rw [show ([92, 47] ++ r2 : List UInt8) = 92 :: 47 :: r2 from rfl, beg_first (by decide)]; decide), if_pos (by rw [beg_app (p := [92, 47]) (by simp)]; simp [begB, List.isPrefixOf])]; rfl
        · rw [if_neg p2] at e
          cases b with
          | nil => exact absurd rfl hb
          | cons c b' =>
            rw [List.cons_append] at e
            dsimp only at e
            by_cases hc : c.toNat = 92 ∨ oneSign c.toNat = true
            · rw [if_pos hc] at e
              have hb' : b' = [] := by
                cases b' with
                | nil => rfl
                | cons y z => simp at e
              subst hb'
              have n94 : c ≠ 94 := by rintro rfl; revert hc; decide
              have n47 : c ≠ 47 := by rintro rfl; revert hc; decide
              have q3 : begB ([c] ++ r2) [92, 47] = false := by
                rcases h2 with rfl | ⟨r', rfl⟩
                · simp [begB, List.isPrefixOf]
                · simp [begB, List.isPrefixOf]
              unfold signLen
              rw [if_neg (by rw [show ([c] ++ r2 : List UInt8) = c :: r2 from rfl, beg_first n94]; decide), if_neg (by rw [q3, show ([c] ++ r2 : List UInt8) = c :: r2 from rfl, beg_first n47]; decide)]
              show (if c.toNat = 92 ∨ oneSign c.toNat = true then 1 else 0) = _
              rw [if_pos hc]; rfl
            · rw [if_neg hc] at e; simp at e
    unfold signPiece
    rw [e1, key]
    have hbl : b.length ≠ 0 := by omega
    rw [if_neg hbl, if_neg hbl, take_own, take_own]

/-- A piece that is a token depends on its bytes alone. -/
theorem cut_same {b r1 r2 : List UInt8} (h2 : Sep r2) (hw : (cutF (b ++ r1)).wrong = 0) (hn : (cutF (b ++ r1)).length = b.length) : cutF (b ++ r2) = cutF (b ++ r1) := by
  have hpos := cut_pos hw
  cases b with
  | nil => rw [hn] at hpos; simp at hpos
  | cons c x =>
    rw [List.cons_append] at hw hn ⊢
    rw [List.cons_append]
    have u : ∀ r, cutF (c :: (x ++ r)) = if letN c.toNat then namePiece (c :: (x ++ r)) else if numB (c :: (x ++ r)) then numPiece (c :: (x ++ r)) else if c.toNat = 34 then quotPiece (c :: (x ++ r)) else signPiece (c :: (x ++ r)) := fun r => rfl
    rw [u] at hw hn
    rw [u, u]
    by_cases hl : letN c.toNat = true
    · rw [if_pos hl] at hw hn
      rw [if_pos hl, if_pos hl]
      exact name_same hl h2 hw (by simpa using hn)
    · rw [if_neg hl] at hw hn
      rw [if_neg hl, if_neg hl]
      by_cases hnb : numB (c :: (x ++ r1)) = true
      · rw [if_pos hnb] at hw hn
        obtain ⟨k1, k2⟩ := num_same h2 hw (by simpa using hn)
        have hnb2 : numB (c :: (x ++ r2)) = true := by
          cases x with
          | nil =>
            have hd : digN c.toNat = true := by
              cases hd : digN c.toNat with
              | true => rfl
              | false =>
                exfalso
                cases r1 with
                | nil => simp [numB, hd] at hnb
                | cons y r1' =>
                  simp [numB, hd] at hnb
                  have hy : innN y.toNat = true := by unfold innN; rw [hnb.2]; simp
                  have : 1 + ((y :: r1').takeWhile fun c => innN c.toNat).length = 1 := k2
                  rw [List.takeWhile_cons, hy] at this
                  simp at this
            simp [numB, hd]
          | cons y x' => exact hnb
        rw [if_pos hnb, if_pos hnb2]
        exact k1
      · rw [if_neg hnb] at hw hn
        have hdg : digN c.toNat = false := by
          cases hd : digN c.toNat with
          | false => rfl
          | true => exact absurd (by simp [numB, hd]) hnb
        by_cases hq : c.toNat = 34
        · rw [if_pos hq] at hw hn
          have h45 : c.toNat ≠ 45 := by omega
          have hnb2 : ¬ numB (c :: (x ++ r2)) = true := by simp [numB, hdg, h45]
          rw [if_neg hnb2, if_neg hnb, if_pos hq, if_pos hq]
          exact quot_same hw (by simpa using hn)
        · rw [if_neg hq] at hw hn
          obtain ⟨k1, k2⟩ := sign_same (b := c :: x) (by simp) h2 hw hn
          have hnb2 : ¬ numB (c :: (x ++ r2)) = true := by
            have h45 : c.toNat ≠ 45 := by
              intro h45
              have hc : c = 45 := UInt8.toNat_inj.1 h45
              subst hc
              have : signLen (45 :: (x ++ r1)) = 0 := by
                unfold signLen
                rw [if_neg (by rw [beg_first (by decide)]; decide), if_neg (by rw [beg_first (by decide), beg_first (by decide)]; decide)]
                show (if (45 : UInt8).toNat = 92 ∨ oneSign (45 : UInt8).toNat = true then 1 else 0) = 0
                rw [if_neg (by decide)]
              rw [show (45 :: x ++ r1 : List UInt8) = 45 :: (x ++ r1) from rfl, this] at k2
              simp at k2
            simp [numB, hdg, h45]
          rw [if_neg hnb2, if_neg hnb, if_neg hq, if_neg hq]
          exact k1
theorem stop_same {b r1 r2 : List UInt8} (hb : b ≠ []) (h2 : Sep r2) (h : Stopped (b ++ r1)) : Stopped (b ++ r2) := by
  cases b with
  | nil => exact absurd rfl hb
  | cons c x =>
    rw [List.cons_append] at h ⊢
    refine ⟨h.1, ?_⟩
    have := h.2
    cases x with
    | cons y x' => exact this
    | nil =>
      rcases h2 with rfl | ⟨r', rfl⟩
      · rfl
      · simp [opB]
/-- A token's own bytes. -/
theorem own_cut {l : List UInt8} (hw : (cutF l).wrong = 0) : ownF ((cutF l).kind : Int) (cutF l).text = l.take (cutF l).length := by
  cases l with
  | nil => cases hw
  | cons c x =>
    have u : cutF (c :: x) = if letN c.toNat then namePiece (c :: x) else if numB (c :: x) then numPiece (c :: x) else if c.toNat = 34 then quotPiece (c :: x) else signPiece (c :: x) := rfl
    rw [u] at hw ⊢
    split
    · rename_i h
      rw [if_pos h] at hw
      unfold namePiece at hw ⊢
      split
      · rename_i h1; rw [if_pos h1] at hw; cases hw
      · rfl
    · rename_i h
      rw [if_neg h] at hw
      split
      · rename_i h1
        rw [if_pos h1] at hw
        unfold numPiece at hw ⊢
        split
        · rfl
        · rename_i h2; rw [if_neg h2] at hw; exact absurd hw h2
      · rename_i h1
        rw [if_neg h1] at hw
        split
        · rename_i h3
          rw [if_pos h3] at hw
          unfold quotPiece at hw ⊢
          split
          · rename_i h4
            obtain ⟨d, hd, h34⟩ := h4
            have hc : c = 34 := UInt8.toNat_inj.1 h3
            have hd' : d = 34 := UInt8.toNat_inj.1 h34
            subst hc hd'
            have hk : 1 ≤ quotLen (34 :: x) := by unfold quotLen; omega
            show 34 :: (((34 :: x).take (quotLen (34 :: x))).drop 1 ++ [34]) = (34 :: x).take (quotLen (34 :: x) + 1)
            rw [List.take_add_one, hd]
            obtain ⟨k, hk'⟩ : ∃ k, quotLen (34 :: x) = k + 1 := ⟨quotLen (34 :: x) - 1, by omega⟩
            rw [hk']
            simp
          · rename_i h4; rw [if_neg h4] at hw; cases hw
        · rename_i h3
          rw [if_neg h3] at hw
          unfold signPiece at hw ⊢
          split
          · rename_i h4; rw [if_pos h4] at hw; cases hw
          · rfl
end Go.Proofs.Ytbelajboalikcaa
/- Tokens that are written are read as the same: plain mathematics. -/
namespace Go.Proofs.Ytbelajboalikcaa
open M
set_option linter.unusedSimpArgs false
set_option linter.unusedVariables false

/-- A text that is one token. -/
structure Whole (b : List UInt8) (C : Piece) : Prop where
  ne : b ≠ []
  stop : Stopped b
  cut : cutF b = C
  ok : C.wrong = 0
  len : C.length = b.length
theorem Whole.behind {b r : List UInt8} {C : Piece} (h : Whole b C) (hr : Sep r) : cutF (b ++ r) = C ∧ Stopped (b ++ r) := by
  have e : b ++ [] = b := List.append_nil b
  have h1 : (cutF (b ++ [])).wrong = 0 := by rw [e, h.cut]; exact h.ok
  have h2 : (cutF (b ++ [])).length = b.length := by rw [e, h.cut]; exact h.len
  refine ⟨(cut_same hr h1 h2).trans (by rw [e, h.cut]), stop_same (r1 := []) h.ne hr (by rw [e]; exact h.stop)⟩
theorem whole_take {l : List UInt8} {C : Piece} (hs : Stopped l) (hC : cutF l = C) (hw : C.wrong = 0) : Whole (l.take C.length) C ∧ ownF (C.kind : Int) C.text = l.take C.length := by
  have hle := cutF_le l
  have hps := cut_pos (l := l) (by rw [hC]; exact hw)
  rw [hC] at hle hps
  have hlen : (l.take C.length).length = C.length := by rw [List.length_take]; omega
  have e : l.take C.length ++ l.drop C.length = l := List.take_append_drop _ _
  have hne : l.take C.length ≠ [] := by intro h; rw [h] at hlen; simp at hlen; omega
  have h1 : (cutF (l.take C.length ++ l.drop C.length)).wrong = 0 := by rw [e, hC]; exact hw
  have h2 : (cutF (l.take C.length ++ l.drop C.length)).length = (l.take C.length).length := by rw [e, hC, hlen]
  have hc := cut_same (r2 := []) (.inl rfl) h1 h2
  rw [List.append_nil, e, hC] at hc
  have hst := stop_same (r2 := []) hne (.inl rfl) (by rw [e]; exact hs : Stopped (l.take C.length ++ l.drop C.length))
  rw [List.append_nil] at hst
  refine ⟨⟨hne, hst, hc, hw, hlen.symm⟩, ?_⟩
  have := own_cut (l := l) (by rw [hC]; exact hw)
  rwa [hC] at this
theorem Whole.own {b : List UInt8} {C : Piece} (h : Whole b C) : ownF (C.kind : Int) C.text = b := by
  have := own_cut (l := b) (by rw [h.cut]; exact h.ok)
  rw [h.cut, h.len, List.take_of_length_le (Nat.le_refl _)] at this
  exact this

/-- Some texts, each with a blank ahead. -/
def jt (bs : List (List UInt8)) : List UInt8 := bs.flatMap fun b => 32 :: b
theorem jt_sep (bs : List (List UInt8)) : Sep (jt bs) := by
  cases bs with
  | nil => exact .inl rfl
  | cons b bs => exact .inr ⟨b ++ jt bs, rfl⟩
/-- A token stands here, behind a blank or none. -/
theorem go_whole {f : Nat} {t : List UInt8} {p : Nat} {q : Nat × Nat} {b r : List UInt8} {C : Piece} {lead : List UInt8} (hl : lead = [] ∨ lead = [32]) (hd : t.drop p = lead ++ (b ++ r)) (hW : Whole b C) (hr : Sep r) :
    ∃ z u : Nat × Nat, goF (f + 1) t p q = .tok ⟨C.kind, C.text, C.value, z.1, z.2, p + lead.length, p + lead.length + b.length⟩ :: goF f t (p + lead.length + b.length) u ∧ (p = 0 → lead = [] → q = (1, 1) → z = (1, 1)) := by
  obtain ⟨hc, hs⟩ := hW.behind hr
  have hblk : blkF (t.drop p) = (lead.length, true) := by
    rw [hd]
    rcases hl with rfl | rfl
    · exact blkF_stopped hs
    · rw [show ([32] ++ (b ++ r) : List UInt8) = 32 :: (b ++ r) from rfl, blkF_blank (by decide), blkF_stopped hs]; rfl
  have hlen : t.length = p + lead.length + b.length + r.length ∨ t.length ≤ p := by
    have := congrArg List.length hd
    simp at this
    omega
  have hbl : 0 < b.length := List.length_pos_iff.2 hW.ne
  have hlen' : t.length = p + lead.length + b.length + r.length := by
    rcases hlen with h | h
    · exact h
    · exfalso
      have := congrArg List.length hd
      simp at this
      omega
  have hd2 : t.drop (p + lead.length) = b ++ r := by
    rw [← List.drop_drop, hd]; simp
  refine ⟨spotF q ((t.drop p).take lead.length), spotF (spotF q ((t.drop p).take lead.length)) ((t.drop (p + lead.length)).take C.length), ?_, ?_⟩
  · rw [go_tok (n := lead.length) (m := p + lead.length) (by rw [hblk]) (by rw [hblk]) rfl (by omega) rfl (by rw [hd2]; exact hc) rfl hW.ok, hW.len]
  · rintro rfl rfl rfl
    rfl

/-- Tokens' kinds and texts. -/
def key (t : Tok) : Nat × List UInt8 := (t.kind, t.text)
theorem go_join : ∀ (ps : List (List UInt8 × Piece)) (f : Nat) (t : List UInt8) (p : Nat) (q : Nat × Nat), (∀ x ∈ ps, Whole x.1 x.2) → t.drop p = jt (ps.map (·.1)) → ps.length < f → ∃ ts : List Tok, goF f t p q = ts.map Rd.tok ∧ ts.map key = ps.map fun x => (x.2.kind, x.2.text)
  | [], f, t, p, q, _, hd, hf => by
    obtain ⟨g, rfl⟩ : ∃ g, f = g + 1 := ⟨f - 1, by omega⟩
    have hd' : t.drop p = [] := hd
    have hle : t.length ≤ p := by have := congrArg List.length hd'; simp at this; omega
    exact ⟨[], go_end (n := 0) (by rw [hd']; rfl) (by rw [hd']; rfl) (by omega), rfl⟩
  | x :: ps, f, t, p, q, hW, hd, hf => by
    obtain ⟨g, rfl⟩ : ∃ g, f = g + 1 := ⟨f - 1, by omega⟩
    have hx := hW x (List.mem_cons_self ..)
    have hd' : t.drop p = [32] ++ (x.1 ++ jt (ps.map (·.1))) := hd
    obtain ⟨z, u, hg, _⟩ := go_whole (f := g) (q := q) (.inr rfl) hd' hx (jt_sep _)
    have hd2 : t.drop (p + ([32] : List UInt8).length + x.1.length) = jt (ps.map (·.1)) := by
      rw [← List.drop_drop, ← List.drop_drop, hd']; simp
    obtain ⟨ts, h1, h2⟩ := go_join ps g t _ u (fun y hy => hW y (List.mem_cons_of_mem _ hy)) hd2 (by simp at hf; omega)
    exact ⟨_ :: ts, by rw [hg, h1]; rfl, by rw [List.map_cons, h2]; rfl⟩
/-- The text of some tokens. -/
def joinF : List (List UInt8) → List UInt8
  | [] => []
  | b :: bs => b ++ jt bs
theorem jt_len (bs : List (List UInt8)) : bs.length ≤ (jt bs).length := by
  induction bs with
  | nil => exact Nat.le_refl _
  | cons b bs ih => simp only [jt, List.flatMap_cons, List.length_append, List.length_cons] at *; omega
theorem rounds_join (ps : List (List UInt8 × Piece)) (hW : ∀ x ∈ ps, Whole x.1 x.2) (hl : (joinF (ps.map (·.1))).length ≤ 1048576) : ∃ ts : List Tok, rounds (joinF (ps.map (·.1))) = ts.map Rd.tok ∧ ts.map key = ps.map fun x => (x.2.kind, x.2.text) := by
  unfold rounds
  rw [if_neg (by omega)]
  cases ps with
  | nil => exact ⟨[], go_end (n := 0) rfl rfl (by simp [joinF]), rfl⟩
  | cons x ps =>
    have hx := hW x (List.mem_cons_self ..)
    obtain ⟨z, u, hg, _⟩ := go_whole (f := (joinF ((x :: ps).map (·.1))).length) (t := joinF ((x :: ps).map (·.1))) (p := 0) (q := (1, 1)) (b := x.1) (r := jt (ps.map (·.1))) (.inl rfl) rfl hx (jt_sep _)
    have hbl : 0 < x.1.length := List.length_pos_iff.2 hx.ne
    obtain ⟨ts, h1, h2⟩ := go_join ps (joinF ((x :: ps).map (·.1))).length (joinF ((x :: ps).map (·.1))) (0 + ([] : List UInt8).length + x.1.length) u (fun y hy => hW y (List.mem_cons_of_mem _ hy)) (by simp [joinF]) (by
      have := jt_len (ps.map (·.1))
      show ps.length < (x.1 ++ jt (ps.map (·.1))).length
      rw [List.length_append]; simp at this; omega)
    exact ⟨_ :: ts, by rw [hg, h1]; rfl, by rw [List.map_cons, h2]; rfl⟩
/-- One token alone. -/
theorem rounds_one {b : List UInt8} {C : Piece} (h : Whole b C) (hl : b.length ≤ 1048576) : rounds b = [.tok ⟨C.kind, C.text, C.value, 1, 1, 0, b.length⟩] := by
  unfold rounds
  rw [if_neg (by omega)]
  have hbl : 0 < b.length := List.length_pos_iff.2 h.ne
  obtain ⟨z, u, hg, hz⟩ := go_whole (f := b.length) (t := b) (p := 0) (q := (1, 1)) (b := b) (r := []) (lead := []) (.inl rfl) (by simp) h (.inl rfl)
  rw [hz rfl rfl rfl] at hg
  rw [hg]
  have hd : b.drop (0 + ([] : List UInt8).length + b.length) = [] := by simp
  have he : ∀ f, 0 < f → goF f b (0 + ([] : List UInt8).length + b.length) u = [] := fun f hf => by
    obtain ⟨g, rfl⟩ : ∃ g, f = g + 1 := ⟨f - 1, by omega⟩
    exact go_end (n := 0) (by rw [hd]; rfl) (by rw [hd]; rfl) (by simp)
  rw [he b.length hbl]
  simp

/-- What says tells. -/
theorem says_whole {k : Int} {tx : List UInt8} (h : saysF (ownF k tx) k tx = true) : ∃ C, Whole (ownF k tx) C ∧ (C.kind : Int) = k ∧ C.text = tx := by
  have hlen := says_len h
  obtain ⟨o, ho⟩ : ∃ o, ownF k tx = o := ⟨_, rfl⟩
  rw [ho] at h hlen
  unfold saysF at h
  split at h
  · rename_i t r hr
    have hkt := of_decide_eq_true h
    unfold rounds at hr
    rw [if_neg (by omega)] at hr
    -- the first step
    by_cases hcl : (blkF (o.drop 0)).2 = true
    · by_cases hm : o.length ≤ 0 + (blkF (o.drop 0)).1
      · rw [go_end rfl hcl hm] at hr; cases hr
      · obtain ⟨n, hn⟩ : ∃ n, (blkF (o.drop 0)).1 = n := ⟨_, rfl⟩
        obtain ⟨C, hC⟩ : ∃ C, cutF (o.drop n) = C := ⟨_, rfl⟩
        rw [hn] at hm
        by_cases hw : C.wrong = 0
        · rw [go_tok (n := n) (m := n) hn hcl (by omega) (by omega) rfl hC rfl hw] at hr
          have hst := blkF_at hcl
          rw [hn, List.drop_zero] at hst
          obtain ⟨hW, hO⟩ := whole_take hst hC hw
          cases hr
          dsimp only at hkt
          rw [hkt.1, hkt.2, ho] at hO
          have hle := cutF_le (o.drop n)
          have hps := cut_pos (l := o.drop n) (by rw [hC]; exact hw)
          rw [hC] at hle hps
          rw [List.length_drop] at hle
          have hl := congrArg List.length hO
          rw [List.length_take, List.length_drop] at hl
          have hn0 : n = 0 := by omega
          refine ⟨C, ?_, hkt.1, hkt.2⟩
          rw [ho, hO]
          exact hW
        · rw [go_wrong (n := n) (m := n) hn hcl (by omega) (by omega) rfl hC rfl hw] at hr; cases hr
    · rw [go_com rfl (by simpa using hcl) rfl] at hr; cases hr
  · cases h
theorem whole_says {b : List UInt8} {C : Piece} (h : Whole b C) (hl : b.length ≤ 1048576) : saysF (ownF (C.kind : Int) C.text) (C.kind : Int) C.text = true := by
  rw [h.own]
  unfold saysF
  rw [rounds_one h hl]
  simp

/-- What is written. -/
theorem wr_ok (gs : List GT) : ∀ (j : Nat) (out : List UInt8), wrTo gs j = some out → (∀ i g, i < j → gs[i]? = some g → saysF (ownF g.kind g.text.data.toList) g.kind g.text.data.toList = true) ∧ (out.length ≤ 1048576 → out = joinF ((gs.take j).map fun g => ownF g.kind g.text.data.toList))
  | 0, out, h => ⟨fun i g hi => by omega, fun _ => by
    have : some ([] : List UInt8) = some out := h
    cases this
    rfl⟩
  | j + 1, out, h => by
    have h' : (match wrTo gs j, gs[j]? with | some out, some g => stepW j out g | _, _ => none) = some out := h
    split at h'
    · rename_i out0 g h0 hg
      obtain ⟨ih1, ih2⟩ := wr_ok gs j out0 h0
      unfold stepW at h'
      split at h'
      · rename_i hs
        have h2 := Option.some.inj h'
        refine ⟨fun i g' hi hg' => ?_, fun hl => ?_⟩
        · rcases Nat.lt_or_ge i j with hij | hij
          · exact ih1 i g' hij hg'
          · obtain rfl : i = j := by omega
            rw [hg] at hg'; cases hg'; exact hs
        · by_cases hb : 1048576 < out0.length
          · rw [if_pos hb] at h2; rw [h2] at hb; omega
          · rw [if_neg hb] at h2
            have e0 := ih2 (by omega)
            have hlt := (List.getElem?_eq_some_iff.1 hg).1
            have hgj : gs[j] = g := by rw [List.getElem?_eq_getElem hlt] at hg; exact Option.some.inj hg
            rw [List.take_succ_eq_append_getElem hlt, List.map_append, hgj, ← h2, e0]
            cases j with
            | zero => simp [joinF, jt]
            | succ j =>
              rw [if_pos (by omega)]
              have hne : ∃ x xs, gs.take (j + 1) = x :: xs := by
                cases hh : gs.take (j + 1) with
                | nil => have h9 := congrArg List.length hh; rw [List.length_take] at h9; have h8 : min (j + 1) gs.length = 0 := h9; omega
                | cons x xs => exact ⟨x, xs, rfl⟩
              obtain ⟨x, xs, hx⟩ := hne
              rw [hx]
              simp [joinF, jt]
      · cases h'
    · cases h'

/-- Tokens of a text, each in its place. -/
theorem go_places : ∀ (f : Nat) (l : List UInt8) (p : Nat) (q : Nat × Nat) (ts : List Tok), goF f l p q = ts.map Rd.tok →
    (∀ t ∈ ts, p ≤ t.at' ∧ t.at' < t.fin ∧ t.fin ≤ l.length ∧ ∃ C, Whole ((l.drop t.at').take (t.fin - t.at')) C ∧ C.kind = t.kind ∧ C.text = t.text ∧ C.value = t.value) ∧ (ts.map fun t => t.fin - t.at').sum ≤ l.length - p ∧ ts.length ≤ l.length - p
  | 0, l, p, q, ts, h => by
    have : ts = [] := by
      have h' : ([] : List Rd) = ts.map Rd.tok := h
      cases ts with
      | nil => rfl
      | cons a b => simp at h'
    subst this
    exact ⟨fun t ht => (by cases ht), by simp, by simp⟩
  | f + 1, l, p, q, ts, h => by
    obtain ⟨n, hn⟩ : ∃ n, (blkF (l.drop p)).1 = n := ⟨_, rfl⟩
    by_cases hcl : (blkF (l.drop p)).2 = true
    · by_cases hm : l.length ≤ p + n
      · rw [go_end hn hcl hm] at h
        cases ts with
        | nil => exact ⟨fun t ht => (by cases ht), by simp, by simp⟩
        | cons a b => simp at h
      · obtain ⟨C, hC⟩ : ∃ C, cutF (l.drop (p + n)) = C := ⟨_, rfl⟩
        by_cases hw : C.wrong = 0
        · rw [go_tok (n := n) (m := p + n) hn hcl rfl (by omega) rfl hC rfl hw] at h
          cases ts with
          | nil => simp at h
          | cons t ts =>
            simp only [List.map_cons, List.cons.injEq, Rd.tok.injEq] at h
            obtain ⟨rfl, h2⟩ := h
            obtain ⟨i1, i2, i3⟩ := go_places f l _ _ ts h2
            have hst := blkF_at hcl
            rw [hn, List.drop_drop] at hst
            obtain ⟨hW, hO⟩ := whole_take hst hC hw
            have hle := cutF_le (l.drop (p + n))
            have hps := cut_pos (l := l.drop (p + n)) (by rw [hC]; exact hw)
            rw [hC] at hle hps
            rw [List.length_drop] at hle
            refine ⟨?_, ?_, ?_⟩
            · intro t ht
              rcases List.mem_cons.1 ht with rfl | ht
              · refine ⟨by dsimp only; omega, by dsimp only; omega, by dsimp only; omega, C, ?_, rfl, rfl, rfl⟩
                dsimp only
                rw [Nat.add_sub_cancel_left]
                exact hW
              · obtain ⟨j1, j2, j3, j4⟩ := i1 t ht
                exact ⟨by omega, j2, j3, j4⟩
            · simp only [List.map_cons, List.sum_cons]
              omega
            · simp only [List.length_cons]
              omega
        · rw [go_wrong (n := n) (m := p + n) hn hcl rfl (by omega) rfl hC rfl hw] at h
          cases ts with
          | nil => simp at h
          | cons t ts => simp at h
    · rw [go_com hn (by simpa using hcl) rfl] at h
      cases ts with
      | nil => simp at h
      | cons t ts => simp at h
/-- How long what is written is, at most. -/
theorem wr_le (gs : List GT) : ∀ (j : Nat) (out : List UInt8), j ≤ gs.length → wrTo gs j = some out → out.length ≤ ((gs.take j).map fun g => (ownF g.kind g.text.data.toList).length).sum + j
  | 0, out, _, h => by
    have : some ([] : List UInt8) = some out := h
    cases this
    simp
  | j + 1, out, hj, h => by
    have h' : (match wrTo gs j, gs[j]? with | some out, some g => stepW j out g | _, _ => none) = some out := h
    split at h'
    · rename_i out0 g h0 hg
      have ih := wr_le gs j out0 (by omega) h0
      have hlt := (List.getElem?_eq_some_iff.1 hg).1
      have hgj : gs[j] = g := by rw [List.getElem?_eq_getElem hlt] at hg; exact Option.some.inj hg
      rw [List.take_succ_eq_append_getElem hlt, List.map_append, hgj]
      unfold stepW at h'
      split at h'
      · have h2 := Option.some.inj h'
        rw [← h2]
        simp only [List.sum_append, List.map_cons, List.map_nil, List.sum_cons, List.sum_nil]
        split
        · omega
        · rw [List.length_append, List.length_append]
          have : (if 0 < j then [32] else ([] : List UInt8)).length ≤ 1 := by split <;> simp
          omega
      · cases h'
    · cases h'
/-- All of them are tokens: all is written. -/
theorem wr_all (gs : List GT) (hs : ∀ g ∈ gs, saysF (ownF g.kind g.text.data.toList) g.kind g.text.data.toList = true) : ∀ j, j ≤ gs.length → ∃ out, wrTo gs j = some out
  | 0, _ => ⟨[], rfl⟩
  | j + 1, hj => by
    obtain ⟨out, ho⟩ := wr_all gs hs j (by omega)
    have hlt : j < gs.length := by omega
    have hg : gs[j]? = some gs[j] := List.getElem?_eq_getElem hlt
    exact ⟨_, by rw [wrTo_step ho hg, stepW, if_pos (hs _ (List.getElem_mem hlt))]⟩
end Go.Proofs.Ytbelajboalikcaa

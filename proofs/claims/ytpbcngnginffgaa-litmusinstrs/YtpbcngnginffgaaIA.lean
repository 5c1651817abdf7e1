/- Several texts in one: I1, I2, I3. -/
import Derived.Test.YtpbcngnginffgaaK7
/- What a reader of tokens does, in plain mathematics; the tokens of a text with the one that stands for its end. -/
namespace Go.Proofs.Ytpbcngnginffgaa
open Go.RowKit Go.Shelf M
set_option linter.unusedSimpArgs false
set_option linter.unusedVariables false

/-- The tokens of a text with the one that stands for its end, and what is wrong there. -/
structure TT where
  T : List Tok
  bad : Option (Nat × Nat × Nat)
/-- Where a reader stands: the next token's number, and what it found wrong. -/
structure RS where
  k : Nat
  F : Option (Nat × Nat × Nat)
def TT.cur (D : TT) (k : Nat) : Tok := (D.T[k]?).getD noTok
def TT.badAt (D : TT) (k : Nat) : Bool := (D.cur k).kind == 0 && D.bad.isSome
def TT.wr (D : TT) (k : Nat) : Nat × Nat × Nat := if D.badAt k = true then D.bad.getD (0, 0, 0) else ((D.cur k).line, (D.cur k).col, 70)
def wrongR (D : TT) (s : RS) : RS := if s.F.isSome then s else ⟨s.k, some (D.wr s.k)⟩
def takeR (D : TT) (s : RS) : RS := if ((D.cur s.k).kind == 0) = true then s else ⟨s.k + 1, s.F⟩
def seesR (D : TT) (k : Nat) (x : List UInt8) : Bool := ((D.cur k).kind == 4 || (D.cur k).kind == 1) && (D.cur k).text == x
def isB (D : TT) (s : RS) (x : List UInt8) : Bool := s.F.isNone && seesR D s.k x
def isR (D : TT) (s : RS) (x : List UInt8) : RS := if isB D s x = true then takeR D s else s
def mustR (D : TT) (s : RS) (x : List UInt8) : RS := if isB D s x = true then takeR D s else wrongR D s
def nameQ (D : TT) (s : RS) : Bool := s.F.isNone && (D.cur s.k).kind == 1
def nameT (D : TT) (s : RS) : List UInt8 := if nameQ D s = true then (D.cur s.k).text else []
def nameR (D : TT) (s : RS) : RS := if nameQ D s = true then takeR D s else wrongR D s
def nbrQ (D : TT) (s : RS) : Bool := s.F.isNone && (D.cur s.k).kind == 2
def nbrV (D : TT) (s : RS) : Int := if nbrQ D s = true then (D.cur s.k).value else 0
def nbrR (D : TT) (s : RS) : RS := if nbrQ D s = true then takeR D s else wrongR D s
def placeT (D : TT) (s : RS) : List UInt8 := nameT D (mustR D s [91])
def placeR (D : TT) (s : RS) : RS := mustR D (nameR D (mustR D s [91])) [93]
/-- An instruction. -/
structure In where
  op : Nat
  reg : List UInt8
  src : List UInt8
  loc : List UInt8
  imm : Int
def noIn : In := ⟨0, [], [], [], 0⟩
def storeT (D : TT) (s : RS) : In :=
  let s2 := mustR D (placeR D s) [44]
  if isB D s2 [36] = true then ⟨4, [], [], placeT D s, nbrV D (isR D s2 [36])⟩ else ⟨5, [], nameT D s2, placeT D s, 0⟩
def storeR (D : TT) (s : RS) : RS :=
  let s2 := mustR D (placeR D s) [44]
  if isB D s2 [36] = true then nbrR D (isR D s2 [36]) else nameR D s2
def moveT (D : TT) (s : RS) : In :=
  if seesR D s.k [91] = true then storeT D s else
  let s2 := mustR D (nameR D s) [44]
  if isB D s2 [36] = true then ⟨1, nameT D s, [], [], nbrV D (isR D s2 [36])⟩
  else if (s2.F.isNone && seesR D s2.k [91]) = true then ⟨3, nameT D s, [], placeT D s2, 0⟩
  else ⟨2, nameT D s, nameT D s2, [], 0⟩
def moveR (D : TT) (s : RS) : RS :=
  if seesR D s.k [91] = true then storeR D s else
  let s2 := mustR D (nameR D s) [44]
  if isB D s2 [36] = true then nbrR D (isR D s2 [36])
  else if (s2.F.isNone && seesR D s2.k [91]) = true then placeR D s2
  else nameR D s2
def opdL (D : TT) (s : RS) : List UInt8 := placeT D s
def opdN (D : TT) (s : RS) : List UInt8 := nameT D (mustR D (placeR D s) [44])
def opdR (D : TT) (s : RS) : RS := nameR D (mustR D (placeR D s) [44])
def wMOV : List UInt8 := [77, 79, 86]
def wMFENCE : List UInt8 := [77, 70, 69, 78, 67, 69]
def wXCHG : List UInt8 := [88, 67, 72, 71]
def wLOCK : List UInt8 := [76, 79, 67, 75]
def wCMPXCHG : List UInt8 := [67, 77, 80, 88, 67, 72, 71]
def wXADD : List UInt8 := [88, 65, 68, 68]
def lockT (D : TT) (s : RS) : In :=
  if isB D s wCMPXCHG = true then ⟨8, [], opdN D (isR D s wCMPXCHG), opdL D (isR D s wCMPXCHG), 0⟩
  else ⟨9, opdN D (mustR D s wXADD), [], opdL D (mustR D s wXADD), 0⟩
def lockR (D : TT) (s : RS) : RS :=
  if isB D s wCMPXCHG = true then opdR D (isR D s wCMPXCHG) else opdR D (mustR D s wXADD)
def instrT (D : TT) (s : RS) : In :=
  if isB D s wMOV = true then moveT D (isR D s wMOV)
  else if isB D s wMFENCE = true then ⟨6, [], [], [], 0⟩
  else if isB D s wXCHG = true then ⟨7, opdN D (isR D s wXCHG), [], opdL D (isR D s wXCHG), 0⟩
  else if isB D s wLOCK = true then lockT D (isR D s wLOCK)
  else noIn
def instrR (D : TT) (s : RS) : RS :=
  if isB D s wMOV = true then moveR D (isR D s wMOV)
  else if isB D s wMFENCE = true then isR D s wMFENCE
  else if isB D s wXCHG = true then opdR D (isR D s wXCHG)
  else if isB D s wLOCK = true then lockR D (isR D s wLOCK)
  else wrongR D s
/-- What the program's reader comes to: what is wrong behind a token is found as it is gone past. -/
def settle (D : TT) (s : RS) : RS := if s.F.isNone && D.badAt s.k then ⟨s.k, some (D.wr s.k)⟩ else s

theorem sees_kind {D : TT} {k : Nat} {x : List UInt8} (h : seesR D k x = true) : (D.cur k).kind ≠ 0 := by
  unfold seesR at h
  simp only [Bool.and_eq_true, Bool.or_eq_true, beq_iff_eq] at h
  rcases h.1 with h | h <;> omega
theorem bad_sees {D : TT} {k : Nat} {x : List UInt8} (h : D.badAt k = true) : seesR D k x = false := by
  cases hs : seesR D k x with
  | false => rfl
  | true =>
    have := sees_kind hs
    unfold TT.badAt at h
    simp only [Bool.and_eq_true, beq_iff_eq] at h
    exact absurd h.1 this
theorem bad_kind {D : TT} {k : Nat} (h : D.badAt k = true) : (D.cur k).kind = 0 := by
  unfold TT.badAt at h
  simp only [Bool.and_eq_true, beq_iff_eq] at h
  exact h.1
/-- The program's reader gives up with this. -/
def Ups (D : TT) (s : RS) (f : Nat × Nat × Nat) : Prop := (settle D s).F = some f
theorem ups_F {D : TT} {s : RS} {f : Nat × Nat × Nat} (h : s.F = some f) : Ups D s f := by
  unfold Ups settle; rw [h]; exact h
theorem ups_bad {D : TT} {s : RS} (h : s.F = none) (hb : D.badAt s.k = true) : Ups D s (D.wr s.k) := by
  unfold Ups settle; rw [h, hb]; rfl
theorem ups_cases {D : TT} {s : RS} {f : Nat × Nat × Nat} (h : Ups D s f) : s.F = some f ∨ (s.F = none ∧ D.badAt s.k = true ∧ f = D.wr s.k) := by
  unfold Ups settle at h
  split at h
  · rename_i hc
    simp only [Bool.and_eq_true, Option.isNone_iff_eq_none] at hc
    exact .inr ⟨hc.1, hc.2, by simpa using h.symm⟩
  · exact .inl h
theorem wrongR_F {D : TT} {s : RS} {f : Nat × Nat × Nat} (h : s.F = some f) : wrongR D s = s := by unfold wrongR; rw [h]; rfl
theorem wrongR_none {D : TT} {s : RS} (h : s.F = none) : wrongR D s = ⟨s.k, some (D.wr s.k)⟩ := by unfold wrongR; rw [h]; rfl
theorem isB_F {D : TT} {s : RS} {x : List UInt8} {f : Nat × Nat × Nat} (h : s.F = some f) : isB D s x = false := by unfold isB; rw [h]; rfl
theorem ups_isB {D : TT} {s : RS} {x : List UInt8} {f : Nat × Nat × Nat} (h : Ups D s f) : isB D s x = false := by
  rcases ups_cases h with h | ⟨h1, h2, h3⟩
  · exact isB_F h
  · unfold isB; rw [bad_sees h2]; simp
theorem ups_wrong {D : TT} {s : RS} {f : Nat × Nat × Nat} (h : Ups D s f) : Ups D (wrongR D s) f := by
  rcases ups_cases h with h' | ⟨h1, h2, h3⟩
  · rw [wrongR_F h']; exact h
  · rw [wrongR_none h1]; exact ups_F (by rw [h3])
theorem ups_must {D : TT} {s : RS} {x : List UInt8} {f : Nat × Nat × Nat} (h : Ups D s f) : Ups D (mustR D s x) f := by
  unfold mustR; rw [ups_isB h]; exact ups_wrong h
theorem ups_nameQ {D : TT} {s : RS} {f : Nat × Nat × Nat} (h : Ups D s f) : nameQ D s = false := by
  rcases ups_cases h with h | ⟨h1, h2, h3⟩
  · unfold nameQ; rw [h]; rfl
  · unfold nameQ; rw [bad_kind h2]; simp
theorem ups_nbrQ {D : TT} {s : RS} {f : Nat × Nat × Nat} (h : Ups D s f) : nbrQ D s = false := by
  rcases ups_cases h with h | ⟨h1, h2, h3⟩
  · unfold nbrQ; rw [h]; rfl
  · unfold nbrQ; rw [bad_kind h2]; simp
theorem ups_name {D : TT} {s : RS} {f : Nat × Nat × Nat} (h : Ups D s f) : Ups D (nameR D s) f := by
  unfold nameR; rw [ups_nameQ h]; exact ups_wrong h
theorem ups_nbr {D : TT} {s : RS} {f : Nat × Nat × Nat} (h : Ups D s f) : Ups D (nbrR D s) f := by
  unfold nbrR; rw [ups_nbrQ h]; exact ups_wrong h
theorem ups_place {D : TT} {s : RS} {f : Nat × Nat × Nat} (h : Ups D s f) : Ups D (placeR D s) f := ups_must (ups_name (ups_must h))
theorem ups_opd {D : TT} {s : RS} {f : Nat × Nat × Nat} (h : Ups D s f) : Ups D (opdR D s) f := ups_name (ups_must (ups_place h))
theorem ups_sees {D : TT} {s : RS} {x : List UInt8} {f : Nat × Nat × Nat} (h : Ups D s f) : (s.F.isNone && seesR D s.k x) = false := ups_isB h
/-- The rest of a store, behind a state that gives up. -/
theorem ups_store2 {D : TT} {s : RS} {f : Nat × Nat × Nat} (h : Ups D (mustR D (placeR D s) [44]) f) : Ups D (storeR D s) f := by
  unfold storeR; dsimp only; rw [ups_isB h]; exact ups_name h
theorem ups_store {D : TT} {s : RS} {f : Nat × Nat × Nat} (h : Ups D (placeR D s) f) : Ups D (storeR D s) f := ups_store2 (ups_must h)
theorem ups_move2 {D : TT} {s : RS} {f : Nat × Nat × Nat} (hs : seesR D s.k [91] = false) (h : Ups D (mustR D (nameR D s) [44]) f) : Ups D (moveR D s) f := by
  unfold moveR; rw [hs]; dsimp only; rw [ups_isB h, ups_sees h]; exact ups_name h
theorem ups_move1 {D : TT} {s : RS} {f : Nat × Nat × Nat} (hs : seesR D s.k [91] = false) (h : Ups D (nameR D s) f) : Ups D (moveR D s) f := ups_move2 hs (ups_must h)
theorem ups_move {D : TT} {s : RS} {f : Nat × Nat × Nat} (h : Ups D s f) : Ups D (moveR D s) f := by
  cases hs : seesR D s.k [91] with
  | true => unfold moveR; rw [hs]; exact ups_store (ups_place h)
  | false => exact ups_move1 hs (ups_name h)
theorem ups_lock {D : TT} {s : RS} {f : Nat × Nat × Nat} (h : Ups D s f) : Ups D (lockR D s) f := by
  unfold lockR; rw [ups_isB h]; exact ups_opd (ups_must h)
/-- A state from which the program's reader goes on. -/
def Goes (D : TT) (s : RS) : Prop := s.F = none ∧ D.badAt s.k = false
theorem goes_or (D : TT) (s : RS) : Goes D s ∨ ∃ f, Ups D s f := by
  cases hF : s.F with
  | some f => exact .inr ⟨f, ups_F hF⟩
  | none =>
    cases hb : D.badAt s.k with
    | false => exact .inl ⟨hF, hb⟩
    | true => exact .inr ⟨_, ups_bad hF hb⟩
/-- The tokens that a lexer still comes to. -/
inductive Rest (l : List UInt8) (bad : Option (Nat × Nat × Nat)) : LS → List Tok → Prop
  | fin {st : LS} {p : Nat} {t : Tok} (hs : Step l st (.ok p) t) (hk : t.kind = 0) (hb : bad = none) : Rest l bad st [t]
  | bad {st : LS} {x y e : Nat} {t t' : Tok} (hs : Step l st (.bad x y e) t') (hk : t.kind = 0) (hb : bad = some (x, y, e)) : Rest l bad st [t]
  | tok {st : LS} {p : Nat} {t : Tok} {T : List Tok} (hs : Step l st (.ok p) t) (hk : t.kind ≠ 0) (r : Rest l bad (.ok p) T) : Rest l bad st (t :: T)
def badOf : Option Rd → Option (Nat × Nat × Nat)
  | some (.pos x y e) => some (x, y, e)
  | _ => none
def finTok (l : List UInt8) : Option Rd → Tok
  | some (.pos x y _) => ⟨0, [], 0, x, y, l.length, l.length⟩
  | _ => ⟨0, [], 0, (spotF (1, 1) l).1, (spotF (1, 1) l).2, l.length, l.length⟩
/-- What is wrong, if something is, is told by a place. -/
def posOnly : Option Rd → Prop
  | none => True
  | some (.pos _ _ e) => e ≠ 0
  | _ => False
theorem rest_go (l : List UInt8) (hl : l.length ≤ 1048576) : ∀ (f p : Nat), p ≤ l.length → l.length < p + f → ∃ (ts : List Tok) (er : Option Rd), goF f l p (spotF (1, 1) (l.take p)) = ts.map Rd.tok ++ er.toList ∧ posOnly er ∧ Rest l (badOf er) (.ok p) (ts ++ [finTok l er]) ∧ ts.length + p ≤ l.length ∧ (∀ t ∈ ts, t.kind ≠ 0)
  | 0, p, h1, h2 => by omega
  | f + 1, p, h1, h2 => by
    obtain ⟨st', t, hs, hg⟩ := step_ex (l := l) (st := .ok p) ⟨h1, hl⟩
    rcases go_step hs h2 h1 with ⟨k, f', rfl, hpk, hf', hkd, e⟩ | ⟨k, rfl, hkd, e⟩ | ⟨x, y, er, rfl, he, e⟩
    · obtain ⟨ts, er, h3, h4, h5, h6, h7⟩ := rest_go l hl f k hg.1 (by omega)
      have : f' = f := by omega
      subst this
      refine ⟨t :: ts, er, by rw [e, h3]; rfl, h4, .tok hs (by omega) h5, by simp only [List.length_cons]; omega, ?_⟩
      intro u hu
      rcases List.mem_cons.1 hu with rfl | hu
      · omega
      · exact h7 u hu
    · refine ⟨[], none, by rw [e]; rfl, trivial, ?_, by simpa using h1, by simp⟩
      have ht : t = finTok l none := by
        cases hs with
        | fin p n m z1 z2 hn hc hm hz hel =>
          subst hel
          rw [List.take_length] at hz
          unfold finTok
          rw [hz]
        | tok p n m z1 z2 kd tx vl ln k hn hc hm hz hlt hC hk2 =>
          have := cut_pos (l := l.drop m) (by rw [hC])
          rw [hC] at this
          dsimp only at this hkd
          omega
      rw [ht] at hs hkd
      exact .fin hs hkd rfl
    · refine ⟨[], some (.pos x y er), by rw [e]; rfl, he, ?_, by simpa using h1, by simp⟩
      exact .bad hs rfl rfl
theorem rest_text (l : List UInt8) (hl : l.length ≤ 1048576) : ∃ (ts : List Tok) (er : Option Rd), rounds l = ts.map Rd.tok ++ er.toList ∧ posOnly er ∧ Rest l (badOf er) (.ok 0) (ts ++ [finTok l er]) ∧ ts.length ≤ l.length ∧ (∀ t ∈ ts, t.kind ≠ 0) := by
  obtain ⟨ts, er, h1, h2, h3, h4, h5⟩ := rest_go l hl (l.length + 1) 0 (Nat.zero_le _) (by omega)
  refine ⟨ts, er, ?_, h2, h3, by omega, h5⟩
  unfold rounds
  rw [if_neg (by omega), ← h1]
  rfl
end Go.Proofs.Ytpbcngnginffgaa
/- The program's reader in memory: advance, misplaced, must, sees, takes, word. -/
namespace Go.Proofs.Ytpbcngnginffgaa
open Go.RowKit Go.Shelf M
set_option linter.unusedSimpArgs false
set_option linter.unusedVariables false

/-- Two blocks are turned, all others stand; memory may grow. -/
structure Tw (w W : World) (a b : Nat) : Prop where
  os : W.os = w.os
  tape : W.tape = w.tape
  output : W.output = w.output
  size : w.heap.size ≤ W.heap.size
  block : ∀ k, k < w.heap.size → k ≠ a → k ≠ b → W.heap[k]? = w.heap[k]?
section
variable {w W W' : World} {a b c t : Nat} {cs : List Value}
theorem Tw.refl (w : World) (a b : Nat) : Tw w w a b := ⟨rfl, rfl, rfl, Nat.le_refl _, fun _ _ _ _ => rfl⟩
theorem Tw.trans (h : Tw w W a b) (h' : Tw W W' a b) : Tw w W' a b :=
  ⟨h'.os.trans h.os, h'.tape.trans h.tape, h'.output.trans h.output, Nat.le_trans h.size h'.size, fun k hk h1 h2 => (h'.block k (Nat.lt_of_lt_of_le hk h.size) h1 h2).trans (h.block k hk h1 h2)⟩
theorem Tw.of_below (h : Below w.heap.size w W) (a b : Nat) : Tw w W a b := ⟨h.os, h.tape, h.output, h.size, fun k hk _ _ => h.block k hk⟩
theorem Tw.of_turn (h : Turn w W b) (a : Nat) : Tw w W a b := ⟨h.os, h.tape, h.output, h.size, fun k hk _ h2 => h.block k hk h2⟩
theorem Tw.of_upd (h : Upd w W a) (b : Nat) : Tw w W a b := ⟨h.os, h.tape, h.output, by rw [h.size]; exact Nat.le_refl _, fun k _ h1 _ => h.block k h1⟩
theorem Tw.fresh (h : Tw w W a b) (F : Fresh W W' c) : Tw w W' a b := h.trans (Tw.of_below (F.trans (Below.refl _ _) (Nat.le_refl _)) a b)
theorem Tw.grow (h : Tw w W a b) (B : Below W.heap.size W W') : Tw w W' a b := h.trans (Tw.of_below B a b)
theorem Tw.upd (h : Tw w W a b) (hc : w.heap.size ≤ c) (U : Upd W W' c) : Tw w W' a b :=
  ⟨U.os.trans h.os, U.tape.trans h.tape, U.output.trans h.output, by rw [U.size]; exact h.size, fun k hk h1 h2 => (U.block k (by omega)).trans (h.block k hk h1 h2)⟩
theorem IsS.tw (h : IsS w c t cs) (T : Tw w W a b) (h1 : c ≠ a) (h2 : c ≠ b) : IsS W c t cs := (T.block c h.lt h1 h2).trans h
theorem Tw.below {w0 : World} {B : Nat} (h : Below B w0 w) (ha : B ≤ a) (hb : B ≤ b) (hs : B ≤ w.heap.size) (T : Tw w W a b) : Below B w0 W :=
  ⟨T.os.trans h.os, T.tape.trans h.tape, T.output.trans h.output, Nat.le_trans h.size T.size, fun k hk => (T.block k (by omega) (by omega) (by omega)).trans (h.block k hk)⟩
end
def rdrL (bl : Nat) (t : Tok) : List Value := .pointer (some ⟨bl, 0, none⟩) :: tokL t
theorem infoR : (Try.prog.info? 42).map (·.size) = some 8 := by kernel_rfl
/-- The program's reader, at a token. -/
structure PR (D : TT) (s : ByteArray) (W : World) (br bl k : Nat) : Prop where
  tok : IsS W br 42 (rdrL bl (D.cur k))
  lex : ∃ st, PLex W bl s st ∧ st.good s.data.toList ∧ ((D.cur k).kind ≠ 0 → Rest s.data.toList D.bad st (D.T.drop (k + 1)))
  ne : br ≠ bl
section
variable {D : TT} {s : ByteArray} {W W' : World} {br bl k c : Nat}
theorem PR.grown (h : PR D s W br bl k) (B : Below W.heap.size W W') : PR D s W' br bl k := by
  obtain ⟨st, h1, h2⟩ := h.lex
  exact ⟨h.tok.grown B, ⟨st, h1.grown B, h2⟩, h.ne⟩
theorem PR.fresh (h : PR D s W br bl k) (F : Fresh W W' c) : PR D s W' br bl k := h.grown (F.trans (Below.refl _ _) (Nat.le_refl _))
theorem PR.ltl (h : PR D s W br bl k) : bl < W.heap.size := by
  obtain ⟨st, h1, h2⟩ := h.lex
  exact h1.lt
theorem PR.upd (h : PR D s W br bl k) (U : Upd W W' c) (h1 : br ≠ c) (h2 : bl ≠ c) : PR D s W' br bl k := by
  obtain ⟨st, h3, h4⟩ := h.lex
  exact ⟨h.tok.upd U h1, ⟨st, h3.upd U h2, h4⟩, h.ne⟩
end
/-- What the reader throws. -/
def Thr (w : World) (f : Nat × Nat × Nat) (en : Ending) (w' : World) : Prop :=
  ∃ bp, en = .panicked [{ v := .iface 69 (.agg #[.iface 60 (.pointer (some ⟨bp, 0, none⟩))]), recovered := false }] ∧ w.heap.size ≤ bp ∧ IsS w' bp 62 (faultL f.1 f.2.1 f.2.2)
theorem cur_next {D : TT} {k : Nat} {t : Tok} {T : List Tok} (h : D.T.drop (k + 1) = t :: T) : D.cur (k + 1) = t ∧ D.T.drop (k + 1 + 1) = T := by
  constructor
  · unfold TT.cur
    have := congrArg (fun x => x[0]?) h
    simp only [List.getElem?_drop, Nat.add_zero] at this
    rw [this]
    rfl
  · have := congrArg (List.drop 1) h
    rw [List.drop_drop] at this
    exact this

set_option maxRecDepth 100000 in
set_option maxHeartbeats 1000000 in
theorem advance_ok (s : ByteArray) (hsz : s.size < 4611686018427387904) (br bl : Nat) (t0 t : Tok) (st : LS) (p : Nat) (hg : st.good s.data.toList) (hst : Step s.data.toList st (.ok p) t) (w : World) (hR : IsS w br 42 (rdrL bl t0)) (hL : PLex w bl s st) (hne : br ≠ bl) :
    Calls Try.prog 19 #[.pointer (some ⟨br, 0, none⟩)] w fun en w' => en = .returned (.tuple #[]) ∧ IsS w' br 42 (rdrL bl t) ∧ PLex w' bl s (.ok p) ∧ Tw w w' br bl := by
  have cN := pnext_any s hsz bl st (.ok p) t hg hst w hL
  have c0 : w.cell? ⟨br, 0, none⟩ = some (.pointer (some ⟨bl, 0, none⟩)) := hR.cell 0
  have hbr := hR.lt
  have hbl := hL.lt
  obtain ⟨kd, tx, vl, ln, cl, pt, fn⟩ := t
  go_enter Try.func19, Try.ntmps19
  go_wp2_with (first
    | (go_at_call 33; refine cN.mono ?_; rintro en W1 ⟨⟨ev, rfl, E1, _⟩, L1, T1⟩; have E1' : ev = .nilIface := E1; subst E1'; have R1 := hR.turn T1 hne; have V1 := Tw.of_turn T1 br; clear cN T1 E1)
    | (refine wpList_allocS rfl 39 rfl (tokL noTok) Try.zeroValue39 ?_; intro W2 b2 F2 N2; have R2 := R1.fresh F2; have L2 := L1.grown (F2.trans (Below.refl _ _) (Nat.le_refl _)); have V2 := V1.fresh F2; have h2 : w.heap.size ≤ b2 := Nat.le_trans V1.size (Nat.le_of_eq F2.at'.symm); clear F2 R1 L1)
    | (refine wpList_storeS rfl 39 _ _ rfl rfl (tokL ⟨kd, tx, vl, ln, cl, pt, fn⟩) rfl N2 (by simp [tokL, noTok]) info38 (tok_one _) ?_; intro W3 U3 M3x; have M3 : IsS W3 b2 39 (tokL ⟨kd, tx, vl, ln, cl, pt, fn⟩) := M3x; have R3 := R2.upd U3 (by omega); have L3 := L2.upd U3 (by omega); have V3 := V2.upd h2 U3; clear U3 M3x N2 R2 L2)
    | (refine wpList_loadP rfl 39 _ rfl rfl M3 7 (tokL ⟨kd, tx, vl, ln, cl, pt, fn⟩) rfl _ Try.underlying39 rfl info38 ?_)
    | (refine wpList_storeS rfl 39 _ _ rfl rfl (tokL ⟨kd, tx, vl, ln, cl, pt, fn⟩) rfl R3 (by simp [tokL, rdrL]) info38 (tok_one _) ?_; intro W4 U4 R4; have L4 := L3.upd U4 (Ne.symm hne); have V4 := V3.trans (Tw.of_upd U4 bl)))
  exact ⟨rfl, .tuple #[], (by simp [results, Try.results19, go_sem]), rfl, R4, L4, V4⟩
set_option maxRecDepth 100000 in
set_option maxHeartbeats 1000000 in
theorem advance_err (s : ByteArray) (hsz : s.size < 4611686018427387904) (br bl : Nat) (t0 t : Tok) (st st' : LS) (r : Rd) (hr : st'.rd = some r) (hg : st.good s.data.toList) (hst : Step s.data.toList st st' t) (w : World) (hR : IsS w br 42 (rdrL bl t0)) (hL : PLex w bl s st) (hne : br ≠ bl) :
    Calls Try.prog 19 #[.pointer (some ⟨br, 0, none⟩)] w fun en w' => (∃ ev, en = .panicked [{ v := .iface 69 (.agg #[ev]), recovered := false }] ∧ ErrV r ev w' ∧ ErrO ev (fun k => w.heap.size ≤ k)) ∧ Tw w w' br bl := by
  have cN := pnext_any s hsz bl st st' t hg hst w hL
  rw [hr] at cN
  have c0 : w.cell? ⟨br, 0, none⟩ = some (.pointer (some ⟨bl, 0, none⟩)) := hR.cell 0
  have hbr := hR.lt
  have hbl := hL.lt
  obtain ⟨kd, tx, vl, ln, cl, pt, fn⟩ := t
  go_enter Try.func19, Try.ntmps19
  go_wp2_with (first
    | (go_at_call 33; refine cN.mono ?_; rintro en W1 ⟨⟨ev, rfl, E1, O1⟩, L1, T1⟩; have E2 : ErrV r ev W1 := E1; obtain ⟨et, eu, rfl, ho⟩ := errV_some E2; have V1 := Tw.of_turn T1 br; clear cN E1)
    | (refine wpList_allocS rfl 39 rfl (tokL noTok) Try.zeroValue39 ?_; intro W2 b2 F2 N2; have V2 := V1.fresh F2; have h2 : w.heap.size ≤ b2 := Nat.le_trans V1.size (Nat.le_of_eq F2.at'.symm); have h21 : b2 = W1.heap.size := F2.at'; have B2 : Below W1.heap.size W1 W2 := F2.trans (Below.refl _ _) (Nat.le_refl _); clear F2)
    | (refine wpList_storeS rfl 39 _ _ rfl rfl (tokL ⟨kd, tx, vl, ln, cl, pt, fn⟩) rfl N2 (by simp [tokL, noTok]) info38 (tok_one _) ?_; intro W3 U3 M3x; have V3 := V2.upd h2 U3; have B3 : Below W1.heap.size W1 W3 := U3.trans B2 (by omega); clear U3 M3x N2))
  refine ⟨rfl, ⟨_, rfl, ?_, O1⟩, V3⟩
  exact errV_keep (O := fun _ => True) E2 (by cases eu <;> first | trivial | skip; rename_i p; cases p <;> trivial) (Keep.of_below B3)
set_option maxRecDepth 100000 in
set_option maxHeartbeats 1000000 in
theorem misplaced_any (t : Tok) (w : World) : Calls Try.prog 24 #[.agg (tokL t).toArray] w fun en w' => ∃ bp, en = .returned (.agg #[.iface 60 (.pointer (some ⟨bp, 0, none⟩))]) ∧ w.heap.size ≤ bp ∧ IsS w' bp 62 (faultL t.line t.col 70) ∧ Below w.heap.size w w' := by
  obtain ⟨kd, tx, vl, ln, cl, pt, fn⟩ := t
  go_enter Try.func24, Try.ntmps24
  go_wp2_with (first
    | (refine wpList_boxS rfl 39 _ rfl (tokL ⟨kd, tx, vl, ln, cl, pt, fn⟩) rfl ?_; intro W1 b1 F1 N1; have B1 := F1.trans (Below.refl _ w) (Nat.le_refl _); have h1 : w.heap.size ≤ b1 := Nat.le_of_eq F1.at'.symm; clear F1)
    | (refine wpList_allocS rfl 69 rfl [.nilIface] Try.zeroValue69 ?_; intro W2 b2 F2 N2; have B2 := F2.trans B1 B1.size; have M1 := N1.fresh F2; have h2 : w.heap.size ≤ b2 := Nat.le_trans B1.size (Nat.le_of_eq F2.at'.symm); have c3 : W2.cell? ⟨b1, 3, none⟩ = some (.int .i64 (ln : Int)) := M1.cell 3; have c4 : W2.cell? ⟨b1, 4, none⟩ = some (.int .i64 (cl : Int)) := M1.cell 4; clear F2 N1)
    | (refine wpList_boxS rfl 62 _ rfl (faultL ln cl 70) rfl ?_; intro W3 b3 F3 N3; have B3 := F3.trans B2 B2.size; have M2 := N2.fresh F3; have h3 : w.heap.size ≤ b3 := Nat.le_trans B2.size (Nat.le_of_eq F3.at'.symm); have h23 : b3 ≠ b2 := (by have := N2.lt; have := F3.at'; omega); clear F3 N2)
    | (refine wpList_storeS rfl 69 _ _ rfl rfl [.iface 60 (.pointer (some ⟨b3, 0, none⟩))] rfl M2 (by simp) (by kernel_rfl) (by intro v hv; simp at hv; subst hv; rfl) ?_; intro W4 U4 N4x; have N4 : IsS W4 b2 69 [.iface 60 (.pointer (some ⟨b3, 0, none⟩))] := N4x; have M3 := N3.upd U4 h23; have B4 := U4.trans B3 h2))
  exact ret_S (cs := [.iface 60 (.pointer (some ⟨b3, 0, none⟩))]) rfl rfl rfl N4 _ Try.underlying69 rfl (by kernel_rfl) ⟨b3, rfl, h3, M3, B4⟩
set_option maxRecDepth 100000 in
set_option maxHeartbeats 1000000 in
theorem must_true (br : Nat) (w : World) : Calls Try.prog 10 #[.pointer (some ⟨br, 0, none⟩), .bool true] w fun en w' => en = .returned (.tuple #[]) ∧ w' = w := by
  go_enter Try.func10, Try.ntmps10
  go_wp2_with fail
  exact ⟨rfl, .tuple #[], (by simp [results, Try.results10, go_sem]), rfl, rfl⟩
set_option maxRecDepth 100000 in
set_option maxHeartbeats 1000000 in
theorem must_false (br bl : Nat) (t : Tok) (w : World) (hR : IsS w br 42 (rdrL bl t)) : Calls Try.prog 10 #[.pointer (some ⟨br, 0, none⟩), .bool false] w fun en w' => Thr w (t.line, t.col, 70) en w' ∧ Below w.heap.size w w' := by
  have cM := misplaced_any t w
  go_enter Try.func10, Try.ntmps10
  go_wp2_with (first
    | (refine wpList_loadP rfl 39 _ rfl rfl hR 7 (tokL t) rfl _ Try.underlying39 rfl info38 ?_)
    | (go_at_call 24; refine cM.mono ?_; rintro en W1 ⟨bp, rfl, h1, N1, B1⟩; clear cM))
  exact ⟨rfl, ⟨bp, rfl, h1, N1⟩, B1⟩
set_option maxRecDepth 100000 in
set_option maxHeartbeats 1000000 in
theorem sees_any (br bl : Nat) (t : Tok) (x : ByteArray) (w : World) (hR : IsS w br 42 (rdrL bl t)) : Calls Try.prog 34 #[.pointer (some ⟨br, 0, none⟩), .string x] w fun en w' => en = .returned (.bool ((t.kind == 4 || t.kind == 1) && t.text == x.data.toList)) ∧ w' = w := by
  obtain ⟨kd, tx, vl, ln, cl, pt, fn⟩ := t
  have c1 : w.cell? ⟨br, 1, none⟩ = some (.int .i64 (kd : Int)) := hR.cell 1
  have c2 : w.cell? ⟨br, 2, none⟩ = some (.string ⟨tx.toArray⟩) := hR.cell 2
  have e1 : (kd == 1) = ((kd : Int) == 1) := by rw [Bool.eq_iff_iff]; simp; omega
  have e4 : (kd == 4) = ((kd : Int) == 4) := by rw [Bool.eq_iff_iff]; simp; omega
  have et : (tx == x.data.toList) = ((⟨tx.toArray⟩ : ByteArray).toList == x.toList) := by rw [toL, toL]
  dsimp only
  rw [e1, e4, et]
  clear e1 e4 et
  cases h1 : ((kd : Int) == 1) <;> cases h4 : ((kd : Int) == 4)
  all_goals go_enter Try.func34, Try.ntmps34
  all_goals go_wp2_with fail
  all_goals go_ret
  all_goals exact ⟨ret_bool (by simp), rfl⟩
end Go.Proofs.Ytpbcngnginffgaa
/- The program's reader by the plain reader's steps: advance, takes, word, name, number. -/
namespace Go.Proofs.Ytpbcngnginffgaa
open Go.RowKit Go.Shelf M
set_option linter.unusedSimpArgs false
set_option linter.unusedVariables false

theorem ups_goes {D : TT} {σ : RS} {f : Nat × Nat × Nat} (h : Ups D σ f) (g : Goes D σ) : False := by
  rcases ups_cases h with h | ⟨_, h, _⟩
  · rw [g.1] at h; cases h
  · rw [g.2] at h; cases h
theorem ups_one {D : TT} {σ : RS} {f f' : Nat × Nat × Nat} (h : Ups D σ f) (h' : Ups D σ f') : f' = f := by
  unfold Ups at h h'; rw [h] at h'; cases h'; rfl
theorem goes_eq {D : TT} {σ : RS} (g : Goes D σ) : σ = ⟨σ.k, none⟩ := by cases σ; have := g.1; dsimp only at this; rw [this]
/-- What an operation of the reader comes to. -/
structure OutP (D : TT) (s : ByteArray) (w : World) (br bl : Nat) (σ : RS) (v : Value) (en : Ending) (w' : World) : Prop where
  goes : Goes D σ → en = .returned v ∧ PR D s w' br bl σ.k
  ups : ∀ f, Ups D σ f → Thr w f en w'
  tw : Tw w w' br bl
section
variable {D : TT} {s : ByteArray} {w w1 w' : World} {br bl : Nat} {σ : RS} {v : Value} {en : Ending} {f : Nat × Nat × Nat}
theorem Thr.grow (h : Thr w1 f en w') (hs : w.heap.size ≤ w1.heap.size) : Thr w f en w' := by
  obtain ⟨bp, h1, h2, h3⟩ := h
  exact ⟨bp, h1, Nat.le_trans hs h2, h3⟩
theorem OutP.thrown (u : Ups D σ f) (h : Thr w f en w') (T : Tw w w' br bl) : OutP D s w br bl σ v en w' :=
  ⟨fun g => (ups_goes u g).elim, fun f' u' => by rw [ups_one u u']; exact h, T⟩
theorem OutP.ret (g : Goes D σ) (h : PR D s w' br bl σ.k) (T : Tw w w' br bl) : OutP D s w br bl σ v (.returned v) w' :=
  ⟨fun _ => ⟨rfl, h⟩, fun f' u' => (ups_goes u' g).elim, T⟩
end
theorem wr_ok {D : TT} {k : Nat} (h : D.badAt k = false) : D.wr k = ((D.cur k).line, (D.cur k).col, 70) := by unfold TT.wr; rw [h]; rfl

section
variable {D : TT} {s : ByteArray} {br bl : Nat}
theorem advance_any (hsz : s.size < 4611686018427387904) (k : Nat) (hk : (D.cur k).kind ≠ 0) (w : World) (hP : PR D s w br bl k) :
    Calls Try.prog 19 #[.pointer (some ⟨br, 0, none⟩)] w fun en w' => OutP D s w br bl ⟨k + 1, none⟩ (.tuple #[]) en w' := by
  obtain ⟨st, hL, hg, hr⟩ := hP.lex
  have hR := hr hk
  generalize hd : D.T.drop (k + 1) = T at hR
  cases hR with
  | fin hs h0 hb =>
    obtain ⟨e1, e2⟩ := cur_next hd
    refine (advance_ok s hsz br bl _ _ st _ hg hs w hP.tok hL hP.ne).mono ?_
    rintro en w' ⟨rfl, R, L, T⟩
    refine OutP.ret ⟨rfl, ?_⟩ ⟨?_, ⟨_, L, step_good hg hs, fun h => absurd (by rw [e1]; exact h0) h⟩, hP.ne⟩ T
    · unfold TT.badAt; rw [hb]; simp
    · show IsS w' br _ (rdrL bl (D.cur (k + 1))); rw [e1]; exact R
  | bad hs h0 hb =>
    rename_i x y e t t'
    obtain ⟨e1, e2⟩ := cur_next hd
    refine (advance_err s hsz br bl _ _ st _ _ rfl hg hs w hP.tok hL hP.ne).mono ?_
    rintro en w' ⟨⟨ev, rfl, E, O⟩, T⟩
    obtain ⟨g, rfl, hg'⟩ := E
    have hbad : D.badAt (k + 1) = true := by unfold TT.badAt; rw [hb, e1, h0]; rfl
    have hwr : D.wr (k + 1) = (x, y, e) := by unfold TT.wr; rw [hbad, hb]; rfl
    refine OutP.thrown (f := D.wr (k + 1)) (ups_bad rfl hbad) ?_ T
    rw [hwr]
    exact ⟨g, rfl, O, hg'⟩
  | tok hs h0 hr' =>
    obtain ⟨e1, e2⟩ := cur_next hd
    refine (advance_ok s hsz br bl _ _ st _ hg hs w hP.tok hL hP.ne).mono ?_
    rintro en w' ⟨rfl, R, L, T⟩
    refine OutP.ret ⟨rfl, ?_⟩ ⟨?_, ⟨_, L, step_good hg hs, fun h => by rw [e2]; exact hr'⟩, hP.ne⟩ T
    · unfold TT.badAt; rw [e1]; simp [h0]
    · show IsS w' br _ (rdrL bl (D.cur (k + 1))); rw [e1]; exact R
theorem sees_is {σ : RS} (g : Goes D σ) (x : List UInt8) : isB D σ x = seesR D σ.k x := by unfold isB; rw [g.1]; rfl
theorem take_is {σ : RS} (g : Goes D σ) (h : (D.cur σ.k).kind ≠ 0) : takeR D σ = ⟨σ.k + 1, none⟩ := by
  unfold takeR; rw [if_neg (by simpa using h), g.1]
theorem isR_yes {σ : RS} (g : Goes D σ) {x : List UInt8} (h : isB D σ x = true) : isR D σ x = ⟨σ.k + 1, none⟩ := by
  unfold isR; rw [if_pos h, take_is g (sees_kind (by rw [← sees_is g]; exact h))]
theorem psees_any (σ : RS) (g : Goes D σ) (x : ByteArray) (w : World) (hP : PR D s w br bl σ.k) :
    Calls Try.prog 34 #[.pointer (some ⟨br, 0, none⟩), .string x] w fun en w' => en = .returned (.bool (seesR D σ.k x.data.toList)) ∧ w' = w := sees_any br bl _ x w hP.tok
set_option maxRecDepth 100000 in
set_option maxHeartbeats 1000000 in
theorem takes_no (σ : RS) (g : Goes D σ) (x : ByteArray) (h : isB D σ x.data.toList = false) (w : World) (hP : PR D s w br bl σ.k) :
    Calls Try.prog 20 #[.pointer (some ⟨br, 0, none⟩), .string x] w fun en w' => en = .returned (.bool false) ∧ w' = w := by
  have cS := psees_any σ g x w hP
  rw [← sees_is g, h] at cS
  go_enter Try.func20, Try.ntmps20
  go_wp2_with (first
    | (go_at_call 34; refine cS.mono ?_; rintro e w' ⟨rfl, hw'⟩; replace hw' := hw'.symm; subst hw'; clear cS))
  go_ret
  exact ⟨rfl, rfl⟩
set_option maxRecDepth 100000 in
set_option maxHeartbeats 1000000 in
theorem takes_yes (hsz : s.size < 4611686018427387904) (σ : RS) (g : Goes D σ) (x : ByteArray) (h : isB D σ x.data.toList = true) (w : World) (hP : PR D s w br bl σ.k) :
    Calls Try.prog 20 #[.pointer (some ⟨br, 0, none⟩), .string x] w fun en w' => OutP D s w br bl (isR D σ x.data.toList) (.bool true) en w' := by
  have cS := psees_any σ g x w hP
  have hk := sees_kind (by rw [← sees_is g]; exact h)
  have cA := advance_any hsz σ.k hk w hP
  rw [isR_yes g h]
  rw [← sees_is g, h] at cS
  clear h
  rcases goes_or D ⟨σ.k + 1, none⟩ with g1 | ⟨f, u1⟩
  · go_enter Try.func20, Try.ntmps20
    go_wp2_with (first
      | (go_at_call 34; refine cS.mono ?_; rintro e w' ⟨rfl, hw'⟩; replace hw' := hw'.symm; subst hw'; clear cS)
      | (go_at_call 19; refine cA.mono ?_; rintro en W1 O1; obtain ⟨rfl, P1⟩ := O1.goes g1; have T1 := O1.tw; clear O1 cA))
    go_ret
    exact OutP.ret g1 P1 T1
  · go_enter Try.func20, Try.ntmps20
    go_wp2_with (first
      | (go_at_call 34; refine cS.mono ?_; rintro e w' ⟨rfl, hw'⟩; replace hw' := hw'.symm; subst hw'; clear cS)
      | (go_at_call 19; refine cA.mono ?_; rintro en W1 O1; have T1 := O1.tw; obtain ⟨bp, rfl, hb, hI⟩ := O1.ups f u1; clear O1 cA))
    exact ⟨rfl, OutP.thrown u1 ⟨bp, rfl, hb, hI⟩ T1⟩
set_option maxRecDepth 100000 in
set_option maxHeartbeats 1000000 in
theorem word_any (hsz : s.size < 4611686018427387904) (σ : RS) (g : Goes D σ) (x : ByteArray) (w : World) (hP : PR D s w br bl σ.k) :
    Calls Try.prog 37 #[.pointer (some ⟨br, 0, none⟩), .string x] w fun en w' => OutP D s w br bl (mustR D σ x.data.toList) (.tuple #[]) en w' := by
  cases h : isB D σ x.data.toList with
  | false =>
    have cT := takes_no σ g x h w hP
    have cM := must_false br bl _ w hP.tok
    have e : mustR D σ x.data.toList = ⟨σ.k, some (D.wr σ.k)⟩ := by unfold mustR; rw [if_neg (by rw [h]; simp), wrongR_none g.1]
    rw [e]
    have u : Ups D ⟨σ.k, some (D.wr σ.k)⟩ (D.wr σ.k) := ups_F rfl
    rw [← wr_ok g.2] at cM
    clear h e
    go_enter Try.func37, Try.ntmps37
    go_wp2_with (first
      | (go_at_call 20; refine cT.mono ?_; rintro e w' ⟨rfl, hw'⟩; replace hw' := hw'.symm; subst hw'; clear cT)
      | (go_at_call 10; refine cM.mono ?_; rintro en W1 ⟨⟨bp, rfl, hb, hI⟩, B1⟩; clear cM))
    exact ⟨rfl, OutP.thrown u ⟨bp, rfl, hb, hI⟩ (Tw.of_below B1 _ _)⟩
  | true =>
    have cT := takes_yes hsz σ g x h w hP
    have e : mustR D σ x.data.toList = isR D σ x.data.toList := by unfold mustR isR; rw [if_pos h, if_pos h]
    rw [e]
    generalize isR D σ x.data.toList = σ1 at *
    clear h e
    rcases goes_or D σ1 with g1 | ⟨f, u1⟩
    · go_enter Try.func37, Try.ntmps37
      go_wp2_with (first
        | (go_at_call 20; refine cT.mono ?_; rintro en W1 O1; obtain ⟨rfl, P1⟩ := O1.goes g1; have T1 := O1.tw; clear O1 cT)
        | (go_at_call 10; refine (must_true br _).mono ?_; rintro e w' ⟨rfl, hw'⟩; replace hw' := hw'.symm; subst hw'))
      exact ⟨rfl, .tuple #[], (by simp [results, Try.results37, go_sem]), OutP.ret g1 P1 T1⟩
    · go_enter Try.func37, Try.ntmps37
      go_wp2_with (first
        | (go_at_call 20; refine cT.mono ?_; rintro en W1 O1; have T1 := O1.tw; obtain ⟨bp, rfl, hb, hI⟩ := O1.ups f u1; clear O1 cT))
      exact ⟨rfl, OutP.thrown u1 ⟨bp, rfl, hb, hI⟩ T1⟩
set_option maxRecDepth 100000 in
set_option maxHeartbeats 1000000 in
theorem rdName_any (hsz : s.size < 4611686018427387904) (σ : RS) (g : Goes D σ) (w : World) (hP : PR D s w br bl σ.k) :
    Calls Try.prog 36 #[.pointer (some ⟨br, 0, none⟩)] w fun en w' => OutP D s w br bl (nameR D σ) (.string ⟨(nameT D σ).toArray⟩) en w' := by
  have hb1 := hP.tok.lt
  have hb2 := hP.ltl
  cases h : nameQ D σ with
  | false =>
    have e : nameR D σ = ⟨σ.k, some (D.wr σ.k)⟩ := by unfold nameR; rw [if_neg (by rw [h]; simp), wrongR_none g.1]
    rw [e]
    have u : Ups D ⟨σ.k, some (D.wr σ.k)⟩ (D.wr σ.k) := ups_F rfl
    have hk : (((D.cur σ.k).kind : Int) == 1) = false := (by unfold nameQ at h; rw [g.1] at h; simp at h; simp; omega)
    have cM := fun W (hR : IsS W br _ _) => must_false br bl (D.cur σ.k) W hR
    rw [← wr_ok g.2] at cM
    have hR := hP.tok
    clear h e
    generalize D.wr σ.k = f at *
    generalize D.cur σ.k = t at *
    obtain ⟨kd, tx, vl, ln, cl, pt, fn⟩ := t
    dsimp only at hk
    go_enter Try.func36, Try.ntmps36
    go_wp2_with (first
      | (refine wpList_loadP rfl 39 _ rfl rfl hR 7 (tokL ⟨kd, tx, vl, ln, cl, pt, fn⟩) rfl _ Try.underlying39 rfl info38 ?_)
      | (refine wpList_allocS rfl 39 rfl (tokL noTok) Try.zeroValue39 ?_; intro W2 b2 F2 N2; have R2 := hR.fresh F2; have B2 := F2.trans (Below.refl _ w) (Nat.le_refl _); have h2 : w.heap.size ≤ b2 := Nat.le_of_eq F2.at'.symm; clear F2 hR)
      | (refine wpList_storeS rfl 39 _ _ rfl rfl (tokL ⟨kd, tx, vl, ln, cl, pt, fn⟩) rfl N2 (by simp [tokL, noTok]) info38 (tok_one _) ?_; intro W3 U3 M3x; have M3 : IsS W3 b2 39 (tokL ⟨kd, tx, vl, ln, cl, pt, fn⟩) := M3x; have R3 := R2.upd U3 (by omega); have B3 := U3.trans B2 h2; have m0 : W3.cell? ⟨b2, 0, none⟩ = some (.int .i64 (kd : Int)) := M3.cell 0; clear U3 M3x N2 R2)
      | (go_at_call 10; refine (cM _ R3).mono ?_; rintro en W4 ⟨⟨bp, rfl, hb, hI⟩, B4⟩; clear cM))
    exact ⟨rfl, OutP.thrown u ⟨bp, rfl, Nat.le_trans B3.size hb, hI⟩ (Tw.of_below (Below.then B3 B4) _ _)⟩
  | true =>
    have hk1 : (D.cur σ.k).kind = 1 := (by unfold nameQ at h; rw [g.1] at h; simpa using h)
    have e : nameR D σ = ⟨σ.k + 1, none⟩ := by unfold nameR; rw [if_pos h, take_is g (by omega)]
    have e2 : nameT D σ = (D.cur σ.k).text := by unfold nameT; rw [if_pos h]
    rw [e, e2]
    have cA := fun W hP => advance_any (D := D) (s := s) (br := br) (bl := bl) hsz σ.k (by omega) W hP
    have hk : (((D.cur σ.k).kind : Int) == 1) = true := (by simp; omega)
    have hR := hP.tok
    clear h e e2 hk1
    generalize D.cur σ.k = t at *
    obtain ⟨kd, tx, vl, ln, cl, pt, fn⟩ := t
    dsimp only at hk ⊢
    rcases goes_or D ⟨σ.k + 1, none⟩ with g1 | ⟨f, u1⟩
    · go_enter Try.func36, Try.ntmps36
      go_wp2_with (first
        | (refine wpList_loadP rfl 39 _ rfl rfl hR 7 (tokL ⟨kd, tx, vl, ln, cl, pt, fn⟩) rfl _ Try.underlying39 rfl info38 ?_)
        | (refine wpList_allocS rfl 39 rfl (tokL noTok) Try.zeroValue39 ?_; intro W2 b2 F2 N2; have P2 := hP.fresh F2; have B2 := F2.trans (Below.refl _ w) (Nat.le_refl _); have h2 : w.heap.size ≤ b2 := Nat.le_of_eq F2.at'.symm; clear F2 hR hP)
        | (refine wpList_storeS rfl 39 _ _ rfl rfl (tokL ⟨kd, tx, vl, ln, cl, pt, fn⟩) rfl N2 (by simp [tokL, noTok]) info38 (tok_one _) ?_; intro W3 U3 M3x; have M3 : IsS W3 b2 39 (tokL ⟨kd, tx, vl, ln, cl, pt, fn⟩) := M3x; have P3 := P2.upd U3 (by omega) (by omega); have B3 := U3.trans B2 h2; have m0 : W3.cell? ⟨b2, 0, none⟩ = some (.int .i64 (kd : Int)) := M3.cell 0; clear U3 M3x N2 P2)
        | (go_at_call 10; refine (must_true br _).mono ?_; rintro e w' ⟨rfl, hw'⟩; replace hw' := hw'.symm; subst hw')
        | (go_at_call 19; refine (cA _ P3).mono ?_; rintro en W4 O4; obtain ⟨rfl, P4⟩ := O4.goes g1; have T4 := O4.tw; have M4 := M3.tw T4 (by omega) (by omega); have m1 : W4.cell? ⟨b2, 1, none⟩ = some (.string ⟨tx.toArray⟩) := M4.cell 1; clear O4 cA))
      go_ret
      exact OutP.ret g1 P4 ((Tw.of_below B3 _ _).trans T4)
    · go_enter Try.func36, Try.ntmps36
      go_wp2_with (first
        | (refine wpList_loadP rfl 39 _ rfl rfl hR 7 (tokL ⟨kd, tx, vl, ln, cl, pt, fn⟩) rfl _ Try.underlying39 rfl info38 ?_)
        | (refine wpList_allocS rfl 39 rfl (tokL noTok) Try.zeroValue39 ?_; intro W2 b2 F2 N2; have P2 := hP.fresh F2; have B2 := F2.trans (Below.refl _ w) (Nat.le_refl _); have h2 : w.heap.size ≤ b2 := Nat.le_of_eq F2.at'.symm; clear F2 hR hP)
        | (refine wpList_storeS rfl 39 _ _ rfl rfl (tokL ⟨kd, tx, vl, ln, cl, pt, fn⟩) rfl N2 (by simp [tokL, noTok]) info38 (tok_one _) ?_; intro W3 U3 M3x; have M3 : IsS W3 b2 39 (tokL ⟨kd, tx, vl, ln, cl, pt, fn⟩) := M3x; have P3 := P2.upd U3 (by omega) (by omega); have B3 := U3.trans B2 h2; have m0 : W3.cell? ⟨b2, 0, none⟩ = some (.int .i64 (kd : Int)) := M3.cell 0; clear U3 M3x N2 P2)
        | (go_at_call 10; refine (must_true br _).mono ?_; rintro e w' ⟨rfl, hw'⟩; replace hw' := hw'.symm; subst hw')
        | (go_at_call 19; refine (cA _ P3).mono ?_; rintro en W4 O4; have T4 := O4.tw; obtain ⟨bp, rfl, hb, hI⟩ := O4.ups f u1; clear O4 cA))
      exact ⟨rfl, OutP.thrown u1 ⟨bp, rfl, Nat.le_trans B3.size hb, hI⟩ ((Tw.of_below B3 _ _).trans T4)⟩
set_option maxRecDepth 100000 in
set_option maxHeartbeats 1000000 in
theorem rdNbr_any (hsz : s.size < 4611686018427387904) (σ : RS) (g : Goes D σ) (w : World) (hP : PR D s w br bl σ.k) :
    Calls Try.prog 38 #[.pointer (some ⟨br, 0, none⟩)] w fun en w' => OutP D s w br bl (nbrR D σ) (.int .i64 (nbrV D σ)) en w' := by
  have hb1 := hP.tok.lt
  have hb2 := hP.ltl
  cases h : nbrQ D σ with
  | false =>
    have e : nbrR D σ = ⟨σ.k, some (D.wr σ.k)⟩ := by unfold nbrR; rw [if_neg (by rw [h]; simp), wrongR_none g.1]
    rw [e]
    have u : Ups D ⟨σ.k, some (D.wr σ.k)⟩ (D.wr σ.k) := ups_F rfl
    have hk : (((D.cur σ.k).kind : Int) == 2) = false := (by unfold nbrQ at h; rw [g.1] at h; simp at h; simp; omega)
    have cM := fun W (hR : IsS W br _ _) => must_false br bl (D.cur σ.k) W hR
    rw [← wr_ok g.2] at cM
    have hR := hP.tok
    clear h e
    generalize D.wr σ.k = f at *
    generalize D.cur σ.k = t at *
    obtain ⟨kd, tx, vl, ln, cl, pt, fn⟩ := t
    dsimp only at hk
    go_enter Try.func38, Try.ntmps38
    go_wp2_with (first
      | (refine wpList_loadP rfl 39 _ rfl rfl hR 7 (tokL ⟨kd, tx, vl, ln, cl, pt, fn⟩) rfl _ Try.underlying39 rfl info38 ?_)
      | (refine wpList_allocS rfl 39 rfl (tokL noTok) Try.zeroValue39 ?_; intro W2 b2 F2 N2; have R2 := hR.fresh F2; have B2 := F2.trans (Below.refl _ w) (Nat.le_refl _); have h2 : w.heap.size ≤ b2 := Nat.le_of_eq F2.at'.symm; clear F2 hR)
      | (refine wpList_storeS rfl 39 _ _ rfl rfl (tokL ⟨kd, tx, vl, ln, cl, pt, fn⟩) rfl N2 (by simp [tokL, noTok]) info38 (tok_one _) ?_; intro W3 U3 M3x; have M3 : IsS W3 b2 39 (tokL ⟨kd, tx, vl, ln, cl, pt, fn⟩) := M3x; have R3 := R2.upd U3 (by omega); have B3 := U3.trans B2 h2; have m0 : W3.cell? ⟨b2, 0, none⟩ = some (.int .i64 (kd : Int)) := M3.cell 0; clear U3 M3x N2 R2)
      | (go_at_call 10; refine (cM _ R3).mono ?_; rintro en W4 ⟨⟨bp, rfl, hb, hI⟩, B4⟩; clear cM))
    exact ⟨rfl, OutP.thrown u ⟨bp, rfl, Nat.le_trans B3.size hb, hI⟩ (Tw.of_below (Below.then B3 B4) _ _)⟩
  | true =>
    have hk1 : (D.cur σ.k).kind = 2 := (by unfold nbrQ at h; rw [g.1] at h; simpa using h)
    have e : nbrR D σ = ⟨σ.k + 1, none⟩ := by unfold nbrR; rw [if_pos h, take_is g (by omega)]
    have e2 : nbrV D σ = (D.cur σ.k).value := by unfold nbrV; rw [if_pos h]
    rw [e, e2]
    have cA := fun W hP => advance_any (D := D) (s := s) (br := br) (bl := bl) hsz σ.k (by omega) W hP
    have hk : (((D.cur σ.k).kind : Int) == 2) = true := (by simp; omega)
    have hR := hP.tok
    clear h e e2 hk1
    generalize D.cur σ.k = t at *
    obtain ⟨kd, tx, vl, ln, cl, pt, fn⟩ := t
    dsimp only at hk ⊢
    rcases goes_or D ⟨σ.k + 1, none⟩ with g1 | ⟨f, u1⟩
    · go_enter Try.func38, Try.ntmps38
      go_wp2_with (first
        | (refine wpList_loadP rfl 39 _ rfl rfl hR 7 (tokL ⟨kd, tx, vl, ln, cl, pt, fn⟩) rfl _ Try.underlying39 rfl info38 ?_)
        | (refine wpList_allocS rfl 39 rfl (tokL noTok) Try.zeroValue39 ?_; intro W2 b2 F2 N2; have P2 := hP.fresh F2; have B2 := F2.trans (Below.refl _ w) (Nat.le_refl _); have h2 : w.heap.size ≤ b2 := Nat.le_of_eq F2.at'.symm; clear F2 hR hP)
        | (refine wpList_storeS rfl 39 _ _ rfl rfl (tokL ⟨kd, tx, vl, ln, cl, pt, fn⟩) rfl N2 (by simp [tokL, noTok]) info38 (tok_one _) ?_; intro W3 U3 M3x; have M3 : IsS W3 b2 39 (tokL ⟨kd, tx, vl, ln, cl, pt, fn⟩) := M3x; have P3 := P2.upd U3 (by omega) (by omega); have B3 := U3.trans B2 h2; have m0 : W3.cell? ⟨b2, 0, none⟩ = some (.int .i64 (kd : Int)) := M3.cell 0; clear U3 M3x N2 P2)
        | (go_at_call 10; refine (must_true br _).mono ?_; rintro e w' ⟨rfl, hw'⟩; replace hw' := hw'.symm; subst hw')
        | (go_at_call 19; refine (cA _ P3).mono ?_; rintro en W4 O4; obtain ⟨rfl, P4⟩ := O4.goes g1; have T4 := O4.tw; have M4 := M3.tw T4 (by omega) (by omega); have m1 : W4.cell? ⟨b2, 2, none⟩ = some (.int .i64 vl) := M4.cell 2; clear O4 cA))
      go_ret
      exact OutP.ret g1 P4 ((Tw.of_below B3 _ _).trans T4)
    · go_enter Try.func38, Try.ntmps38
      go_wp2_with (first
        | (refine wpList_loadP rfl 39 _ rfl rfl hR 7 (tokL ⟨kd, tx, vl, ln, cl, pt, fn⟩) rfl _ Try.underlying39 rfl info38 ?_)
        | (refine wpList_allocS rfl 39 rfl (tokL noTok) Try.zeroValue39 ?_; intro W2 b2 F2 N2; have P2 := hP.fresh F2; have B2 := F2.trans (Below.refl _ w) (Nat.le_refl _); have h2 : w.heap.size ≤ b2 := Nat.le_of_eq F2.at'.symm; clear F2 hR hP)
        | (refine wpList_storeS rfl 39 _ _ rfl rfl (tokL ⟨kd, tx, vl, ln, cl, pt, fn⟩) rfl N2 (by simp [tokL, noTok]) info38 (tok_one _) ?_; intro W3 U3 M3x; have M3 : IsS W3 b2 39 (tokL ⟨kd, tx, vl, ln, cl, pt, fn⟩) := M3x; have P3 := P2.upd U3 (by omega) (by omega); have B3 := U3.trans B2 h2; have m0 : W3.cell? ⟨b2, 0, none⟩ = some (.int .i64 (kd : Int)) := M3.cell 0; clear U3 M3x N2 P2)
        | (go_at_call 10; refine (must_true br _).mono ?_; rintro e w' ⟨rfl, hw'⟩; replace hw' := hw'.symm; subst hw')
        | (go_at_call 19; refine (cA _ P3).mono ?_; rintro en W4 O4; have T4 := O4.tw; obtain ⟨bp, rfl, hb, hI⟩ := O4.ups f u1; clear O4 cA))
      exact ⟨rfl, OutP.thrown u1 ⟨bp, rfl, Nat.le_trans B3.size hb, hI⟩ ((Tw.of_below B3 _ _).trans T4)⟩
end
end Go.Proofs.Ytpbcngnginffgaa

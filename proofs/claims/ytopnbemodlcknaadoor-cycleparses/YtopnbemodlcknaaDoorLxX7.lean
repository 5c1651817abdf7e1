/- Tokens of a text: plain mathematics. Blanks, comments, pieces. -/
import Derived.Test.YtopnbemodlcknaaDoorX1
namespace Go.Proofs.YtopnbemodlcknaaDoor.M
set_option linter.unusedSimpArgs false
set_option linter.unusedVariables false

/-- How long the rest of a comment is, of which some are open; none: it is not closed. -/
def comF : List UInt8 → Nat → Option Nat
  | [], _ => none
  | [_], _ => none
  | a :: b :: r, o =>
    if a.toNat = 40 ∧ b.toNat = 42 then (comF r (o + 1)).map (· + 2)
    else if a.toNat = 42 ∧ b.toNat = 41 then (if o = 1 then some 2 else (comF r (o - 1)).map (· + 2))
    else (comF (b :: r) o).map (· + 1)
/-- Whether a comment begins here. -/
def opB : List UInt8 → Bool
  | a :: b :: _ => decide (a.toNat = 40 ∧ b.toNat = 42)
  | _ => false
/-- How many bytes of blanks stand here, and whether the last comment is closed. -/
def blkG : Nat → List UInt8 → Nat × Bool
  | 0, _ => (0, true)
  | _ + 1, [] => (0, true)
  | f + 1, c :: r =>
    if blkN c.toNat then ((blkG f r).1 + 1, (blkG f r).2)
    else if opB (c :: r) then
      match comF (r.drop 1) 1 with
      | none => (0, false)
      | some k => ((blkG f (r.drop (1 + k))).1 + (k + 2), (blkG f (r.drop (1 + k))).2)
    else (0, true)
def blkF (l : List UInt8) : Nat × Bool := blkG l.length l

theorem comF_le : ∀ (n : Nat) (l : List UInt8), l.length ≤ n → ∀ o k, comF l o = some k → k ≤ l.length ∧ 1 ≤ k
  | _, [], _, o, k, h => by cases h
  | _, [_], _, o, k, h => by cases h
  | 0, _ :: _ :: _, hn, _, _, _ => by simp at hn
  | n + 1, a :: b :: r, hn, o, k, h => by
    unfold comF at h
    split at h
    · obtain ⟨j, hj, rfl⟩ := Option.map_eq_some_iff.1 h
      have := comF_le n r (by simp at hn; omega) _ _ hj
      simp; omega
    · split at h
      · split at h
        · cases h; simp
        · obtain ⟨j, hj, rfl⟩ := Option.map_eq_some_iff.1 h
          have := comF_le n r (by simp at hn; omega) _ _ hj
          simp; omega
      · obtain ⟨j, hj, rfl⟩ := Option.map_eq_some_iff.1 h
        have := comF_le n (b :: r) (by simp at hn ⊢; omega) _ _ hj
        simp at this ⊢; omega
theorem blkG_nil (f : Nat) : blkG f [] = (0, true) := by cases f <;> rfl
theorem blkG_cons (f : Nat) (c : UInt8) (r : List UInt8) : blkG (f + 1) (c :: r) = if blkN c.toNat then ((blkG f r).1 + 1, (blkG f r).2)
    else if opB (c :: r) then
      match comF (r.drop 1) 1 with
      | none => (0, false)
      | some k => ((blkG f (r.drop (1 + k))).1 + (k + 2), (blkG f (r.drop (1 + k))).2)
    else (0, true) := rfl
theorem blkG_same : ∀ (f g : Nat) (l : List UInt8), l.length ≤ f → l.length ≤ g → blkG f l = blkG g l
  | f, g, [], _, _ => by rw [blkG_nil, blkG_nil]
  | 0, _, c :: r, h, _ => by simp at h
  | _ + 1, 0, c :: r, _, h => by simp at h
  | f + 1, g + 1, c :: r, h1, h2 => by
    have h1' : r.length ≤ f := by simpa using h1
    have h2' : r.length ≤ g := by simpa using h2
    rw [blkG_cons, blkG_cons, blkG_same f g r h1' h2']
    cases hc : comF (r.drop 1) 1 with
    | none => rfl
    | some k =>
      have e : (r.drop (1 + k)).length ≤ r.length := by simp
      dsimp only
      rw [blkG_same f g (r.drop (1 + k)) (by omega) (by omega)]
theorem blkF_nil : blkF [] = (0, true) := rfl
theorem blkF_blank {c : UInt8} {r : List UInt8} (h : blkN c.toNat = true) : blkF (c :: r) = ((blkF r).1 + 1, (blkF r).2) := by
  show blkG (r.length + 1) (c :: r) = _
  rw [blkG_cons, if_pos h]; rfl
theorem blkF_open {c : UInt8} {r : List UInt8} (h : blkN c.toNat = false) (ho : opB (c :: r) = true) (hc : comF (r.drop 1) 1 = none) : blkF (c :: r) = (0, false) := by
  show blkG (r.length + 1) (c :: r) = _
  rw [blkG_cons, if_neg (by rw [h]; decide), if_pos ho, hc]
theorem blkF_com {c : UInt8} {r : List UInt8} {k : Nat} (h : blkN c.toNat = false) (ho : opB (c :: r) = true) (hc : comF (r.drop 1) 1 = some k) : blkF (c :: r) = ((blkF (r.drop (1 + k))).1 + (k + 2), (blkF (r.drop (1 + k))).2) := by
  show blkG (r.length + 1) (c :: r) = _
  rw [blkG_cons, if_neg (by rw [h]; decide), if_pos ho, hc]
  dsimp only
  rw [blkG_same r.length (r.drop (1 + k)).length _ (by simp) (Nat.le_refl _)]
  rfl
theorem blkF_stop {c : UInt8} {r : List UInt8} (h : blkN c.toNat = false) (ho : opB (c :: r) = false) : blkF (c :: r) = (0, true) := by
  show blkG (r.length + 1) (c :: r) = _
  rw [blkG_cons, if_neg (by rw [h]; decide), if_neg (by rw [ho]; decide)]
/-- Nothing to skip stands here. -/
def Stopped : List UInt8 → Prop
  | [] => True
  | c :: r => blkN c.toNat = false ∧ opB (c :: r) = false
theorem blkF_stopped {l : List UInt8} (h : Stopped l) : blkF l = (0, true) := by
  cases l with
  | nil => rfl
  | cons c r => exact blkF_stop h.1 h.2
theorem blkG_spec : ∀ (f : Nat) (l : List UInt8), l.length ≤ f → (blkG f l).1 ≤ l.length ∧ ((blkG f l).2 = true → Stopped (l.drop (blkG f l).1))
  | f, [], _ => by rw [blkG_nil]; exact ⟨Nat.le_refl _, fun _ => trivial⟩
  | 0, c :: r, h => by simp at h
  | f + 1, c :: r, h => by
    have h' : r.length ≤ f := by simpa using h
    have ih := blkG_spec f r h'
    rw [blkG_cons]
    split
    · exact ⟨by simp; exact ih.1, fun e => by rw [List.drop_succ_cons]; exact ih.2 e⟩
    · rename_i h1
      split
      · rename_i h2
        cases hc : comF (r.drop 1) 1 with
        | none => exact ⟨Nat.zero_le _, fun e => by cases e⟩
        | some k =>
          have e : (r.drop (1 + k)).length ≤ r.length := by simp
          have ih2 := blkG_spec f (r.drop (1 + k)) (by omega)
          have hk := comF_le _ (r.drop 1) (Nat.le_refl _) 1 k hc
          rw [List.length_drop] at hk ih2
          dsimp only
          refine ⟨by simp; omega, fun e => ?_⟩
          have := ih2.2 e
          rw [List.drop_drop] at this
          rw [show (blkG f (r.drop (1 + k))).1 + (k + 2) = (1 + k + (blkG f (r.drop (1 + k))).1) + 1 by omega, List.drop_succ_cons]
          exact this
      · rename_i h2
        exact ⟨Nat.zero_le _, fun _ => ⟨by simpa using h1, by simpa using h2⟩⟩
theorem blkF_le (l : List UInt8) : (blkF l).1 ≤ l.length := (blkG_spec _ l (Nat.le_refl _)).1
theorem blkF_at {l : List UInt8} (h : (blkF l).2 = true) : Stopped (l.drop (blkF l).1) := (blkG_spec _ l (Nat.le_refl _)).2 h

/-- What stands at the front of a text: a token, or what is wrong. -/
structure Piece where
  kind : Nat
  text : List UInt8
  value : Int
  length : Nat
  wrong : Nat
def namePiece (l : List UInt8) : Piece := if 64 < nameLen l then ⟨0, [], 0, 0, 1⟩ else ⟨1, l.take (nameLen l), 0, nameLen l, 0⟩
/-- How long a number is, or what is none. -/
def numLen (l : List UInt8) : Nat := 1 + ((l.drop 1).takeWhile fun c => innN c.toNat).length
def numPiece (l : List UInt8) : Piece := if (parseO (l.take (numLen l))).2 = 0 then ⟨2, l.take (numLen l), (parseO (l.take (numLen l))).1, numLen l, 0⟩ else ⟨0, [], 0, 0, (parseO (l.take (numLen l))).2⟩
/-- How far a text between quotes goes. -/
def quotLen (l : List UInt8) : Nat := 1 + ((l.drop 1).takeWhile fun c => decide (c.toNat ≠ 34 ∧ c.toNat ≠ 10)).length
def quotPiece (l : List UInt8) : Piece := if ∃ c, l[quotLen l]? = some c ∧ c.toNat = 34 then ⟨3, (l.take (quotLen l)).drop 1, 0, quotLen l + 1, 0⟩ else ⟨0, [], 0, quotLen l, 50⟩
def oneSign (n : Nat) : Bool := decide (n ∈ [123, 125, 40, 41, 91, 93, 59, 44, 58, 124, 61, 36, 126, 38, 43, 42, 63])
def begB (l p : List UInt8) : Bool := p.isPrefixOf l
def signLen (l : List UInt8) : Nat :=
  if begB l [94, 45, 49] then 3
  else if begB l [47, 92] || begB l [92, 47] then 2
  else match l with
    | [] => 0
    | c :: _ => if c.toNat = 92 ∨ oneSign c.toNat = true then 1 else 0
def signPiece (l : List UInt8) : Piece := if signLen l = 0 then ⟨0, [], 0, 0, 50⟩ else ⟨4, l.take (signLen l), 0, signLen l, 0⟩
/-- Whether a number begins here. -/
def numB : List UInt8 → Bool
  | [] => false
  | c :: r => digN c.toNat || (decide (c.toNat = 45) && (match r with | d :: _ => digN d.toNat | [] => false))
/-- The piece at the front. -/
def cutF (l : List UInt8) : Piece :=
  match l with
  | [] => ⟨0, [], 0, 0, 50⟩
  | c :: r => if letN c.toNat then namePiece l else if numB l then numPiece l else if c.toNat = 34 then quotPiece l else signPiece l
theorem numLen_le {l : List UInt8} (h : l ≠ []) : numLen l ≤ l.length := by
  unfold numLen
  have := (List.takeWhile_prefix (fun c : UInt8 => innN c.toNat) (l := l.drop 1)).length_le
  rw [List.length_drop] at this
  have : 0 < l.length := List.length_pos_iff.2 h
  omega
theorem quotLen_le {l : List UInt8} (h : l ≠ []) : quotLen l ≤ l.length := by
  unfold quotLen
  have := (List.takeWhile_prefix (fun c : UInt8 => decide (c.toNat ≠ 34 ∧ c.toNat ≠ 10)) (l := l.drop 1)).length_le
  rw [List.length_drop] at this
  have : 0 < l.length := List.length_pos_iff.2 h
  omega
theorem begB_len {l p : List UInt8} (h : begB l p = true) : p.length ≤ l.length := (List.isPrefixOf_iff_prefix.1 h).length_le
theorem signLen_le (l : List UInt8) : signLen l ≤ l.length := by
  unfold signLen
  split
  · exact begB_len ‹_›
  · split
    · rename_i h
      rcases Bool.or_eq_true_iff.1 h with h | h <;> exact begB_len h
    · cases l with
      | nil => exact Nat.le_refl _
      | cons c r => dsimp only; split <;> simp
theorem cutF_le (l : List UInt8) : (cutF l).length ≤ l.length := by
  cases l with
  | nil => exact Nat.le_refl _
  | cons c r =>
    unfold cutF
    dsimp only
    split
    · unfold namePiece; split
      · exact Nat.zero_le _
      · exact nameLen_le (c :: r)
    · split
      · unfold numPiece; split
        · exact numLen_le (by simp)
        · exact Nat.zero_le _
      · split
        · unfold quotPiece; split
          · rename_i h
            obtain ⟨d, hd, _⟩ := h
            exact (List.getElem?_eq_some_iff.1 hd).1
          · exact quotLen_le (by simp)
        · unfold signPiece; split
          · exact Nat.zero_le _
          · exact signLen_le _

/-- Whether a comment ends here. -/
def clB : List UInt8 → Bool
  | a :: b :: _ => decide (a.toNat = 42 ∧ b.toNat = 41)
  | _ => false
theorem op_beg (l : List UInt8) : opB l = begB l [40, 42] := by
  match l with
  | [] => rfl
  | [a] => simp [opB, begB, List.isPrefixOf]
  | a :: b :: r =>
    rw [Bool.eq_iff_iff]
    simp [opB, begB, List.isPrefixOf, ← UInt8.toNat_inj]
    constructor
    · rintro ⟨h1, h2⟩; exact ⟨h1.symm, h2.symm⟩
    · rintro ⟨h1, h2⟩; exact ⟨h1.symm, h2.symm⟩
theorem cl_beg (l : List UInt8) : clB l = begB l [42, 41] := by
  match l with
  | [] => rfl
  | [a] => simp [clB, begB, List.isPrefixOf]
  | a :: b :: r =>
    rw [Bool.eq_iff_iff]
    simp [clB, begB, List.isPrefixOf, ← UInt8.toNat_inj]
    constructor
    · rintro ⟨h1, h2⟩; exact ⟨h1.symm, h2.symm⟩
    · rintro ⟨h1, h2⟩; exact ⟨h1.symm, h2.symm⟩
theorem comF_two (a b : UInt8) (r : List UInt8) (o : Nat) : comF (a :: b :: r) o = if a.toNat = 40 ∧ b.toNat = 42 then (comF r (o + 1)).map (· + 2)
    else if a.toNat = 42 ∧ b.toNat = 41 then (if o = 1 then some 2 else (comF r (o - 1)).map (· + 2))
    else (comF (b :: r) o).map (· + 1) := by
  conv => lhs; unfold comF
theorem comF_open {l : List UInt8} (h : opB l = true) (o : Nat) : comF l o = (comF (l.drop 2) (o + 1)).map (· + 2) := by
  match l, h with
  | a :: b :: r, h => rw [comF_two, if_pos (by simpa [opB] using h)]; rfl
theorem comF_last {l : List UInt8} (h : clB l = true) : comF l 1 = some 2 := by
  match l, h with
  | a :: b :: r, h =>
    have h' : a.toNat = 42 ∧ b.toNat = 41 := by simpa [clB] using h
    rw [comF_two, if_neg (by omega), if_pos h', if_pos rfl]
theorem comF_close {l : List UInt8} (h : clB l = true) {o : Nat} (ho : o ≠ 1) : comF l o = (comF (l.drop 2) (o - 1)).map (· + 2) := by
  match l, h with
  | a :: b :: r, h =>
    have h' : a.toNat = 42 ∧ b.toNat = 41 := by simpa [clB] using h
    rw [comF_two, if_neg (by omega), if_pos h', if_neg ho]; rfl
theorem comF_skip {c : UInt8} {r : List UInt8} (h1 : opB (c :: r) = false) (h2 : clB (c :: r) = false) (o : Nat) : comF (c :: r) o = (comF r o).map (· + 1) := by
  match r, h1, h2 with
  | [], _, _ => rfl
  | b :: r, h1, h2 =>
    have e1 : ¬ (c.toNat = 40 ∧ b.toNat = 42) := by simpa [opB] using h1
    have e2 : ¬ (c.toNat = 42 ∧ b.toNat = 41) := by simpa [clB] using h2
    rw [comF_two, if_neg e1, if_neg e2]
theorem op_cl {l : List UInt8} (h : opB l = true) : clB l = false := by
  match l, h with
  | a :: b :: r, h =>
    have h' : a.toNat = 40 ∧ b.toNat = 42 := by simpa [opB] using h
    simp [clB]; omega
theorem op_len {l : List UInt8} (h : opB l = true) : 2 ≤ l.length := by
  match l, h with
  | a :: b :: r, h => simp
theorem cl_len {l : List UInt8} (h : clB l = true) : 2 ≤ l.length := by
  match l, h with
  | a :: b :: r, h => simp
end Go.Proofs.YtopnbemodlcknaaDoor.M

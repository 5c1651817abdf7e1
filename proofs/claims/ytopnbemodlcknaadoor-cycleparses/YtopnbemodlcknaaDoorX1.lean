/- Names, and the lines and columns of places: plain mathematics of texts. -/
import Derived.Test.YtopnbemodlcknaaDoorM1
import Derived.Lib.LastIndexByte
namespace Go.Proofs.YtopnbemodlcknaaDoor.M
set_option linter.unusedSimpArgs false
set_option linter.unusedVariables false

/-- Letters, digits, bytes that may stand within names and numbers, blanks: by their number. -/
def letN (n : Nat) : Bool := decide (97 ≤ n ∧ n ≤ 122 ∨ 65 ≤ n ∧ n ≤ 90 ∨ n = 95)
def digN (n : Nat) : Bool := decide (48 ≤ n ∧ n ≤ 57)
def innN (n : Nat) : Bool := letN n || digN n || decide (n = 46)
def blkN (n : Nat) : Bool := decide (n = 32 ∨ n = 9 ∨ n = 10 ∨ n = 13)
/-- A + or - that may stand in a name. -/
def joinsB : List UInt8 → Bool
  | a :: b :: _ => decide (a.toNat = 43 ∨ a.toNat = 45) && (letN b.toNat || digN b.toNat)
  | _ => false
/-- How far a name goes on. -/
def nameRun : List UInt8 → Nat
  | [] => 0
  | c :: r => if innN c.toNat || joinsB (c :: r) then 1 + nameRun r else 0
/-- How long the name is with which a text begins. -/
def nameLen : List UInt8 → Nat
  | [] => 0
  | c :: r => if letN c.toNat then 1 + nameRun r else 0
theorem nameRun_le : ∀ l, nameRun l ≤ l.length
  | [] => Nat.le_refl _
  | c :: r => by
    have := nameRun_le r
    unfold nameRun
    split <;> simp <;> omega
theorem nameLen_le (l : List UInt8) : nameLen l ≤ l.length := by
  cases l with
  | nil => exact Nat.le_refl _
  | cons c r =>
    have := nameRun_le r
    show (if letN c.toNat then 1 + nameRun r else 0) ≤ _
    split <;> simp <;> omega
theorem letN_dig {n : Nat} (h : letN n = true) : digN n = false := by
  simp only [letN, digN, decide_eq_true_eq, decide_eq_false_iff_not] at *; omega

/-- One byte further. -/
def stepP (p : Nat × Nat) (c : UInt8) : Nat × Nat := if c.toNat = 10 then (p.1 + 1, 1) else (p.1, p.2 + 1)
/-- The spot behind a text. -/
def spotF (p : Nat × Nat) (l : List UInt8) : Nat × Nat := l.foldl stepP p
theorem spot_nil (p : Nat × Nat) : spotF p [] = p := rfl
theorem spot_app (p : Nat × Nat) (a b : List UInt8) : spotF p (a ++ b) = spotF (spotF p a) b := List.foldl_append
theorem spot_cons (p : Nat × Nat) (c : UInt8) (l : List UInt8) : spotF p (c :: l) = spotF (stepP p c) l := rfl
theorem spot_none : ∀ (l : List UInt8) (p : Nat × Nat), (∀ c ∈ l, c.toNat ≠ 10) → spotF p l = (p.1, p.2 + l.length)
  | [], p, _ => rfl
  | c :: r, p, h => by
    rw [spot_cons, spot_none r _ fun x hx => h x (List.mem_cons_of_mem _ hx)]
    unfold stepP
    rw [if_neg (h c (List.mem_cons_self ..))]
    simp; omega
theorem spot_line : ∀ (l : List UInt8) (p : Nat × Nat), (spotF p l).1 = p.1 + l.count 10
  | [], p => rfl
  | c :: r, p => by
    rw [spot_cons, spot_line r, List.count_cons]
    unfold stepP
    by_cases h : c = 10
    · subst h; rw [if_pos (by decide)]; simp; omega
    · have h' : c.toNat ≠ 10 := fun e => h (UInt8.toNat_inj.1 e)
      rw [if_neg h']; simp [h]
theorem spot_last (l : List UInt8) (p : Nat × Nat) (i : Nat) (hi : i < l.length) (h10 : l[i].toNat = 10) (hn : ∀ j, i < j → (h : j < l.length) → l[j].toNat ≠ 10) : spotF p l = (p.1 + l.count 10, l.length - i) := by
  refine Prod.ext (spot_line l p) ?_
  have e : l = l.take i ++ l[i] :: l.drop (i + 1) := by
    rw [← List.drop_eq_getElem_cons hi, List.take_append_drop]
  have : spotF p l = spotF (spotF p (l.take i)) (l[i] :: l.drop (i + 1)) := by
    rw [← spot_app, ← e]
  rw [this, spot_cons, spot_none]
  · unfold stepP
    rw [if_pos h10]
    simp; omega
  · intro c hc
    obtain ⟨j, hj, rfl⟩ := List.mem_iff_getElem.1 hc
    rw [List.getElem_drop]
    rw [List.length_drop] at hj
    exact hn _ (by omega) (by omega)
theorem spot_col_pos : ∀ (l : List UInt8) (p : Nat × Nat), 1 ≤ p.1 → 1 ≤ p.2 → 1 ≤ (spotF p l).1 ∧ 1 ≤ (spotF p l).2
  | [], p, h1, h2 => ⟨h1, h2⟩
  | c :: r, p, h1, h2 => by
    rw [spot_cons]
    refine spot_col_pos r _ ?_ ?_ <;> unfold stepP <;> split <;> simp <;> omega
theorem spot_bd : ∀ (l : List UInt8) (p : Nat × Nat), (spotF p l).1 ≤ p.1 + l.length ∧ (spotF p l).2 ≤ p.2 + 1 + l.length
  | [], p => ⟨by simp [spotF], (by simp [spotF]; try omega)⟩
  | c :: r, p => by
    have := spot_bd r (stepP p c)
    rw [spot_cons, List.length_cons]
    by_cases h : c.toNat = 10
    · rw [show stepP p c = (p.1 + 1, 1) from if_pos h] at this ⊢
      simp at this ⊢; omega
    · rw [show stepP p c = (p.1, p.2 + 1) from if_neg h] at this ⊢
      simp at this ⊢; omega

/-- strings.LastIndexByte and strings.Count say the spot. -/
theorem spot_lib (s : ByteArray) (p : Nat × Nat) :
    (Lib.lastIndexByte s 10 = -1 ∧ spotF p s.data.toList = (p.1, p.2 + s.size)) ∨
    (∃ i : Nat, i < s.size ∧ Lib.lastIndexByte s 10 = i ∧ spotF p s.data.toList = (p.1 + s.data.toList.count 10, s.size - i)) := by
  have hl : s.data.toList.length = s.size := by simp
  have hg : ∀ j, (h : j < s.data.toList.length) → s.data.toList[j] = s.data[j]! := fun j h => by
    rw [getElem!_pos s.data j (by simpa using h)]; simp
  rcases Lib.lastIndexByte_spec s 10 with ⟨h1, h2⟩ | ⟨i, hi, h1, h2, h3⟩
  · refine .inl ⟨h1, ?_⟩
    rw [spot_none, hl]
    intro c hc e
    obtain ⟨j, hj, rfl⟩ := List.mem_iff_getElem.1 hc
    have := h2 j (by omega)
    rw [← hg j hj] at this
    omega
  · refine .inr ⟨i, hi, h1, ?_⟩
    have h4 : i < s.data.toList.length := by omega
    rw [spot_last _ p i h4 (by have := h2; rw [← hg i h4] at this; omega) (fun j hj hj' e => by have := h3 j hj (by omega); rw [← hg j hj'] at this; omega), hl]
end Go.Proofs.YtopnbemodlcknaaDoor.M

/- Several texts in one: M1, X1. -/
import Derived.Lib.LastIndexByte
/-
  Plain mathematics of numbers in texts: digits, the longest run of them, what they say, a number's parts, its value. No program is named.
-/
namespace Go.Proofs.YtjnbhcakfenbhaaGreatDoor.M
set_option linter.unusedSimpArgs false
set_option linter.unusedVariables false

/-- What a byte says as a digit; 2^64 - 1 where it is none. -/
def dig (c : Nat) : Nat :=
  if 48 ≤ c ∧ c ≤ 57 then c - 48 else if 97 ≤ c ∧ c ≤ 102 then c - 87 else if 65 ≤ c ∧ c ≤ 70 then c - 55 else 18446744073709551615
theorem dig_cases (c : Nat) : dig c ≤ 15 ∨ dig c = 18446744073709551615 := by unfold dig; split <;> (try split) <;> (try split) <;> omega
theorem dig_le (c : Nat) : dig c ≤ 18446744073709551615 := by rcases dig_cases c with h | h <;> omega

/-- Whether a byte is a digit to a base. -/
def isD (b : Nat) (c : UInt8) : Bool := decide (dig c.toNat < b)
/-- The digits with which a text begins. -/
def dl (b : Nat) (l : List UInt8) : List UInt8 := l.takeWhile (isD b)
/-- What digits say. -/
def val (b : Nat) (l : List UInt8) : Nat := l.foldl (fun n c => n * b + dig c.toNat) 0

theorem val_snoc (b : Nat) (l : List UInt8) (c : UInt8) : val b (l ++ [c]) = val b l * b + dig c.toNat := by unfold val; rw [List.foldl_append]; rfl
theorem val_take_le (b : Nat) (hb : 1 ≤ b) (l : List UInt8) (k : Nat) : val b (l.take k) ≤ val b l := by
  have key : ∀ (r : List UInt8) (n : Nat), n ≤ r.foldl (fun n c => n * b + dig c.toNat) n := by
    intro r
    induction r with
    | nil => intro n; exact Nat.le_refl _
    | cons c r ih =>
        intro n
        rw [List.foldl_cons]
        refine Nat.le_trans ?_ (ih _)
        have : n * 1 ≤ n * b := Nat.mul_le_mul_left _ hb
        omega
  have e : val b l = (l.drop k).foldl (fun n c => n * b + dig c.toNat) (val b (l.take k)) := by
    unfold val; rw [← List.foldl_append, List.take_append_drop]
  rw [e]; exact key _ _
theorem over_iff {n d b : Nat} (hb : 1 ≤ b) (hd : d ≤ 18446744073709551615) : (18446744073709551615 - d) / b < n ↔ 18446744073709551615 < n * b + d := by
  rw [Nat.div_lt_iff_lt_mul hb]; omega

/-- The step of a run: where a digit stands at k the run goes on, else it ends. -/
theorem dl_step (b : Nat) : ∀ (l : List UInt8) (k : Nat), (∀ j, j < k → ∃ c, l[j]? = some c ∧ isD b c = true) →
    (∀ c, l[k]? = some c → isD b c = false) → k ≤ l.length → dl b l = l.take k
  | [], k, _, _, hk => by simp [dl]
  | c :: r, 0, _, h2, _ => by
      have := h2 c rfl
      simp [dl, this]
  | c :: r, k + 1, h1, h2, hk => by
      obtain ⟨c', hc, hd⟩ := h1 0 (by omega)
      obtain rfl : c = c' := by simpa using hc
      have ih := dl_step b r k (fun j hj => by simpa using h1 (j + 1) (by omega)) (fun c' hc' => h2 c' (by simpa using hc')) (by simpa using hk)
      unfold dl at ih ⊢
      rw [List.takeWhile_cons, if_pos hd, ih]; rfl

/-- Whether a text begins with -. -/
def minusB : List UInt8 → Bool
  | c :: _ => c.toNat == 45
  | [] => false
/-- Whether a text begins as hexadecimal numbers do. -/
def markB : List UInt8 → Bool
  | a :: b :: _ => a.toNat == 48 && (b.toNat == 120 || b.toNat == 88)
  | _ => false

/-- A number's parts behind its sign: base, digits, and how many bytes it has there. -/
def bodyF (r : List UInt8) : Nat × List UInt8 × Nat :=
  if markB r = true ∧ dl 16 (r.drop 2) ≠ [] then (16, dl 16 (r.drop 2), 2 + (dl 16 (r.drop 2)).length) else (10, dl 10 r, (dl 10 r).length)
/-- How many bytes the sign has. -/
def sgn (l : List UInt8) : Nat := if minusB l then 1 else 0
/-- A number's value; none: it is too big. -/
def valF (m : Bool) (v : Nat) : Option Int :=
  if 18446744073709551615 < v ∨ (m = true ∧ 9223372036854775808 < v) then none
  else some (if m then -(v : Int) else if (v : Int) ≤ 9223372036854775807 then (v : Int) else (v : Int) - 18446744073709551616)
/-- The digits of the number with which a text begins, its base, its length, its value. -/
def digF (l : List UInt8) : List UInt8 := (bodyF (l.drop (sgn l))).2.1
def baseF (l : List UInt8) : Nat := (bodyF (l.drop (sgn l))).1
def lenF (l : List UInt8) : Nat := sgn l + (bodyF (l.drop (sgn l))).2.2
def numF (l : List UInt8) : Option Int := valF (minusB l) (val (baseF l) (digF l))

def nNum (n : Nat) : Option Int → Int × Nat × Nat
  | none => (0, 0, 41)
  | some v => (v, n, 0)
def pNum : Option Int → Int × Nat
  | none => (0, 41)
  | some v => (v, 0)
/-- What Next answers from a place on: value, length, error. -/
def nextO (l : List UInt8) : Int × Nat × Nat :=
  if digF l = [] then (0, 0, 40) else nNum (lenF l) (numF l)
/-- What Parse answers: value, error. -/
def parseO (l : List UInt8) : Int × Nat :=
  if digF l = [] ∨ lenF l ≠ l.length then (0, 40) else pNum (numF l)

theorem baseF_cases (l : List UInt8) : baseF l = 10 ∨ baseF l = 16 := by unfold baseF bodyF; split <;> simp
theorem minusB_pos {l : List UInt8} (h : minusB l = true) : 1 ≤ l.length := by cases l with | nil => cases h | cons c r => simp
theorem markB_len {l : List UInt8} (h : markB l = true) : 2 ≤ l.length := by
  match l, h with
  | a :: b :: r, _ => simp
theorem dl_len (b : Nat) (l : List UInt8) : (dl b l).length ≤ l.length := by unfold dl; exact (List.takeWhile_prefix _).length_le
theorem lenF_le (l : List UInt8) : lenF l ≤ l.length := by
  unfold lenF
  have hs : sgn l ≤ l.length := by
    unfold sgn; split
    · exact minusB_pos ‹_›
    · omega
  have hb : (bodyF (l.drop (sgn l))).2.2 ≤ (l.drop (sgn l)).length := by
    unfold bodyF
    split
    · rename_i h
      have h2 := markB_len h.1
      have h3 := dl_len 16 ((l.drop (sgn l)).drop 2)
      rw [List.length_drop] at h3
      show 2 + _ ≤ _
      omega
    · exact dl_len _ _
  rw [List.length_drop] at hb
  omega
theorem valF_bd {m : Bool} {v : Nat} {x : Int} (h : valF m v = some x) : -9223372036854775808 ≤ x ∧ x ≤ 9223372036854775807 := by
  unfold valF at h
  split at h
  · cases h
  · rename_i hn
    have h := Option.some.inj h
    subst h
    cases m <;> simp at hn ⊢ <;> (try split) <;> omega
end Go.Proofs.YtjnbhcakfenbhaaGreatDoor.M
/- Names, and the lines and columns of places: plain mathematics of texts. -/
namespace Go.Proofs.YtjnbhcakfenbhaaGreatDoor.M
set_option linter.unusedSimpArgs false
set_option linter.unusedVariables false

/-- Letters, digits, bytes that may stand within names and numbers, blanks: by their number. -/
def letN (n : Nat) : Bool := decide (97 ≤ n ∧ n ≤ 122 ∨ 65 ≤ n ∧ n ≤ 90 ∨ n = 95)
def digN (n : Nat) : Bool := decide (48 ≤ n ∧ n ≤ 57)
def innN (n : Nat) : Bool := letN n || digN n || decide (n = 46)
def blkN (n : Nat) : Bool := decide (n = 32 ∨ n = 9 ∨ n = 10 ∨ n = 13)
/-- A + or - that may stand in a name. -/
def joinsB : List UInt8 → Bool
  | a :: b :: _ => decide (a.toNat = 43 ∨ a.toNat = 45) && (letN b.toNat || digN b.toNat)
  | _ => false
/-- How far a name goes on. -/
def nameRun : List UInt8 → Nat
  | [] => 0
  | c :: r => if innN c.toNat || joinsB (c :: r) then 1 + nameRun r else 0
/-- How long the name is with which a text begins. -/
def nameLen : List UInt8 → Nat
  | [] => 0
  | c :: r => if letN c.toNat then 1 + nameRun r else 0
theorem nameRun_le : ∀ l, nameRun l ≤ l.length
  | [] => Nat.le_refl _
  | c :: r => by
    have := nameRun_le r
    unfold nameRun
    split <;> simp <;> omega
theorem nameLen_le (l : List UInt8) : nameLen l ≤ l.length := by
  cases l with
  | nil => exact Nat.le_refl _
  | cons c r =>
    have := nameRun_le r
    show (if letN c.toNat then 1 + nameRun r else 0) ≤ _
    split <;> simp <;> omega
theorem letN_dig {n : Nat} (h : letN n = true) : digN n = false := by
  simp only [letN, digN, decide_eq_true_eq, decide_eq_false_iff_not] at *; omega

/-- One byte further. -/
def stepP (p : Nat × Nat) (c : UInt8) : Nat × Nat := if c.toNat = 10 then (p.1 + 1, 1) else (p.1, p.2 + 1)
/-- The spot behind a text. -/
def spotF (p : Nat × Nat) (l : List UInt8) : Nat × Nat := l.foldl stepP p
theorem spot_nil (p : Nat × Nat) : spotF p [] = p := rfl
theorem spot_app (p : Nat × Nat) (a b : List UInt8) : spotF p (a ++ b) = spotF (spotF p a) b := List.foldl_append
theorem spot_cons (p : Nat × Nat) (c : UInt8) (l : List UInt8) : spotF p (c :: l) = spotF (stepP p c) l := rfl
theorem spot_none : ∀ (l : List UInt8) (p : Nat × Nat), (∀ c ∈ l, c.toNat ≠ 10) → spotF p l = (p.1, p.2 + l.length)
  | [], p, _ => rfl
  | c :: r, p, h => by
    rw [spot_cons, spot_none r _ fun x hx => h x (List.mem_cons_of_mem _ hx)]
    unfold stepP
    rw [if_neg (h c (List.mem_cons_self ..))]
    simp; omega
theorem spot_line : ∀ (l : List UInt8) (p : Nat × Nat), (spotF p l).1 = p.1 + l.count 10
  | [], p => rfl
  | c :: r, p => by
    rw [spot_cons, spot_line r, List.count_cons]
    unfold stepP
    by_cases h : c = 10
    · subst h; rw [if_pos (by decide)]; simp; omega
    · have h' : c.toNat ≠ 10 := fun e => h (UInt8.toNat_inj.1 e)
      rw [if_neg h']; simp [h]
theorem spot_last (l : List UInt8) (p : Nat × Nat) (i : Nat) (hi : i < l.length) (h10 : l[i].toNat = 10) (hn : ∀ j, i < j → (h : j < l.length) → l[j].toNat ≠ 10) : spotF p l = (p.1 + l.count 10, l.length - i) := by
  refine Prod.ext (spot_line l p) ?_
  have e : l = l.take i ++ l[i] :: l.drop (i + 1) := by
    rw [← List.drop_eq_getElem_cons hi, List.take_append_drop]
  have : spotF p l = spotF (spotF p (l.take i)) (l[i] :: l.drop (i + 1)) := by
    rw [← spot_app, ← e]
  rw [this, spot_cons, spot_none]
  · unfold stepP
    rw [if_pos h10]
    simp; omega
  · intro c hc
    obtain ⟨j, hj, rfl⟩ := List.mem_iff_getElem.1 hc
    rw [List.getElem_drop]
    rw [List.length_drop] at hj
    exact hn _ (by omega) (by omega)
theorem spot_col_pos : ∀ (l : List UInt8) (p : Nat × Nat), 1 ≤ p.1 → 1 ≤ p.2 → 1 ≤ (spotF p l).1 ∧ 1 ≤ (spotF p l).2
  | [], p, h1, h2 => ⟨h1, h2⟩
  | c :: r, p, h1, h2 => by
    rw [spot_cons]
    refine spot_col_pos r _ ?_ ?_ <;> unfold stepP <;> split <;> simp <;> omega
theorem spot_bd : ∀ (l : List UInt8) (p : Nat × Nat), (spotF p l).1 ≤ p.1 + l.length ∧ (spotF p l).2 ≤ p.2 + 1 + l.length
  | [], p => ⟨by simp [spotF], (by simp [spotF]; try omega)⟩
  | c :: r, p => by
    have := spot_bd r (stepP p c)
    rw [spot_cons, List.length_cons]
    by_cases h : c.toNat = 10
    · rw [show stepP p c = (p.1 + 1, 1) from if_pos h] at this ⊢
      simp at this ⊢; omega
    · rw [show stepP p c = (p.1, p.2 + 1) from if_neg h] at this ⊢
      simp at this ⊢; omega

/-- strings.LastIndexByte and strings.Count say the spot. -/
theorem spot_lib (s : ByteArray) (p : Nat × Nat) :
    (Lib.lastIndexByte s 10 = -1 ∧ spotF p s.data.toList = (p.1, p.2 + s.size)) ∨
    (∃ i : Nat, i < s.size ∧ Lib.lastIndexByte s 10 = i ∧ spotF p s.data.toList = (p.1 + s.data.toList.count 10, s.size - i)) := by
  have hl : s.data.toList.length = s.size := by simp
  have hg : ∀ j, (h : j < s.data.toList.length) → s.data.toList[j] = s.data[j]! := fun j h => by
    rw [getElem!_pos s.data j (by simpa using h)]; simp
  rcases Lib.lastIndexByte_spec s 10 with ⟨h1, h2⟩ | ⟨i, hi, h1, h2, h3⟩
  · refine .inl ⟨h1, ?_⟩
    rw [spot_none, hl]
    intro c hc e
    obtain ⟨j, hj, rfl⟩ := List.mem_iff_getElem.1 hc
    have := h2 j (by omega)
    rw [← hg j hj] at this
    omega
  · refine .inr ⟨i, hi, h1, ?_⟩
    have h4 : i < s.data.toList.length := by omega
    rw [spot_last _ p i h4 (by have := h2; rw [← hg i h4] at this; omega) (fun j hj hj' e => by have := h3 j hj (by omega); rw [← hg j hj'] at this; omega), hl]
end Go.Proofs.YtjnbhcakfenbhaaGreatDoor.M

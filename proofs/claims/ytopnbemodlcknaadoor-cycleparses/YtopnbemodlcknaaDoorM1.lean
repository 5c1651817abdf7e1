/-
  Plain mathematics of numbers in texts: digits, the longest run of them, what they say, a number's parts, its value. No program is named.
-/
namespace Go.Proofs.YtopnbemodlcknaaDoor.M
set_option linter.unusedSimpArgs false
set_option linter.unusedVariables false

/-- What a byte says as a digit; 2^64 - 1 where it is none. -/
def dig (c : Nat) : Nat :=
  if 48 ≤ c ∧ c ≤ 57 then c - 48 else if 97 ≤ c ∧ c ≤ 102 then c - 87 else if 65 ≤ c ∧ c ≤ 70 then c - 55 else 18446744073709551615
theorem dig_cases (c : Nat) : dig c ≤ 15 ∨ dig c = 18446744073709551615 := by unfold dig; split <;> (try split) <;> (try split) <;> omega
theorem dig_le (c : Nat) : dig c ≤ 18446744073709551615 := by rcases dig_cases c with h | h <;> omega

/-- Whether a byte is a digit to a base. -/
def isD (b : Nat) (c : UInt8) : Bool := decide (dig c.toNat < b)
/-- The digits with which a text begins. -/
def dl (b : Nat) (l : List UInt8) : List UInt8 := l.takeWhile (isD b)
/-- What digits say. -/
def val (b : Nat) (l : List UInt8) : Nat := l.foldl (fun n c => n * b + dig c.toNat) 0

theorem val_snoc (b : Nat) (l : List UInt8) (c : UInt8) : val b (l ++ [c]) = val b l * b + dig c.toNat := by unfold val; rw [List.foldl_append]; rfl
theorem val_take_le (b : Nat) (hb : 1 ≤ b) (l : List UInt8) (k : Nat) : val b (l.take k) ≤ val b l := by
  have key : ∀ (r : List UInt8) (n : Nat), n ≤ r.foldl (fun n c => n * b + dig c.toNat) n := by
    intro r
    induction r with
    | nil => intro n; exact Nat.le_refl _
    | cons c r ih =>
        intro n
        rw [List.foldl_cons]
        refine Nat.le_trans ?_ (ih _)
        have : n * 1 ≤ n * b := Nat.mul_le_mul_left _ hb
        omega
  have e : val b l = (l.drop k).foldl (fun n c => n * b + dig c.toNat) (val b (l.take k)) := by
    unfold val; rw [← List.foldl_append, List.take_append_drop]
  rw [e]; exact key _ _
theorem over_iff {n d b : Nat} (hb : 1 ≤ b) (hd : d ≤ 18446744073709551615) : (18446744073709551615 - d) / b < n ↔ 18446744073709551615 < n * b + d := by
  rw [Nat.div_lt_iff_lt_mul hb]; omega

/-- The step of a run: where a digit stands at k the run goes on, else it ends. -/
theorem dl_step (b : Nat) : ∀ (l : List UInt8) (k : Nat), (∀ j, j < k → ∃ c, l[j]? = some c ∧ isD b c = true) →
    (∀ c, l[k]? = some c → isD b c = false) → k ≤ l.length → dl b l = l.take k
  | [], k, _, _, hk => by simp [dl]
  | c :: r, 0, _, h2, _ => by
      have := h2 c rfl
      simp [dl, this]
  | c :: r, k + 1, h1, h2, hk => by
      obtain ⟨c', hc, hd⟩ := h1 0 (by omega)
      obtain rfl : c = c' := by simpa using hc
      have ih := dl_step b r k (fun j hj => by simpa using h1 (j + 1) (by omega)) (fun c' hc' => h2 c' (by simpa using hc')) (by simpa using hk)
      unfold dl at ih ⊢
      rw [List.takeWhile_cons, if_pos hd, ih]; rfl

/-- Whether a text begins with -. -/
def minusB : List UInt8 → Bool
  | c :: _ => c.toNat == 45
  | [] => false
/-- Whether a text begins as hexadecimal numbers do. -/
def markB : List UInt8 → Bool
  | a :: b :: _ => a.toNat == 48 && (b.toNat == 120 || b.toNat == 88)
  | _ => false

/-- A number's parts behind its sign: base, digits, and how many bytes it has there. -/
def bodyF (r : List UInt8) : Nat × List UInt8 × Nat :=
  if markB r = true ∧ dl 16 (r.drop 2) ≠ [] then (16, dl 16 (r.drop 2), 2 + (dl 16 (r.drop 2)).length) else (10, dl 10 r, (dl 10 r).length)
/-- How many bytes the sign has. -/
def sgn (l : List UInt8) : Nat := if minusB l then 1 else 0
/-- A number's value; none: it is too big. -/
def valF (m : Bool) (v : Nat) : Option Int :=
  if 18446744073709551615 < v ∨ (m = true ∧ 9223372036854775808 < v) then none
  else some (if m then -(v : Int) else if (v : Int) ≤ 9223372036854775807 then (v : Int) else (v : Int) - 18446744073709551616)
/-- The digits of the number with which a text begins, its base, its length, its value. -/
def digF (l : List UInt8) : List UInt8 := (bodyF (l.drop (sgn l))).2.1
def baseF (l : List UInt8) : Nat := (bodyF (l.drop (sgn l))).1
def lenF (l : List UInt8) : Nat := sgn l + (bodyF (l.drop (sgn l))).2.2
def numF (l : List UInt8) : Option Int := valF (minusB l) (val (baseF l) (digF l))

def nNum (n : Nat) : Option Int → Int × Nat × Nat
  | none => (0, 0, 41)
  | some v => (v, n, 0)
def pNum : Option Int → Int × Nat
  | none => (0, 41)
  | some v => (v, 0)
/-- What Next answers from a place on: value, length, error. -/
def nextO (l : List UInt8) : Int × Nat × Nat :=
  if digF l = [] then (0, 0, 40) else nNum (lenF l) (numF l)
/-- What Parse answers: value, error. -/
def parseO (l : List UInt8) : Int × Nat :=
  if digF l = [] ∨ lenF l ≠ l.length then (0, 40) else pNum (numF l)

theorem baseF_cases (l : List UInt8) : baseF l = 10 ∨ baseF l = 16 := by unfold baseF bodyF; split <;> simp
theorem minusB_pos {l : List UInt8} (h : minusB l = true) : 1 ≤ l.length := by cases l with | nil => cases h | cons c r => simp
theorem markB_len {l : List UInt8} (h : markB l = true) : 2 ≤ l.length := by
  match l, h with
  | a :: b :: r, _ => simp
theorem dl_len (b : Nat) (l : List UInt8) : (dl b l).length ≤ l.length := by unfold dl; exact (List.takeWhile_prefix _).length_le
theorem lenF_le (l : List UInt8) : lenF l ≤ l.length := by
  unfold lenF
  have hs : sgn l ≤ l.length := by
    unfold sgn; split
    · exact minusB_pos ‹_›
    · omega
  have hb : (bodyF (l.drop (sgn l))).2.2 ≤ (l.drop (sgn l)).length := by
    unfold bodyF
    split
    · rename_i h
      have h2 := markB_len h.1
      have h3 := dl_len 16 ((l.drop (sgn l)).drop 2)
      rw [List.length_drop] at h3
      show 2 + _ ≤ _
      omega
    · exact dl_len _ _
  rw [List.length_drop] at hb
  omega
theorem valF_bd {m : Bool} {v : Nat} {x : Int} (h : valF m v = some x) : -9223372036854775808 ≤ x ∧ x ≤ 9223372036854775807 := by
  unfold valF at h
  split at h
  · cases h
  · rename_i hn
    have h := Option.some.inj h
    subst h
    cases m <;> simp at hn ⊢ <;> (try split) <;> omega
end Go.Proofs.YtopnbemodlcknaaDoor.M

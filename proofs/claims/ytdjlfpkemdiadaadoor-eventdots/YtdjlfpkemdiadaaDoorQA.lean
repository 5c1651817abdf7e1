/- Several texts in one: M0, B0, M1, S0. -/
import Derived.Test.YtdjlfpkemdiadaaDoorRows
import Derived.WalkKit
import Derived.WalkSpells
import Derived.WalkLawsBesides
import Derived.BigRegion
import Derived.BigQuiet
import Derived.Deep.QuietTactic
import Derived.Below
import Derived.Lib.SmallJoins
import Derived.Laws.AppendOwnNone
import Derived.Laws.Bits64b
import Derived.Laws.BitsLemmas
import Derived.Lib.EndianBits
import Derived.Lib.Slices
import Derived.Lib.Hide
import Derived.Laws.IdiomStrings
import Derived.OwnWalk
import Derived.BigCall
import Derived.Deep.MidRow
import Derived.Deep.WholeRow
import Derived.ChangeKeysEq
/-
  Plain mathematics of codes: a number's digits to the base 128, lowest first, each but the last with 128 added; a code is taken back, and what is taken is its number's code. No program is named.
-/
namespace Go.Proofs.YtdjlfpkemdiadaaDoor.M

/-- The code of a number: its digits to the base 128, lowest first, so many at most and one. -/
def encF : Nat → Nat → List UInt8
  | 0, u => [UInt8.ofNat u]
  | f + 1, u => if u < 128 then [UInt8.ofNat u] else UInt8.ofNat (u % 128 + 128) :: encF f (u / 128)
/-- The code of a number: its digits to the base 128, lowest first. -/
def enc (u : Nat) : List UInt8 := encF u u

/-- A value's number. -/
def foldN (v : Int) : Nat := if v < 0 then (-2 * v - 1).toNat else (2 * v).toNat
/-- A number's value. -/
def unfoldN (u : Nat) : Int := if u % 2 = 1 then -((u / 2 : Nat) : Int) - 1 else ((u / 2 : Nat) : Int)
/-- A value's code. -/
def putL (v : Int) : List UInt8 := enc (foldN v)

/-- What is taken, from digit k on, X having been taken: the number, and how many bytes in all. -/
def tk (k X : Nat) : List UInt8 → Option (Nat × Nat)
  | [] => none
  | c :: r => if 10 ≤ k then none else if (k = 9 ∧ 1 < c.toNat) ∨ (0 < k ∧ c.toNat = 0) then none
      else if c.toNat < 128 then some (X + c.toNat * 2 ^ (7 * k), k + 1) else tk (k + 1) (X + (c.toNat % 128) * 2 ^ (7 * k)) r

theorem encF_small {f u : Nat} (h : u < 128) : encF f u = [UInt8.ofNat u] := by
  cases f with
  | zero => rfl
  | succ f => rw [encF, if_pos h]
theorem encF_same : ∀ (f g u : Nat), u ≤ f → u ≤ g → encF f u = encF g u
  | 0, g, u, hf, hg => by rw [encF_small (by omega), encF_small (by omega)]
  | f + 1, 0, u, hf, hg => by rw [encF_small (by omega), encF_small (by omega)]
  | f + 1, g + 1, u, hf, hg => by
      by_cases h : u < 128
      · rw [encF_small h, encF_small h]
      · rw [encF, encF, if_neg h, if_neg h, encF_same f g (u / 128) (by omega) (by omega)]
theorem enc_small {u : Nat} (h : u < 128) : enc u = [UInt8.ofNat u] := encF_small h
theorem enc_great {u : Nat} (h : ¬ u < 128) : enc u = UInt8.ofNat (u % 128 + 128) :: enc (u / 128) := by
  unfold enc
  cases u with
  | zero => omega
  | succ u =>
      rw [encF, if_neg h, encF_same u ((u + 1) / 128) ((u + 1) / 128) (by omega) (Nat.le_refl _)]

theorem enc_pos (u : Nat) : 1 ≤ (enc u).length := by
  by_cases h : u < 128
  · rw [enc_small h]; simp
  · rw [enc_great h]; simp

theorem enc_len : ∀ (k u : Nat), u < 2 ^ (7 * k) → 1 ≤ k → (enc u).length ≤ k
  | 0, _, _, h => by omega
  | k + 1, u, hu, _ => by
      by_cases h : u < 128
      · rw [enc_small h]; simp
      · rw [enc_great h, List.length_cons]
        have e : 2 ^ (7 * (k + 1)) = 128 * 2 ^ (7 * k) := by rw [Nat.mul_add, Nat.pow_add]; omega
        have hk : 1 ≤ k := by
          rcases Nat.eq_zero_or_pos k with h0 | h0
          · subst h0; simp at hu; omega
          · exact h0
        have := enc_len k (u / 128) (by omega) hk
        omega

theorem foldN_lt {v : Int} (h0 : -9223372036854775808 ≤ v) (h1 : v ≤ 9223372036854775807) : foldN v < 18446744073709551616 := by unfold foldN; split <;> omega
theorem unfold_fold (v : Int) : unfoldN (foldN v) = v := by unfold foldN; split <;> (unfold unfoldN; split <;> omega)
theorem fold_unfold (u : Nat) : foldN (unfoldN u) = u := by unfold unfoldN; split <;> (unfold foldN; split <;> omega)
theorem unfoldN_bd {u : Nat} (h : u < 18446744073709551616) : -9223372036854775808 ≤ unfoldN u ∧ unfoldN u ≤ 9223372036854775807 := by unfold unfoldN; split <;> omega

theorem putL_len {v : Int} (h0 : -9223372036854775808 ≤ v) (h1 : v ≤ 9223372036854775807) : 1 ≤ (putL v).length ∧ (putL v).length ≤ 10 :=
  ⟨enc_pos _, enc_len 10 _ (Nat.lt_of_lt_of_le (foldN_lt h0 h1) (by decide)) (by omega)⟩

theorem pow7 (k : Nat) : 2 ^ (7 * (k + 1)) = 128 * 2 ^ (7 * k) := by rw [Nat.mul_add, Nat.pow_add]; omega

theorem pow7_pos (k : Nat) : 1 ≤ 2 ^ (7 * k) := Nat.one_le_two_pow

/-- A number's code, with anything behind it, is taken back. -/
theorem tk_enc (r : List UInt8) : ∀ (d k u X : Nat), d + k = 10 → u * 2 ^ (7 * k) < 18446744073709551616 → (0 < k → 0 < u) → (k = 0 ∨ 1 ≤ d) →
    tk k X (enc u ++ r) = some (X + u * 2 ^ (7 * k), k + (enc u).length)
  | 0, k, u, X, hk, hu, hp, h01 => by omega
  | d + 1, k, u, X, hk, hu, hp, h01 => by
      by_cases h : u < 128
      · rw [enc_small h]
        have hc : (UInt8.ofNat u).toNat = u := by rw [UInt8.toNat_ofNat']; omega
        have h9 : k = 9 → u ≤ 1 := by intro e; subst e; simp at hu; omega
        rw [List.singleton_append, tk, if_neg (by omega), if_neg (by rw [hc]; omega), hc, if_pos h]
        rfl
      · rw [enc_great h]
        have hc : (UInt8.ofNat (u % 128 + 128)).toNat = u % 128 + 128 := by rw [UInt8.toNat_ofNat']; omega
        have hk9 : k ≠ 9 := by intro e; subst e; simp at hu; omega
        rw [List.cons_append, tk, if_neg (by omega), if_neg (by rw [hc]; omega), hc, if_neg (by omega)]
        have e : u * 2 ^ (7 * k) = (u % 128) * 2 ^ (7 * k) + (u / 128) * (128 * 2 ^ (7 * k)) := by
          have e1 : u = u % 128 + (u / 128) * 128 := by omega
          have : (u % 128 + (u / 128) * 128) * 2 ^ (7 * k) = (u % 128) * 2 ^ (7 * k) + (u / 128) * (128 * 2 ^ (7 * k)) := by rw [Nat.add_mul, Nat.mul_assoc]
          rw [← this, ← e1]
        rw [tk_enc r d (k + 1) (u / 128) _ (by omega) (by rw [pow7]; omega) (by omega) (Or.inr (by omega))]
        have e2 : (u % 128 + 128) % 128 = u % 128 := by omega
        rw [e2, pow7, List.length_cons]
        congr 2 <;> omega

theorem tk_aux (q u : Nat) (hq : q < 128) (hu : u * 9223372036854775808 < 18446744073709551616) : q * 72057594037927936 + u * 9223372036854775808 < 18446744073709551616 := by
  have h1 : u < 2 := Nat.lt_of_mul_lt_mul_right (a := 9223372036854775808) (by exact hu)
  have h2 : q * 72057594037927936 ≤ 127 * 72057594037927936 := Nat.mul_le_mul_right _ (Nat.le_of_lt_succ hq)
  have h3 : u * 9223372036854775808 ≤ 1 * 9223372036854775808 := Nat.mul_le_mul_right _ (Nat.le_of_lt_succ h1)
  exact Nat.lt_of_le_of_lt (Nat.add_le_add h2 h3) (by decide)

/-- What is taken is that number's code. -/
theorem enc_tk : ∀ (l : List UInt8) (k X U n : Nat), tk k X l = some (U, n) →
    ∃ u, U = X + u * 2 ^ (7 * k) ∧ n = k + (enc u).length ∧ (∃ r, l = enc u ++ r) ∧ (0 < k → 0 < u) ∧ u * 2 ^ (7 * k) < 18446744073709551616
  | [], k, X, U, n, h => by simp [tk] at h
  | c :: r, k, X, U, n, h => by
      rw [tk] at h
      by_cases h1 : 10 ≤ k
      · rw [if_pos h1] at h; cases h
      · rw [if_neg h1] at h
        by_cases h2 : (k = 9 ∧ 1 < c.toNat) ∨ (0 < k ∧ c.toNat = 0)
        · rw [if_pos h2] at h; cases h
        · rw [if_neg h2] at h
          by_cases h3 : c.toNat < 128
          · rw [if_pos h3] at h
            obtain ⟨rfl, rfl⟩ : X + c.toNat * 2 ^ (7 * k) = U ∧ k + 1 = n := by simpa using h
            refine ⟨c.toNat, rfl, ?_, ⟨r, ?_⟩, by omega, ?_⟩
            · rw [enc_small h3]; rfl
            · rw [enc_small h3]; simp
            · by_cases h9 : k = 9
              · subst h9; simp; omega
              · have : 2 ^ (7 * k) ≤ 2 ^ 56 := Nat.pow_le_pow_right (by omega) (by omega)
                have := Nat.mul_le_mul (Nat.le_of_lt_succ (Nat.lt_succ_of_lt h3)) this
                have e : (128 : Nat) * 2 ^ 56 = 9223372036854775808 := by decide
                omega
          · rw [if_neg h3] at h
            obtain ⟨u, hU, hn, ⟨t, ht⟩, hp, hl⟩ := enc_tk r _ _ _ _ h
            have hu0 : 0 < u := hp (by omega)
            have hcl := c.toNat_lt
            have hg : ¬ (c.toNat % 128 + u * 128) < 128 := by omega
            have hm : (c.toNat % 128 + u * 128) % 128 + 128 = c.toNat := by omega
            have hd : (c.toNat % 128 + u * 128) / 128 = u := by omega
            have e : (c.toNat % 128 + u * 128) * 2 ^ (7 * k) = (c.toNat % 128) * 2 ^ (7 * k) + u * 2 ^ (7 * (k + 1)) := by rw [Nat.add_mul, pow7, Nat.mul_assoc]
            refine ⟨c.toNat % 128 + u * 128, ?_, ?_, ⟨t, ?_⟩, by omega, ?_⟩
            · rw [e, hU]; omega
            · rw [enc_great hg, hd, hn, List.length_cons]; omega
            · rw [enc_great hg, hd, hm, UInt8.ofNat_toNat, ht]; rfl
            · rw [e]
              have hk9 : k ≠ 9 := by
                intro e9; subst e9
                rcases t with _ | _ <;> (have := enc_pos u; have hx : c.toNat ≤ 1 := by omega
                                         omega)
              by_cases h8 : k = 8
              · subst h8
                have e63 : (2 : Nat) ^ (7 * (8 + 1)) = 9223372036854775808 := by decide
                have e56 : (2 : Nat) ^ (7 * 8) = 72057594037927936 := by decide
                rw [e63] at hl ⊢
                rw [e56]
                exact tk_aux _ _ (Nat.mod_lt _ (by decide)) hl
              · have p1 : 2 ^ (7 * k) ≤ 2 ^ 49 := Nat.pow_le_pow_right (by omega) (by omega)
                have hq : u * 2 ^ (7 * (k + 1)) + 2 ^ (7 * (k + 1)) ≤ 18446744073709551616 := by
                  have hdv : 2 ^ (7 * (k + 1)) ∣ 18446744073709551616 := by
                    have : (18446744073709551616 : Nat) = 2 ^ 64 := by decide
                    rw [this]; exact Nat.pow_dvd_pow 2 (by omega)
                  obtain ⟨q, hq⟩ := hdv
                  have hlt : u < q := by
                    refine Nat.lt_of_mul_lt_mul_right (a := 2 ^ (7 * (k + 1))) ?_
                    rw [Nat.mul_comm q]; omega
                  have : (u + 1) * 2 ^ (7 * (k + 1)) ≤ q * 2 ^ (7 * (k + 1)) := Nat.mul_le_mul_right _ hlt
                  rw [Nat.add_mul, Nat.one_mul, Nat.mul_comm q] at this
                  omega
                have hc : (c.toNat % 128) * 2 ^ (7 * k) < 128 * 2 ^ (7 * k) := Nat.mul_lt_mul_of_pos_right (by omega) (pow7_pos k)
                rw [← pow7] at hc
                omega

/-- Take, from a place on: the value and how many bytes. -/
def takeO (l : List UInt8) : Option (Int × Nat) := (tk 0 0 l).map fun p => (unfoldN p.1, p.2)

theorem takeO_put {v : Int} (h0 : -9223372036854775808 ≤ v) (h1 : v ≤ 9223372036854775807) (r : List UInt8) : takeO (putL v ++ r) = some (v, (putL v).length) := by
  unfold takeO putL
  rw [tk_enc r 10 0 (foldN v) 0 rfl (by simpa using foldN_lt h0 h1) (by omega) (Or.inl rfl)]
  simp [unfold_fold]

theorem put_takeO {l : List UInt8} {v : Int} {n : Nat} (h : takeO l = some (v, n)) :
    (-9223372036854775808 ≤ v ∧ v ≤ 9223372036854775807) ∧ n = (putL v).length ∧ ∃ r, l = putL v ++ r := by
  unfold takeO at h
  cases e : tk 0 0 l with
  | none => rw [e] at h; cases h
  | some p =>
      rw [e] at h
      obtain ⟨U, m⟩ := p
      obtain ⟨rfl, rfl⟩ : unfoldN U = v ∧ m = n := by simpa using h
      obtain ⟨u, hU, hn, hr, -, hl⟩ := enc_tk _ _ _ _ _ e
      have : U = u := by simpa using hU
      subst this
      refine ⟨unfoldN_bd (by simpa using hl), ?_, ?_⟩
      · unfold putL; rw [fold_unfold]; omega
      · unfold putL; rw [fold_unfold]; exact hr
end Go.Proofs.YtdjlfpkemdiadaaDoor.M
/- What the texts of this seat share. -/
namespace Go.Proofs.YtdjlfpkemdiadaaDoor
open Go.RowKit M
set_option linter.unusedSimpArgs false
set_option linter.unusedVariables false

def intOf : Value → Int | .int _ q => q | _ => 0
theorem ret_int {k : IntKind} {a b : Int} (h : a = b) : Ending.returned (.int k a) = .returned (.int k b) := by rw [h]
theorem pow2_le64 {k : Nat} (h : k ≤ 64) : (2 : Nat) ^ k ≤ 18446744073709551616 := by
  have : (2 : Nat) ^ k ≤ 2 ^ 64 := Nat.pow_le_pow_right (by omega) h
  exact this

end Go.Proofs.YtdjlfpkemdiadaaDoor
/-
  Plain mathematics of numbers in texts: digits, the longest run of them, what they say, a number's parts, its value. No program is named.
-/
namespace Go.Proofs.YtdjlfpkemdiadaaDoor.M
set_option linter.unusedSimpArgs false
set_option linter.unusedVariables false

/-- What a byte says as a digit; 2^64 - 1 where it is none. -/
def dig (c : Nat) : Nat :=
  if 48 ≤ c ∧ c ≤ 57 then c - 48 else if 97 ≤ c ∧ c ≤ 102 then c - 87 else if 65 ≤ c ∧ c ≤ 70 then c - 55 else 18446744073709551615
theorem dig_cases (c : Nat) : dig c ≤ 15 ∨ dig c = 18446744073709551615 := by unfold dig; split <;> (try split) <;> (try split) <;> omega
theorem dig_le (c : Nat) : dig c ≤ 18446744073709551615 := by rcases dig_cases c with h | h <;> omega

/-- Whether a byte is a digit to a base. -/
def isD (b : Nat) (c : UInt8) : Bool := decide (dig c.toNat < b)
/-- The digits with which a text begins. -/
def dl (b : Nat) (l : List UInt8) : List UInt8 := l.takeWhile (isD b)
/-- What digits say. -/
def val (b : Nat) (l : List UInt8) : Nat := l.foldl (fun n c => n * b + dig c.toNat) 0

theorem val_snoc (b : Nat) (l : List UInt8) (c : UInt8) : val b (l ++ [c]) = val b l * b + dig c.toNat := by unfold val; rw [List.foldl_append]; rfl
theorem val_take_le (b : Nat) (hb : 1 ≤ b) (l : List UInt8) (k : Nat) : val b (l.take k) ≤ val b l := by
  have key : ∀ (r : List UInt8) (n : Nat), n ≤ r.foldl (fun n c => n * b + dig c.toNat) n := by
    intro r
    induction r with
    | nil => intro n; exact Nat.le_refl _
    | cons c r ih =>
        intro n
        rw [List.foldl_cons]
        refine Nat.le_trans ?_ (ih _)
        have : n * 1 ≤ n * b := Nat.mul_le_mul_left _ hb
        omega
  have e : val b l = (l.drop k).foldl (fun n c => n * b + dig c.toNat) (val b (l.take k)) := by
    unfold val; rw [← List.foldl_append, List.take_append_drop]
  rw [e]; exact key _ _
theorem over_iff {n d b : Nat} (hb : 1 ≤ b) (hd : d ≤ 18446744073709551615) : (18446744073709551615 - d) / b < n ↔ 18446744073709551615 < n * b + d := by
  rw [Nat.div_lt_iff_lt_mul hb]; omega

/-- The step of a run: where a digit stands at k the run goes on, else it ends. -/
theorem dl_step (b : Nat) : ∀ (l : List UInt8) (k : Nat), (∀ j, j < k → ∃ c, l[j]? = some c ∧ isD b c = true) →
    (∀ c, l[k]? = some c → isD b c = false) → k ≤ l.length → dl b l = l.take k
  | [], k, _, _, hk => by simp [dl]
  | c :: r, 0, _, h2, _ => by
      have := h2 c rfl
      simp [dl, this]
  | c :: r, k + 1, h1, h2, hk => by
      obtain ⟨c', hc, hd⟩ := h1 0 (by omega)
      obtain rfl : c = c' := by simpa using hc
      have ih := dl_step b r k (fun j hj => by simpa using h1 (j + 1) (by omega)) (fun c' hc' => h2 c' (by simpa using hc')) (by simpa using hk)
      unfold dl at ih ⊢
      rw [List.takeWhile_cons, if_pos hd, ih]; rfl

/-- Whether a text begins with -. -/
def minusB : List UInt8 → Bool
  | c :: _ => c.toNat == 45
  | [] => false
/-- Whether a text begins as hexadecimal numbers do. -/
def markB : List UInt8 → Bool
  | a :: b :: _ => a.toNat == 48 && (b.toNat == 120 || b.toNat == 88)
  | _ => false

/-- A number's parts behind its sign: base, digits, and how many bytes it has there. -/
def bodyF (r : List UInt8) : Nat × List UInt8 × Nat :=
  if markB r = true ∧ dl 16 (r.drop 2) ≠ [] then (16, dl 16 (r.drop 2), 2 + (dl 16 (r.drop 2)).length) else (10, dl 10 r, (dl 10 r).length)
/-- How many bytes the sign has. -/
def sgn (l : List UInt8) : Nat := if minusB l then 1 else 0
/-- A number's value; none: it is too big. -/
def valF (m : Bool) (v : Nat) : Option Int :=
  if 18446744073709551615 < v ∨ (m = true ∧ 9223372036854775808 < v) then none
  else some (if m then -(v : Int) else if (v : Int) ≤ 9223372036854775807 then (v : Int) else (v : Int) - 18446744073709551616)
/-- The digits of the number with which a text begins, its base, its length, its value. -/
def digF (l : List UInt8) : List UInt8 := (bodyF (l.drop (sgn l))).2.1
def baseF (l : List UInt8) : Nat := (bodyF (l.drop (sgn l))).1
def lenF (l : List UInt8) : Nat := sgn l + (bodyF (l.drop (sgn l))).2.2
def numF (l : List UInt8) : Option Int := valF (minusB l) (val (baseF l) (digF l))

def nNum (n : Nat) : Option Int → Int × Nat × Nat
  | none => (0, 0, 41)
  | some v => (v, n, 0)
def pNum : Option Int → Int × Nat
  | none => (0, 41)
  | some v => (v, 0)
/-- What Next answers from a place on: value, length, error. -/
def nextO (l : List UInt8) : Int × Nat × Nat :=
  if digF l = [] then (0, 0, 40) else nNum (lenF l) (numF l)
/-- What Parse answers: value, error. -/
def parseO (l : List UInt8) : Int × Nat :=
  if digF l = [] ∨ lenF l ≠ l.length then (0, 40) else pNum (numF l)

theorem baseF_cases (l : List UInt8) : baseF l = 10 ∨ baseF l = 16 := by unfold baseF bodyF; split <;> simp
theorem minusB_pos {l : List UInt8} (h : minusB l = true) : 1 ≤ l.length := by cases l with | nil => cases h | cons c r => simp
theorem markB_len {l : List UInt8} (h : markB l = true) : 2 ≤ l.length := by
  match l, h with
  | a :: b :: r, _ => simp
theorem dl_len (b : Nat) (l : List UInt8) : (dl b l).length ≤ l.length := by unfold dl; exact (List.takeWhile_prefix _).length_le
theorem lenF_le (l : List UInt8) : lenF l ≤ l.length := by
  unfold lenF
  have hs : sgn l ≤ l.length := by
    unfold sgn; split
    · exact minusB_pos ‹_›
    · omega
  have hb : (bodyF (l.drop (sgn l))).2.2 ≤ (l.drop (sgn l)).length := by
    unfold bodyF
    split
    · rename_i h
      have h2 := markB_len h.1
      have h3 := dl_len 16 ((l.drop (sgn l)).drop 2)
      rw [List.length_drop] at h3
      show 2 + _ ≤ _
      omega
    · exact dl_len _ _
  rw [List.length_drop] at hb
  omega
theorem valF_bd {m : Bool} {v : Nat} {x : Int} (h : valF m v = some x) : -9223372036854775808 ≤ x ∧ x ≤ 9223372036854775807 := by
  unfold valF at h
  split at h
  · cases h
  · rename_i hn
    have h := Option.some.inj h
    subst h
    cases m <;> simp at hn ⊢ <;> (try split) <;> omega
end Go.Proofs.YtdjlfpkemdiadaaDoor.M
/- Worlds in which one block is new or turned; pieces of texts. -/
namespace Go.Proofs.YtdjlfpkemdiadaaDoor
open Go.RowKit M
set_option linter.unusedSimpArgs false
set_option linter.unusedVariables false

theorem heap_setRow (w : World) (b k : Nat) (c : Array Value) : (w.setRow b c).heap[k]? = if b = k then (w.heap[k]?).map (fun o => match o with | .cells _ t fr => .cells c t fr | o => o) else w.heap[k]? := by
  simp only [World.setRow]
  rw [Array.getElem?_modify]
  by_cases h : b = k
  · rw [if_pos h, if_pos h]
    cases w.heap[k]? with
    | none => rfl
    | some o => cases o <;> rfl
  · rw [if_neg h, if_neg h]
/-- A new block, laid last. -/
structure Fresh (w W : World) (b : Nat) : Prop where
  at' : b = w.heap.size
  size : W.heap.size = b + 1
  below : Below b w W
/-- One block of cells is turned. -/
structure Upd (w W : World) (b : Nat) : Prop where
  os : W.os = w.os
  tape : W.tape = w.tape
  output : W.output = w.output
  size : W.heap.size = w.heap.size
  block : ∀ k, k ≠ b → W.heap[k]? = w.heap[k]?
theorem Fresh.alloc (w : World) (o : Obj) : Fresh w (w.alloc o) w.heap.size := ⟨rfl, by simp, (Below.refl _ w).alloc (Nat.le_refl _) o⟩
theorem Fresh.trans {w0 w W : World} {B b : Nat} (h : Below B w0 w) (hB : B ≤ w.heap.size) (F : Fresh w W b) : Below B w0 W :=
  h.trans (F.below.mono (by have := F.at'; omega))
theorem Upd.setCell (w : World) (b o : Nat) (v : Value) : Upd w (w.setCell ⟨b, o, none⟩ v) b :=
  ⟨rfl, rfl, rfl, by simp [World.setCell], fun k hk => by
    show (w.heap.modify b _)[k]? = _
    rw [Array.getElem?_modify, if_neg (fun e => hk e.symm)]⟩
theorem Upd.setRow (w : World) (b : Nat) (c : Array Value) : Upd w (w.setRow b c) b :=
  ⟨rfl, rfl, rfl, by simp [World.setRow], fun k hk => by rw [heap_setRow, if_neg (fun e => hk e.symm)]⟩
theorem Upd.trans {w0 w W : World} {B b : Nat} (h : Below B w0 w) (hB : B ≤ b) (U : Upd w W b) : Below B w0 W :=
  ⟨U.os.trans h.os, U.tape.trans h.tape, U.output.trans h.output, by rw [U.size]; exact h.size, fun k hk => (U.block k (by omega)).trans (h.block k hk)⟩
theorem toL (s : ByteArray) : s.toList = s.data.toList := ByteArray.toList_eq s
theorem exL (s : ByteArray) (a b : Nat) : (s.extract a b).data.toList = (s.data.toList.take b).drop a := by
  rw [ByteArray.data_extract, Array.toList_extract]
  rw [List.extract_eq_take_drop, List.drop_take]
theorem exE (s : ByteArray) (a : Nat) : (s.extract a s.size).data.toList = s.data.toList.drop a := by
  rw [exL]; congr 1; exact List.take_of_length_le (by simp)
theorem sizeL (s : ByteArray) : s.size = s.data.toList.length := by simp
theorem emp_t {D : ByteArray} (h : D.data.toList = []) : D.toList.isEmpty = true := by rw [toL, h]; rfl
theorem emp_f {D : ByteArray} (h : D.data.toList ≠ []) : D.toList.isEmpty = false := by
  rw [toL]; cases e : D.data.toList with
  | nil => exact absurd e h
  | cons a r => rfl

theorem drop_get (s : ByteArray) (b j : Nat) (h : b + j < s.size) : (s.data.toList.drop b)[j]? = some s[b + j] := by
  rw [List.getElem?_drop, List.getElem?_eq_getElem (by simpa using h)]; rfl

theorem exSz (s : ByteArray) (b k : Nat) (h : b + k ≤ s.size) : (s.extract b (b + k)).size = k := by rw [ByteArray.size_extract]; omega
end Go.Proofs.YtdjlfpkemdiadaaDoor

/- M0, B0, WC1, WC2 -/
import Derived.Test.YtegpnicajlndlaaRows
import Derived.WalkKit
import Derived.WalkSpells
import Derived.WalkLawsBesides
import Derived.BigRegion
import Derived.BigQuiet
import Derived.Deep.QuietTactic
import Derived.Below
import Derived.Lib.SmallJoins
import Derived.Laws.AppendOwnNone
import Derived.Laws.Bits64b
import Derived.Laws.BitsLemmas
import Derived.Lib.EndianBits
import Derived.Lib.Slices
import Derived.Lib.Hide
import Derived.Laws.IdiomStrings
import Derived.OwnWalk
import Derived.BigCall
import Derived.Lib.Zigzag
namespace Go.Proofs.Ytegpnicajlndlaa.M
def encF : Nat → Nat → List UInt8
 | 0, u => [UInt8.ofNat u]
 | f + 1, u => if u < 128 then [UInt8.ofNat u] else UInt8.ofNat (u % 128 + 128) :: encF f (u / 128)
def enc (u : Nat) : List UInt8 := encF u u
def foldN (v : Int) : Nat := if v < 0 then (-2 * v - 1).toNat else (2 * v).toNat
def unfoldN (u : Nat) : Int := if u % 2 = 1 then -((u / 2 : Nat) : Int) - 1 else ((u / 2 : Nat) : Int)
def putL (v : Int) : List UInt8 := enc (foldN v)
def tk (k X : Nat) : List UInt8 → Option (Nat × Nat)
 | [] => none
 | c :: r => if 10 ≤ k then none else if (k = 9 ∧ 1 < c.toNat) ∨ (0 < k ∧ c.toNat = 0) then none
     else if c.toNat < 128 then some (X + c.toNat * 2 ^ (7 * k), k + 1) else tk (k + 1) (X + (c.toNat % 128) * 2 ^ (7 * k)) r
theorem encF_small {f u : Nat} (h : u < 128) : encF f u = [UInt8.ofNat u] := by
 cases f with
 | zero => rfl
 | succ f => rw [encF, if_pos h]
theorem encF_same : ∀ (f g u : Nat), u ≤ f → u ≤ g → encF f u = encF g u
 | 0, g, u, hf, hg => by rw [encF_small (by omega), encF_small (by omega)]
 | f + 1, 0, u, hf, hg => by rw [encF_small (by omega), encF_small (by omega)]
 | f + 1, g + 1, u, hf, hg => by
     by_cases h : u < 128
     · rw [encF_small h, encF_small h]
     · rw [encF, encF, if_neg h, if_neg h, encF_same f g (u / 128) (by omega) (by omega)]
theorem enc_small {u : Nat} (h : u < 128) : enc u = [UInt8.ofNat u] := encF_small h
theorem enc_great {u : Nat} (h : ¬ u < 128) : enc u = UInt8.ofNat (u % 128 + 128) :: enc (u / 128) := by
 unfold enc
 cases u with
 | zero => omega
 | succ u =>
     rw [encF, if_neg h, encF_same u ((u + 1) / 128) ((u + 1) / 128) (by omega) (Nat.le_refl _)]
theorem enc_pos (u : Nat) : 1 ≤ (enc u).length := by
 by_cases h : u < 128
 · rw [enc_small h]; simp
 · rw [enc_great h]; simp
theorem enc_len : ∀ (k u : Nat), u < 2 ^ (7 * k) → 1 ≤ k → (enc u).length ≤ k
 | 0, _, _, h => by omega
 | k + 1, u, hu, _ => by
     by_cases h : u < 128
     · rw [enc_small h]; simp
     · rw [enc_great h, List.length_cons]
       have e : 2 ^ (7 * (k + 1)) = 128 * 2 ^ (7 * k) := by rw [Nat.mul_add, Nat.pow_add]; omega
       have hk : 1 ≤ k := by
        rcases Nat.eq_zero_or_pos k with h0 | h0
        · subst h0; simp at hu; omega
        · exact h0
       have := enc_len k (u / 128) (by omega) hk
       omega
theorem foldN_lt {v : Int} (h0 : -9223372036854775808 ≤ v) (h1 : v ≤ 9223372036854775807) : foldN v < 18446744073709551616 := by unfold foldN; split <;> omega
theorem unfold_fold (v : Int) : unfoldN (foldN v) = v := by unfold foldN; split <;> (unfold unfoldN; split <;> omega)
theorem fold_unfold (u : Nat) : foldN (unfoldN u) = u := by unfold unfoldN; split <;> (unfold foldN; split <;> omega)
theorem unfoldN_bd {u : Nat} (h : u < 18446744073709551616) : -9223372036854775808 ≤ unfoldN u ∧ unfoldN u ≤ 9223372036854775807 := by unfold unfoldN; split <;> omega
theorem putL_len {v : Int} (h0 : -9223372036854775808 ≤ v) (h1 : v ≤ 9223372036854775807) : 1 ≤ (putL v).length ∧ (putL v).length ≤ 10 :=
 ⟨enc_pos _, enc_len 10 _ (Nat.lt_of_lt_of_le (foldN_lt h0 h1) (by decide)) (by omega)⟩
theorem pow7 (k : Nat) : 2 ^ (7 * (k + 1)) = 128 * 2 ^ (7 * k) := by rw [Nat.mul_add, Nat.pow_add]; omega
theorem pow7_pos (k : Nat) : 1 ≤ 2 ^ (7 * k) := Nat.one_le_two_pow
theorem tk_enc (r : List UInt8) : ∀ (d k u X : Nat), d + k = 10 → u * 2 ^ (7 * k) < 18446744073709551616 → (0 < k → 0 < u) → (k = 0 ∨ 1 ≤ d) →
    tk k X (enc u ++ r) = some (X + u * 2 ^ (7 * k), k + (enc u).length)
 | 0, k, u, X, hk, hu, hp, h01 => by omega
 | d + 1, k, u, X, hk, hu, hp, h01 => by
     by_cases h : u < 128
     · rw [enc_small h]
       have hc : (UInt8.ofNat u).toNat = u := by rw [UInt8.toNat_ofNat']; omega
       have h9 : k = 9 → u ≤ 1 := by intro e; subst e; simp at hu; omega
       rw [List.singleton_append, tk, if_neg (by omega), if_neg (by rw [hc]; omega), hc, if_pos h]
       rfl
     · rw [enc_great h]
       have hc : (UInt8.ofNat (u % 128 + 128)).toNat = u % 128 + 128 := by rw [UInt8.toNat_ofNat']; omega
       have hk9 : k ≠ 9 := by intro e; subst e; simp at hu; omega
       rw [List.cons_append, tk, if_neg (by omega), if_neg (by rw [hc]; omega), hc, if_neg (by omega)]
       have e : u * 2 ^ (7 * k) = (u % 128) * 2 ^ (7 * k) + (u / 128) * (128 * 2 ^ (7 * k)) := by
        have e1 : u = u % 128 + (u / 128) * 128 := by omega
        have : (u % 128 + (u / 128) * 128) * 2 ^ (7 * k) = (u % 128) * 2 ^ (7 * k) + (u / 128) * (128 * 2 ^ (7 * k)) := by rw [Nat.add_mul, Nat.mul_assoc]
        rw [← this, ← e1]
       rw [tk_enc r d (k + 1) (u / 128) _ (by omega) (by rw [pow7]; omega) (by omega) (Or.inr (by omega))]
       have e2 : (u % 128 + 128) % 128 = u % 128 := by omega
       rw [e2, pow7, List.length_cons]
       congr 2 <;> omega
theorem tk_aux (q u : Nat) (hq : q < 128) (hu : u * 9223372036854775808 < 18446744073709551616) : q * 72057594037927936 + u * 9223372036854775808 < 18446744073709551616 := by
 have h1 : u < 2 := Nat.lt_of_mul_lt_mul_right (a := 9223372036854775808) (by exact hu)
 have h2 : q * 72057594037927936 ≤ 127 * 72057594037927936 := Nat.mul_le_mul_right _ (Nat.le_of_lt_succ hq)
 have h3 : u * 9223372036854775808 ≤ 1 * 9223372036854775808 := Nat.mul_le_mul_right _ (Nat.le_of_lt_succ h1)
 exact Nat.lt_of_le_of_lt (Nat.add_le_add h2 h3) (by decide)
theorem enc_tk : ∀ (l : List UInt8) (k X U n : Nat), tk k X l = some (U, n) →
    ∃ u, U = X + u * 2 ^ (7 * k) ∧ n = k + (enc u).length ∧ (∃ r, l = enc u ++ r) ∧ (0 < k → 0 < u) ∧ u * 2 ^ (7 * k) < 18446744073709551616
 | [], k, X, U, n, h => by simp [tk] at h
 | c :: r, k, X, U, n, h => by
     rw [tk] at h
     by_cases h1 : 10 ≤ k
     · rw [if_pos h1] at h; cases h
     · rw [if_neg h1] at h
       by_cases h2 : (k = 9 ∧ 1 < c.toNat) ∨ (0 < k ∧ c.toNat = 0)
       · rw [if_pos h2] at h; cases h
       · rw [if_neg h2] at h
         by_cases h3 : c.toNat < 128
         · rw [if_pos h3] at h
           obtain ⟨rfl, rfl⟩ : X + c.toNat * 2 ^ (7 * k) = U ∧ k + 1 = n := by simpa using h
           refine ⟨c.toNat, rfl, ?_, ⟨r, ?_⟩, by omega, ?_⟩
           · rw [enc_small h3]; rfl
           · rw [enc_small h3]; simp
           · by_cases h9 : k = 9
             · subst h9; simp; omega
             · have : 2 ^ (7 * k) ≤ 2 ^ 56 := Nat.pow_le_pow_right (by omega) (by omega)
               have := Nat.mul_le_mul (Nat.le_of_lt_succ (Nat.lt_succ_of_lt h3)) this
               have e : (128 : Nat) * 2 ^ 56 = 9223372036854775808 := by decide
               omega
         · rw [if_neg h3] at h
           obtain ⟨u, hU, hn, ⟨t, ht⟩, hp, hl⟩ := enc_tk r _ _ _ _ h
           have hu0 : 0 < u := hp (by omega)
           have hcl := c.toNat_lt
           have hg : ¬ (c.toNat % 128 + u * 128) < 128 := by omega
           have hm : (c.toNat % 128 + u * 128) % 128 + 128 = c.toNat := by omega
           have hd : (c.toNat % 128 + u * 128) / 128 = u := by omega
           have e : (c.toNat % 128 + u * 128) * 2 ^ (7 * k) = (c.toNat % 128) * 2 ^ (7 * k) + u * 2 ^ (7 * (k + 1)) := by rw [Nat.add_mul, pow7, Nat.mul_assoc]
           refine ⟨c.toNat % 128 + u * 128, ?_, ?_, ⟨t, ?_⟩, by omega, ?_⟩
           · rw [e, hU]; omega
           · rw [enc_great hg, hd, hn, List.length_cons]; omega
           · rw [enc_great hg, hd, hm, UInt8.ofNat_toNat, ht]; rfl
           · rw [e]
             have hk9 : k ≠ 9 := by
              intro e9; subst e9
              rcases t with _ | _ <;> (have := enc_pos u; have hx : c.toNat ≤ 1 := by omega
                                       omega)
             by_cases h8 : k = 8
             · subst h8
               have e63 : (2 : Nat) ^ (7 * (8 + 1)) = 9223372036854775808 := by decide
               have e56 : (2 : Nat) ^ (7 * 8) = 72057594037927936 := by decide
               rw [e63] at hl ⊢
               rw [e56]
               exact tk_aux _ _ (Nat.mod_lt _ (by decide)) hl
             · have p1 : 2 ^ (7 * k) ≤ 2 ^ 49 := Nat.pow_le_pow_right (by omega) (by omega)
               have hq : u * 2 ^ (7 * (k + 1)) + 2 ^ (7 * (k + 1)) ≤ 18446744073709551616 := by
                have hdv : 2 ^ (7 * (k + 1)) ∣ 18446744073709551616 := by
                 have : (18446744073709551616 : Nat) = 2 ^ 64 := by decide
                 rw [this]; exact Nat.pow_dvd_pow 2 (by omega)
                obtain ⟨q, hq⟩ := hdv
                have hlt : u < q := by
                 refine Nat.lt_of_mul_lt_mul_right (a := 2 ^ (7 * (k + 1))) ?_
                 rw [Nat.mul_comm q]; omega
                have : (u + 1) * 2 ^ (7 * (k + 1)) ≤ q * 2 ^ (7 * (k + 1)) := Nat.mul_le_mul_right _ hlt
                rw [Nat.add_mul, Nat.one_mul, Nat.mul_comm q] at this
                omega
               have hc : (c.toNat % 128) * 2 ^ (7 * k) < 128 * 2 ^ (7 * k) := Nat.mul_lt_mul_of_pos_right (by omega) (pow7_pos k)
               rw [← pow7] at hc
               omega
def takeO (l : List UInt8) : Option (Int × Nat) := (tk 0 0 l).map fun p => (unfoldN p.1, p.2)
theorem takeO_put {v : Int} (h0 : -9223372036854775808 ≤ v) (h1 : v ≤ 9223372036854775807) (r : List UInt8) : takeO (putL v ++ r) = some (v, (putL v).length) := by
 unfold takeO putL
 rw [tk_enc r 10 0 (foldN v) 0 rfl (by simpa using foldN_lt h0 h1) (by omega) (Or.inl rfl)]
 simp [unfold_fold]
theorem put_takeO {l : List UInt8} {v : Int} {n : Nat} (h : takeO l = some (v, n)) :
    (-9223372036854775808 ≤ v ∧ v ≤ 9223372036854775807) ∧ n = (putL v).length ∧ ∃ r, l = putL v ++ r := by
 unfold takeO at h
 cases e : tk 0 0 l with
 | none => rw [e] at h; cases h
 | some p =>
     rw [e] at h
     obtain ⟨U, m⟩ := p
     obtain ⟨rfl, rfl⟩ : unfoldN U = v ∧ m = n := by simpa using h
     obtain ⟨u, hU, hn, hr, -, hl⟩ := enc_tk _ _ _ _ _ e
     have : U = u := by simpa using hU
     subst this
     refine ⟨unfoldN_bd (by simpa using hl), ?_, ?_⟩
     · unfold putL; rw [fold_unfold]; omega
     · unfold putL; rw [fold_unfold]; exact hr
end Go.Proofs.Ytegpnicajlndlaa.M
namespace Go.Proofs.Ytegpnicajlndlaa
open Go.RowKit M
set_option linter.unusedSimpArgs false
set_option linter.unusedVariables false
def intOf : Value → Int | .int _ q => q | _ => 0
theorem ret_int {k : IntKind} {a b : Int} (h : a = b) : Ending.returned (.int k a) = .returned (.int k b) := by rw [h]
theorem sP : (∀ (a : Act) (d : Tmp) (v : Value), a.put (some d) v = { a with tmps := a.tmps.setIfInBounds d v }) ∧ (∀ (a : Act) (v : Value), a.put none v = a) ∧ (∀ (l : List Value) (i : Nat) (v : Value), l.toArray.setIfInBounds i v = (l.set i v).toArray) ∧ (∀ (x : Value) (l : List Value) (v : Value), (x :: l).set 0 v = v :: l) ∧ (∀ (x : Value) (l : List Value) (i : Nat) (v : Value), (x :: l).set (i + 1) v = x :: l.set i v) := ⟨fun _ _ _ => rfl, fun _ _ => rfl, fun _ _ _ => by simp only [List.setIfInBounds_toArray], fun _ _ _ => rfl, fun _ _ _ _ => rfl⟩
theorem bR {B : Nat} {w : World} : Below B w w := Below.refl _ _
theorem oI {α : Type _} {a b : α} (h : some a = some b) : a = b := Option.some.inj h
theorem eE {α : Sort _} {p : α → Prop} {b : Prop} (h : ∃ x, p x) (k : ∀ a, p a → b) : b := Exists.elim h k
theorem fold_neg {v : Int} (h0 : -9223372036854775808 ≤ v) (hv : v < 0) : bits .xor .u64 IntKind.u64.max (IntKind.u64.wrap (IntKind.u64.wrap v * 2)) = ((foldN v : Nat) : Int) := by
 rw [Lib.zigzag_neg h0 hv]; unfold Lib.zigzag foldN; rw [if_neg (by omega), if_pos hv]
theorem fold_pos {v : Int} (hv : 0 ≤ v) : v * 2 = ((foldN v : Nat) : Int) := by unfold foldN; rw [if_neg (by omega)]; omega
theorem fold_any (v : Int) (h0 : -9223372036854775808 ≤ v) (h1 : v ≤ 9223372036854775807) (w : World) :
    Calls Try.prog 116 #[.int .i64 v] w fun e w' => e = .returned (.int .u64 (foldN v)) ∧ w' = w := by
 by_cases hv : v < 0
 · go_enter Try.func116, Try.ntmps116
   go_wp2
   go_ret
   exact ⟨ret_int (fold_neg h0 hv), rfl⟩
 · have hv' : 0 ≤ v := by omega
   go_enter Try.func116, Try.ntmps116
   go_wp2
   go_ret
   exact ⟨ret_int (fold_pos hv'), rfl⟩
theorem unfold_odd {u : Nat} (h : u < 18446744073709551616) (hv : u % 2 = 1) : bits .xor .i64 (-1) ((u : Int) / 2) = unfoldN u := by
 have e : (u : Int) / 2 = ((u / 2 : Nat) : Int) := by omega
 rw [e, Lib.i64_not _ (by omega)]; unfold unfoldN; rw [if_pos hv]
theorem unfold_even {u : Nat} (hv : ¬ u % 2 = 1) : (u : Int) / 2 = unfoldN u := by unfold unfoldN; rw [if_neg hv]; omega
theorem unfold_any (u : Nat) (h : u < 18446744073709551616) (w : World) :
    Calls Try.prog 130 #[.int .u64 u] w fun e w' => e = .returned (.int .i64 (unfoldN u)) ∧ w' = w := by
 by_cases hv : u % 2 = 1
 · go_enter Try.func130, Try.ntmps130
   go_wp2
   go_ret
   exact ⟨ret_int (unfold_odd ‹_› hv), rfl⟩
 · go_enter Try.func130, Try.ntmps130
   go_wp2
   go_ret
   exact ⟨ret_int (unfold_even hv), rfl⟩
def takeV : Option (Int × Nat) → Value
 | some (v, n) => .tuple #[.int .i64 v, .int .i64 n, .int .i64 0]
 | none => .tuple #[.int .i64 0, .int .i64 0, .int .i64 40]
def takeA (s : ByteArray) (at' : Int) : Option (Int × Nat) := if at' < 0 ∨ (s.size : Int) ≤ at' then none else takeO (s.data.toList.drop at'.toNat)
theorem drop_step (s : ByteArray) (a k : Nat) (h : a + k < s.size) : (s.data.toList.drop a).drop k = s[a + k] :: (s.data.toList.drop a).drop (k + 1) := by
 rw [List.drop_drop, List.drop_drop, ← Nat.add_assoc]
 rw [List.drop_eq_getElem_cons (by simpa using h)]
 rfl
theorem wdrop_end (s : ByteArray) (a k : Nat) (h : s.size ≤ a + k) : (s.data.toList.drop a).drop k = [] := by
 rw [List.drop_drop]; apply List.drop_eq_nil_of_le; simpa using h
theorem or_step {X d k : Nat} (hX : X < 2 ^ (7 * k)) (hs : d * 2 ^ (7 * k) < 18446744073709551616) (hk : 7 * k ≤ 63) :
    bits .or .u64 (X : Int) (IntKind.u64.wrap ((d : Int) * 2 ^ (7 * k))) = ((X + d * 2 ^ (7 * k) : Nat) : Int) := by
 have e : (d : Int) * 2 ^ (7 * k) = ((d * 2 ^ (7 * k) : Nat) : Int) := by rw [Int.natCast_mul, Int.natCast_pow]; rfl
 have hp : (2 : Nat) ^ (7 * k) ≤ 2 ^ 63 := Nat.pow_le_pow_right (by omega) hk
 have e63 : (2 : Nat) ^ 63 = 9223372036854775808 := by decide
 rw [e, IntWalk.u64_in _ ⟨by omega, by omega⟩, bits_or_u64_nat _ _ (by omega) hs]
 rw [Nat.or_comm, Nat.mul_comm d, ← Nat.two_pow_add_eq_or_of_lt hX, Nat.add_comm]
theorem digit_lt {k c : Nat} (hk : k < 10) (hc : c < 256) (h9 : k = 9 → c ≤ 1) : (c % 128) * 2 ^ (7 * k) < 18446744073709551616 := by
 by_cases e : k = 9
 · subst e
   have h1 := h9 rfl
   have h2 : (c % 128) * 2 ^ (7 * 9) ≤ 1 * 2 ^ (7 * 9) := Nat.mul_le_mul_right _ (by omega)
   exact Nat.lt_of_le_of_lt h2 (by decide)
 · have h2 : (c % 128) * 2 ^ (7 * k) ≤ 127 * 2 ^ (7 * 8) := Nat.mul_le_mul (by omega) (Nat.pow_le_pow_right (by omega) (by omega))
   exact Nat.lt_of_le_of_lt h2 (by decide)
theorem digit_next {X k d : Nat} (hX : X < 2 ^ (7 * k)) (hd : d < 128) : X + d * 2 ^ (7 * k) < 2 ^ (7 * (k + 1)) := by
 rw [pow7]
 have : d * 2 ^ (7 * k) ≤ 127 * 2 ^ (7 * k) := Nat.mul_le_mul_right _ (by omega)
 omega
theorem sum_lt {X d k : Nat} (hk : 7 * k ≤ 63) (hX : X < 2 ^ (7 * k)) (hd : d * 2 ^ (7 * k) < 18446744073709551616) : X + d * 2 ^ (7 * k) < 18446744073709551616 := by
 have hdv : 2 ^ (7 * k) ∣ 18446744073709551616 := by
  have : (18446744073709551616 : Nat) = 2 ^ 64 := by decide
  rw [this]; exact Nat.pow_dvd_pow 2 (by omega)
 obtain ⟨q, hq⟩ := hdv
 have hlt : d < q := by
  refine Nat.lt_of_mul_lt_mul_right (a := 2 ^ (7 * k)) ?_
  rw [Nat.mul_comm q]; omega
 have : (d + 1) * 2 ^ (7 * k) ≤ q * 2 ^ (7 * k) := Nat.mul_le_mul_right _ hlt
 rw [Nat.add_mul, Nat.one_mul, Nat.mul_comm q] at this
 omega
theorem unfold_int (x : Int) (U : Nat) (hx : x = (U : Int)) (h : U < 18446744073709551616) (w : World) :
    Calls Try.prog 130 #[.int .u64 x] w fun e w' => e = .returned (.int .i64 (unfoldN U)) ∧ w' = w := by rw [hx]; exact unfold_any U h w
def takeF (k X : Nat) (l : List UInt8) : Option (Int × Nat) := (tk k X l).map fun p => (unfoldN p.1, p.2)
theorem takeF_bad {k X : Nat} {c : UInt8} {r : List UInt8} (h : (k = 9 ∧ 1 < c.toNat) ∨ (0 < k ∧ c.toNat = 0)) : takeF k X (c :: r) = none := by
 unfold takeF; rw [tk]
 by_cases hk : 10 ≤ k
 · rw [if_pos hk]; rfl
 · rw [if_neg hk, if_pos h]; rfl
theorem takeF_last {k X : Nat} {c : UInt8} {r : List UInt8} (hk : k < 10) (h : ¬ ((k = 9 ∧ 1 < c.toNat) ∨ (0 < k ∧ c.toNat = 0))) (hc : c.toNat < 128) :
    takeF k X (c :: r) = some (unfoldN (X + (c.toNat % 128) * 2 ^ (7 * k)), k + 1) := by
 unfold takeF; rw [tk, if_neg (by omega), if_neg h, if_pos hc, Nat.mod_eq_of_lt hc]; rfl
theorem takeF_more {k X : Nat} {c : UInt8} {r : List UInt8} (hk : k < 10) (h : ¬ ((k = 9 ∧ 1 < c.toNat) ∨ (0 < k ∧ c.toNat = 0))) (hc : ¬ c.toNat < 128) :
    takeF k X (c :: r) = takeF (k + 1) (X + (c.toNat % 128) * 2 ^ (7 * k)) r := by
 unfold takeF; rw [tk, if_neg (by omega), if_neg h, if_neg hc]
theorem takeF_ten {k X : Nat} {l : List UInt8} (hk : 10 ≤ k) : takeF k X l = none := by
 unfold takeF
 cases l with
 | nil => rfl
 | cons c r => rw [tk, if_pos hk]; rfl
set_option maxRecDepth 100000 in
set_option maxHeartbeats 2000000 in
theorem take_any (s : ByteArray) (at' : Int) (hs : s.size ≤ maxLen) (w : World) :
    Calls Try.prog 128 #[.string s, .int .i64 at'] w fun e w' => e = .returned (takeV (takeA s at')) ∧ w' = w := by
 unfold maxLen at hs
 by_cases h1 : at' < 0
 · go_enter Try.func128, Try.ntmps128
   go_wp2
   go_ret3
   exact ⟨by unfold takeA; rw [if_pos (Or.inl h1)]; rfl, rfl⟩
 by_cases h2 : (s.size : Int) ≤ at'
 · go_enter Try.func128, Try.ntmps128
   go_wp2
   go_ret3
   exact ⟨by unfold takeA; rw [if_pos (Or.inr h2)]; rfl, rfl⟩
 obtain ⟨a, rfl⟩ : ∃ a : Nat, at' = a := ⟨at'.toNat, by omega⟩
 have ha : a < s.size := by omega
 have HT : Hid (takeA s (a : Int) = takeF 0 0 ((s.data.toList.drop a).drop 0)) := by
  show takeA s (a : Int) = _
  unfold takeA; rw [if_neg (by omega)]; rfl
 by_cases h10 : (10 : Int) ≤ (s.size : Int) - (a : Int)
 all_goals
  go_enter Try.func128, Try.ntmps128
  go_wp2
  go_loop [7, 23] (fun u i => ∃ k X : Nat, k ≤ 10 ∧ a + k ≤ s.size ∧ X < 2 ^ (7 * k) ∧ u = .int .u64 X ∧ i = .int .i64 k ∧ Hid (takeA s (a : Int) = takeF k X ((s.data.toList.drop a).drop k))) (fun _ i => 10 - (intOf i).toNat)
  case atStart => exact ⟨0, 0, by omega, by omega, by decide, rfl, rfl, HT⟩
  case round =>
   obtain ⟨k, X, hk, hak, hX, rfl, rfl, HD⟩ := hrel
   clear HT
   have HX : Hid (X < 2 ^ (7 * k)) := hX
   clear hX
   by_cases hlt : k < 10 ∧ a + k < s.size
   · obtain ⟨hk10, hin⟩ := hlt
     have HS : Hid ((s.data.toList.drop a).drop k = s[a + k] :: (s.data.toList.drop a).drop (k + 1)) := drop_step s a k hin
     have hc256 := s[a + k].toNat_lt
     by_cases hA : k = 9 ∧ 1 < s[a + k].toNat
     · have h9 : ((k : Int) == 9) = true := by simp; omega
       have hc1 : 1 < (s[a + k].toNat : Int) := by omega
       have HR : Hid (takeA s (a : Int) = none) := by
        show takeA s (a : Int) = none
        rw [HD.out, HS.out]; exact takeF_bad (Or.inl hA)
       clear HD HS HX hA
       go_wp2
       go_ret3
       exact ⟨by rw [HR.out]; rfl, rfl⟩
     by_cases hB : 0 < k ∧ s[a + k].toNat = 0
     · have HR : Hid (takeA s (a : Int) = none) := by
        show takeA s (a : Int) = none
        rw [HD.out, HS.out]; exact takeF_bad (Or.inr hB)
       have hk0 : (0 : Int) < k := by omega
       have hc0 : ((s[a + k].toNat : Int) == 0) = true := by simp; exact hB.2
       have hc1 : ((s[a + k].toNat : Int) ≤ 1) := by omega
       clear HD HS HX hA hB
       by_cases hk9 : k = 9
       · have h9 : ((k : Int) == 9) = true := by simp; omega
         clear hk9
         go_wp2
         go_ret3
         exact ⟨by rw [HR.out]; rfl, rfl⟩
       · have h9 : ((k : Int) == 9) = false := by simp; omega
         clear hk9
         go_wp2
         go_ret3
         exact ⟨by rw [HR.out]; rfl, rfl⟩
     have hbad : ¬ ((k = 9 ∧ 1 < s[a + k].toNat) ∨ (0 < k ∧ s[a + k].toNat = 0)) := by omega
     have hU := digit_next HX.out (Nat.mod_lt s[a + k].toNat (by decide : 128 > 0))
     obtain ⟨U, hUe⟩ : ∃ U, U = X + (s[a + k].toNat % 128) * 2 ^ (7 * k) := ⟨_, rfl⟩
     obtain ⟨y, hy⟩ : ∃ y : Int, y = (U : Int) := ⟨_, rfl⟩
     have hor : bits .or .u64 (X : Int) (IntKind.u64.wrap ((s[a + k].toNat : Int) % 128 * 2 ^ (7 * k))) = y := by
      have := or_step HX.out (digit_lt hk10 hc256 (by omega)) (by omega : 7 * k ≤ 63)
      rw [hy, hUe, ← this]; rfl
     have HU64 : Hid (U < 18446744073709551616) := by
      show U < 18446744073709551616
      have h1 := digit_lt hk10 hc256 (show k = 9 → s[a + k].toNat ≤ 1 by omega)
      rw [hUe]
      exact sum_lt (by omega) HX.out h1
     rw [← hUe] at hU
     have HU : Hid (U < 2 ^ (7 * (k + 1))) := hU
     have HUe : Hid (U = X + (s[a + k].toNat % 128) * 2 ^ (7 * k)) := hUe
     have Hy : Hid (y = (U : Int)) := hy
     clear hU hUe hy
     by_cases hC : s[a + k].toNat < 128
     · have h128 : (s[a + k].toNat : Int) < 128 := by omega
       have HR : Hid (takeA s (a : Int) = some (unfoldN U, k + 1)) := by
        show takeA s (a : Int) = _
        rw [HD.out, HS.out, HUe.out]; exact takeF_last hk10 hbad hC
       have hx : (k = 9 ∧ s[a + k].toNat = 1) ∨ k = 0 ∨ (0 < k ∧ k ≠ 9 ∧ s[a + k].toNat ≠ 0) := by omega
       clear hbad hA hB HX HD HS HU
       rcases hx with ⟨hx1, hx2⟩ | hx1 | ⟨hx0, hx1, hx2⟩
       · have h9 : ((k : Int) == 9) = true := by simp; omega
         have hc1 : ¬ 1 < (s[a + k].toNat : Int) := by omega
         have hk0 : (0 : Int) < k := by omega
         have hc0 : ((s[a + k].toNat : Int) == 0) = false := by simp; omega
         clear hx1 hx2
         go_wp2_with (go_at_call 130; refine (unfold_int _ U Hy.out HU64.out _).mono ?_; rintro e w' ⟨rfl, rfl⟩)
         go_ret3
         exact ⟨by rw [HR.out]; rfl, rfl⟩
       · have h9 : ((k : Int) == 9) = false := by simp; omega
         have hk0 : ¬ (0 : Int) < k := by omega
         clear hx1
         go_wp2_with (go_at_call 130; refine (unfold_int _ U Hy.out HU64.out _).mono ?_; rintro e w' ⟨rfl, rfl⟩)
         go_ret3
         exact ⟨by rw [HR.out]; rfl, rfl⟩
       · have h9 : ((k : Int) == 9) = false := by simp; omega
         have hk0 : (0 : Int) < k := by omega
         have hc0 : ((s[a + k].toNat : Int) == 0) = false := by simp; omega
         clear hx0 hx1 hx2
         go_wp2_with (go_at_call 130; refine (unfold_int _ U Hy.out HU64.out _).mono ?_; rintro e w' ⟨rfl, rfl⟩)
         go_ret3
         exact ⟨by rw [HR.out]; rfl, rfl⟩
     · have h128 : ¬ (s[a + k].toNat : Int) < 128 := by omega
       have HR : Hid (takeA s (a : Int) = takeF (k + 1) U ((s.data.toList.drop a).drop (k + 1))) := by
        show takeA s (a : Int) = _
        rw [HD.out, HS.out, HUe.out]; exact takeF_more hk10 hbad hC
       have hx : k = 0 ∨ (0 < k ∧ k ≠ 9) := by omega
       have hc0 : ((s[a + k].toNat : Int) == 0) = false := by simp; omega
       clear hbad hA hB HX HD HS
       have h9 : ((k : Int) == 9) = false := by simp; omega
       rcases hx with hx1 | ⟨hx0, hx1⟩
       · have hk0 : ¬ (0 : Int) < k := by omega
         clear hx1
         go_wp2
         go_round
         case rel => exact ⟨k + 1, U, by omega, by omega, HU.out, by rw [Hy.out], by go_num, HR⟩
         case measure => simp [intOf]; omega
       · have hk0 : (0 : Int) < k := by omega
         clear hx0 hx1
         go_wp2
         go_round
         case rel => exact ⟨k + 1, U, by omega, by omega, HU.out, by rw [Hy.out], by go_num, HR⟩
         case measure => simp [intOf]; omega
   · have HR : Hid (takeA s (a : Int) = none) := by
      show takeA s (a : Int) = none
      rw [HD.out]
      by_cases hk9 : k < 10
      · rw [wdrop_end s a k (by omega)]; rfl
      · exact takeF_ten (by omega)
     clear HD HX
     go_wp2
     go_ret3
     exact ⟨by rw [HR.out]; rfl, rfl⟩
end Go.Proofs.Ytegpnicajlndlaa

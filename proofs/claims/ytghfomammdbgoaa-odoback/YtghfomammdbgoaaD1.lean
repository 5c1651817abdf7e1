/- The product of two words, the quotient where the upper word is 0, and scale. -/
import Derived.Test.YtghfomammdbgoaaB0
import Derived.Test.YtghfomammdbgoaaSH
namespace Go.Proofs.Ytghfomammdbgoaa
open Go.RowKit K
set_option linter.unusedSimpArgs false
set_option linter.unusedVariables false

theorem mask32 (a : Nat) (ha : a < 18446744073709551616) : bits .and .u64 (a : Int) 4294967295 = ((a % 4294967296 : Nat) : Int) := Mul64.maskN a ha
theorem mulN (a b : Nat) : (a : Int) * (b : Int) = ((a * b : Nat) : Int) := Mul64.mulN a b
theorem addN (a b : Nat) : (a : Int) + (b : Int) = ((a + b : Nat) : Int) := Mul64.addN a b
theorem wrapU (a : Nat) (ha : a < 18446744073709551616) : IntKind.u64.wrap (a : Int) = (a : Int) := Mul64.wrapN a ha
theorem wrapM (a : Nat) : IntKind.u64.wrap (a : Int) = ((a % 18446744073709551616 : Nat) : Int) := Mul64.wrapM a

theorem mul64_any (x y : Nat) (hx : x < 18446744073709551616) (hy : y < 18446744073709551616) (w : World) :
    Calls Try.prog 71 #[.int .u64 x, .int .u64 y] w fun e w' => e = .returned (.tuple #[.int .u64 ((x * y / 18446744073709551616 : Nat) : Int), .int .u64 ((x * y % 18446744073709551616 : Nat) : Int)]) ∧ w' = w :=
  Try.bits_Mul64 x y hx hy w

set_option maxRecDepth 100000 in
set_option maxHeartbeats 1000000 in
theorem div64_low (l y : Nat) (hl : l < 18446744073709551616) (hy : y < 18446744073709551616) (h0 : 0 < y) (w : World) :
    Calls Try.prog 72 #[.int .u64 0, .int .u64 l, .int .u64 y] w fun e w' => e = .returned (.tuple #[.int .u64 ((l / y : Nat) : Int), .int .u64 ((l % y : Nat) : Int)]) ∧ ∃ n, w' = w.drewN n := by
  have h1 : (y : Int) ≠ 0 := by omega
  go_enter Try.func72, Try.ntmps72
  go_wp2
  go_quiet (fail)
  go_wp2
  go_ret2
  have e : IntKind.u64.wrap ((l : Int) / (y : Int)) = ((l / y : Nat) : Int) := by
    rw [show ((l : Int) / (y : Int)) = ((l / y : Nat) : Int) from rfl]
    exact wrapU _ (Nat.lt_of_le_of_lt (Nat.div_le_self _ _) hl)
  refine ⟨?_, _, rfl⟩
  show Ending.returned (.tuple #[.int .u64 (IntKind.u64.wrap ((l : Int) / (y : Int))), _]) = _
  rw [e]
  rfl

/-- What scale answers: the quotient, if it is a word's. -/
def scV (q : Nat) : Value := if q < 18446744073709551616 then .tuple #[.int .u64 (q : Nat), .bool true] else .tuple #[.int .u64 0, .bool false]

theorem mono_drew {P : Program} {f : FuncId} {args : Array Value} {w : World} {v : Value} (h : Calls P f args w fun e w' => e = .returned v ∧ ∃ n, w' = w.drewN n) :
    Calls P f args w fun e w' => e = .returned v ∧ Below w.heap.size w w' := h.mono fun e w' ⟨he, n, hn⟩ => ⟨he, by rw [hn]; exact below_drewN (Below.refl _ _) n⟩

set_option maxRecDepth 100000 in
/-- Where the product is a word's. -/
theorem scale_low (c a b : Nat) (hc : c < 18446744073709551616) (ha : a < 9223372036854775808) (hb : b < 9223372036854775808) (h0 : 0 < b) (hp : c * a < 18446744073709551616) (w : World) :
    Calls Try.prog 68 #[.int .u64 c, .int .i64 a, .int .i64 b] w fun e w' => e = .returned (scV (c * a / b)) ∧ Below w.heap.size w w' := by
  have c1 := mul64_any c a hc (by omega) w
  have e1 : c * a / 18446744073709551616 = 0 := Nat.div_eq_of_lt hp
  have e2 : c * a % 18446744073709551616 = c * a := Nat.mod_eq_of_lt hp
  rw [e1, e2] at c1
  have c2 := mono_drew (div64_low (c * a) b hp (by omega) h0 w)
  have hq : c * a / b < 18446744073709551616 := Nat.lt_of_le_of_lt (Nat.div_le_self _ _) hp
  have E : Hid (scV (c * a / b) = .tuple #[.int .u64 ((c * a / b : Nat) : Int), .bool true]) := if_pos hq
  generalize scV (c * a / b) = V at *
  generalize c * a / b = q at *
  generalize c * a % b = r at *
  generalize c * a = m at *
  have wa : IntKind.u64.wrap (a : Int) = (a : Int) := wrapU a (by omega)
  have wb : IntKind.u64.wrap (b : Int) = (b : Int) := wrapU b (by omega)
  go_enter Try.func68, Try.ntmps68
  go_wp2_with (first
    | (go_at_call 71; refine c1.mono ?_; rintro e w' ⟨rfl, hw'⟩; replace hw' := hw'.symm; subst hw')
    | (go_at_call 72; refine c2.mono ?_; rintro e w2 ⟨rfl, hB⟩))
  go_ret2
  exact ⟨congrArg Ending.returned E.out.symm, hB⟩

set_option maxRecDepth 100000 in
/-- By one: whether the product is a word's. -/
theorem scale_one (c a : Nat) (hc : c < 18446744073709551616) (ha : a < 9223372036854775808) (w : World) :
    Calls Try.prog 68 #[.int .u64 c, .int .i64 a, .int .i64 1] w fun e w' => e = .returned (scV (c * a)) ∧ Below w.heap.size w w' := by
  by_cases hp : c * a < 18446744073709551616
  · have := scale_low c a 1 hc ha (by omega) (by omega) hp w
    rw [Nat.div_one] at this
    exact this
  · have c1 := mul64_any c a hc (by omega) w
    have hh : 1 ≤ c * a / 18446744073709551616 := by omega
    have E : Hid (scV (c * a) = .tuple #[.int .u64 0, .bool false]) := if_neg hp
    generalize scV (c * a) = V at *
    generalize c * a / 18446744073709551616 = h at *
    generalize c * a % 18446744073709551616 = l at *
    have wa : IntKind.u64.wrap (a : Int) = (a : Int) := wrapU a (by omega)
    go_enter Try.func68, Try.ntmps68
    go_wp2_with (first
      | (go_at_call 71; refine c1.mono ?_; rintro e w' ⟨rfl, hw'⟩; replace hw' := hw'.symm; subst hw'))
    go_ret2
    exact ⟨congrArg Ending.returned E.out.symm, Below.refl _ _⟩
end Go.Proofs.Ytghfomammdbgoaa

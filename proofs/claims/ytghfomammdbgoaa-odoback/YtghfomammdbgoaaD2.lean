/- The quotient of two words by a small one, and scale for small divisors. -/
import Derived.Test.YtghfomammdbgoaaD1
import Derived.Test.YtghfomammdbgoaaSH
import Derived.Lib.ItoaNum
namespace Go.Proofs.Ytghfomammdbgoaa
open Go.RowKit K
set_option linter.unusedSimpArgs false
set_option linter.unusedVariables false

/-- The school method, where the divisor's lower half is 0: B is the shift. -/
structure Div (h l y B C B1 : Nat) : Prop where
  bc : B * C = 18446744073709551616
  b1 : B = B1 * 4294967296
  pos : 0 < y
  hy : h < y
  yc : y < C
  lw : l < 18446744073709551616
  bp : 0 < B1

def dU (h l B C : Nat) : Nat := h * B + l / C
def dV (l B : Nat) : Nat := l * B % 18446744073709551616
def dY (y B1 : Nat) : Nat := y * B1
def dN (h l y B C B1 : Nat) : Nat := dU h l B C % dY y B1 * 4294967296 + dV l B / 4294967296

theorem Div.yB {h l y B C B1 : Nat} (D : Div h l y B C B1) : y * B = dY y B1 * 4294967296 := by unfold dY; rw [D.b1, Nat.mul_assoc]
theorem Div.yw {h l y B C B1 : Nat} (D : Div h l y B C B1) : y * B < 18446744073709551616 := by
  have h1 : y * B < C * B := Nat.mul_lt_mul_of_pos_right D.yc (by rw [D.b1]; exact Nat.mul_pos D.bp (by omega))
  have := D.bc
  rw [Nat.mul_comm] at this
  omega
theorem Div.lc {h l y B C B1 : Nat} (D : Div h l y B C B1) : l / C < B := by
  apply Nat.div_lt_of_lt_mul
  rw [Nat.mul_comm, D.bc]
  exact D.lw
theorem Div.ult {h l y B C B1 : Nat} (D : Div h l y B C B1) : dU h l B C < y * B := by
  have h1 := D.lc
  have h2 : (h + 1) * B ≤ y * B := Nat.mul_le_mul_right _ D.hy
  rw [Nat.succ_mul] at h2
  unfold dU
  omega
theorem Div.ypos {h l y B C B1 : Nat} (D : Div h l y B C B1) : 0 < dY y B1 := Nat.mul_pos D.pos D.bp
theorem Div.q1 {h l y B C B1 : Nat} (D : Div h l y B C B1) : dU h l B C / dY y B1 < 4294967296 := by
  apply Nat.div_lt_of_lt_mul
  have := D.ult
  rw [D.yB] at this
  exact this
theorem Div.nlt {h l y B C B1 : Nat} (D : Div h l y B C B1) : dN h l y B C B1 < dY y B1 * 4294967296 := by
  have h1 : dU h l B C % dY y B1 < dY y B1 := Nat.mod_lt _ D.ypos
  have h2 : dV l B / 4294967296 < 4294967296 := by unfold dV; omega
  have h3 : (dU h l B C % dY y B1 + 1) * 4294967296 ≤ dY y B1 * 4294967296 := Nat.mul_le_mul_right _ h1
  unfold dN
  omega
theorem Div.q0 {h l y B C B1 : Nat} (D : Div h l y B C B1) : dN h l y B C B1 / dY y B1 < 4294967296 := by
  apply Nat.div_lt_of_lt_mul
  exact D.nlt
theorem div_low (U V : Nat) : (U * 18446744073709551616 + V) / 4294967296 = U * 4294967296 + V / 4294967296 := by omega
theorem wrap_top (Q1 Q0 : Nat) (h1 : Q1 < 4294967296) (h0 : Q0 < 4294967296) : ∃ P1 : Nat, IntKind.u64.wrap ((Q1 : Int) * 4294967296) = (P1 : Int) ∧ IntKind.u64.wrap ((P1 : Int) + (Q0 : Int)) = ((Q1 * 4294967296 + Q0 : Nat) : Int) :=
  ⟨Q1 * 4294967296, by rw [IntKind.wrap_u64]; omega, by rw [IntKind.wrap_u64]; omega⟩
theorem wrap_mid (U V1 M1 R1 N : Nat) (hU : M1 + R1 = U) (hN : N = R1 * 4294967296 + V1) (hn : N < 18446744073709551616) : ∃ Z1 Z2 Z3 : Nat, IntKind.u64.wrap ((U : Int) * 4294967296) = (Z1 : Int) ∧ IntKind.u64.wrap ((Z1 : Int) + (V1 : Int)) = (Z2 : Int) ∧
    ((M1 * 4294967296 % 18446744073709551616 : Nat) : Int) = (Z3 : Int) ∧ IntKind.u64.wrap ((Z2 : Int) - (Z3 : Int)) = (N : Int) :=
  ⟨U * 4294967296 % 18446744073709551616, (U * 4294967296 % 18446744073709551616 + V1) % 18446744073709551616, M1 * 4294967296 % 18446744073709551616, by rw [IntKind.wrap_u64]; omega, by rw [IntKind.wrap_u64]; omega, rfl, by rw [IntKind.wrap_u64]; omega⟩
theorem wrap_some (x : Int) : ∃ X : Nat, IntKind.u64.wrap x = (X : Int) := ⟨(IntKind.u64.wrap x).toNat, by rw [IntKind.wrap_u64]; omega⟩
theorem wrap_sub (U M R : Nat) (h : M + R = U) (hu : U < 18446744073709551616) : IntKind.u64.wrap ((U : Int) - (M : Int)) = (R : Int) := by rw [IntKind.wrap_u64]; omega
theorem Div.hB {h l y B C B1 : Nat} (D : Div h l y B C B1) : h * B < 18446744073709551616 := by
  have h1 := D.ult
  have h2 := D.yw
  have h3 : h * B ≤ dU h l B C := Nat.le_add_right _ _
  omega
set_option maxRecDepth 100000 in
theorem Div.res {h l y B C B1 : Nat} (D : Div h l y B C B1) : (h * 18446744073709551616 + l) / y = dU h l B C / dY y B1 * 4294967296 + dN h l y B C B1 / dY y B1 := by
  have hB : 0 < B := by rw [D.b1]; exact Nat.mul_pos D.bp (by omega)
  have hC : 0 < C := by have := D.yc; omega
  have e1 : (h * 18446744073709551616 + l) / y = ((h * 18446744073709551616 + l) * B) / (y * B) := (Nat.mul_div_mul_right _ _ hB).symm
  have e2 : l * B / 18446744073709551616 = l / C := by
    rw [← D.bc, Nat.mul_comm B C]
    exact Nat.mul_div_mul_right _ _ hB
  have e3 : l * B = l / C * 18446744073709551616 + dV l B := by
    have := Nat.div_add_mod (l * B) 18446744073709551616
    unfold dV
    rw [e2] at this
    omega
  have e4 : (h * 18446744073709551616 + l) * B = dU h l B C * 18446744073709551616 + dV l B := by
    have a1 : (h * 18446744073709551616 + l) * B = h * 18446744073709551616 * B + l * B := Nat.add_mul _ _ _
    have a2 : h * 18446744073709551616 * B = h * B * 18446744073709551616 := by rw [Nat.mul_assoc, Nat.mul_comm 18446744073709551616 B, ← Nat.mul_assoc]
    have a3 : dU h l B C * 18446744073709551616 = h * B * 18446744073709551616 + l / C * 18446744073709551616 := Nat.add_mul _ _ _
    rw [a1, a2, a3, e3, Nat.add_assoc]
  rw [e1, e4, D.yB]
  have e5 := div_low (dU h l B C) (dV l B)
  rw [Nat.mul_comm (dY y B1) 4294967296, ← Nat.div_div_eq_div_mul, e5]
  have hU := Nat.div_add_mod (dU h l B C) (dY y B1)
  have e6 : dU h l B C * 4294967296 + dV l B / 4294967296 = dN h l y B C B1 + dY y B1 * (dU h l B C / dY y B1 * 4294967296) := by
    unfold dN
    rw [← Nat.mul_assoc]
    generalize dY y B1 * (dU h l B C / dY y B1) = p at *
    omega
  rw [e6, Nat.add_mul_div_left _ _ D.ypos]
  omega

theorem or_add (a b s : Nat) (hb : b < 2 ^ s) : a * 2 ^ s ||| b = a * 2 ^ s + b := by
  rw [Nat.mul_comm]
  exact (Nat.two_pow_add_eq_or_of_lt hb a).symm

set_option maxRecDepth 100000 in
set_option maxHeartbeats 2000000 in
theorem div64_57 (h l y : Nat) (w : World) (hh : 0 < h) (D : Div h l y 144115188075855872 128 33554432) (c : Calls Try.prog 73 #[.int .u64 y] w fun e w' => e = .returned (.int .i64 57) ∧ w' = w) :
    Calls Try.prog 72 #[.int .u64 h, .int .u64 l, .int .u64 y] w fun e w' => (∃ r : Int, e = .returned (.tuple #[.int .u64 ((h * 18446744073709551616 + l) / y : Nat), .int .u64 r])) ∧ w' = w := by
  have h1 : ¬ ((y : Int) = 0) := by have := D.pos; omega
  have h2 : ¬ ((y : Int) ≤ (h : Int)) := by have := D.hy; omega
  have h3 : ¬ ((h : Int) = 0) := by omega
  have HR : Hid ((h * 18446744073709551616 + l) / y = dU h l 144115188075855872 128 / dY y 33554432 * 4294967296 + dN h l y 144115188075855872 128 33554432 / dY y 33554432) := D.res
  have yw := D.yw
  have hlc := D.lc
  have hult := D.ult
  have hq1 := D.q1
  have hq0 := D.q0
  have hn := D.nlt
  have hyp := D.ypos
  have hlw := D.lw
  have hyB := D.yB
  have hyc := D.yc
  have hhy := D.hy
  have hNd : dN h l y 144115188075855872 128 33554432 = dU h l 144115188075855872 128 % dY y 33554432 * 4294967296 + dV l 144115188075855872 / 4294967296 := rfl
  have hU1 := Nat.div_add_mod (dU h l 144115188075855872 128) (dY y 33554432)
  have hN1 := Nat.div_add_mod (dN h l y 144115188075855872 128 33554432) (dY y 33554432)
  have f1 : (y : Int) * 144115188075855872 / 4294967296 = (dY y 33554432 : Nat) := by have : dY y 33554432 = y * 33554432 := rfl; omega
  have f2 : bits .and .u64 ((y : Int) * 144115188075855872) 4294967295 = 0 := by
    have := mask32 (y * 144115188075855872) yw
    rw [hyB, Nat.mul_mod_left] at this
    rw [show ((y : Int) * 144115188075855872) = ((dY y 33554432 * 4294967296 : Nat) : Int) by omega]
    exact this
  have f3 : bits .or .u64 ((h : Int) * 144115188075855872) ((l : Int) / 128) = (dU h l 144115188075855872 128 : Nat) := by
    have e : (h * 144115188075855872) ||| (l / 128) = dU h l 144115188075855872 128 := or_add h (l / 128) 57 hlc
    have := bits_or_u64_nat (h * 144115188075855872) (l / 128) D.hB (Nat.lt_trans hlc (by decide))
    rw [e] at this
    exact this
  have f4 : IntKind.u64.wrap ((l : Int) * 144115188075855872) = (dV l 144115188075855872 : Nat) := by
    unfold dV; rw [show ((l : Int) * 144115188075855872) = ((l * 144115188075855872 : Nat) : Int) by omega, wrapM]
  have hv : dV l 144115188075855872 < 18446744073709551616 := Nat.mod_lt _ (by omega)
  generalize dU h l 144115188075855872 128 = U at *
  generalize dY y 33554432 = Y at *
  generalize dN h l y 144115188075855872 128 33554432 = N at *
  generalize dV l 144115188075855872 = V at *
  clear D
  have f5 : (V : Int) / 4294967296 = ((V / 4294967296 : Nat) : Int) := rfl
  have f6 : bits .and .u64 (V : Int) 4294967295 = ((V % 4294967296 : Nat) : Int) := mask32 V hv
  obtain ⟨Q1, eQ1⟩ : ∃ Q, U / Y = Q := ⟨_, rfl⟩
  obtain ⟨R1, eR1⟩ : ∃ R, U % Y = R := ⟨_, rfl⟩
  obtain ⟨Q0, eQ0⟩ : ∃ Q, N / Y = Q := ⟨_, rfl⟩
  obtain ⟨R0, eR0⟩ : ∃ R, N % Y = R := ⟨_, rfl⟩
  obtain ⟨V1, eV1⟩ : ∃ R, V / 4294967296 = R := ⟨_, rfl⟩
  obtain ⟨V0, eV0⟩ : ∃ R, V % 4294967296 = R := ⟨_, rfl⟩
  have f7 : IntKind.u64.wrap ((U : Int).tdiv (Y : Int)) = (Q1 : Int) := by rw [show (U : Int).tdiv (Y : Int) = ((U / Y : Nat) : Int) from rfl, eQ1]; exact wrapU _ (by omega)
  have f7b : IntKind.u64.wrap ((U : Int) / (Y : Int)) = (Q1 : Int) := by rw [show (U : Int) / (Y : Int) = ((U / Y : Nat) : Int) from rfl, eQ1]; exact wrapU _ (by omega)
  have f16 : IntKind.u64.wrap ((N : Int).tdiv (Y : Int)) = (Q0 : Int) := by rw [show (N : Int).tdiv (Y : Int) = ((N / Y : Nat) : Int) from rfl, eQ0]; exact wrapU _ (by omega)
  have f16b : IntKind.u64.wrap ((N : Int) / (Y : Int)) = (Q0 : Int) := by rw [show (N : Int) / (Y : Int) = ((N / Y : Nat) : Int) from rfl, eQ0]; exact wrapU _ (by omega)
  rw [eQ1] at hU1 hq1 HR
  rw [eR1] at hU1 hNd
  rw [eQ0] at hN1 hq0 HR
  rw [eR0] at hN1
  rw [eV1] at f5 hNd
  rw [eV0] at f6
  have hvv : V = V1 * 4294967296 + V0 := by omega
  have hV1 : V1 < 4294967296 := by omega
  have hV0 : V0 < 4294967296 := by omega
  clear eQ1 eR1 eQ0 eR0 eV1 eV0
  rw [Nat.mul_comm] at hU1 hN1
  obtain ⟨M1, eM1⟩ : ∃ M, Q1 * Y = M := ⟨_, rfl⟩
  obtain ⟨M0, eM0⟩ : ∃ M, Q0 * Y = M := ⟨_, rfl⟩
  have f8 : IntKind.u64.wrap ((Q1 : Int) * (Y : Int)) = (M1 : Int) := by rw [mulN, eM1]; exact wrapU _ (by omega)
  have f17 : IntKind.u64.wrap ((Q0 : Int) * (Y : Int)) = (M0 : Int) := by rw [mulN, eM0]; exact wrapU _ (by omega)
  have f14 : IntKind.u64.wrap ((Q1 : Int) * ((y : Int) * 144115188075855872)) = ((M1 * 4294967296 % 18446744073709551616 : Nat) : Int) := by
    rw [show ((Q1 : Int) * ((y : Int) * 144115188075855872)) = ((Q1 * (y * 144115188075855872) : Nat) : Int) by rw [Int.natCast_mul]; congr 1, hyB, ← Nat.mul_assoc, eM1, wrapM]
  rw [eM1] at hU1
  rw [eM0] at hN1
  clear eM1 eM0
  have hNw : N < 18446744073709551616 := Nat.lt_trans hn (by rw [← hyB]; exact yw)
  have hUw : U < 18446744073709551616 := Nat.lt_trans hult yw
  have f9 := wrap_sub U M1 R1 hU1 hUw
  have f18 := wrap_sub N M0 R0 hN1 hNw
  have g1 : (4294967296 ≤ (Q1 : Int)) = False := eq_false (fun h => absurd hq1 (Nat.not_lt.2 (Int.ofNat_le.1 h)))
  have g2 : (4294967296 ≤ (Q0 : Int)) = False := eq_false (fun h => absurd hq0 (Nat.not_lt.2 (Int.ofNat_le.1 h)))
  obtain ⟨R2, f10⟩ := wrap_some (4294967296 * (R1 : Int))
  obtain ⟨R3, f19⟩ := wrap_some (4294967296 * (R0 : Int))
  obtain ⟨N2, f11⟩ := wrap_some ((R2 : Int) + (V1 : Int))
  obtain ⟨N0, f20⟩ := wrap_some ((R3 : Int) + (V0 : Int))
  obtain ⟨Z1, Z2, Z3, f12, f13, hZ3, f15⟩ := wrap_mid U V1 M1 R1 N hU1 hNd hNw
  rw [hZ3] at f14
  obtain ⟨P1, f21, f22⟩ := wrap_top Q1 Q0 hq1 hq0
  rw [← HR.out] at f22
  generalize (h * 18446744073709551616 + l) / y = Q at *
  have hY0 : ¬ ((Y : Int) = 0) := by omega
  clear hZ3 hNw hUw hU1 hN1 hNd hvv hV1 hV0 hv hq1 hq0 hn hult hlc yw hyB hlw HR hh
  go_enter Try.func72, Try.ntmps72
  go_wp2_with (go_at_call 73; refine c.mono ?_; rintro e w' ⟨rfl, hw'⟩; replace hw' := hw'.symm; subst hw')
  go_loop [15, 16] (fun q r => q = .int .u64 (Q1 : Nat) ∧ r = .int .u64 (R1 : Nat)) (fun _ _ => 0)
  case atStart => exact ⟨rfl, rfl⟩
  case round =>
    obtain ⟨rfl, rfl⟩ := hrel
    go_wp2
    go_loop [18, 16] (fun q r => q = .int .u64 (Q0 : Nat) ∧ r = .int .u64 (R0 : Nat)) (fun _ _ => 0)
    case atStart => exact ⟨rfl, rfl⟩
    case round =>
      obtain ⟨rfl, rfl⟩ := hrel
      go_wp2
      go_ret2
      exact ⟨⟨_, rfl⟩, rfl⟩

set_option maxRecDepth 100000 in
set_option maxHeartbeats 2000000 in
theorem div64_58 (h l y : Nat) (w : World) (hh : 0 < h) (D : Div h l y 288230376151711744 64 67108864) (c : Calls Try.prog 73 #[.int .u64 y] w fun e w' => e = .returned (.int .i64 58) ∧ w' = w) :
    Calls Try.prog 72 #[.int .u64 h, .int .u64 l, .int .u64 y] w fun e w' => (∃ r : Int, e = .returned (.tuple #[.int .u64 ((h * 18446744073709551616 + l) / y : Nat), .int .u64 r])) ∧ w' = w := by
  have h1 : ¬ ((y : Int) = 0) := by have := D.pos; omega
  have h2 : ¬ ((y : Int) ≤ (h : Int)) := by have := D.hy; omega
  have h3 : ¬ ((h : Int) = 0) := by omega
  have HR : Hid ((h * 18446744073709551616 + l) / y = dU h l 288230376151711744 64 / dY y 67108864 * 4294967296 + dN h l y 288230376151711744 64 67108864 / dY y 67108864) := D.res
  have yw := D.yw
  have hlc := D.lc
  have hult := D.ult
  have hq1 := D.q1
  have hq0 := D.q0
  have hn := D.nlt
  have hyp := D.ypos
  have hlw := D.lw
  have hyB := D.yB
  have hyc := D.yc
  have hhy := D.hy
  have hNd : dN h l y 288230376151711744 64 67108864 = dU h l 288230376151711744 64 % dY y 67108864 * 4294967296 + dV l 288230376151711744 / 4294967296 := rfl
  have hU1 := Nat.div_add_mod (dU h l 288230376151711744 64) (dY y 67108864)
  have hN1 := Nat.div_add_mod (dN h l y 288230376151711744 64 67108864) (dY y 67108864)
  have f1 : (y : Int) * 288230376151711744 / 4294967296 = (dY y 67108864 : Nat) := by have : dY y 67108864 = y * 67108864 := rfl; omega
  have f2 : bits .and .u64 ((y : Int) * 288230376151711744) 4294967295 = 0 := by
    have := mask32 (y * 288230376151711744) yw
    rw [hyB, Nat.mul_mod_left] at this
    rw [show ((y : Int) * 288230376151711744) = ((dY y 67108864 * 4294967296 : Nat) : Int) by omega]
    exact this
  have f3 : bits .or .u64 ((h : Int) * 288230376151711744) ((l : Int) / 64) = (dU h l 288230376151711744 64 : Nat) := by
    have e : (h * 288230376151711744) ||| (l / 64) = dU h l 288230376151711744 64 := or_add h (l / 64) 58 hlc
    have := bits_or_u64_nat (h * 288230376151711744) (l / 64) D.hB (Nat.lt_trans hlc (by decide))
    rw [e] at this
    exact this
  have f4 : IntKind.u64.wrap ((l : Int) * 288230376151711744) = (dV l 288230376151711744 : Nat) := by
    unfold dV; rw [show ((l : Int) * 288230376151711744) = ((l * 288230376151711744 : Nat) : Int) by omega, wrapM]
  have hv : dV l 288230376151711744 < 18446744073709551616 := Nat.mod_lt _ (by omega)
  generalize dU h l 288230376151711744 64 = U at *
  generalize dY y 67108864 = Y at *
  generalize dN h l y 288230376151711744 64 67108864 = N at *
  generalize dV l 288230376151711744 = V at *
  clear D
  have f5 : (V : Int) / 4294967296 = ((V / 4294967296 : Nat) : Int) := rfl
  have f6 : bits .and .u64 (V : Int) 4294967295 = ((V % 4294967296 : Nat) : Int) := mask32 V hv
  obtain ⟨Q1, eQ1⟩ : ∃ Q, U / Y = Q := ⟨_, rfl⟩
  obtain ⟨R1, eR1⟩ : ∃ R, U % Y = R := ⟨_, rfl⟩
  obtain ⟨Q0, eQ0⟩ : ∃ Q, N / Y = Q := ⟨_, rfl⟩
  obtain ⟨R0, eR0⟩ : ∃ R, N % Y = R := ⟨_, rfl⟩
  obtain ⟨V1, eV1⟩ : ∃ R, V / 4294967296 = R := ⟨_, rfl⟩
  obtain ⟨V0, eV0⟩ : ∃ R, V % 4294967296 = R := ⟨_, rfl⟩
  have f7 : IntKind.u64.wrap ((U : Int).tdiv (Y : Int)) = (Q1 : Int) := by rw [show (U : Int).tdiv (Y : Int) = ((U / Y : Nat) : Int) from rfl, eQ1]; exact wrapU _ (by omega)
  have f7b : IntKind.u64.wrap ((U : Int) / (Y : Int)) = (Q1 : Int) := by rw [show (U : Int) / (Y : Int) = ((U / Y : Nat) : Int) from rfl, eQ1]; exact wrapU _ (by omega)
  have f16 : IntKind.u64.wrap ((N : Int).tdiv (Y : Int)) = (Q0 : Int) := by rw [show (N : Int).tdiv (Y : Int) = ((N / Y : Nat) : Int) from rfl, eQ0]; exact wrapU _ (by omega)
  have f16b : IntKind.u64.wrap ((N : Int) / (Y : Int)) = (Q0 : Int) := by rw [show (N : Int) / (Y : Int) = ((N / Y : Nat) : Int) from rfl, eQ0]; exact wrapU _ (by omega)
  rw [eQ1] at hU1 hq1 HR
  rw [eR1] at hU1 hNd
  rw [eQ0] at hN1 hq0 HR
  rw [eR0] at hN1
  rw [eV1] at f5 hNd
  rw [eV0] at f6
  have hvv : V = V1 * 4294967296 + V0 := by omega
  have hV1 : V1 < 4294967296 := by omega
  have hV0 : V0 < 4294967296 := by omega
  clear eQ1 eR1 eQ0 eR0 eV1 eV0
  rw [Nat.mul_comm] at hU1 hN1
  obtain ⟨M1, eM1⟩ : ∃ M, Q1 * Y = M := ⟨_, rfl⟩
  obtain ⟨M0, eM0⟩ : ∃ M, Q0 * Y = M := ⟨_, rfl⟩
  have f8 : IntKind.u64.wrap ((Q1 : Int) * (Y : Int)) = (M1 : Int) := by rw [mulN, eM1]; exact wrapU _ (by omega)
  have f17 : IntKind.u64.wrap ((Q0 : Int) * (Y : Int)) = (M0 : Int) := by rw [mulN, eM0]; exact wrapU _ (by omega)
  have f14 : IntKind.u64.wrap ((Q1 : Int) * ((y : Int) * 288230376151711744)) = ((M1 * 4294967296 % 18446744073709551616 : Nat) : Int) := by
    rw [show ((Q1 : Int) * ((y : Int) * 288230376151711744)) = ((Q1 * (y * 288230376151711744) : Nat) : Int) by rw [Int.natCast_mul]; congr 1, hyB, ← Nat.mul_assoc, eM1, wrapM]
  rw [eM1] at hU1
  rw [eM0] at hN1
  clear eM1 eM0
  have hNw : N < 18446744073709551616 := Nat.lt_trans hn (by rw [← hyB]; exact yw)
  have hUw : U < 18446744073709551616 := Nat.lt_trans hult yw
  have f9 := wrap_sub U M1 R1 hU1 hUw
  have f18 := wrap_sub N M0 R0 hN1 hNw
  have g1 : (4294967296 ≤ (Q1 : Int)) = False := eq_false (fun h => absurd hq1 (Nat.not_lt.2 (Int.ofNat_le.1 h)))
  have g2 : (4294967296 ≤ (Q0 : Int)) = False := eq_false (fun h => absurd hq0 (Nat.not_lt.2 (Int.ofNat_le.1 h)))
  obtain ⟨R2, f10⟩ := wrap_some (4294967296 * (R1 : Int))
  obtain ⟨R3, f19⟩ := wrap_some (4294967296 * (R0 : Int))
  obtain ⟨N2, f11⟩ := wrap_some ((R2 : Int) + (V1 : Int))
  obtain ⟨N0, f20⟩ := wrap_some ((R3 : Int) + (V0 : Int))
  obtain ⟨Z1, Z2, Z3, f12, f13, hZ3, f15⟩ := wrap_mid U V1 M1 R1 N hU1 hNd hNw
  rw [hZ3] at f14
  obtain ⟨P1, f21, f22⟩ := wrap_top Q1 Q0 hq1 hq0
  rw [← HR.out] at f22
  generalize (h * 18446744073709551616 + l) / y = Q at *
  have hY0 : ¬ ((Y : Int) = 0) := by omega
  clear hZ3 hNw hUw hU1 hN1 hNd hvv hV1 hV0 hv hq1 hq0 hn hult hlc yw hyB hlw HR hh
  go_enter Try.func72, Try.ntmps72
  go_wp2_with (go_at_call 73; refine c.mono ?_; rintro e w' ⟨rfl, hw'⟩; replace hw' := hw'.symm; subst hw')
  go_loop [15, 16] (fun q r => q = .int .u64 (Q1 : Nat) ∧ r = .int .u64 (R1 : Nat)) (fun _ _ => 0)
  case atStart => exact ⟨rfl, rfl⟩
  case round =>
    obtain ⟨rfl, rfl⟩ := hrel
    go_wp2
    go_loop [18, 16] (fun q r => q = .int .u64 (Q0 : Nat) ∧ r = .int .u64 (R0 : Nat)) (fun _ _ => 0)
    case atStart => exact ⟨rfl, rfl⟩
    case round =>
      obtain ⟨rfl, rfl⟩ := hrel
      go_wp2
      go_ret2
      exact ⟨⟨_, rfl⟩, rfl⟩

set_option maxRecDepth 100000 in
set_option maxHeartbeats 2000000 in
theorem div64_59 (h l y : Nat) (w : World) (hh : 0 < h) (D : Div h l y 576460752303423488 32 134217728) (c : Calls Try.prog 73 #[.int .u64 y] w fun e w' => e = .returned (.int .i64 59) ∧ w' = w) :
    Calls Try.prog 72 #[.int .u64 h, .int .u64 l, .int .u64 y] w fun e w' => (∃ r : Int, e = .returned (.tuple #[.int .u64 ((h * 18446744073709551616 + l) / y : Nat), .int .u64 r])) ∧ w' = w := by
  have h1 : ¬ ((y : Int) = 0) := by have := D.pos; omega
  have h2 : ¬ ((y : Int) ≤ (h : Int)) := by have := D.hy; omega
  have h3 : ¬ ((h : Int) = 0) := by omega
  have HR : Hid ((h * 18446744073709551616 + l) / y = dU h l 576460752303423488 32 / dY y 134217728 * 4294967296 + dN h l y 576460752303423488 32 134217728 / dY y 134217728) := D.res
  have yw := D.yw
  have hlc := D.lc
  have hult := D.ult
  have hq1 := D.q1
  have hq0 := D.q0
  have hn := D.nlt
  have hyp := D.ypos
  have hlw := D.lw
  have hyB := D.yB
  have hyc := D.yc
  have hhy := D.hy
  have hNd : dN h l y 576460752303423488 32 134217728 = dU h l 576460752303423488 32 % dY y 134217728 * 4294967296 + dV l 576460752303423488 / 4294967296 := rfl
  have hU1 := Nat.div_add_mod (dU h l 576460752303423488 32) (dY y 134217728)
  have hN1 := Nat.div_add_mod (dN h l y 576460752303423488 32 134217728) (dY y 134217728)
  have f1 : (y : Int) * 576460752303423488 / 4294967296 = (dY y 134217728 : Nat) := by have : dY y 134217728 = y * 134217728 := rfl; omega
  have f2 : bits .and .u64 ((y : Int) * 576460752303423488) 4294967295 = 0 := by
    have := mask32 (y * 576460752303423488) yw
    rw [hyB, Nat.mul_mod_left] at this
    rw [show ((y : Int) * 576460752303423488) = ((dY y 134217728 * 4294967296 : Nat) : Int) by omega]
    exact this
  have f3 : bits .or .u64 ((h : Int) * 576460752303423488) ((l : Int) / 32) = (dU h l 576460752303423488 32 : Nat) := by
    have e : (h * 576460752303423488) ||| (l / 32) = dU h l 576460752303423488 32 := or_add h (l / 32) 59 hlc
    have := bits_or_u64_nat (h * 576460752303423488) (l / 32) D.hB (Nat.lt_trans hlc (by decide))
    rw [e] at this
    exact this
  have f4 : IntKind.u64.wrap ((l : Int) * 576460752303423488) = (dV l 576460752303423488 : Nat) := by
    unfold dV; rw [show ((l : Int) * 576460752303423488) = ((l * 576460752303423488 : Nat) : Int) by omega, wrapM]
  have hv : dV l 576460752303423488 < 18446744073709551616 := Nat.mod_lt _ (by omega)
  generalize dU h l 576460752303423488 32 = U at *
  generalize dY y 134217728 = Y at *
  generalize dN h l y 576460752303423488 32 134217728 = N at *
  generalize dV l 576460752303423488 = V at *
  clear D
  have f5 : (V : Int) / 4294967296 = ((V / 4294967296 : Nat) : Int) := rfl
  have f6 : bits .and .u64 (V : Int) 4294967295 = ((V % 4294967296 : Nat) : Int) := mask32 V hv
  obtain ⟨Q1, eQ1⟩ : ∃ Q, U / Y = Q := ⟨_, rfl⟩
  obtain ⟨R1, eR1⟩ : ∃ R, U % Y = R := ⟨_, rfl⟩
  obtain ⟨Q0, eQ0⟩ : ∃ Q, N / Y = Q := ⟨_, rfl⟩
  obtain ⟨R0, eR0⟩ : ∃ R, N % Y = R := ⟨_, rfl⟩
  obtain ⟨V1, eV1⟩ : ∃ R, V / 4294967296 = R := ⟨_, rfl⟩
  obtain ⟨V0, eV0⟩ : ∃ R, V % 4294967296 = R := ⟨_, rfl⟩
  have f7 : IntKind.u64.wrap ((U : Int).tdiv (Y : Int)) = (Q1 : Int) := by rw [show (U : Int).tdiv (Y : Int) = ((U / Y : Nat) : Int) from rfl, eQ1]; exact wrapU _ (by omega)
  have f7b : IntKind.u64.wrap ((U : Int) / (Y : Int)) = (Q1 : Int) := by rw [show (U : Int) / (Y : Int) = ((U / Y : Nat) : Int) from rfl, eQ1]; exact wrapU _ (by omega)
  have f16 : IntKind.u64.wrap ((N : Int).tdiv (Y : Int)) = (Q0 : Int) := by rw [show (N : Int).tdiv (Y : Int) = ((N / Y : Nat) : Int) from rfl, eQ0]; exact wrapU _ (by omega)
  have f16b : IntKind.u64.wrap ((N : Int) / (Y : Int)) = (Q0 : Int) := by rw [show (N : Int) / (Y : Int) = ((N / Y : Nat) : Int) from rfl, eQ0]; exact wrapU _ (by omega)
  rw [eQ1] at hU1 hq1 HR
  rw [eR1] at hU1 hNd
  rw [eQ0] at hN1 hq0 HR
  rw [eR0] at hN1
  rw [eV1] at f5 hNd
  rw [eV0] at f6
  have hvv : V = V1 * 4294967296 + V0 := by omega
  have hV1 : V1 < 4294967296 := by omega
  have hV0 : V0 < 4294967296 := by omega
  clear eQ1 eR1 eQ0 eR0 eV1 eV0
  rw [Nat.mul_comm] at hU1 hN1
  obtain ⟨M1, eM1⟩ : ∃ M, Q1 * Y = M := ⟨_, rfl⟩
  obtain ⟨M0, eM0⟩ : ∃ M, Q0 * Y = M := ⟨_, rfl⟩
  have f8 : IntKind.u64.wrap ((Q1 : Int) * (Y : Int)) = (M1 : Int) := by rw [mulN, eM1]; exact wrapU _ (by omega)
  have f17 : IntKind.u64.wrap ((Q0 : Int) * (Y : Int)) = (M0 : Int) := by rw [mulN, eM0]; exact wrapU _ (by omega)
  have f14 : IntKind.u64.wrap ((Q1 : Int) * ((y : Int) * 576460752303423488)) = ((M1 * 4294967296 % 18446744073709551616 : Nat) : Int) := by
    rw [show ((Q1 : Int) * ((y : Int) * 576460752303423488)) = ((Q1 * (y * 576460752303423488) : Nat) : Int) by rw [Int.natCast_mul]; congr 1, hyB, ← Nat.mul_assoc, eM1, wrapM]
  rw [eM1] at hU1
  rw [eM0] at hN1
  clear eM1 eM0
  have hNw : N < 18446744073709551616 := Nat.lt_trans hn (by rw [← hyB]; exact yw)
  have hUw : U < 18446744073709551616 := Nat.lt_trans hult yw
  have f9 := wrap_sub U M1 R1 hU1 hUw
  have f18 := wrap_sub N M0 R0 hN1 hNw
  have g1 : (4294967296 ≤ (Q1 : Int)) = False := eq_false (fun h => absurd hq1 (Nat.not_lt.2 (Int.ofNat_le.1 h)))
  have g2 : (4294967296 ≤ (Q0 : Int)) = False := eq_false (fun h => absurd hq0 (Nat.not_lt.2 (Int.ofNat_le.1 h)))
  obtain ⟨R2, f10⟩ := wrap_some (4294967296 * (R1 : Int))
  obtain ⟨R3, f19⟩ := wrap_some (4294967296 * (R0 : Int))
  obtain ⟨N2, f11⟩ := wrap_some ((R2 : Int) + (V1 : Int))
  obtain ⟨N0, f20⟩ := wrap_some ((R3 : Int) + (V0 : Int))
  obtain ⟨Z1, Z2, Z3, f12, f13, hZ3, f15⟩ := wrap_mid U V1 M1 R1 N hU1 hNd hNw
  rw [hZ3] at f14
  obtain ⟨P1, f21, f22⟩ := wrap_top Q1 Q0 hq1 hq0
  rw [← HR.out] at f22
  generalize (h * 18446744073709551616 + l) / y = Q at *
  have hY0 : ¬ ((Y : Int) = 0) := by omega
  clear hZ3 hNw hUw hU1 hN1 hNd hvv hV1 hV0 hv hq1 hq0 hn hult hlc yw hyB hlw HR hh
  go_enter Try.func72, Try.ntmps72
  go_wp2_with (go_at_call 73; refine c.mono ?_; rintro e w' ⟨rfl, hw'⟩; replace hw' := hw'.symm; subst hw')
  go_loop [15, 16] (fun q r => q = .int .u64 (Q1 : Nat) ∧ r = .int .u64 (R1 : Nat)) (fun _ _ => 0)
  case atStart => exact ⟨rfl, rfl⟩
  case round =>
    obtain ⟨rfl, rfl⟩ := hrel
    go_wp2
    go_loop [18, 16] (fun q r => q = .int .u64 (Q0 : Nat) ∧ r = .int .u64 (R0 : Nat)) (fun _ _ => 0)
    case atStart => exact ⟨rfl, rfl⟩
    case round =>
      obtain ⟨rfl, rfl⟩ := hrel
      go_wp2
      go_ret2
      exact ⟨⟨_, rfl⟩, rfl⟩

set_option maxRecDepth 100000 in
set_option maxHeartbeats 2000000 in
theorem div64_60 (h l y : Nat) (w : World) (hh : 0 < h) (D : Div h l y 1152921504606846976 16 268435456) (c : Calls Try.prog 73 #[.int .u64 y] w fun e w' => e = .returned (.int .i64 60) ∧ w' = w) :
    Calls Try.prog 72 #[.int .u64 h, .int .u64 l, .int .u64 y] w fun e w' => (∃ r : Int, e = .returned (.tuple #[.int .u64 ((h * 18446744073709551616 + l) / y : Nat), .int .u64 r])) ∧ w' = w := by
  have h1 : ¬ ((y : Int) = 0) := by have := D.pos; omega
  have h2 : ¬ ((y : Int) ≤ (h : Int)) := by have := D.hy; omega
  have h3 : ¬ ((h : Int) = 0) := by omega
  have HR : Hid ((h * 18446744073709551616 + l) / y = dU h l 1152921504606846976 16 / dY y 268435456 * 4294967296 + dN h l y 1152921504606846976 16 268435456 / dY y 268435456) := D.res
  have yw := D.yw
  have hlc := D.lc
  have hult := D.ult
  have hq1 := D.q1
  have hq0 := D.q0
  have hn := D.nlt
  have hyp := D.ypos
  have hlw := D.lw
  have hyB := D.yB
  have hyc := D.yc
  have hhy := D.hy
  have hNd : dN h l y 1152921504606846976 16 268435456 = dU h l 1152921504606846976 16 % dY y 268435456 * 4294967296 + dV l 1152921504606846976 / 4294967296 := rfl
  have hU1 := Nat.div_add_mod (dU h l 1152921504606846976 16) (dY y 268435456)
  have hN1 := Nat.div_add_mod (dN h l y 1152921504606846976 16 268435456) (dY y 268435456)
  have f1 : (y : Int) * 1152921504606846976 / 4294967296 = (dY y 268435456 : Nat) := by have : dY y 268435456 = y * 268435456 := rfl; omega
  have f2 : bits .and .u64 ((y : Int) * 1152921504606846976) 4294967295 = 0 := by
    have := mask32 (y * 1152921504606846976) yw
    rw [hyB, Nat.mul_mod_left] at this
    rw [show ((y : Int) * 1152921504606846976) = ((dY y 268435456 * 4294967296 : Nat) : Int) by omega]
    exact this
  have f3 : bits .or .u64 ((h : Int) * 1152921504606846976) ((l : Int) / 16) = (dU h l 1152921504606846976 16 : Nat) := by
    have e : (h * 1152921504606846976) ||| (l / 16) = dU h l 1152921504606846976 16 := or_add h (l / 16) 60 hlc
    have := bits_or_u64_nat (h * 1152921504606846976) (l / 16) D.hB (Nat.lt_trans hlc (by decide))
    rw [e] at this
    exact this
  have f4 : IntKind.u64.wrap ((l : Int) * 1152921504606846976) = (dV l 1152921504606846976 : Nat) := by
    unfold dV; rw [show ((l : Int) * 1152921504606846976) = ((l * 1152921504606846976 : Nat) : Int) by omega, wrapM]
  have hv : dV l 1152921504606846976 < 18446744073709551616 := Nat.mod_lt _ (by omega)
  generalize dU h l 1152921504606846976 16 = U at *
  generalize dY y 268435456 = Y at *
  generalize dN h l y 1152921504606846976 16 268435456 = N at *
  generalize dV l 1152921504606846976 = V at *
  clear D
  have f5 : (V : Int) / 4294967296 = ((V / 4294967296 : Nat) : Int) := rfl
  have f6 : bits .and .u64 (V : Int) 4294967295 = ((V % 4294967296 : Nat) : Int) := mask32 V hv
  obtain ⟨Q1, eQ1⟩ : ∃ Q, U / Y = Q := ⟨_, rfl⟩
  obtain ⟨R1, eR1⟩ : ∃ R, U % Y = R := ⟨_, rfl⟩
  obtain ⟨Q0, eQ0⟩ : ∃ Q, N / Y = Q := ⟨_, rfl⟩
  obtain ⟨R0, eR0⟩ : ∃ R, N % Y = R := ⟨_, rfl⟩
  obtain ⟨V1, eV1⟩ : ∃ R, V / 4294967296 = R := ⟨_, rfl⟩
  obtain ⟨V0, eV0⟩ : ∃ R, V % 4294967296 = R := ⟨_, rfl⟩
  have f7 : IntKind.u64.wrap ((U : Int).tdiv (Y : Int)) = (Q1 : Int) := by rw [show (U : Int).tdiv (Y : Int) = ((U / Y : Nat) : Int) from rfl, eQ1]; exact wrapU _ (by omega)
  have f7b : IntKind.u64.wrap ((U : Int) / (Y : Int)) = (Q1 : Int) := by rw [show (U : Int) / (Y : Int) = ((U / Y : Nat) : Int) from rfl, eQ1]; exact wrapU _ (by omega)
  have f16 : IntKind.u64.wrap ((N : Int).tdiv (Y : Int)) = (Q0 : Int) := by rw [show (N : Int).tdiv (Y : Int) = ((N / Y : Nat) : Int) from rfl, eQ0]; exact wrapU _ (by omega)
  have f16b : IntKind.u64.wrap ((N : Int) / (Y : Int)) = (Q0 : Int) := by rw [show (N : Int) / (Y : Int) = ((N / Y : Nat) : Int) from rfl, eQ0]; exact wrapU _ (by omega)
  rw [eQ1] at hU1 hq1 HR
  rw [eR1] at hU1 hNd
  rw [eQ0] at hN1 hq0 HR
  rw [eR0] at hN1
  rw [eV1] at f5 hNd
  rw [eV0] at f6
  have hvv : V = V1 * 4294967296 + V0 := by omega
  have hV1 : V1 < 4294967296 := by omega
  have hV0 : V0 < 4294967296 := by omega
  clear eQ1 eR1 eQ0 eR0 eV1 eV0
  rw [Nat.mul_comm] at hU1 hN1
  obtain ⟨M1, eM1⟩ : ∃ M, Q1 * Y = M := ⟨_, rfl⟩
  obtain ⟨M0, eM0⟩ : ∃ M, Q0 * Y = M := ⟨_, rfl⟩
  have f8 : IntKind.u64.wrap ((Q1 : Int) * (Y : Int)) = (M1 : Int) := by rw [mulN, eM1]; exact wrapU _ (by omega)
  have f17 : IntKind.u64.wrap ((Q0 : Int) * (Y : Int)) = (M0 : Int) := by rw [mulN, eM0]; exact wrapU _ (by omega)
  have f14 : IntKind.u64.wrap ((Q1 : Int) * ((y : Int) * 1152921504606846976)) = ((M1 * 4294967296 % 18446744073709551616 : Nat) : Int) := by
    rw [show ((Q1 : Int) * ((y : Int) * 1152921504606846976)) = ((Q1 * (y * 1152921504606846976) : Nat) : Int) by rw [Int.natCast_mul]; congr 1, hyB, ← Nat.mul_assoc, eM1, wrapM]
  rw [eM1] at hU1
  rw [eM0] at hN1
  clear eM1 eM0
  have hNw : N < 18446744073709551616 := Nat.lt_trans hn (by rw [← hyB]; exact yw)
  have hUw : U < 18446744073709551616 := Nat.lt_trans hult yw
  have f9 := wrap_sub U M1 R1 hU1 hUw
  have f18 := wrap_sub N M0 R0 hN1 hNw
  have g1 : (4294967296 ≤ (Q1 : Int)) = False := eq_false (fun h => absurd hq1 (Nat.not_lt.2 (Int.ofNat_le.1 h)))
  have g2 : (4294967296 ≤ (Q0 : Int)) = False := eq_false (fun h => absurd hq0 (Nat.not_lt.2 (Int.ofNat_le.1 h)))
  obtain ⟨R2, f10⟩ := wrap_some (4294967296 * (R1 : Int))
  obtain ⟨R3, f19⟩ := wrap_some (4294967296 * (R0 : Int))
  obtain ⟨N2, f11⟩ := wrap_some ((R2 : Int) + (V1 : Int))
  obtain ⟨N0, f20⟩ := wrap_some ((R3 : Int) + (V0 : Int))
  obtain ⟨Z1, Z2, Z3, f12, f13, hZ3, f15⟩ := wrap_mid U V1 M1 R1 N hU1 hNd hNw
  rw [hZ3] at f14
  obtain ⟨P1, f21, f22⟩ := wrap_top Q1 Q0 hq1 hq0
  rw [← HR.out] at f22
  generalize (h * 18446744073709551616 + l) / y = Q at *
  have hY0 : ¬ ((Y : Int) = 0) := by omega
  clear hZ3 hNw hUw hU1 hN1 hNd hvv hV1 hV0 hv hq1 hq0 hn hult hlc yw hyB hlw HR hh
  go_enter Try.func72, Try.ntmps72
  go_wp2_with (go_at_call 73; refine c.mono ?_; rintro e w' ⟨rfl, hw'⟩; replace hw' := hw'.symm; subst hw')
  go_loop [15, 16] (fun q r => q = .int .u64 (Q1 : Nat) ∧ r = .int .u64 (R1 : Nat)) (fun _ _ => 0)
  case atStart => exact ⟨rfl, rfl⟩
  case round =>
    obtain ⟨rfl, rfl⟩ := hrel
    go_wp2
    go_loop [18, 16] (fun q r => q = .int .u64 (Q0 : Nat) ∧ r = .int .u64 (R0 : Nat)) (fun _ _ => 0)
    case atStart => exact ⟨rfl, rfl⟩
    case round =>
      obtain ⟨rfl, rfl⟩ := hrel
      go_wp2
      go_ret2
      exact ⟨⟨_, rfl⟩, rfl⟩

set_option maxRecDepth 100000 in
set_option maxHeartbeats 2000000 in
theorem div64_61 (h l y : Nat) (w : World) (hh : 0 < h) (D : Div h l y 2305843009213693952 8 536870912) (c : Calls Try.prog 73 #[.int .u64 y] w fun e w' => e = .returned (.int .i64 61) ∧ w' = w) :
    Calls Try.prog 72 #[.int .u64 h, .int .u64 l, .int .u64 y] w fun e w' => (∃ r : Int, e = .returned (.tuple #[.int .u64 ((h * 18446744073709551616 + l) / y : Nat), .int .u64 r])) ∧ w' = w := by
  have h1 : ¬ ((y : Int) = 0) := by have := D.pos; omega
  have h2 : ¬ ((y : Int) ≤ (h : Int)) := by have := D.hy; omega
  have h3 : ¬ ((h : Int) = 0) := by omega
  have HR : Hid ((h * 18446744073709551616 + l) / y = dU h l 2305843009213693952 8 / dY y 536870912 * 4294967296 + dN h l y 2305843009213693952 8 536870912 / dY y 536870912) := D.res
  have yw := D.yw
  have hlc := D.lc
  have hult := D.ult
  have hq1 := D.q1
  have hq0 := D.q0
  have hn := D.nlt
  have hyp := D.ypos
  have hlw := D.lw
  have hyB := D.yB
  have hyc := D.yc
  have hhy := D.hy
  have hNd : dN h l y 2305843009213693952 8 536870912 = dU h l 2305843009213693952 8 % dY y 536870912 * 4294967296 + dV l 2305843009213693952 / 4294967296 := rfl
  have hU1 := Nat.div_add_mod (dU h l 2305843009213693952 8) (dY y 536870912)
  have hN1 := Nat.div_add_mod (dN h l y 2305843009213693952 8 536870912) (dY y 536870912)
  have f1 : (y : Int) * 2305843009213693952 / 4294967296 = (dY y 536870912 : Nat) := by have : dY y 536870912 = y * 536870912 := rfl; omega
  have f2 : bits .and .u64 ((y : Int) * 2305843009213693952) 4294967295 = 0 := by
    have := mask32 (y * 2305843009213693952) yw
    rw [hyB, Nat.mul_mod_left] at this
    rw [show ((y : Int) * 2305843009213693952) = ((dY y 536870912 * 4294967296 : Nat) : Int) by omega]
    exact this
  have f3 : bits .or .u64 ((h : Int) * 2305843009213693952) ((l : Int) / 8) = (dU h l 2305843009213693952 8 : Nat) := by
    have e : (h * 2305843009213693952) ||| (l / 8) = dU h l 2305843009213693952 8 := or_add h (l / 8) 61 hlc
    have := bits_or_u64_nat (h * 2305843009213693952) (l / 8) D.hB (Nat.lt_trans hlc (by decide))
    rw [e] at this
    exact this
  have f4 : IntKind.u64.wrap ((l : Int) * 2305843009213693952) = (dV l 2305843009213693952 : Nat) := by
    unfold dV; rw [show ((l : Int) * 2305843009213693952) = ((l * 2305843009213693952 : Nat) : Int) by omega, wrapM]
  have hv : dV l 2305843009213693952 < 18446744073709551616 := Nat.mod_lt _ (by omega)
  generalize dU h l 2305843009213693952 8 = U at *
  generalize dY y 536870912 = Y at *
  generalize dN h l y 2305843009213693952 8 536870912 = N at *
  generalize dV l 2305843009213693952 = V at *
  clear D
  have f5 : (V : Int) / 4294967296 = ((V / 4294967296 : Nat) : Int) := rfl
  have f6 : bits .and .u64 (V : Int) 4294967295 = ((V % 4294967296 : Nat) : Int) := mask32 V hv
  obtain ⟨Q1, eQ1⟩ : ∃ Q, U / Y = Q := ⟨_, rfl⟩
  obtain ⟨R1, eR1⟩ : ∃ R, U % Y = R := ⟨_, rfl⟩
  obtain ⟨Q0, eQ0⟩ : ∃ Q, N / Y = Q := ⟨_, rfl⟩
  obtain ⟨R0, eR0⟩ : ∃ R, N % Y = R := ⟨_, rfl⟩
  obtain ⟨V1, eV1⟩ : ∃ R, V / 4294967296 = R := ⟨_, rfl⟩
  obtain ⟨V0, eV0⟩ : ∃ R, V % 4294967296 = R := ⟨_, rfl⟩
  have f7 : IntKind.u64.wrap ((U : Int).tdiv (Y : Int)) = (Q1 : Int) := by rw [show (U : Int).tdiv (Y : Int) = ((U / Y : Nat) : Int) from rfl, eQ1]; exact wrapU _ (by omega)
  have f7b : IntKind.u64.wrap ((U : Int) / (Y : Int)) = (Q1 : Int) := by rw [show (U : Int) / (Y : Int) = ((U / Y : Nat) : Int) from rfl, eQ1]; exact wrapU _ (by omega)
  have f16 : IntKind.u64.wrap ((N : Int).tdiv (Y : Int)) = (Q0 : Int) := by rw [show (N : Int).tdiv (Y : Int) = ((N / Y : Nat) : Int) from rfl, eQ0]; exact wrapU _ (by omega)
  have f16b : IntKind.u64.wrap ((N : Int) / (Y : Int)) = (Q0 : Int) := by rw [show (N : Int) / (Y : Int) = ((N / Y : Nat) : Int) from rfl, eQ0]; exact wrapU _ (by omega)
  rw [eQ1] at hU1 hq1 HR
  rw [eR1] at hU1 hNd
  rw [eQ0] at hN1 hq0 HR
  rw [eR0] at hN1
  rw [eV1] at f5 hNd
  rw [eV0] at f6
  have hvv : V = V1 * 4294967296 + V0 := by omega
  have hV1 : V1 < 4294967296 := by omega
  have hV0 : V0 < 4294967296 := by omega
  clear eQ1 eR1 eQ0 eR0 eV1 eV0
  rw [Nat.mul_comm] at hU1 hN1
  obtain ⟨M1, eM1⟩ : ∃ M, Q1 * Y = M := ⟨_, rfl⟩
  obtain ⟨M0, eM0⟩ : ∃ M, Q0 * Y = M := ⟨_, rfl⟩
  have f8 : IntKind.u64.wrap ((Q1 : Int) * (Y : Int)) = (M1 : Int) := by rw [mulN, eM1]; exact wrapU _ (by omega)
  have f17 : IntKind.u64.wrap ((Q0 : Int) * (Y : Int)) = (M0 : Int) := by rw [mulN, eM0]; exact wrapU _ (by omega)
  have f14 : IntKind.u64.wrap ((Q1 : Int) * ((y : Int) * 2305843009213693952)) = ((M1 * 4294967296 % 18446744073709551616 : Nat) : Int) := by
    rw [show ((Q1 : Int) * ((y : Int) * 2305843009213693952)) = ((Q1 * (y * 2305843009213693952) : Nat) : Int) by rw [Int.natCast_mul]; congr 1, hyB, ← Nat.mul_assoc, eM1, wrapM]
  rw [eM1] at hU1
  rw [eM0] at hN1
  clear eM1 eM0
  have hNw : N < 18446744073709551616 := Nat.lt_trans hn (by rw [← hyB]; exact yw)
  have hUw : U < 18446744073709551616 := Nat.lt_trans hult yw
  have f9 := wrap_sub U M1 R1 hU1 hUw
  have f18 := wrap_sub N M0 R0 hN1 hNw
  have g1 : (4294967296 ≤ (Q1 : Int)) = False := eq_false (fun h => absurd hq1 (Nat.not_lt.2 (Int.ofNat_le.1 h)))
  have g2 : (4294967296 ≤ (Q0 : Int)) = False := eq_false (fun h => absurd hq0 (Nat.not_lt.2 (Int.ofNat_le.1 h)))
  obtain ⟨R2, f10⟩ := wrap_some (4294967296 * (R1 : Int))
  obtain ⟨R3, f19⟩ := wrap_some (4294967296 * (R0 : Int))
  obtain ⟨N2, f11⟩ := wrap_some ((R2 : Int) + (V1 : Int))
  obtain ⟨N0, f20⟩ := wrap_some ((R3 : Int) + (V0 : Int))
  obtain ⟨Z1, Z2, Z3, f12, f13, hZ3, f15⟩ := wrap_mid U V1 M1 R1 N hU1 hNd hNw
  rw [hZ3] at f14
  obtain ⟨P1, f21, f22⟩ := wrap_top Q1 Q0 hq1 hq0
  rw [← HR.out] at f22
  generalize (h * 18446744073709551616 + l) / y = Q at *
  have hY0 : ¬ ((Y : Int) = 0) := by omega
  clear hZ3 hNw hUw hU1 hN1 hNd hvv hV1 hV0 hv hq1 hq0 hn hult hlc yw hyB hlw HR hh
  go_enter Try.func72, Try.ntmps72
  go_wp2_with (go_at_call 73; refine c.mono ?_; rintro e w' ⟨rfl, hw'⟩; replace hw' := hw'.symm; subst hw')
  go_loop [15, 16] (fun q r => q = .int .u64 (Q1 : Nat) ∧ r = .int .u64 (R1 : Nat)) (fun _ _ => 0)
  case atStart => exact ⟨rfl, rfl⟩
  case round =>
    obtain ⟨rfl, rfl⟩ := hrel
    go_wp2
    go_loop [18, 16] (fun q r => q = .int .u64 (Q0 : Nat) ∧ r = .int .u64 (R0 : Nat)) (fun _ _ => 0)
    case atStart => exact ⟨rfl, rfl⟩
    case round =>
      obtain ⟨rfl, rfl⟩ := hrel
      go_wp2
      go_ret2
      exact ⟨⟨_, rfl⟩, rfl⟩

set_option maxRecDepth 100000 in
set_option maxHeartbeats 2000000 in
theorem div64_62 (h l y : Nat) (w : World) (hh : 0 < h) (D : Div h l y 4611686018427387904 4 1073741824) (c : Calls Try.prog 73 #[.int .u64 y] w fun e w' => e = .returned (.int .i64 62) ∧ w' = w) :
    Calls Try.prog 72 #[.int .u64 h, .int .u64 l, .int .u64 y] w fun e w' => (∃ r : Int, e = .returned (.tuple #[.int .u64 ((h * 18446744073709551616 + l) / y : Nat), .int .u64 r])) ∧ w' = w := by
  have h1 : ¬ ((y : Int) = 0) := by have := D.pos; omega
  have h2 : ¬ ((y : Int) ≤ (h : Int)) := by have := D.hy; omega
  have h3 : ¬ ((h : Int) = 0) := by omega
  have HR : Hid ((h * 18446744073709551616 + l) / y = dU h l 4611686018427387904 4 / dY y 1073741824 * 4294967296 + dN h l y 4611686018427387904 4 1073741824 / dY y 1073741824) := D.res
  have yw := D.yw
  have hlc := D.lc
  have hult := D.ult
  have hq1 := D.q1
  have hq0 := D.q0
  have hn := D.nlt
  have hyp := D.ypos
  have hlw := D.lw
  have hyB := D.yB
  have hyc := D.yc
  have hhy := D.hy
  have hNd : dN h l y 4611686018427387904 4 1073741824 = dU h l 4611686018427387904 4 % dY y 1073741824 * 4294967296 + dV l 4611686018427387904 / 4294967296 := rfl
  have hU1 := Nat.div_add_mod (dU h l 4611686018427387904 4) (dY y 1073741824)
  have hN1 := Nat.div_add_mod (dN h l y 4611686018427387904 4 1073741824) (dY y 1073741824)
  have f1 : (y : Int) * 4611686018427387904 / 4294967296 = (dY y 1073741824 : Nat) := by have : dY y 1073741824 = y * 1073741824 := rfl; omega
  have f2 : bits .and .u64 ((y : Int) * 4611686018427387904) 4294967295 = 0 := by
    have := mask32 (y * 4611686018427387904) yw
    rw [hyB, Nat.mul_mod_left] at this
    rw [show ((y : Int) * 4611686018427387904) = ((dY y 1073741824 * 4294967296 : Nat) : Int) by omega]
    exact this
  have f3 : bits .or .u64 ((h : Int) * 4611686018427387904) ((l : Int) / 4) = (dU h l 4611686018427387904 4 : Nat) := by
    have e : (h * 4611686018427387904) ||| (l / 4) = dU h l 4611686018427387904 4 := or_add h (l / 4) 62 hlc
    have := bits_or_u64_nat (h * 4611686018427387904) (l / 4) D.hB (Nat.lt_trans hlc (by decide))
    rw [e] at this
    exact this
  have f4 : IntKind.u64.wrap ((l : Int) * 4611686018427387904) = (dV l 4611686018427387904 : Nat) := by
    unfold dV; rw [show ((l : Int) * 4611686018427387904) = ((l * 4611686018427387904 : Nat) : Int) by omega, wrapM]
  have hv : dV l 4611686018427387904 < 18446744073709551616 := Nat.mod_lt _ (by omega)
  generalize dU h l 4611686018427387904 4 = U at *
  generalize dY y 1073741824 = Y at *
  generalize dN h l y 4611686018427387904 4 1073741824 = N at *
  generalize dV l 4611686018427387904 = V at *
  clear D
  have f5 : (V : Int) / 4294967296 = ((V / 4294967296 : Nat) : Int) := rfl
  have f6 : bits .and .u64 (V : Int) 4294967295 = ((V % 4294967296 : Nat) : Int) := mask32 V hv
  obtain ⟨Q1, eQ1⟩ : ∃ Q, U / Y = Q := ⟨_, rfl⟩
  obtain ⟨R1, eR1⟩ : ∃ R, U % Y = R := ⟨_, rfl⟩
  obtain ⟨Q0, eQ0⟩ : ∃ Q, N / Y = Q := ⟨_, rfl⟩
  obtain ⟨R0, eR0⟩ : ∃ R, N % Y = R := ⟨_, rfl⟩
  obtain ⟨V1, eV1⟩ : ∃ R, V / 4294967296 = R := ⟨_, rfl⟩
  obtain ⟨V0, eV0⟩ : ∃ R, V % 4294967296 = R := ⟨_, rfl⟩
  have f7 : IntKind.u64.wrap ((U : Int).tdiv (Y : Int)) = (Q1 : Int) := by rw [show (U : Int).tdiv (Y : Int) = ((U / Y : Nat) : Int) from rfl, eQ1]; exact wrapU _ (by omega)
  have f7b : IntKind.u64.wrap ((U : Int) / (Y : Int)) = (Q1 : Int) := by rw [show (U : Int) / (Y : Int) = ((U / Y : Nat) : Int) from rfl, eQ1]; exact wrapU _ (by omega)
  have f16 : IntKind.u64.wrap ((N : Int).tdiv (Y : Int)) = (Q0 : Int) := by rw [show (N : Int).tdiv (Y : Int) = ((N / Y : Nat) : Int) from rfl, eQ0]; exact wrapU _ (by omega)
  have f16b : IntKind.u64.wrap ((N : Int) / (Y : Int)) = (Q0 : Int) := by rw [show (N : Int) / (Y : Int) = ((N / Y : Nat) : Int) from rfl, eQ0]; exact wrapU _ (by omega)
  rw [eQ1] at hU1 hq1 HR
  rw [eR1] at hU1 hNd
  rw [eQ0] at hN1 hq0 HR
  rw [eR0] at hN1
  rw [eV1] at f5 hNd
  rw [eV0] at f6
  have hvv : V = V1 * 4294967296 + V0 := by omega
  have hV1 : V1 < 4294967296 := by omega
  have hV0 : V0 < 4294967296 := by omega
  clear eQ1 eR1 eQ0 eR0 eV1 eV0
  rw [Nat.mul_comm] at hU1 hN1
  obtain ⟨M1, eM1⟩ : ∃ M, Q1 * Y = M := ⟨_, rfl⟩
  obtain ⟨M0, eM0⟩ : ∃ M, Q0 * Y = M := ⟨_, rfl⟩
  have f8 : IntKind.u64.wrap ((Q1 : Int) * (Y : Int)) = (M1 : Int) := by rw [mulN, eM1]; exact wrapU _ (by omega)
  have f17 : IntKind.u64.wrap ((Q0 : Int) * (Y : Int)) = (M0 : Int) := by rw [mulN, eM0]; exact wrapU _ (by omega)
  have f14 : IntKind.u64.wrap ((Q1 : Int) * ((y : Int) * 4611686018427387904)) = ((M1 * 4294967296 % 18446744073709551616 : Nat) : Int) := by
    rw [show ((Q1 : Int) * ((y : Int) * 4611686018427387904)) = ((Q1 * (y * 4611686018427387904) : Nat) : Int) by rw [Int.natCast_mul]; congr 1, hyB, ← Nat.mul_assoc, eM1, wrapM]
  rw [eM1] at hU1
  rw [eM0] at hN1
  clear eM1 eM0
  have hNw : N < 18446744073709551616 := Nat.lt_trans hn (by rw [← hyB]; exact yw)
  have hUw : U < 18446744073709551616 := Nat.lt_trans hult yw
  have f9 := wrap_sub U M1 R1 hU1 hUw
  have f18 := wrap_sub N M0 R0 hN1 hNw
  have g1 : (4294967296 ≤ (Q1 : Int)) = False := eq_false (fun h => absurd hq1 (Nat.not_lt.2 (Int.ofNat_le.1 h)))
  have g2 : (4294967296 ≤ (Q0 : Int)) = False := eq_false (fun h => absurd hq0 (Nat.not_lt.2 (Int.ofNat_le.1 h)))
  obtain ⟨R2, f10⟩ := wrap_some (4294967296 * (R1 : Int))
  obtain ⟨R3, f19⟩ := wrap_some (4294967296 * (R0 : Int))
  obtain ⟨N2, f11⟩ := wrap_some ((R2 : Int) + (V1 : Int))
  obtain ⟨N0, f20⟩ := wrap_some ((R3 : Int) + (V0 : Int))
  obtain ⟨Z1, Z2, Z3, f12, f13, hZ3, f15⟩ := wrap_mid U V1 M1 R1 N hU1 hNd hNw
  rw [hZ3] at f14
  obtain ⟨P1, f21, f22⟩ := wrap_top Q1 Q0 hq1 hq0
  rw [← HR.out] at f22
  generalize (h * 18446744073709551616 + l) / y = Q at *
  have hY0 : ¬ ((Y : Int) = 0) := by omega
  clear hZ3 hNw hUw hU1 hN1 hNd hvv hV1 hV0 hv hq1 hq0 hn hult hlc yw hyB hlw HR hh
  go_enter Try.func72, Try.ntmps72
  go_wp2_with (go_at_call 73; refine c.mono ?_; rintro e w' ⟨rfl, hw'⟩; replace hw' := hw'.symm; subst hw')
  go_loop [15, 16] (fun q r => q = .int .u64 (Q1 : Nat) ∧ r = .int .u64 (R1 : Nat)) (fun _ _ => 0)
  case atStart => exact ⟨rfl, rfl⟩
  case round =>
    obtain ⟨rfl, rfl⟩ := hrel
    go_wp2
    go_loop [18, 16] (fun q r => q = .int .u64 (Q0 : Nat) ∧ r = .int .u64 (R0 : Nat)) (fun _ _ => 0)
    case atStart => exact ⟨rfl, rfl⟩
    case round =>
      obtain ⟨rfl, rfl⟩ := hrel
      go_wp2
      go_ret2
      exact ⟨⟨_, rfl⟩, rfl⟩

theorem lz_small (y j : Nat) (h1 : 2 ^ j ≤ y) (h2 : y < 2 ^ (j + 1)) (hj : j ≤ 6) (w : World) : Calls Try.prog 73 #[.int .u64 y] w fun e w' => e = .returned (.int .i64 ((63 - j : Nat) : Int)) ∧ w' = w := by
  have h3 : (2 : Nat) ^ (j + 1) ≤ 2 ^ 7 := Nat.pow_le_pow_right (by omega) (by omega)
  have h4 : y < 128 := by omega
  have hb : Lib.bitLen y = j + 1 := by
    have e : Lib.bitLen y = Lib.bitLenAux 64 y := rfl
    have b := Lib.bitLenAux_bounds 64 y (by omega) (by have := Nat.one_le_two_pow (n := j); omega)
    rw [← e] at b
    have c1 : ¬ Lib.bitLen y ≤ j := fun h => by
      have := Nat.pow_le_pow_right (show 0 < 2 by omega) h
      omega
    have c2 : ¬ j + 1 < Lib.bitLen y := fun h => by
      have := Nat.pow_le_pow_right (show 0 < 2 by omega) (show j + 1 ≤ Lib.bitLen y - 1 by omega)
      omega
    omega
  have c := Try.bits_LeadingZeros64 (y : Int) w (by omega) (by omega)
  refine c.mono ?_
  rintro e w' ⟨rfl, rfl⟩
  refine ⟨?_, rfl⟩
  congr 1
  simp only [Int.toNat_natCast, hb]
  congr 1
  omega

theorem div64_small (h l y : Nat) (w : World) (hh : 0 < h) (hhy : h < y) (hy : y ≤ 64) (hl : l < 18446744073709551616) :
    Calls Try.prog 72 #[.int .u64 h, .int .u64 l, .int .u64 y] w fun e w' => (∃ r : Int, e = .returned (.tuple #[.int .u64 ((h * 18446744073709551616 + l) / y : Nat), .int .u64 r])) ∧ w' = w := by
  rcases (show (2 ≤ y ∧ y < 4) ∨ (4 ≤ y ∧ y < 8) ∨ (8 ≤ y ∧ y < 16) ∨ (16 ≤ y ∧ y < 32) ∨ (32 ≤ y ∧ y < 64) ∨ (64 ≤ y ∧ y < 128) by omega) with g | g | g | g | g | g
  · exact div64_62 h l y w hh ⟨by decide, by decide, by omega, hhy, by omega, hl, by decide⟩ (lz_small y 1 g.1 g.2 (by omega) w)
  · exact div64_61 h l y w hh ⟨by decide, by decide, by omega, hhy, by omega, hl, by decide⟩ (lz_small y 2 g.1 g.2 (by omega) w)
  · exact div64_60 h l y w hh ⟨by decide, by decide, by omega, hhy, by omega, hl, by decide⟩ (lz_small y 3 g.1 g.2 (by omega) w)
  · exact div64_59 h l y w hh ⟨by decide, by decide, by omega, hhy, by omega, hl, by decide⟩ (lz_small y 4 g.1 g.2 (by omega) w)
  · exact div64_58 h l y w hh ⟨by decide, by decide, by omega, hhy, by omega, hl, by decide⟩ (lz_small y 5 g.1 g.2 (by omega) w)
  · exact div64_57 h l y w hh ⟨by decide, by decide, by omega, hhy, by omega, hl, by decide⟩ (lz_small y 6 g.1 g.2 (by omega) w)

set_option maxRecDepth 100000 in
/-- scale, at any product and a divisor up to 64. -/
theorem scale_any (c a b : Nat) (hc : c < 18446744073709551616) (ha : a < 9223372036854775808) (h0 : 0 < b) (hb : b ≤ 64) (w : World) :
    Calls Try.prog 68 #[.int .u64 c, .int .i64 a, .int .i64 b] w fun e w' => e = .returned (scV (c * a / b)) ∧ Below w.heap.size w w' := by
  by_cases hp : c * a < 18446744073709551616
  · exact scale_low c a b hc ha (by omega) h0 hp w
  · have c1 := mul64_any c a hc (by omega) w
    have hs := Nat.div_add_mod (c * a) 18446744073709551616
    have hh : 0 < c * a / 18446744073709551616 := Nat.div_pos (by omega) (by omega)
    have hlo : c * a % 18446744073709551616 < 18446744073709551616 := Nat.mod_lt _ (by omega)
    obtain ⟨m, hm⟩ : ∃ m, c * a = m := ⟨_, rfl⟩
    rw [hm] at hs hh hlo c1 ⊢
    clear hm hp
    obtain ⟨H, hH⟩ : ∃ H, m / 18446744073709551616 = H := ⟨_, rfl⟩
    obtain ⟨L, hL⟩ : ∃ L, m % 18446744073709551616 = L := ⟨_, rfl⟩
    rw [hH] at hs hh c1
    rw [hL] at hs hlo c1
    clear hH hL
    have wa : IntKind.u64.wrap (a : Int) = (a : Int) := wrapU a (by omega)
    have wb : IntKind.u64.wrap (b : Int) = (b : Int) := wrapU b (by omega)
    by_cases hb2 : b ≤ H
    · have E : Hid (scV (m / b) = .tuple #[.int .u64 0, .bool false]) := if_neg (by
        intro hlt
        have h2 : m < 18446744073709551616 * b := (Nat.div_lt_iff_lt_mul h0).1 hlt
        have h3 : 18446744073709551616 * b ≤ 18446744073709551616 * H := Nat.mul_le_mul_left _ hb2
        omega)
      have hbi : (b : Int) ≤ (H : Int) := by omega
      clear hs hlo hh
      go_enter Try.func68, Try.ntmps68
      go_wp2_with (go_at_call 71; refine c1.mono ?_; rintro e w' ⟨rfl, hw'⟩; replace hw' := hw'.symm; subst hw')
      go_ret2
      exact ⟨congrArg Ending.returned E.out.symm, Below.refl _ _⟩
    · have c2 := div64_small H L b w hh (by omega) hb hlo
      have e : H * 18446744073709551616 + L = m := by omega
      rw [e] at c2
      have E : Hid (scV (m / b) = .tuple #[.int .u64 (m / b : Nat), .bool true]) := if_pos ((Nat.div_lt_iff_lt_mul h0).2 (by
        have h3 : (H + 1) * 18446744073709551616 ≤ b * 18446744073709551616 := Nat.mul_le_mul_right _ (by omega)
        rw [Nat.mul_comm b] at h3
        omega))
      have hbi : ¬ ((b : Int) ≤ (H : Int)) := by omega
      clear hs hlo hh e
      generalize scV (m / b) = V at *
      generalize m / b = q at *
      go_enter Try.func68, Try.ntmps68
      go_wp2_with (first
        | (go_at_call 71; refine c1.mono ?_; rintro e w' ⟨rfl, hw'⟩; replace hw' := hw'.symm; subst hw')
        | (go_at_call 72; refine c2.mono ?_; rintro e w' ⟨⟨r, rfl⟩, hw'⟩; replace hw' := hw'.symm; subst hw'))
      go_ret2
      exact ⟨congrArg Ending.returned E.out.symm, Below.refl _ _⟩
end Go.Proofs.Ytghfomammdbgoaa

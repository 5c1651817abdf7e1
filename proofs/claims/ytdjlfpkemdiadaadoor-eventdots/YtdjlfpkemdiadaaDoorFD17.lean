/- forward; Of, Memory, Locked, writes of event. -/
import Derived.Test.YtdjlfpkemdiadaaDoorFB17
import Derived.Laws.Bits64
namespace Go.Proofs.YtdjlfpkemdiadaaDoor
open Go.RowKit M
set_option linter.unusedSimpArgs false
set_option linter.unusedVariables false

/-- The places behind one. -/
def upM (a : Nat) : Nat := 18446744073709551616 - 2 ^ (a + 1)
theorem upM_lt (a : Nat) : upM a < 18446744073709551616 := by have := Nat.two_pow_pos (a + 1); unfold upM; omega
theorem upM_bit (a b : Nat) (ha : a < 64) : (upM a).testBit b = (decide (a < b) && decide (b < 64)) := by
  have e : upM a = (2 ^ (63 - a) - 1) * 2 ^ (a + 1) := by
    unfold upM
    rw [Nat.sub_mul, ← Nat.pow_add, show 63 - a + (a + 1) = 64 by omega, Nat.one_mul]
  rw [e, Nat.testBit_mul_two_pow, Nat.testBit_two_pow_sub_one]
  by_cases h : a + 1 ≤ b
  · simp only [ge_iff_le, h, decide_true, Bool.true_and, show a < b by omega]
    by_cases h2 : b < 64
    · simp [h2, show b - (a + 1) < 63 - a by omega]
    · simp [h2, show ¬ b - (a + 1) < 63 - a by omega]
  · simp [h, show ¬ a < b by omega]
/-- The rows, as far as they are cut. -/
def fwF (k : Nat) (f : Nat → Nat) : Nat → Nat := fun a => if a < k then f a &&& upM a else f a
theorem fwF_start (f : Nat → Nat) (a : Nat) : fwF 0 f a = f a := if_neg (by omega)
theorem fwF_at (k : Nat) (f : Nat → Nat) : fwF k f k = f k := if_neg (by omega)
theorem fwF_next (k : Nat) (f : Nat → Nat) (a : Nat) : upd (fwF k f) k (f k &&& upM k) a = fwF (k + 1) f a := by
  unfold upd fwF
  by_cases e : a = k
  · subst e; rw [if_pos rfl, if_pos (by omega)]
  · rw [if_neg e]
    by_cases h : a < k
    · rw [if_pos h, if_pos (by omega)]
    · rw [if_neg h, if_neg (by omega)]
theorem fw_pr (n : Nat) (hn : n ≤ 64) (q : Nat → Nat → Bool) (a : Nat) (ha : a < 64) : fwF n (prF n q) a = prF n (fun a b => q a b && decide (a < b)) a := by
  refine rows_ext (fun a b ha => ?_) a ha
  unfold fwF
  by_cases h : a < n
  · rw [if_pos h, Nat.testBit_and, prF_bit, upM_bit a b ha]
    by_cases hb : b < n
    · simp [h, hb, show b < 64 by omega]
    · simp [h, hb]
  · rw [if_neg h, prF_bit]; simp [h]
theorem shl_all (k : Nat) (h : k < 63) : IntKind.u64.wrap (18446744073709551615 * (2 : Int) ^ (k + 1)) = ((upM k : Nat) : Int) := by
  have h1 : 2 ^ (k + 1) < 2 ^ 64 := Nat.pow_lt_pow_right (by decide) (by omega)
  have h0 := Nat.two_pow_pos (k + 1)
  have e : ((2 : Int) ^ (k + 1)) = ((2 ^ (k + 1) : Nat) : Int) := by simp
  unfold upM
  rw [e, IntKind.wrap_u64]
  generalize 2 ^ (k + 1) = p at *
  omega

set_option maxRecDepth 100000 in
set_option maxHeartbeats 4000000 in
theorem forward_any (n : Nat) (hn : n ≤ 64) (f : Nat → Nat) (hf : Wf f) (w : World) : Calls Tryd.prog 31 #[relv n f] w fun e w' => e = .returned (relv n (fwF n f)) ∧ Below w.heap.size w w' := by
  have HF : Hid (Wf f) := hf
  clear hf
  go_enter Tryd.func31, Tryd.ntmps31
  go_wp2_with (first
    | (refine wpList_boxR rfl _ rfl rfl ?_; intro W1 b1 F1 r1; have B1 := F_b F1; have hb1 : w.heap.size ≤ b1 := Nat.le_of_eq F1.at'.symm; clear F1)
    | (refine wpList_allocR rfl rfl ?_; intro W2 b2 F2 r2; replace B1 := Below.then B1 (F_b F2); have hb2 : b1 < b2 := (by rw [F2.at']; exact r1.lt); replace r1 := r1.fresh F2; have yn := r1.n; clear F2))
  clear yn
  go_loopw [6] (fun i wr => ∃ k : Nat, k ≤ n ∧ i = .int .i64 k ∧ IsR wr b1 n (fwF k f) ∧ IsR wr b2 0 void ∧ Hid (Below w.heap.size w wr)) (fun i _ => n - (intOf i).toNat)
  case atStart => exact ⟨0, by omega, rfl, r1.congr (fun i _ => (fwF_start f i).symm), r2, B1⟩
  case round =>
    clear r1 r2 B1
    obtain ⟨k, hk, rfl, q1, q2, BB⟩ := hrel
    by_cases hlt : k < n
    · have hki : (k : Int) < n := by omega
      have hk64 : (k : Int) < 64 := by omega
      have hrow := q1.row k (by omega)
      rw [fwF_at] at hrow
      have hfz := q1.frozen (1 + k)
      have hand := u64_and_nat (f k) (upM k) (HF.out k) (upM_lt k)
      have U := Upd.setCell wr b1 (1 + k) (.int .u64 ((f k &&& upM k : Nat) : Int))
      have HQ : Hid (IsR (wr.setCell ⟨b1, 1 + k, none⟩ (.int .u64 ((f k &&& upM k : Nat) : Int))) b1 n (fwF (k + 1) f) ∧ IsR (wr.setCell ⟨b1, 1 + k, none⟩ (.int .u64 ((f k &&& upM k : Nat) : Int))) b2 0 void ∧ Below w.heap.size w (wr.setCell ⟨b1, 1 + k, none⟩ (.int .u64 ((f k &&& upM k : Nat) : Int)))) :=
        ⟨(q1.set k _ (by omega)).congr (fun j _ => fwF_next k f j), q2.upd U (by omega), U.trans BB.out (by omega)⟩
      clear U q1 q2 BB
      by_cases h63 : k < 63
      · have hsh := shl_all k h63
        have hk63 : (k : Int) + 1 < 64 := by omega
        generalize f k &&& upM k = z at *
        generalize f k = z0 at *
        generalize upM k = z1 at *
        go_wp2
        go_region
        go_wp2
        go_roundw
        case rel => exact ⟨k + 1, by omega, by simp, HQ.out.1.drew, HQ.out.2.1.drew, HQ.out.2.2.drew⟩
        case measure => simp [intOf]; omega
      · obtain rfl : k = 63 := by omega
        have hz : f 63 &&& upM 63 = 0 := by rw [show upM 63 = 0 by decide, Nat.and_zero]
        rw [hz] at HQ
        have hb0 : bits .and .u64 (f 63 : Int) 0 = 0 := by
          have := u64_and_nat (f 63) 0 (HF.out 63) (by decide)
          simpa using this
        have hw0 : IntKind.u64.wrap 340282366920938463444927863358058659840 = 0 := by decide
        clear hand hz
        generalize f 63 = z0 at *
        go_wp2
        go_region
        go_wp2
        go_roundw
        case rel => exact ⟨64, by omega, by simp, HQ.out.1.drew, HQ.out.2.1.drew, HQ.out.2.2.drew⟩
        case measure => simp [intOf]; omega
    · obtain rfl : k = n := by omega
      go_wp2_with (first
        | (refine wpList_loadR rfl _ rfl rfl q1 ?_)
        | (refine wpList_storeR rfl _ _ rfl rfl rfl q2 ?_; intro W4 U4 r4))
      refine ret_R rfl rfl rfl r4 ⟨rfl, U4.trans BB.out (by omega)⟩
end Go.Proofs.YtdjlfpkemdiadaaDoor

/- The iterator Each: for every loop body that keeps the library's table, it goes through a set's numbers, rising; or through the first of them, where a round says no more. -/
import Derived.RangeFuncNested
import Derived.RangeFuncBound
import Derived.RangeFuncCalls
import Derived.RangeFuncLeaves
import Derived.RangeFuncBox
import Derived.Shelf.Abstract
import Derived.OwnWalkIn
import Derived.TacticsInMore
import Derived.LoopNIn
import Derived.LoopIn
import Derived.Maps.AppendAt
import Derived.Test.YtdjlfpkemdiadaaDoorQR
namespace Go.Proofs.YtdjlfpkemdiadaaDoor
open Go.RowKit Go.Shelf M
attribute [local go_sem] Oper.semAt_some
set_option linter.unusedSimpArgs false
set_option linter.unusedVariables false

/-- The library's table, in its variable. -/
def TabAt (w : World) : Prop := ∀ j, j < 64 → w.cell? ⟨1, j, none⟩ = some (.int .u8 (Lib.deBruijn64tab.getD j 0 : Nat))

theorem tz64_key (x a : Nat) (hx : x < 18446744073709551616) (hx0 : x ≠ 0) (hlow : x &&& (18446744073709551616 - x) = a) :
    IntKind.u64.wrap (bits BinOp.and IntKind.u64 (x : Int) (IntKind.u64.wrap (-(x : Int))) * 285870213051353865) / 288230376151711744 = ((a * 285870213051353865 % 18446744073709551616 / 288230376151711744 : Nat) : Int) := by
  have e1 : IntKind.u64.wrap (-(x : Int)) = ((18446744073709551616 - x : Nat) : Int) := by rw [IntKind.wrap_u64]; omega
  rw [e1, u64_and_nat x _ hx (by omega), hlow, IntKind.wrap_u64]
  omega

theorem tz64_core (x k idx : Nat) (w : World) (hx0 : ((x : Int) == 0) = false)
    (key : IntKind.u64.wrap (bits BinOp.and IntKind.u64 (x : Int) (IntKind.u64.wrap (-(x : Int))) * 285870213051353865) / 288230376151711744 = (idx : Int))
    (hi : idx < 64) (hk : k < 64) (hcell : w.cell? ⟨1, idx, none⟩ = some (.int .u8 k)) :
    Calls Tryd.prog 103 #[.int .u64 x] w fun e w' => e = .returned (.int .i64 k) ∧ w' = w := by
  go_enter Tryd.func103, Tryd.ntmps103
  go_wp2_with (simp only [key])
  go_ret
  exact ⟨rfl, rfl⟩

theorem tz_any (x : Nat) (w : World) (hx : x < 18446744073709551616) (hx0 : x ≠ 0) (hT : TabAt w) :
    Calls Tryd.prog 103 #[.int .u64 x] w fun e w' => e = .returned (.int .i64 (Lib.ctz 64 x : Nat)) ∧ w' = w := by
  obtain ⟨hlow, hk⟩ := Lib.lowest_bit 64 x hx0 hx
  obtain ⟨hi, htab⟩ := Lib.deBruijn64_at _ hk
  have hcell := hT _ hi
  rw [htab] at hcell
  exact tz64_core x _ _ w (by simp; omega) (tz64_key x _ hx hx0 hlow) hi hk hcell

theorem lowest_any (x : Nat) (w : World) (hx : x < 18446744073709551616) (hx0 : x ≠ 0) (hT : TabAt w) :
    Calls Tryd.prog 98 #[.int .u64 x] w fun e w' => e = .returned (.int .i64 (Lib.ctz 64 x : Nat)) ∧ w' = w := by
  have c := tz_any x w hx hx0 hT
  clear hT
  go_enter Tryd.func98, Tryd.ntmps98
  go_wp2_with (go_at_call 103; refine c.mono ?_; rintro e w' ⟨rfl, rfl⟩)
  go_ret
  exact ⟨rfl, rfl⟩

theorem TabAt.pos {w : World} (h : TabAt w) : 1 < w.heap.size := by
  have := h 0 (by decide)
  by_cases hz : 1 < w.heap.size
  · exact hz
  · exfalso
    have hn : w.heap[1]? = none := Array.getElem?_eq_none (by omega)
    simp [World.cell?, hn] at this

theorem TabAt.below {w w' : World} (h : TabAt w) (hb : Below w.heap.size w w') : TabAt w' := fun j hj => (hb.cell (p := ⟨1, j, none⟩) h.pos).trans (h j hj)

/-- The blocks that a round keeps. -/
def Same (bs : List Nat) (W W' : World) : Prop := ∀ b ∈ bs, W'.heap[b]? = W.heap[b]?
theorem Same.refl (bs : List Nat) (W : World) : Same bs W W := fun _ _ => rfl
theorem Same.trans {bs : List Nat} {A B C : World} (h : Same bs A B) (k : Same bs B C) : Same bs A C := fun b hb => (k b hb).trans (h b hb)
theorem Same.of_below {bs : List Nat} {n : Nat} {A B : World} (h : Below n A B) (hb : ∀ b ∈ bs, b < n) : Same bs A B := fun b hm => h.block b (hb b hm)
theorem Same.putObj {bs : List Nat} {w : World} (hb : ∀ b ∈ bs, b < w.heap.size) (W : World) (l : Nat) (o o' : Obj) (hl : w.heap.size ≤ l) (_ : W.heap[l]? = some o) (_ : o.isCells = false) (_ : o.isWalk = false) : Same bs W (W.putObj l o') :=
  fun b hm => World.putObj_heap_other (by have := hb b hm; omega)

theorem TabAt.same {bs : List Nat} {A B : World} (h : TabAt A) (hs : Same bs A B) (h0 : 1 ∈ bs) : TabAt B := fun j hj => (World.cell?_of_block (w := A) (hs 1 h0)).trans (h j hj)

def valsF (l : List (Fin 64)) : List Nat := l.map (fun x => x.val)
theorem valsF_snoc (l : List (Fin 64)) (x : Fin 64) : valsF (l ++ [x]) = valsF l ++ [x.val] := by simp [valsF]
theorem valsF_len (l : List (Fin 64)) : (valsF l).length = l.length := by simp [valsF]

set_option maxRecDepth 100000 in
set_option maxHeartbeats 1000000 in
theorem each1_in (F : Fence) (n : Nat) (h83 : F.fn 97) (hf79 : F.fn 98) (h79 : ∀ (x : Nat) (W : World), x < 18446744073709551616 → x ≠ 0 → TabAt W → CallsIn F (n - 1) Tryd.prog 98 #[.int .u64 x] W fun e w' => e = .returned (.int .i64 (Lib.ctz 64 x : Nat)) ∧ w' = W)
    (hro : F.round = none) (hn : 1 ≤ n) (l Bn s : Nat) (hs : s < 18446744073709551616) (J Jx : List (Fin 64) → World → Prop)
    (hY : ∀ pre x W, J pre W → pre.length < (lst s).length → YieldAt F (n - 1) Tryd.prog l #[.int .i64 ((x : Fin 64).val : Nat)] W fun e W' =>
      (e = .returned (.bool true) ∧ J (pre ++ [x]) W' ∧ Same [1] W W') ∨ (e = .returned (.bool false) ∧ Jx (pre ++ [x]) W'))
    (W : World) (hBn : W.cell? ⟨Bn, 0, none⟩ = some (.int .u64 s)) (hT : TabAt W) (h0 : J [] W) :
    CallsIn F n Tryd.prog 97 #[.func (.yield l) #[] #[], .pointer (some ⟨Bn, 0, none⟩)] W fun e W' => (∃ v, e = .returned v) ∧
      ((∃ ys, valsF ys = lst s ∧ J ys W') ∨ (∃ pre, valsF pre <+: lst s ∧ Jx pre W')) := by
  refine callsIn_of_wp Tryd.func97 rfl h83 ?_ hro
  simp only [Tryd.ntmps97, List.size_toArray, List.length_cons, List.length_nil, Nat.reduceAdd, Nat.reduceSub, Array.replicate_succ, Array.replicate_zero, List.push_toArray, List.append_toArray, List.nil_append, List.cons_append]
  gi_wp2
  gi_loopw [3] (fun p wr => ∃ (pre : List (Fin 64)) (t : Nat), p = .int .u64 t ∧ t < 18446744073709551616 ∧ lst s = valsF pre ++ lst t ∧ TabAt wr ∧ J pre wr) (fun p wr => (lst (intOf p).toNat).length)
  case atStart => exact ⟨[], s, rfl, hs, rfl, hT, h0⟩
  case round =>
    obtain ⟨pre, t, rfl, ht, hx, hTr, hJs⟩ := hrel
    by_cases hz : t = 0
    · subst hz
      rw [lst_zero, List.append_nil] at hx
      gi_wp2
      go_end0
      exact ⟨⟨_, rfl⟩, .inl ⟨pre, hx.symm, hJs⟩⟩
    · obtain ⟨hk, hl⟩ := lst_low hz ht
      have hlt := lst_low_and ht
      have c := h79 t wr ht hz hTr
      have hzz : ((t : Int) == 0) = false := by simp; omega
      have key : bits BinOp.and IntKind.u64 (t : Int) ((t : Int) - 1) = ((t &&& (t - 1) : Nat) : Int) := by
        have := u64_and_nat t (t - 1) ht (by omega)
        rw [← this, Int.ofNat_sub (by omega)]; rfl
      have HL : Hid (lst t = Lib.ctz 64 t :: lst (t &&& (t - 1))) := hl
      have hpl : pre.length < (lst s).length := by rw [hx, hl]; simp [valsF]
      have HX : Hid (lst s = valsF pre ++ lst t) := hx
      clear hx hl
      generalize Lib.ctz 64 t = k at *
      generalize t &&& (t - 1) = t' at *
      obtain ⟨fn, tmps, assign, body, hy, hR⟩ := hY pre ⟨k, hk⟩ wr hJs hpl
      dsimp only at hy
      gi_wp2_with (gi_at_call 98; refine c.mono ?_; rintro e w' ⟨rfl, hw'⟩; replace hw' := hw'.symm; subst hw')
      refine hR.mono ?_
      rintro e W3 (⟨rfl, hJ3, hk3⟩ | ⟨rfl, hJx3⟩)
      · gi_wp2
        go_roundw
        case rel => exact ⟨pre ++ [⟨k, hk⟩], t', rfl, hlt, by rw [HX.out, HL.out, valsF_snoc]; simp, hTr.same hk3 (by simp), hJ3⟩
        case measure => simp [intOf]; rw [HL.out]; simp
      · gi_wp2
        refine bodyPost_ret (results_none rfl _ _ _) rfl ?_
        exact ⟨⟨_, rfl⟩, .inr ⟨pre ++ [⟨k, hk⟩], ⟨lst t', by rw [HX.out, HL.out, valsF_snoc]; simp⟩, hJx3⟩⟩
theorem each_any (s : Nat) (w : World) :
    Calls Tryd.prog 93 #[.int .u64 s] w fun e w' => e = .returned (.func (.func 97) #[] #[.pointer (some ⟨w.heap.size, 0, none⟩)]) ∧ w' = w.alloc (.cells #[.int .u64 s] 29) := by
  go_enter Tryd.func93, Tryd.ntmps93
  go_wp2
  go_ret
  exact ⟨rfl, rfl⟩

theorem each_stops (n : Nat) (hn : 1 ≤ n) (Bn s : Nat) (hs : s < 18446744073709551616) (w : World) (hBn : Bn < w.heap.size) (hc : w.cell? ⟨Bn, 0, none⟩ = some (.int .u64 s)) (hT : TabAt w) :
    SeqStopsK Fence.wide n Tryd.prog 97 #[.pointer (some ⟨Bn, 0, none⟩)] (fun x : Fin 64 => #[Value.int .i64 (x.val : Nat)]) (Same [1]) (fun ys => valsF ys = lst s) (fun pre => valsF pre <+: lst s) (lst s).length w := fun l J Jx W hW _ _ hY h0 =>
  each1_in Fence.wide n trivial trivial (fun x W' hx h0' hT' => callsIn_wide.2 (lowest_any x W' hx h0' hT')) rfl hn l Bn s hs J Jx hY W ((hW.cell (p := ⟨Bn, 0, none⟩) hBn).trans hc) (hT.below hW) h0

end Go.Proofs.YtdjlfpkemdiadaaDoor

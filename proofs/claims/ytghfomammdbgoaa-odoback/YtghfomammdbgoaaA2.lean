/- The list with a number, of a product. -/
import Derived.Test.YtghfomammdbgoaaA1
import Derived.Test.YtghfomammdbgoaaT0
namespace Go.Proofs.Ytghfomammdbgoaa
open Go.RowKit Go.Shelf K
attribute [local go_sem] Oper.semAt_some
set_option linter.unusedSimpArgs false
set_option linter.unusedVariables false

theorem RowZ.drew {w : World} {b : Nat} {zs : List Int} (h : RowZ w b zs) : RowZ w.drew b zs := h

/-- One place of a counter: what is left of the number, and the list. -/
def stepA (l : List Nat) (s : Nat × List Int) (x : Fin l.length) : Nat × List Int := (s.1 / l.getD x.val 0, s.2.set x.val ((s.1 % l.getD x.val 0 : Nat) : Int))
def stA (l : List Nat) (n : Nat) (pre : List (Fin l.length)) : Nat × List Int := pre.foldl (stepA l) (n, List.replicate l.length 0)
theorem stA_snoc (l : List Nat) (n : Nat) (pre : List (Fin l.length)) (x : Fin l.length) : stA l n (pre ++ [x]) = stepA l (stA l n pre) x := by simp [stA]
theorem stA_lt (l : List Nat) (n : Nat) (hn : n < 18446744073709551616) (pre : List (Fin l.length)) : (stA l n pre).1 < 18446744073709551616 := by
  have key : ∀ (pre : List (Fin l.length)) (s : Nat × List Int), s.1 < 18446744073709551616 → (pre.foldl (stepA l) s).1 < 18446744073709551616 := by
    intro pre
    induction pre with
    | nil => intro s h; exact h
    | cons x pre ih => intro s h; exact ih _ (Nat.lt_of_le_of_lt (Nat.div_le_self _ _) h)
  exact key pre _ hn
theorem stA_len (l : List Nat) (n : Nat) (pre : List (Fin l.length)) : (stA l n pre).2.length = l.length := by
  have key : ∀ (pre : List (Fin l.length)) (s : Nat × List Int), (pre.foldl (stepA l) s).2.length = s.2.length := by
    intro pre
    induction pre with
    | nil => intro s; rfl
    | cons x pre ih => intro s; rw [List.foldl_cons, ih]; simp [stepA]
  rw [stA, key]; simp
/-- The list with a number. -/
def atP (l : List Nat) (n : Nat) : List Int := (stA l n (backF l.length 0)).2
theorem atP_len (l : List Nat) (n : Nat) : (atP l n).length = l.length := stA_len l n _

set_option maxRecDepth 100000 in
set_option maxHeartbeats 2000000 in
theorem pat_any (a : Option Addr) (cap : Nat) (l : List Nat) (n : Nat) (w : World) (hN : Nums w a (zsOf l)) (hl : l.length ≤ 64) (hn : n < 18446744073709551616) (h0 : Hid (0 ∉ l)) (hx : Hid (∀ n ∈ l, n < 9223372036854775808)) :
    Calls Try.prog 60 #[.slice a l.length cap, .int .u64 n] w fun e w' => (∃ b c, e = .returned (.slice (some ⟨b, 0, none⟩) l.length c) ∧ RowZ w' b (atP l n)) ∧ Below w.heap.size w w' := by
  have hmk := make22 l.length hl
  have hf66 : Fence.wide.fn 66 := trivial
  have hf69 : Fence.wide.fn 69 := trivial
  have b3 := (((Boxed.new w 25 (.int .u64 n)).alloc (.cells (intsZ (List.replicate l.length 0)).toArray 3)).alloc (.cells #[.slice (some ⟨w.heap.size + 1, 0, none⟩) l.length l.length] 22)).alloc (.cells #[.slice a l.length cap] 83)
  have rr := ((RowZ.new (w.alloc (.cells #[.int .u64 n] 25)) (List.replicate l.length 0)).alloc (.cells #[.slice (some ⟨w.heap.size + 1, 0, none⟩) l.length l.length] 22)).alloc (.cells #[.slice a l.length cap] 83)
  have b5 := (Boxed.new ((w.alloc (.cells #[.int .u64 n] 25)).alloc (.cells (intsZ (List.replicate l.length 0)).toArray 3)) 22 (.slice (some ⟨w.heap.size + 1, 0, none⟩) l.length l.length)).alloc (.cells #[.slice a l.length cap] 83)
  have bB := Boxed.new (((w.alloc (.cells #[.int .u64 n] 25)).alloc (.cells (intsZ (List.replicate l.length 0)).toArray 3)).alloc (.cells #[.slice (some ⟨w.heap.size + 1, 0, none⟩) l.length l.length] 22)) 83 (.slice a l.length cap)
  have BA : Below w.heap.size w ((((w.alloc (.cells #[.int .u64 n] 25)).alloc (.cells (intsZ (List.replicate l.length 0)).toArray 3)).alloc (.cells #[.slice (some ⟨w.heap.size + 1, 0, none⟩) l.length l.length] 22)).alloc (.cells #[.slice a l.length cap] 83)) :=
    ((((Below.refl _ w).alloc (Nat.le_refl _) _).alloc (by simp) _).alloc (by simp; omega) _).alloc (by simp; omega) _
  have hsz : ((((w.alloc (.cells #[.int .u64 n] 25)).alloc (.cells (intsZ (List.replicate l.length 0)).toArray 3)).alloc (.cells #[.slice (some ⟨w.heap.size + 1, 0, none⟩) l.length l.length] 22)).alloc (.cells #[.slice a l.length cap] 83)).heap.size = w.heap.size + 4 := by simp
  simp only [World.size_alloc] at rr b5 bB
  refine (callsIn_wide (n := 6)).1 ?_
  refine callsIn_of_wp_marks Try.func60 rfl trivial ?_ rfl
  simp only [Try.ntmps60, List.size_toArray, List.length_cons, List.length_nil, Nat.reduceAdd, Nat.reduceSub, Array.replicate_succ, Array.replicate_zero, List.push_toArray, List.append_toArray, List.nil_append, List.cons_append]
  have HB : Hid (Boxed _ _ _ _ ∧ RowZ _ _ _ ∧ Boxed _ _ _ _ ∧ Boxed _ _ _ _) := ⟨b3, rr, b5, bB⟩
  clear b3 rr b5 bB
  gi_wp2_with (first
      | (gi_at_call 66; refine (callsIn_wide.2 (backward_any _ _ _ _)).mono ?_; rintro e w' ⟨rfl, rfl⟩))
  obtain ⟨b3, rr, b5, bB⟩ := HB.out
  clear HB hmk
  have hNW := hN.below BA
  generalize (((w.alloc (.cells #[.int .u64 n] 25)).alloc (.cells (intsZ (List.replicate l.length 0)).toArray 3)).alloc (.cells #[.slice (some ⟨w.heap.size + 1, 0, none⟩) l.length l.length] 22)).alloc (.cells #[.slice a l.length cap] 83) = W0 at *
  refine wpIn_rangeFunc_ownG rfl (by omega) (gf := 69) (lb := #[.pointer (some ⟨w.heap.size + 1 + 1 + 1, 0, none⟩)]) rfl trivial (enters_of Try.func69 (by kernel_rfl) rfl)
      (back_stops (6 - 1) (by omega) (w.heap.size + 1 + 1 + 1) a cap l hl (bsOf (w.heap.size + 1 + 1 + 1) a l) (by simp [bsOf]) (bsOf_all _ _ _) _ bB hNW) Same.trans (Same.putObj (bsOf_lt hN (by omega) (by omega))) (Below.refl _ _) (fun _ => rfl)
      (fun pre W => (Boxed W w.heap.size 25 (.int .u64 ((stA l n pre).1 : Nat)) ∧ Boxed W (w.heap.size + 1 + 1) 22 (.slice (some ⟨w.heap.size + 1, 0, none⟩) l.length l.length) ∧ RowZ W (w.heap.size + 1) (stA l n pre).2) ∧ Below w.heap.size w W)
      (fun _ _ _ => False)
      (OwnFrom.and (OwnFrom.and (Own.from (boxed_own _ _ (fun pre => _)) _) (OwnFrom.and (Own.from (boxed_own _ _ (fun _ => _)) _) (Own.from (rowZ_own _ (fun pre => (stA l n pre).2)) _))) (ownFrom_below (Nat.le_refl _) (by omega)))
      (fun _ _ _ _ _ hs _ _ => hs)
      ⟨⟨b3, b5, rr⟩, BA⟩
      (fun x => { tmps := #[.slice a l.length cap, .int .u64 (n : Nat), undef, .pointer (some ⟨w.heap.size, 0, none⟩), .slice none 0 0, .pointer (some ⟨w.heap.size + 1 + 1, 0, none⟩), .int .i64 (x.val : Nat), .int .i64 (l.getD x.val 0 : Nat), .slice a l.length cap, .int .i64 (l.length : Nat), .slice (some ⟨w.heap.size + 1, 0, none⟩) l.length l.length, .slice a l.length cap, .func (.func 69) #[] #[.pointer (some ⟨w.heap.size + 1 + 1 + 1, 0, none⟩)], .int .i64 (x.val : Nat), .int .i64 (l.getD x.val 0 : Nat), undef, undef, undef, undef, undef, undef, undef, undef, undef, undef, undef, undef, undef], defers := [] }) ?assign ?body ?done ?stop
  case assign =>
    intro y x W K hK
    dsimp only [encB]
    generalize l.getD x.val 0 = z at *
    gi_wp2
    exact hK
  case stop =>
    rintro D c pre W _ _ h _
    exact h.elim
  case body =>
    rintro y pre x W ⟨⟨q3, q5, qr⟩, hB⟩ hlt
    have HP : Hid (stA l n (pre ++ [x]) = stepA l (stA l n pre) x) := stA_snoc l n pre x
    have hm := stA_lt l n hn pre
    have hlen := stA_len l n pre
    have c3 := q3.cell
    have f3 := q3.frozen
    have c5 := q5.cell
    obtain ⟨k, hk⟩ := x
    dsimp only [stepA] at HP ⊢
    have hz := hx.out _ (getD_mem hk)
    have hz0 : l.getD k 0 ≠ 0 := fun e => h0.out (by rw [← e]; exact getD_mem hk)
    have hf := qr.frozen k
    have hc := qr.cell k (by omega)
    have U1 := Upd.setCell W (w.heap.size + 1) k (.int .i64 (((stA l n pre).1 % l.getD k 0 : Nat) : Int))
    have qr1 := qr.set k (((stA l n pre).1 % l.getD k 0 : Nat) : Int)
    have q31 := boxed_upd q3 U1 (by omega)
    have q51 := boxed_upd q5 U1 (by omega)
    have c31 := q31.cell
    have f31 := q31.frozen
    have U2 := Upd.setCell (W.setCell ⟨w.heap.size + 1, k, none⟩ (.int .i64 (((stA l n pre).1 % l.getD k 0 : Nat) : Int))).drew w.heap.size 0 (.int .u64 (((stA l n pre).1 / l.getD k 0 : Nat) : Int))
    have hn1 := bsOf_not (Bn := w.heap.size + 1 + 1 + 1) hN (Nat.le_refl _) (show w.heap.size < w.heap.size + 1 + 1 + 1 by omega)
    have hn2 := bsOf_not (Bn := w.heap.size + 1 + 1 + 1) hN (show w.heap.size ≤ w.heap.size + 1 by omega) (show w.heap.size + 1 < w.heap.size + 1 + 1 + 1 by omega)
    have HF : ∀ act : Act, ownPostG W0.heap.size (Same (bsOf (w.heap.size + 1 + 1 + 1) a l))
          (fun pre W => (Boxed W w.heap.size 25 (.int .u64 ((stA l n pre).1 : Nat)) ∧ Boxed W (w.heap.size + 1 + 1) 22 (.slice (some ⟨w.heap.size + 1, 0, none⟩) l.length l.length) ∧ RowZ W (w.heap.size + 1) (stA l n pre).2) ∧ Below w.heap.size w W)
          (fun _ _ _ => False) (pre ++ [⟨k, hk⟩]) W .normal act ((W.setCell ⟨w.heap.size + 1, k, none⟩ (.int .i64 (((stA l n pre).1 % l.getD k 0 : Nat) : Int))).drew.setCell ⟨w.heap.size, 0, none⟩ (.int .u64 (((stA l n pre).1 / l.getD k 0 : Nat) : Int))) := fun act =>
        ⟨((KeepsOthers.setCell _ _ _).trans ((KeepsOthers.drew _).trans (KeepsOthers.setCell _ _ _))).from _, fun b hb => (U2.block b (fun e => hn1 (e ▸ hb))).trans (U1.block b (fun e => hn2 (e ▸ hb))),
          ⟨by rw [HP.out]; exact Boxed.set _ (boxed_drew q31), boxed_upd (boxed_drew q51) U2 (by omega), by rw [HP.out]; exact qr1.drew.upd U2 (by omega)⟩, U2.trans ((U1.trans hB (by omega)).drew) (by omega)⟩
    refine wpIn_mono (Q := fun e _ w' => e = Exit.normal ∧ w' = (W.setCell ⟨w.heap.size + 1, k, none⟩ (.int .i64 (((stA l n pre).1 % l.getD k 0 : Nat) : Int))).drew.setCell ⟨w.heap.size, 0, none⟩ (.int .u64 (((stA l n pre).1 / l.getD k 0 : Nat) : Int))) ?_ (fun e a' w' h => by obtain ⟨rfl, rfl⟩ := h; exact HF a')
    clear HF U1 U2 hn1 hn2 qr1 q31 q51 q3 q5 qr hB HP hNW bB b5 b3 rr BA hN hsz hlt hx h0
    generalize (stA l n pre).1 = m at *
    generalize (stA l n pre).2 = zs at *
    generalize l.getD k 0 = z at *
    have e1 : IntKind.u64.wrap (z : Int) = (z : Int) := wrapU z (by omega)
    have hzi : (z : Int) ≠ 0 := by omega
    have hki : (k : Int) < (l.length : Int) := by omega
    have hrem : m % z < 9223372036854775808 := Nat.lt_of_lt_of_le (Nat.mod_lt _ (by omega)) (by omega)
    have e2 : IntKind.i64.wrap ((m : Int) % (z : Int)) = ((m % z : Nat) : Int) := by
      rw [show ((m : Int) % (z : Int)) = ((m % z : Nat) : Int) from rfl, IntKind.wrap_i64]; omega
    have e3 : IntKind.u64.wrap ((m : Int) / (z : Int)) = ((m / z : Nat) : Int) := by
      rw [show ((m : Int) / (z : Int)) = ((m / z : Nat) : Int) from rfl]
      exact wrapU _ (Nat.lt_of_le_of_lt (Nat.div_le_self _ _) hm)
    obtain ⟨r, hr⟩ : ∃ r, m % z = r := ⟨_, rfl⟩
    obtain ⟨q, hq⟩ : ∃ q, m / z = q := ⟨_, rfl⟩
    rw [hr] at e2 c31 f31 hrem ⊢
    rw [hq] at e3 ⊢
    clear hr hq
    have e4 : wrap64 ((m : Int) % (z : Int)) = (r : Int) := by
      have := e2
      rw [IntKind.wrap_i64] at this
      unfold wrap64
      omega
    gi_wp2_with fail
    refine still_tail_round 8 (by kernel_rfl) (by kernel_rfl) (by kernel_rfl) ?_
    simp only [List.take_succ_cons, List.take_zero, List.drop_succ_cons, List.drop_zero]
    repeat still_step
    refine wpStill_nil ?_
    gi_wp2_with fail
    all_goals first | exact ⟨rfl, rfl⟩ | rfl | (simp only [e4, e2]; done) | trace_state
  case done =>
    rintro D ys W hD rfl ⟨⟨q3, q5, qr⟩, hB⟩ hK
    have c5 := q5.cell
    gi_wp2
    refine ⟨by simp, .inl ⟨_, _, rfl, run_takeDeferred hK, ?_⟩⟩
    exact ⟨_, results_tmp rfl _ _ _, ⟨_, _, rfl, (World.putObj_heap_other (by omega)).trans qr⟩, hB.trans (belowK_b (w := w) (Nat.le_refl _) W D _ _ (by omega) hK rfl rfl)⟩
end Go.Proofs.Ytghfomammdbgoaa

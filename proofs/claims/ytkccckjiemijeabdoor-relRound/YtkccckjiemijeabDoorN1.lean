/- before: the numbers that stand to one of a row. -/
import Derived.Test.YtkccckjiemijeabDoorV9
namespace Go.Proofs.YtkccckjiemijeabDoor
open Go.RowKit Go.Shelf M P
attribute [local go_sem] Oper.semAt_some
set_option linter.unusedSimpArgs false
set_option linter.unusedVariables false

/-- The rows of some numbers, joined. -/
def orF (G : Nat → Nat) (l : List Nat) : Nat := l.foldl (fun t b => t ||| G b) 0
theorem orF_snoc (G : Nat → Nat) (l : List Nat) (b : Nat) : orF G (l ++ [b]) = orF G l ||| G b := by simp [orF]
theorem orF_lt {G : Nat → Nat} (hG : Wf G) (l : List Nat) : orF G l < 18446744073709551616 := by
  have key : ∀ (l : List Nat) (t : Nat), t < 2 ^ 64 → l.foldl (fun t b => t ||| G b) t < 2 ^ 64 := by
    intro l
    induction l with
    | nil => intro t ht; exact ht
    | cons b l ih => intro t ht; exact ih _ (Nat.or_lt_two_pow ht (hG b))
  exact key l 0 (by decide)
theorem orF_bit (G : Nat → Nat) (l : List Nat) (a : Nat) : (orF G l).testBit a = true ↔ ∃ b ∈ l, (G b).testBit a = true := by
  have key : ∀ (l : List Nat) (t : Nat), (l.foldl (fun t b => t ||| G b) t).testBit a = true ↔ t.testBit a = true ∨ ∃ b ∈ l, (G b).testBit a = true := by
    intro l
    induction l with
    | nil => intro t; simp
    | cons b l ih =>
      intro t
      rw [List.foldl_cons, ih, Nat.testBit_or, Bool.or_eq_true]
      simp [or_assoc]
  simpa [orF] using key l 0

theorem results_t {fn : Func} {p : Tmp} (h : fn.results = #[.tmp p]) (tmps : Array Value) (w : World) : (results fn tmps).run Tryd.prog w = .ok (tmps.getD p undef) w := by
  simp only [results, h]
  simp [Sem.run_bind, go_sem]
set_option maxRecDepth 100000 in
set_option maxHeartbeats 2000000 in
theorem before_any (n : Int) (G : Nat → Nat) (hG : Wf G) (s : Nat) (hsl : s < 18446744073709551616) : AnsV 59 #[relv n G, .int .u64 (s : Nat)] (.int .u64 (orF G (lst s) : Nat)) := fun w hT => by
  have hf53 : Fence.wide.fn 53 := trivial
  have hf58 : Fence.wide.fn 58 := trivial
  have HG : Hid (Wf G) := hG
  clear hG
  refine (callsIn_wide (n := 6)).1 ?_
  refine callsIn_of_wp_marks Tryd.func59 rfl trivial ?_ rfl
  simp only [Tryd.ntmps59, List.size_toArray, List.length_cons, List.length_nil, Nat.reduceAdd, Nat.reduceSub, Array.replicate_succ, Array.replicate_zero, List.push_toArray, List.append_toArray, List.nil_append, List.cons_append]
  gi_wp2_with (first
    | (refine wpListIn_boxR rfl _ rfl rfl ?_; intro W1 b1 F1 r1; have B1 := Fresh.trans (Below.refl _ w) (Nat.le_refl _) F1; have hb1 : w.heap.size ≤ b1 := (by rw [F1.at']; exact Nat.le_refl _); clear F1)
    | (gi_at_call 53; refine (callsIn_wide.2 (each_any _ _)).mono ?_; rintro e w' ⟨rfl, rfl⟩))
  have k5 := Boxed.new W1 22 (.int .u64 0)
  have r2 := r1.alloc (.cells #[.int .u64 0] 22)
  have B2 := B1.alloc B1.size (.cells #[.int .u64 0] 22)
  have h1l := r1.lt
  have hz2 : (W1.alloc (.cells #[.int .u64 0] 22)).heap.size = W1.heap.size + 1 := by simp
  obtain ⟨b5, hb5⟩ : ∃ b, W1.heap.size = b := ⟨_, rfl⟩
  have hw5 : w.heap.size ≤ b5 := by rw [← hb5]; exact B1.size
  simp only [hb5] at *
  generalize W1.alloc (.cells #[.int .u64 0] 22) = W2 at *
  clear r1 B1
  have hp := hT.pos
  have hT2 : TabAt W2 := hT.below B2
  have bS := Boxed.new W2 22 (.int .u64 (s : Nat))
  rw [hz2] at bS
  have hB1' : Below W2.heap.size W2 (W2.alloc (.cells #[.int .u64 (s : Nat)] 22)) := (Below.refl _ W2).alloc (Nat.le_refl _) _
  have hB0 := B2.trans (hB1'.mono B2.size)
  have hT4 := hT2.below hB1'
  have hzz : (W2.alloc (.cells #[.int .u64 (s : Nat)] 22)).heap.size = b5 + 2 := by simp [hz2]
  refine wpIn_rangeFunc_ownG rfl (by omega) (gf := 58) (lb := #[.pointer (some ⟨b5 + 1, 0, none⟩)]) rfl trivial (enters_of Tryd.func58 (by kernel_rfl) rfl)
    (each_stops (6 - 1) (by omega) (b5 + 1) s hsl _ (by rw [hzz]; omega) bS.cell hT4) Same.trans (Same.putObj (by simp)) (Below.refl _ _) (fun _ => rfl)
    (fun pre W => (Boxed W b5 22 (.int .u64 (orF G (valsF pre) : Nat)) ∧ IsR W b1 n G) ∧ Below w.heap.size w W)
    (fun _ _ _ => False)
    (OwnFrom.and (OwnFrom.and (Own.from (boxed_own _ _ (fun pre => .int .u64 (orF G (valsF pre) : Nat))) _) (Own.from (isR_own _ _ (fun _ => G)) _)) (ownFrom_below (Nat.le_refl _) (by omega)))
    (fun _ _ _ _ _ hs _ _ => hs)
    ⟨⟨k5.alloc _, r2.alloc _⟩, hB0⟩
    (fun x => { tmps := #[relv n G, .int .u64 (s : Nat), .pointer (some ⟨b1, 0, none⟩), undef, .int .u64 0, .pointer (some ⟨b5, 0, none⟩), .int .i64 (x.val : Nat), .int .u64 (s : Nat), .func (.func 58) #[] #[.pointer (some ⟨b5 + 1, 0, none⟩)], .int .i64 (x.val : Nat), undef, undef, undef, undef, undef, undef, undef], defers := [] }) ?assign ?body ?done ?stop
  case assign =>
    intro l x W K hK
    gi_wp2
    exact hK
  case body =>
    rintro l pre x W ⟨⟨q5, q1⟩, hB⟩ hlt
    obtain ⟨k, hk⟩ := x
    dsimp only
    have c5 := q5.cell
    have fz5 := boxed_frozen q5
    have hrow := q1.row k hk
    have hki : (k : Int) < 64 := by omega
    have hor := u64_or_nat (orF G (valsF pre)) (G k) (orF_lt HG.out _) (HG.out k)
    have U0 := Upd.setCell W b5 0 (.int .u64 ((orF G (valsF pre) ||| G k : Nat) : Int))
    have HF : ∀ act : Act, ownPostG (W2.alloc (.cells #[.int .u64 (s : Int)] 22)).heap.size (Same [0])
        (fun pre W => (Boxed W b5 22 (.int .u64 (orF G (valsF pre) : Nat)) ∧ IsR W b1 n G) ∧ Below w.heap.size w W)
        (fun _ _ _ => False) (pre ++ [⟨k, hk⟩]) W .normal act (W.setCell ⟨b5, 0, none⟩ (.int .u64 ((orF G (valsF pre) ||| G k : Nat) : Int))).drew := fun act =>
      ⟨((KeepsOthers.setCell _ _ _).trans (KeepsOthers.drew _)).from _, fun b hb => by
          rw [List.mem_singleton] at hb
          subst hb
          exact U0.block 0 (by omega),
        ⟨by rw [valsF_snoc, orF_snoc]; exact boxed_drew (boxed_set q5 _), (q1.upd U0 (by omega)).drew⟩, (U0.trans hB hw5).drew⟩
    refine wpIn_mono (Q := fun e _ w' => e = Exit.normal ∧ w' = (W.setCell ⟨b5, 0, none⟩ (.int .u64 ((orF G (valsF pre) ||| G k : Nat) : Int))).drew) ?_ (fun e a' w' h => by obtain ⟨rfl, rfl⟩ := h; exact HF a')
    clear HF U0 q5 q1 hB hT2 hT4 bS hB1' hB0 k5 r2 B2 hlt hT
    generalize orF G (valsF pre) ||| G k = z at *
    generalize orF G (valsF pre) = z0 at *
    generalize G k = z1 at *
    gi_wp2_with fail
    refine still_tail_round 6 (by kernel_rfl) (by kernel_rfl) (by kernel_rfl) ?_
    simp only [List.take_succ_cons, List.take_zero, List.drop_succ_cons, List.drop_zero]
    repeat still_step
    refine wpStill_nil ?_
    gi_wp2_with fail
    all_goals exact ⟨rfl, rfl⟩
  case done =>
    rintro D ys W hD hys ⟨⟨q5, q1⟩, hB⟩ hK
    rw [hys] at q5
    have c5 := q5.cell
    clear q1 k5 r2 B2 hB0 bS hB1' hT2 hT4
    gi_wp2
    refine ⟨by simp, .inl ⟨_, _, rfl, run_takeDeferred hK, ?_⟩⟩
    exact ⟨_, results_t rfl _ _, rfl, hB.trans (belowK_b (w := w) (Nat.le_refl _) W D _ _ (by omega) hK rfl rfl)⟩
  case stop =>
    rintro D c pre W _ _ h _
    exact h.elim
end Go.Proofs.YtkccckjiemijeabDoor

/- Cross, of rel: all rows of one set's numbers are the other set. -/
import Derived.Test.YtdjlfpkemdiadaaDoorRlE1
import Derived.Shelf.RegionOpen
namespace Go.Proofs.YtdjlfpkemdiadaaDoor
open Go.RowKit Go.Shelf M
attribute [local go_sem] Oper.semAt_some
set_option linter.unusedSimpArgs false
set_option linter.unusedVariables false

section
variable {F : Fence} {N : Nat} {ops : Array Oper} {rest : List Oper} {op : Oper} {a : Act} {w : World} {Q : Exit → Act → World → Prop}
theorem plainIn (hgd : op.guard = none) (hnc : ∀ c, op.op ≠ .call c) (hnd : ∀ c, op.op ≠ .defer c) {v : Value} {W : World} (hr : (execOp a.eval op).run Tryd.prog w = .ok (.value v) W)
    (h : wpListIn F N Tryd.prog ops Q rest (a.put op.dst v) W) : wpListIn F N Tryd.prog ops Q (op :: rest) a w := by
  refine wpListIn_plain hgd fun K hK => ⟨fun f hf => ?_, ?_⟩
  · exfalso
    unfold Oper.about at hf
    cases ho : op.op <;> simp_all
  · rw [Oper.semAt_plain F _ _ hnd, hr]
    exact hK _ _ h
theorem skipIn (hgd : op.guard = none) (hnc : ∀ c, op.op ≠ .call c) (hnd : ∀ c, op.op ≠ .defer c) {W : World} (hr : (execOp a.eval op).run Tryd.prog w = .ok .skip W)
    (h : wpListIn F N Tryd.prog ops Q rest (a.put op.dst undef) W) : wpListIn F N Tryd.prog ops Q (op :: rest) a w := by
  refine wpListIn_plain hgd fun K hK => ⟨fun f hf => ?_, ?_⟩
  · exfalso
    unfold Oper.about at hf
    cases ho : op.op <;> simp_all
  · rw [Oper.semAt_plain F _ _ hnd, hr]
    exact hK _ _ h
theorem wpListIn_loadR (hgd : op.guard = none) (x : Operand) (ho : op.op = .load 43 x) {b : Nat} (hx : a.eval x = .pointer (some ⟨b, 0, none⟩)) {n : Int} {f : Nat → Nat} (hc : IsR w b n f)
    (h : wpListIn F N Tryd.prog ops Q rest (a.put op.dst (relv n f)) w) : wpListIn F N Tryd.prog ops Q (op :: rest) a w := by
  refine plainIn hgd (by rw [ho]; intro c e; cases e) (by rw [ho]; intro c e; cases e) ?_ h
  unfold execOp
  have := run_loadAt_mid (P := Tryd.prog) w b 0 43 (cellsL n f) _ hc.range Tryd.underlying43 rfl (by rw [cellsL_length]; exact info25)
  simp only [ho, hx, Sem.run_bind, this, Result.andThen_ok, Sem.run_pure]
  rfl
theorem wpListIn_storeR (hgd : op.guard = none) (x y : Operand) (ho : op.op = .store 43 x y) {b : Nat} (hx : a.eval x = .pointer (some ⟨b, 0, none⟩)) {n' : Int} {f' : Nat → Nat} (hy : a.eval y = relv n' f') {n : Int} {f : Nat → Nat} (hc : IsR w b n f)
    (h : ∀ W, Upd w W b → IsR W b n' f' → wpListIn F N Tryd.prog ops Q rest (a.put op.dst undef) W) : wpListIn F N Tryd.prog ops Q (op :: rest) a w := by
  refine skipIn hgd (by rw [ho]; intro c e; cases e) (by rw [ho]; intro c e; cases e) ?_ (h _ (Upd.setRow w b (cellsR n' f')) hc.store)
  unfold execOp
  have hc' : w.heap[b]? = some (.cells (cellsR n f) 43 (0, 0)) := hc
  unfold relv at hy
  simp only [ho, hx, hy, Instr.storeAt, Instr.sureAddr, Sem.run_bind, Sem.run_pure, Result.andThen_ok,
    run_storeVar_row w b 43 43 (cellsR n f) (cellsR n' f') hc' (by rw [cellsR_size]; exact info25) (by rw [cellsR_size, cellsR_size]) (cellsR_one n' f')]
theorem wpListIn_allocR (hgd : op.guard = none) (ho : op.op = .alloc 43)
    (h : ∀ W b, Fresh w W b → IsR W b 0 void → wpListIn F N Tryd.prog ops Q rest (a.put op.dst (.pointer (some ⟨b, 0, none⟩))) W) : wpListIn F N Tryd.prog ops Q (op :: rest) a w := by
  refine plainIn hgd (by rw [ho]; intro c e; cases e) (by rw [ho]; intro c e; cases e) ?_ (h _ _ (Fresh.alloc w (.cells (cellsR 0 void) 43)) (IsR.new w 0 void))
  unfold execOp
  simp [ho, go_sem, Value.cells, zero25]
theorem wpListIn_buildRN (hgd : op.guard = none) (x : Operand) (ho : op.op = .build 43 #[(0, x)]) {n : Int} (hx : a.eval x = .int .i64 n)
    (h : wpListIn F N Tryd.prog ops Q rest (a.put op.dst (relv n void)) w) : wpListIn F N Tryd.prog ops Q (op :: rest) a w := by
  refine plainIn hgd (by rw [ho]; intro c e; cases e) (by rw [ho]; intro c e; cases e) ?_ h
  unfold execOp
  have hb : Tryd.prog.built 43 [(0, .int .i64 n)] = some (cellsR n void) := by kernel_rfl
  simp only [ho, List.map_toArray, List.map_cons, List.map_nil, hx, Sem.run_bind, run_build w 43 #[(0, .int .i64 n)] (cellsR n void) hb, Result.andThen_ok, Sem.run_pure]
  rfl
end

theorem boxed_fresh {w W : World} {B b : Nat} {t : TypeId} {v : Value} (h : Boxed w B t v) (F : Fresh w W b) : Boxed W B t v := (F.below.block B (by rw [F.at']; exact h.lt)).trans h
theorem boxed_upd {w W : World} {B b : Nat} {t : TypeId} {v : Value} (h : Boxed w B t v) (U : Upd w W b) (hb : B ≠ b) : Boxed W B t v := (U.block B hb).trans h
theorem boxed_drew {w : World} {B : Nat} {t : TypeId} {v : Value} (h : Boxed w B t v) : Boxed w.drew B t v := h
theorem isR_own {β : Type} (b : Nat) (n : Int) (g : β → Nat → Nat) : Own (fun s W => IsR W b n (g s)) := fun s X Y row hs hg hr => by
  have hs' : X.heap[b]? = some (.cells (cellsR n (g s)) 43 (0, 0)) := hs
  refine (hg.block b hs.lt (fun e => ?_)).trans hs
  obtain ⟨o, ho, hc⟩ := hr b e.symm
  rw [hs'] at ho
  cases ho
  cases hc

/-- The rows of those numbers that have come. -/
def cpF (pre : List Nat) (tv : Nat) : Nat → Nat := fun j => if j ∈ pre then tv else 0
theorem cpF_snoc (pre : List Nat) (tv k j : Nat) : upd (cpF pre tv) k tv j = cpF (pre ++ [k]) tv j := by
  unfold upd cpF
  by_cases h : j = k
  · subst h; simp
  · simp [h]
theorem cpF_end (f t N : Nat) (j : Nat) (hj : j < 64) : cpF (lst (f &&& bel N)) (t &&& bel N) j = crF f t N N 0 j := by
  unfold cpF crF
  have hm : j ∈ lst (f &&& bel N) ↔ f.testBit j = true ∧ j < N := by
    rw [mem_lst, Nat.testBit_and, testBit_bel _ _ hj]
    simp [hj]
  by_cases h1 : j < N
  · rw [if_pos h1]
    unfold crRow
    by_cases h2 : f.testBit j = true
    · rw [if_pos (hm.2 ⟨h2, h1⟩), if_pos h2]
    · rw [if_neg (fun h => h2 (hm.1 h).1), if_neg h2]
  · rw [if_neg h1, if_neg (fun h => h1 (hm.1 h).2)]
    by_cases h2 : j = N
    · rw [if_pos h2, crRow_zero]
    · rw [if_neg h2]

set_option maxRecDepth 100000 in
set_option maxHeartbeats 2000000 in
theorem cross_any (n : Int) (f t : Nat) (w : World) (hf : f < 18446744073709551616) (ht : t < 18446744073709551616) (hT : TabAt w) : Calls Tryd.prog 81 #[.int .i64 n, .int .u64 f, .int .u64 t] w fun e w' => e = .returned (crV n f t) ∧ Below w.heap.size w w' := by
  by_cases h0 : 0 ≤ n ∧ n ≤ 64
  · have hd : decide (0 ≤ n ∧ n ≤ 64) = true := decide_eq_true h0
    obtain ⟨N, hNn⟩ : ∃ N : Nat, n = (N : Int) := ⟨n.toNat, by omega⟩
    have HV : Hid (crV n f t = relv n (crF f t N N 0)) := by
      unfold crV; rw [if_pos h0, hNn]; rfl
    have HN : Hid (n = (N : Int)) := hNn
    have H0 : Hid (0 ≤ n ∧ n ≤ 64) := h0
    have hand := u64_and_nat f (bel n) hf (bel_lt n)
    have hand2 := u64_and_nat t (bel n) ht (bel_lt n)
    have hsl : f &&& bel n < 18446744073709551616 := Nat.lt_of_le_of_lt Nat.and_le_left hf
    have HS : Hid (f &&& bel n = f &&& bel N) := (show f &&& bel n = f &&& bel N by rw [hNn])
    have HE : Hid (t &&& bel n = t &&& bel N) := (show t &&& bel n = t &&& bel N by rw [hNn])
    generalize f &&& bel n = s at *
    generalize t &&& bel n = tv at *
    clear h0 hNn
    have hf69 : Fence.wide.fn 71 := trivial
    have hf67 : Fence.wide.fn 75 := trivial
    have hf70 : Fence.wide.fn 93 := trivial
    have hf83 : Fence.wide.fn 97 := trivial
    have bN := (Boxed.new w 3 (.int .i64 n)).alloc (.cells #[.int .u64 t] 30)
    have bT := Boxed.new (w.alloc (.cells #[.int .i64 n] 3)) 30 (.int .u64 t)
    rw [World.size_alloc] at bT
    have BA : Below w.heap.size w ((w.alloc (.cells #[.int .i64 n] 3)).alloc (.cells #[.int .u64 t] 30)) := ((Below.refl _ w).alloc (Nat.le_refl _) _).alloc (by simp) _
    have hsz : ((w.alloc (.cells #[.int .i64 n] 3)).alloc (.cells #[.int .u64 t] 30)).heap.size = w.heap.size + 2 := by simp
    have tk : True := trivial
    refine (callsIn_wide (n := 6)).1 ?_
    refine callsIn_of_wp_marks Tryd.func81 rfl trivial ?_ rfl
    simp only [Tryd.ntmps81, List.size_toArray, List.length_cons, List.length_nil, Nat.reduceAdd, Nat.reduceSub, Array.replicate_succ, Array.replicate_zero, List.push_toArray, List.append_toArray, List.nil_append, List.cons_append]
    gi_wp2_with (first
      | (gi_at_call 75; refine (callsIn_wide.2 (fits_any _ _)).mono ?_; rintro e w' ⟨rfl, hw'⟩; replace hw' := hw'.symm; subst hw')
      | (gi_at_call 71; refine (callsIn_wide.2 (all_any n _ H0.out.1 H0.out.2)).mono ?_; rintro e w' ⟨rfl, hw'⟩; replace hw' := hw'.symm; subst hw')
      | (gi_at_call 93; refine (callsIn_wide.2 (each_any _ _)).mono ?_; rintro e w' ⟨rfl, rfl⟩)
      | (refine wpListIn_allocR rfl rfl ?_; clear tk; intro W1 b1 F1 r1; replace bN := boxed_fresh bN F1; replace bT := boxed_fresh bT F1; replace BA := Fresh.trans BA BA.size F1; have cN := bN.cell)
      | (refine wpListIn_allocR rfl rfl ?_; intro W2 b2 F2 r2; replace bN := boxed_fresh bN F2; replace bT := boxed_fresh bT F2; replace BA := Fresh.trans BA BA.size F2; replace r1 := r1.fresh F2)
      | (refine wpListIn_buildRN rfl _ rfl rfl ?_)
      | (refine wpListIn_storeR rfl _ _ rfl rfl rfl r2 ?_; intro W3 U3 r3; have hb1 : b1 = w.heap.size + 2 := (by rw [F1.at', hsz]); have hb2 : b2 = w.heap.size + 3 := (by rw [F2.at', F1.size, hb1]); replace bN := boxed_upd bN U3 (by omega); replace bT := boxed_upd bT U3 (by omega); replace BA := U3.trans BA (by omega); replace r1 := r1.upd U3 (by omega); clear hb1 hb2; have cN3 := bN.cell))
    have hb1 : w.heap.size + 2 ≤ b1 := (by rw [F1.at', hsz]; omega)
    have hb2 : b1 < b2 := (by rw [F2.at', F1.size]; omega)
    have hl2 := r3.lt
    have hp := hT.pos
    have hT3 : TabAt W3 := hT.below BA
    have bS := Boxed.new W3 29 (.int .u64 s)
    have hB1' : Below W3.heap.size W3 (W3.alloc (.cells #[.int .u64 s] 29)) := (Below.refl _ W3).alloc (Nat.le_refl _) _
    have hB0 := BA.trans (hB1'.mono BA.size)
    have hT4 := hT3.below hB1'
    clear F1 F2 U3 r2 cN cN3 hsz
    refine wpIn_rangeFunc_ownG rfl (by omega) (gf := 97) (lb := #[.pointer (some ⟨W3.heap.size, 0, none⟩)]) rfl trivial (enters_of Tryd.func97 (by kernel_rfl) rfl)
      (each_stops (6 - 1) (by omega) W3.heap.size s hsl _ (by simp) bS.cell hT4) Same.trans (Same.putObj (by simp; omega)) (Below.refl _ _) (fun _ => rfl)
      (fun pre W => (Boxed W w.heap.size 3 (.int .i64 n) ∧ Boxed W (w.heap.size + 1) 30 (.int .u64 t) ∧ IsR W b1 0 void ∧ IsR W b2 n (cpF (valsF pre) tv)) ∧ Below w.heap.size w W)
      (fun _ _ _ => False)
      (OwnFrom.and (OwnFrom.and (Own.from (boxed_own _ _ (fun _ => _)) _) (OwnFrom.and (Own.from (boxed_own _ _ (fun _ => _)) _) (OwnFrom.and (Own.from (isR_own _ _ (fun _ => void)) _) (Own.from (isR_own _ _ (fun pre => cpF (valsF pre) tv)) _)))) (ownFrom_below (Nat.le_refl _) (by simp; omega)))
      (fun _ _ _ _ _ hs _ _ => hs)
      ⟨⟨bN.alloc _, bT.alloc _, r1.alloc _, (r3.alloc _).congr (fun j _ => by simp [cpF, valsF, void])⟩, hB0⟩
      (fun x => { tmps := #[.int .i64 n, .int .u64 f, .int .u64 t, .pointer (some ⟨w.heap.size, 0, none⟩), undef, .pointer (some ⟨w.heap.size + 1, 0, none⟩), .pointer (some ⟨b1, 0, none⟩), .pointer (some ⟨b2, 0, none⟩), .int .i64 (x.val : Nat), .int .i64 n, .bool true, .bool false, undef, .int .i64 n, relv n void, .int .u64 f, .int .i64 n, .int .u64 (bel n : Nat), .int .u64 s, .func (.func 97) #[] #[.pointer (some ⟨W3.heap.size, 0, none⟩)], .int .i64 (x.val : Nat), undef, undef, undef, undef, undef, undef, undef, undef], defers := [] }) ?assign ?body ?done ?stop
    case assign =>
      intro l x W K hK
      gi_wp2
      exact hK
    case body =>
      rintro l pre x W ⟨⟨qN, qT, q1, q2⟩, hB⟩ hlt
      have cN := qN.cell
      have cT := qT.cell
      obtain ⟨k, hk⟩ := x
      dsimp only
      have hrw := q2.row k hk
      have hfz := q2.frozen (1 + k)
      have hki : (k : Int) < 64 := by omega
      have U := Upd.setCell W b2 (1 + k) (.int .u64 ((tv : Nat) : Int))
      have HF : ∀ act : Act, ownPostG (W3.alloc (.cells #[.int .u64 (s : Int)] 29)).heap.size (Same [1])
          (fun pre W => (Boxed W w.heap.size 3 (.int .i64 n) ∧ Boxed W (w.heap.size + 1) 30 (.int .u64 t) ∧ IsR W b1 0 void ∧ IsR W b2 n (cpF (valsF pre) tv)) ∧ Below w.heap.size w W)
          (fun _ _ _ => False) (pre ++ [⟨k, hk⟩]) W .normal act (W.setCell ⟨b2, 1 + k, none⟩ (.int .u64 (tv : Int))).drew := fun act =>
        ⟨((KeepsOthers.setCell _ _ _).trans (KeepsOthers.drew _)).from _, fun b hb => by
            rw [List.mem_singleton] at hb
            subst hb
            exact U.block 1 (by omega),
          ⟨boxed_drew (boxed_upd qN U (by omega)), boxed_drew (boxed_upd qT U (by omega)), (q1.upd U (by omega)).drew, by
            rw [valsF_snoc]
            exact ((q2.set k tv hk).congr (fun j _ => cpF_snoc _ tv k j)).drew⟩, (U.trans hB (by omega)).drew⟩
      refine wpIn_mono (Q := fun e _ w' => e = Exit.normal ∧ w' = (W.setCell ⟨b2, 1 + k, none⟩ (.int .u64 (tv : Int))).drew) ?_ (fun e a' w' h => by obtain ⟨rfl, rfl⟩ := h; exact HF a')
      clear HF U hT3 hT4 bS hB1' hB0 bN bT BA r1 r3 q1 q2 qN qT hB HV HN hand hsl HS HE hd hT hf ht hp hl2 hlt hf67 hf70 hf83
      gi_wp2_with fail
      gi_region_with (first
        | (refine ⟨trivial, ?_⟩; gi_at_call 71; refine (CallsIn.inRound l (callsIn_wide.2 (all_any n _ H0.out.1 H0.out.2))).mono ?_; rintro e w' ⟨rfl, hw'⟩; replace hw' := hw'.symm; subst hw')
        | (gi_at_call 71; refine (CallsIn.inRound l (callsIn_wide.2 (all_any n _ H0.out.1 H0.out.2))).mono ?_; rintro e w' ⟨rfl, hw'⟩; replace hw' := hw'.symm; subst hw'))
      all_goals exact ⟨rfl, rfl⟩
    case done =>
      rintro D ys W hD hys ⟨⟨qN, qT, q1, q2⟩, hB⟩ hK
      rw [hys] at q2
      gi_wp2_with (first
        | (refine wpListIn_loadR rfl _ rfl rfl q2 ?_)
        | (refine wpListIn_storeR rfl _ _ rfl rfl rfl q1 ?_; intro W4 U4 r4))
      have hK' : W4.heap[D]? = some (.deferred (some [])) := (U4.block D (by simp at hD; omega)).trans hK
      refine ⟨by simp, .inl ⟨_, _, rfl, run_takeDeferred hK', ?_⟩⟩
      refine ⟨_, results_cell_row rfl _ _ b1 43 (cellsR n (cpF (lst s) tv)) (0, 0) _ rfl ?_ Tryd.underlying43 rfl (by rw [cellsR_size]; exact info25), ?_, ?_⟩
      · exact (World.putObj_heap_other (by simp at hD; omega)).trans r4
      · rw [HV.out]
        show Ending.returned (relv n (cpF (lst s) tv)) = _
        rw [HS.out, HE.out, relv_congr rfl (fun j hj => cpF_end f t N j hj)]
      · exact (U4.trans hB (by omega)).trans (belowK_b (w := w) (Nat.le_refl _) W4 D _ _ (by simp at hD; omega) hK' rfl rfl)
    case stop =>
      rintro D c pre W _ _ h _
      exact h.elim
  · have hd : decide (0 ≤ n ∧ n ≤ 64) = false := decide_eq_false h0
    have HV : Hid (crV n f t = relv 0 void) := by unfold crV; rw [if_neg h0]; rfl
    have BA : Below w.heap.size w ((w.alloc (.cells #[.int .i64 n] 3)).alloc (.cells #[.int .u64 t] 30)) := ((Below.refl _ w).alloc (Nat.le_refl _) _).alloc (by simp) _
    have bN := (Boxed.new w 3 (.int .i64 n)).alloc (.cells #[.int .u64 t] 30)
    have hsz : ((w.alloc (.cells #[.int .i64 n] 3)).alloc (.cells #[.int .u64 t] 30)).heap.size = w.heap.size + 2 := by simp
    clear h0
    go_enter Tryd.func81, Tryd.ntmps81
    go_wp2_with (first
      | (go_at_call 75; refine (fits_any _ _).mono ?_; rintro e w' ⟨rfl, hw'⟩; replace hw' := hw'.symm; subst hw')
      | (refine wpList_allocR rfl rfl ?_; intro W1 b1 F1 r1; have B1 := Fresh.trans BA BA.size F1; have cN := (boxed_fresh bN F1).cell)
      | (refine wpList_buildR0 rfl rfl ?_)
      | (refine wpList_storeR rfl _ _ rfl rfl rfl r1 ?_; intro W3 U3 r3))
    refine ret_R rfl rfl rfl r3 ⟨by rw [HV.out], U3.trans B1 (by rw [F1.at', hsz]; omega)⟩
end Go.Proofs.YtdjlfpkemdiadaaDoor

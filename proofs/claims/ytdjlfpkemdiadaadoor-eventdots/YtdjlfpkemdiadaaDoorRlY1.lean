/- Two relations as the calls of two take them. -/
import Derived.Test.YtdjlfpkemdiadaaDoorRlX1
import Derived.RegionTactic
namespace Go.Proofs.YtdjlfpkemdiadaaDoor
open Go.RowKit Go.Shelf M
set_option linter.unusedSimpArgs false
set_option linter.unusedVariables false

section
variable {ops : Array Oper} {op : Oper} {a : Act} {w : World} {K : Act → World → Prop} {Q : Exit → Act → World → Prop} {E : Prop}
theorem step_loadR (hgd : op.guard = none) (x : Operand) (ho : op.op = .load 43 x) {b : Nat} (hx : a.eval x = .pointer (some ⟨b, 0, none⟩)) {n : Int} {f : Nat → Nat} (hc : IsR w b n f)
    (h : K (a.put op.dst (relv n f)) w) : if Region.wanted op (yielded ops a.tmps) = true then Oper.wp Tryd.prog op a w K Q else E := by
  rw [if_pos (by simp [Region.wanted, hgd])]
  unfold Oper.wp execOp
  have := run_loadAt_mid (P := Tryd.prog) w b 0 43 (cellsL n f) _ hc.range Tryd.underlying43 rfl (by rw [cellsL_length]; exact info25)
  simp only [ho, hx, Sem.run_bind, this, Result.andThen_ok, Sem.run_pure]
  exact h
theorem step_storeR (hgd : op.guard = none) (x y : Operand) (ho : op.op = .store 43 x y) {b : Nat} (hx : a.eval x = .pointer (some ⟨b, 0, none⟩)) {n' : Int} {f' : Nat → Nat} (hy : a.eval y = relv n' f') {n : Int} {f : Nat → Nat} (hc : IsR w b n f)
    (h : ∀ W, Upd w W b → IsR W b n' f' → K (a.put op.dst undef) W) : if Region.wanted op (yielded ops a.tmps) = true then Oper.wp Tryd.prog op a w K Q else E := by
  rw [if_pos (by simp [Region.wanted, hgd])]
  unfold Oper.wp execOp
  have hc' : w.heap[b]? = some (.cells (cellsR n f) 43 (0, 0)) := hc
  unfold relv at hy
  simp only [ho, hx, hy, Instr.storeAt, Instr.sureAddr, Sem.run_bind, Sem.run_pure, Result.andThen_ok,
    run_storeVar_row w b 43 43 (cellsR n f) (cellsR n' f') hc' (by rw [cellsR_size]; exact info25) (by rw [cellsR_size, cellsR_size]) (cellsR_one n' f')]
  exact h _ (Upd.setRow w b _) hc.store
theorem step_call (hgd : op.guard = none) {f : FuncId} {args : Array Value} {v : Value} {R : World → Prop} (hr : (execOp a.eval op).run Tryd.prog w = .ok (.enter f args) w)
    (c : Calls Tryd.prog f args w fun e w' => e = .returned v ∧ R w') (h : ∀ w', R w' → K (a.put op.dst v) w') : if Region.wanted op (yielded ops a.tmps) = true then Oper.wp Tryd.prog op a w K Q else E := by
  rw [if_pos (by simp [Region.wanted, hgd])]
  unfold Oper.wp
  rw [hr, Oper.upon_enter]
  refine c.mono ?_
  rintro e w' ⟨rfl, hR⟩
  exact h w' hR
end

theorem ret_RR {fn : Func} {p q : Tmp} {R : Ending → World → Prop} {a : Act} {w : World} {b c : Nat} {n m : Int} {f g : Nat → Nat} (h : fn.results = #[.cell p 43, .cell q 43]) (hp : a.tmps.getD p undef = .pointer (some ⟨b, 0, none⟩)) (hq : a.tmps.getD q undef = .pointer (some ⟨c, 0, none⟩))
    (hd : a.defers = []) (hb : IsR w b n f) (hc : IsR w c m g) (hR : R (.returned (.tuple #[relv n f, relv m g])) w) : bodyPost Tryd.prog fn R .ret a w := by
  have hb' : w.heap[b]? = some (.cells (cellsR n f) 43 (0, 0)) := hb
  have hc' : w.heap[c]? = some (.cells (cellsR m g) 43 (0, 0)) := hc
  refine ⟨hd, _, ?_, hR⟩
  have h1 := run_loadVar_row (P := Tryd.prog) w b 43 43 (cellsR n f) (0, 0) _ hb' Tryd.underlying43 rfl (by rw [cellsR_size]; exact info25)
  have h2 := run_loadVar_row (P := Tryd.prog) w c 43 43 (cellsR m g) (0, 0) _ hc' Tryd.underlying43 rfl (by rw [cellsR_size]; exact info25)
  have hp' : a.tmps[p]?.getD undef = .pointer (some ⟨b, 0, none⟩) := by simpa using hp
  have hq' : a.tmps[q]?.getD undef = .pointer (some ⟨c, 0, none⟩) := by simpa using hq
  simp only [results, h]
  simp [Sem.run_bind, Result.andThen, hp', hq', asAddr, h1, h2]
  exact ⟨rfl, rfl⟩

def alN (n : Int) (f : Nat → Nat) (m : Int) (g : Nat → Nat) : Int := if nN n f = nN m g then nN n f else 0
def alF (n : Int) (f : Nat → Nat) (m : Int) (g : Nat → Nat) : Nat → Nat := if nN n f = nN m g then nF n f else void
def alG (n : Int) (f : Nat → Nat) (m : Int) (g : Nat → Nat) : Nat → Nat := if nN n f = nN m g then nF m g else void
/-- Rows of numbers below N, and none else. -/
structure Right (N : Nat) (f : Nat → Nat) : Prop where
  wf : Wf f
  in' : ∀ a, a < 64 → ∀ b, b < 64 → (f a).testBit b = true → a < N ∧ b < N
theorem right_void (N : Nat) : Right N void := ⟨fun i => by simp [void], fun a _ b _ h => by simp [void] at h⟩
theorem n_right' (n : Int) (f : Nat → Nat) (hf : Wf f) : ∃ N : Nat, nN n f = (N : Int) ∧ N ≤ 64 ∧ Right N (nF n f) := by
  obtain ⟨N, h1, h2, h3⟩ := n_right n f hf
  exact ⟨N, h1, h2, nF_wf n f hf, h3⟩
theorem al_right (n : Int) (f : Nat → Nat) (m : Int) (g : Nat → Nat) (hf : Wf f) (hg : Wf g) : ∃ N : Nat, alN n f m g = (N : Int) ∧ N ≤ 64 ∧ Right N (alF n f m g) ∧ Right N (alG n f m g) := by
  unfold alN alF alG
  by_cases h : nN n f = nN m g
  · rw [if_pos h, if_pos h, if_pos h]
    obtain ⟨N, h1, h2, h3⟩ := n_right' n f hf
    obtain ⟨M, k1, k2, k3⟩ := n_right' m g hg
    obtain rfl : N = M := by rw [h1, k1] at h; omega
    exact ⟨N, h1, h2, h3, k3⟩
  · rw [if_neg h, if_neg h, if_neg h]
    exact ⟨0, rfl, by omega, right_void 0, right_void 0⟩

set_option maxRecDepth 100000 in
set_option maxHeartbeats 1000000 in
theorem alike_any (n : Int) (f : Nat → Nat) (m : Int) (g : Nat → Nat) (w : World) (hf : Hid (Wf f)) (hg : Hid (Wf g)) :
    Calls Tryd.prog 73 #[relv n f, relv m g] w fun e w' => e = .returned (.tuple #[relv (alN n f m g) (alF n f m g), relv (alN n f m g) (alG n f m g)]) ∧ Below w.heap.size w w' := by
  have c1 : Hid (∀ W, Calls Tryd.prog 70 #[relv n f] W fun e w' => e = .returned (relv (nN n f) (nF n f)) ∧ Below W.heap.size W w') := fun W => right_any n f W hf
  have c2 : Hid (∀ W, Calls Tryd.prog 70 #[relv m g] W fun e w' => e = .returned (relv (nN m g) (nF m g)) ∧ Below W.heap.size W w') := fun W => right_any m g W hg
  have tk1 : True := trivial
  have tk2 : True := trivial
  go_enter Tryd.func73, Tryd.ntmps73
  go_wp2_with (first
      | (refine wpList_boxR rfl _ rfl rfl ?_; clear tk1; intro W1 b1 F1 r1; have B1 := Fresh.trans (Below.refl _ w) (Nat.le_refl _) F1)
      | (refine wpList_boxR rfl _ rfl rfl ?_; intro W2 b2 F2 r2; replace B1 := Fresh.trans B1 B1.size F2; replace r1 := r1.fresh F2)
      | (refine wpList_allocR rfl rfl ?_; clear tk2; intro W3 b3 F3 r3; replace B1 := Fresh.trans B1 B1.size F3; replace r1 := r1.fresh F3; replace r2 := r2.fresh F3)
      | (refine wpList_allocR rfl rfl ?_; intro W4 b4 F4 r4; replace B1 := Fresh.trans B1 B1.size F4; replace r1 := r1.fresh F4; replace r2 := r2.fresh F4; replace r3 := r3.fresh F4))
  have hb1 : w.heap.size ≤ b1 := by rw [F1.at']; exact Nat.le_refl _
  have hb2 : b1 < b2 := by rw [F2.at', F1.size]; omega
  have hb3 : b2 < b3 := by rw [F3.at', F2.size]; omega
  have hb4 : b3 < b4 := by rw [F4.at', F3.size]; omega
  clear F1 F2 F3 F4
  refine wp_mono (Q := fun e a' w' => e = Exit.normal ∧ a' = { tmps := #[relv n f, relv m g, .pointer (some ⟨b1, 0, none⟩), .pointer (some ⟨b2, 0, none⟩), .pointer (some ⟨b3, 0, none⟩), .pointer (some ⟨b4, 0, none⟩), relv n f, relv (nN n f) (nF n f), relv m g, relv (nN m g) (nF m g), undef, undef, undef, undef, undef, undef, undef, undef, undef], defers := [] } ∧ IsR w' b1 (nN n f) (nF n f) ∧ IsR w' b2 (nN m g) (nF m g) ∧ IsR w' b3 0 void ∧ IsR w' b4 0 void ∧ Below w.heap.size w w') ?_ ?_
  · refine wp_region_any (by kernel_rfl) ?_
    change wpAny _ _ _ _ _ _ _ (World.drew _)
    replace r1 := r1.drew; replace r2 := r2.drew; replace r3 := r3.drew; replace r4 := r4.drew; replace B1 := B1.drew
    refine wpAny_ready (rs := [0, 2]) (by kernel_rfl) (by simp) ?_
    refine (AllReady.cons rfl (fun K hK => ?_) (AllReady.cons rfl (fun K hK => ?_) AllReady.nil))
    · refine step_loadR rfl _ rfl rfl r1 (hK _ _ ?_)
      clear hK K
      refine wpAny_ready (rs := [1, 2]) (by kernel_rfl) (by simp) ?_
      refine (AllReady.cons rfl (fun K hK => ?_) (AllReady.cons rfl (fun K hK => ?_) AllReady.nil))
      · go_simp
        go_at_call 70
        refine (c1.out _).mono ?_
        rintro e w' ⟨rfl, hw'⟩
        refine hK _ _ ?_
        clear hK K
        replace r1 := r1.grown hw'; replace r2 := r2.grown hw'; replace r3 := r3.grown hw'; replace r4 := r4.grown hw'; replace B1 := B1.trans (hw'.mono B1.size); clear hw'
        refine wpAny_ready (rs := [2]) (by kernel_rfl) (by simp) ?_
        refine (AllReady.cons rfl (fun K hK => ?_) AllReady.nil)
        refine step_loadR rfl _ rfl rfl r2 (hK _ _ ?_)
        clear hK K
        refine wpAny_ready (rs := [3]) (by kernel_rfl) (by simp) ?_
        refine (AllReady.cons rfl (fun K hK => ?_) AllReady.nil)
        go_simp
        go_at_call 70
        refine (c2.out _).mono ?_
        rintro e w' ⟨rfl, hw'⟩
        refine hK _ _ ?_
        clear hK K
        replace r1 := r1.grown hw'; replace r2 := r2.grown hw'; replace r3 := r3.grown hw'; replace r4 := r4.grown hw'; replace B1 := B1.trans (hw'.mono B1.size); clear hw'
        refine wpAny_ready (rs := [4]) (by kernel_rfl) (by simp) ?_
        refine (AllReady.cons rfl (fun K hK => ?_) AllReady.nil)
        refine step_storeR rfl _ _ rfl rfl rfl r1 (fun W5 U5 r5 => hK _ _ ?_)
        clear hK K r1; have r1 := r5; clear r5
        replace r2 := r2.upd U5 (by omega); replace r3 := r3.upd U5 (by omega); replace r4 := r4.upd U5 (by omega); replace B1 := U5.trans B1 (by omega); clear U5
        refine wpAny_ready (rs := [5]) (by kernel_rfl) (by simp) ?_
        refine (AllReady.cons rfl (fun K hK => ?_) AllReady.nil)
        refine step_storeR rfl _ _ rfl rfl rfl r2 (fun W6 U6 r6 => hK _ _ ?_)
        clear hK K r2; have r2 := r6; clear r6
        replace r1 := r1.upd U6 (by omega); replace r3 := r3.upd U6 (by omega); replace r4 := r4.upd U6 (by omega); replace B1 := U6.trans B1 (by omega); clear U6
        refine wpAny_done (by kernel_rfl) ?_ _
        exact ⟨rfl, rfl, r1, r2, r3, r4, B1⟩
      · refine step_loadR rfl _ rfl rfl r2 (hK _ _ ?_)
        clear hK K
        refine wpAny_ready (rs := [1]) (by kernel_rfl) (by simp) ?_
        refine (AllReady.cons rfl (fun K hK => ?_) AllReady.nil)
        go_simp
        go_at_call 70
        refine (c1.out _).mono ?_
        rintro e w' ⟨rfl, hw'⟩
        refine hK _ _ ?_
        clear hK K
        replace r1 := r1.grown hw'; replace r2 := r2.grown hw'; replace r3 := r3.grown hw'; replace r4 := r4.grown hw'; replace B1 := B1.trans (hw'.mono B1.size); clear hw'
        refine wpAny_ready (rs := [3]) (by kernel_rfl) (by simp) ?_
        refine (AllReady.cons rfl (fun K hK => ?_) AllReady.nil)
        go_simp
        go_at_call 70
        refine (c2.out _).mono ?_
        rintro e w' ⟨rfl, hw'⟩
        refine hK _ _ ?_
        clear hK K
        replace r1 := r1.grown hw'; replace r2 := r2.grown hw'; replace r3 := r3.grown hw'; replace r4 := r4.grown hw'; replace B1 := B1.trans (hw'.mono B1.size); clear hw'
        refine wpAny_ready (rs := [4]) (by kernel_rfl) (by simp) ?_
        refine (AllReady.cons rfl (fun K hK => ?_) AllReady.nil)
        refine step_storeR rfl _ _ rfl rfl rfl r1 (fun W5 U5 r5 => hK _ _ ?_)
        clear hK K r1; have r1 := r5; clear r5
        replace r2 := r2.upd U5 (by omega); replace r3 := r3.upd U5 (by omega); replace r4 := r4.upd U5 (by omega); replace B1 := U5.trans B1 (by omega); clear U5
        refine wpAny_ready (rs := [5]) (by kernel_rfl) (by simp) ?_
        refine (AllReady.cons rfl (fun K hK => ?_) AllReady.nil)
        refine step_storeR rfl _ _ rfl rfl rfl r2 (fun W6 U6 r6 => hK _ _ ?_)
        clear hK K r2; have r2 := r6; clear r6
        replace r1 := r1.upd U6 (by omega); replace r3 := r3.upd U6 (by omega); replace r4 := r4.upd U6 (by omega); replace B1 := U6.trans B1 (by omega); clear U6
        refine wpAny_done (by kernel_rfl) ?_ _
        exact ⟨rfl, rfl, r1, r2, r3, r4, B1⟩
    · refine step_loadR rfl _ rfl rfl r2 (hK _ _ ?_)
      clear hK K
      refine wpAny_ready (rs := [0]) (by kernel_rfl) (by simp) ?_
      refine (AllReady.cons rfl (fun K hK => ?_) AllReady.nil)
      refine step_loadR rfl _ rfl rfl r1 (hK _ _ ?_)
      clear hK K
      refine wpAny_ready (rs := [1]) (by kernel_rfl) (by simp) ?_
      refine (AllReady.cons rfl (fun K hK => ?_) AllReady.nil)
      go_simp
      go_at_call 70
      refine (c1.out _).mono ?_
      rintro e w' ⟨rfl, hw'⟩
      refine hK _ _ ?_
      clear hK K
      replace r1 := r1.grown hw'; replace r2 := r2.grown hw'; replace r3 := r3.grown hw'; replace r4 := r4.grown hw'; replace B1 := B1.trans (hw'.mono B1.size); clear hw'
      refine wpAny_ready (rs := [3]) (by kernel_rfl) (by simp) ?_
      refine (AllReady.cons rfl (fun K hK => ?_) AllReady.nil)
      go_simp
      go_at_call 70
      refine (c2.out _).mono ?_
      rintro e w' ⟨rfl, hw'⟩
      refine hK _ _ ?_
      clear hK K
      replace r1 := r1.grown hw'; replace r2 := r2.grown hw'; replace r3 := r3.grown hw'; replace r4 := r4.grown hw'; replace B1 := B1.trans (hw'.mono B1.size); clear hw'
      refine wpAny_ready (rs := [4]) (by kernel_rfl) (by simp) ?_
      refine (AllReady.cons rfl (fun K hK => ?_) AllReady.nil)
      refine step_storeR rfl _ _ rfl rfl rfl r1 (fun W5 U5 r5 => hK _ _ ?_)
      clear hK K r1; have r1 := r5; clear r5
      replace r2 := r2.upd U5 (by omega); replace r3 := r3.upd U5 (by omega); replace r4 := r4.upd U5 (by omega); replace B1 := U5.trans B1 (by omega); clear U5
      refine wpAny_ready (rs := [5]) (by kernel_rfl) (by simp) ?_
      refine (AllReady.cons rfl (fun K hK => ?_) AllReady.nil)
      refine step_storeR rfl _ _ rfl rfl rfl r2 (fun W6 U6 r6 => hK _ _ ?_)
      clear hK K r2; have r2 := r6; clear r6
      replace r1 := r1.upd U6 (by omega); replace r3 := r3.upd U6 (by omega); replace r4 := r4.upd U6 (by omega); replace B1 := U6.trans B1 (by omega); clear U6
      refine wpAny_done (by kernel_rfl) ?_ _
      exact ⟨rfl, rfl, r1, r2, r3, r4, B1⟩
  · rintro e a' w' ⟨rfl, rfl, q1, q2, q3, q4, BB⟩
    clear r1 r2 r3 r4 B1 c1 c2
    have cn1 := q1.n
    have cn2 := q2.n
    by_cases hN : nN n f = nN m g
    · have HV : Hid (alN n f m g = nN n f ∧ alF n f m g = nF n f ∧ alG n f m g = nF m g) := ⟨if_pos hN, if_pos hN, if_pos hN⟩
      rw [← hN] at cn2 q2
      go_wp2_with fail
      refine wp_region_any (by kernel_rfl) ?_
      change wpAny _ _ _ _ _ _ _ (World.drew _)
      replace q1 := q1.drew; replace q2 := q2.drew; replace q3 := q3.drew; replace q4 := q4.drew; replace BB := BB.drew
      clear cn1 cn2
      refine wpAny_ready (rs := [0, 1]) (by kernel_rfl) (by simp) ?_
      refine (AllReady.cons rfl (fun K hK => ?_) (AllReady.cons rfl (fun K hK => ?_) AllReady.nil))
      · refine step_loadR rfl _ rfl rfl q1 (hK _ _ ?_)
        clear hK K
        refine wpAny_ready (rs := [1, 2]) (by kernel_rfl) (by simp) ?_
        refine (AllReady.cons rfl (fun K hK => ?_) (AllReady.cons rfl (fun K hK => ?_) AllReady.nil))
        · refine step_loadR rfl _ rfl rfl q2 (hK _ _ ?_)
          clear hK K
          refine wpAny_ready (rs := [2]) (by kernel_rfl) (by simp) ?_
          refine (AllReady.cons rfl (fun K hK => ?_) AllReady.nil)
          refine step_storeR rfl _ _ rfl rfl rfl q3 (fun W5 U5 r5 => hK _ _ ?_)
          clear hK K q3; have q3 := r5; clear r5
          replace q1 := q1.upd U5 (by omega); replace q2 := q2.upd U5 (by omega); replace q4 := q4.upd U5 (by omega); replace BB := U5.trans BB (by omega); clear U5
          refine wpAny_ready (rs := [3]) (by kernel_rfl) (by simp) ?_
          refine (AllReady.cons rfl (fun K hK => ?_) AllReady.nil)
          refine step_storeR rfl _ _ rfl rfl rfl q4 (fun W6 U6 r6 => hK _ _ ?_)
          clear hK K q4; have q4 := r6; clear r6
          replace q3 := q3.upd U6 (by omega); replace BB := U6.trans BB (by omega); clear U6
          refine wpAny_done (by kernel_rfl) ?_ _
          go_wp2_with fail
          refine ret_RR rfl rfl rfl rfl q3 q4 ⟨by rw [HV.out.1, HV.out.2.1, HV.out.2.2], BB⟩
        · refine step_storeR rfl _ _ rfl rfl rfl q3 (fun W5 U5 r5 => hK _ _ ?_)
          clear hK K q3; have q3 := r5; clear r5
          replace q1 := q1.upd U5 (by omega); replace q2 := q2.upd U5 (by omega); replace q4 := q4.upd U5 (by omega); replace BB := U5.trans BB (by omega); clear U5
          refine wpAny_ready (rs := [1]) (by kernel_rfl) (by simp) ?_
          refine (AllReady.cons rfl (fun K hK => ?_) AllReady.nil)
          refine step_loadR rfl _ rfl rfl q2 (hK _ _ ?_)
          clear hK K
          refine wpAny_ready (rs := [3]) (by kernel_rfl) (by simp) ?_
          refine (AllReady.cons rfl (fun K hK => ?_) AllReady.nil)
          refine step_storeR rfl _ _ rfl rfl rfl q4 (fun W6 U6 r6 => hK _ _ ?_)
          clear hK K q4; have q4 := r6; clear r6
          replace q3 := q3.upd U6 (by omega); replace BB := U6.trans BB (by omega); clear U6
          refine wpAny_done (by kernel_rfl) ?_ _
          go_wp2_with fail
          refine ret_RR rfl rfl rfl rfl q3 q4 ⟨by rw [HV.out.1, HV.out.2.1, HV.out.2.2], BB⟩
      · refine step_loadR rfl _ rfl rfl q2 (hK _ _ ?_)
        clear hK K
        refine wpAny_ready (rs := [0]) (by kernel_rfl) (by simp) ?_
        refine (AllReady.cons rfl (fun K hK => ?_) AllReady.nil)
        refine step_loadR rfl _ rfl rfl q1 (hK _ _ ?_)
        clear hK K
        refine wpAny_ready (rs := [2]) (by kernel_rfl) (by simp) ?_
        refine (AllReady.cons rfl (fun K hK => ?_) AllReady.nil)
        refine step_storeR rfl _ _ rfl rfl rfl q3 (fun W5 U5 r5 => hK _ _ ?_)
        clear hK K q3; have q3 := r5; clear r5
        replace q1 := q1.upd U5 (by omega); replace q2 := q2.upd U5 (by omega); replace q4 := q4.upd U5 (by omega); replace BB := U5.trans BB (by omega); clear U5
        refine wpAny_ready (rs := [3]) (by kernel_rfl) (by simp) ?_
        refine (AllReady.cons rfl (fun K hK => ?_) AllReady.nil)
        refine step_storeR rfl _ _ rfl rfl rfl q4 (fun W6 U6 r6 => hK _ _ ?_)
        clear hK K q4; have q4 := r6; clear r6
        replace q3 := q3.upd U6 (by omega); replace BB := U6.trans BB (by omega); clear U6
        refine wpAny_done (by kernel_rfl) ?_ _
        go_wp2_with fail
        refine ret_RR rfl rfl rfl rfl q3 q4 ⟨by rw [HV.out.1, HV.out.2.1, HV.out.2.2], BB⟩
    · have HV : Hid (alN n f m g = 0 ∧ alF n f m g = void ∧ alG n f m g = void) := ⟨if_neg hN, if_neg hN, if_neg hN⟩
      go_wp2_with (first
        | (refine wpList_buildR0 rfl rfl ?_)
        | (refine wpList_storeR rfl _ _ rfl rfl rfl q3 ?_; intro W5 U5 r5; replace q4 := q4.upd U5 (by omega); replace BB := U5.trans BB (by omega); clear q3 U5)
        | (refine wpList_storeR rfl _ _ rfl rfl rfl q4 ?_; intro W6 U6 r6; replace r5 := r5.upd U6 (by omega); replace BB := U6.trans BB (by omega); clear q4 U6))
      refine ret_RR rfl rfl rfl rfl r5 r6 ⟨by rw [HV.out.1, HV.out.2.1, HV.out.2.2], BB⟩
end Go.Proofs.YtdjlfpkemdiadaaDoor

/- The picks that a table's machine answers. -/
import Derived.Test.YtmoieckmbimgoaaG1
namespace Go.Proofs.Ytmoieckmbimgoaa
open Go.RowKit M
set_option linter.unusedSimpArgs false
set_option linter.unusedVariables false

/-- The machine's parts in memory: the table, and the closure that numbers. -/
structure MG (W : World) (g : GR) (bn bg : Nat) : Prop where
  t : GB W g bg
  f : IsS W bn 53 [.func (.func 20) #[] #[.pointer (some ⟨bg, 0, none⟩)]]
theorem MG.below {W W' : World} {g : GR} {bn bg : Nat} (h : MG W g bn bg) (hB : Below W.heap.size W W') : MG W' g bn bg := ⟨h.t.below hB, h.f.grown hB⟩
theorem wpList_build1P {w : World} {ops : Array Oper} {rest : List Oper} {op : Oper} {a : Act} {Q : Exit → Act → World → Prop} (hgd : op.guard = none) (x : Operand) (ho : op.op = .buildSlice 26 1 #[(0, x)]) (k : PK) (hx : a.eval x = .agg (pkL k).toArray)
    (h : ∀ W b, Fresh w W b → IsS W b 35 (pkL k) → wpList Try.prog ops Q rest (a.put op.dst (.slice (some ⟨b, 0, none⟩) 1 1)) W) : wpList Try.prog ops Q (op :: rest) a w := by
  obtain ⟨i, hi, hz, hk, _⟩ := ePk.info
  have hr : (execOp a.eval op).run Try.prog w = .ok (.value (.slice (some ⟨w.heap.size, 0, none⟩) 1 1)) (w.alloc (.cells (pkL k).toArray 35)) := by
    generalize a.eval = ev at hx ⊢
    unfold execOp
    simp only [ho, hx]
    simp [Instr.buildSlice, Instr.fill, run_underlying ePk.und, sizeOf, typeInfo, zeroValue, hi, hk, hz, hx, Value.cells, newRow, pkL, show Array.range 3 = #[0, 1, 2] from rfl]
  refine wpList_plain hgd fun K hK => ?_
  unfold Oper.wp
  rw [hr]
  exact hK _ _ (h _ _ (Fresh.alloc w _) (IsS.new w _ _))
set_option maxRecDepth 100000 in
set_option maxHeartbeats 4000000 in
theorem picks_any (g : GR) (hf : g.Few) (T : ByteArray) (hT : T.size ≤ 1099511627776) (bn bg : Nat) (w : World) (hM : MG w g bn bg) :
    Calls Try.prog 21 #[.string T, .pointer (some ⟨bn, 0, none⟩), .pointer (some ⟨bg, 0, none⟩)] w fun e w' => ∃ v, e = .returned v ∧ w'.ownsRow w.heap.size 35 3 v (picksG g T).length ((picksG g T).flatMap pkL) ∧ Below w.heap.size w w' := by
  have hN := fun W (h : GB W g bg) => num_any g hf T hT bg W h
  have HM : Hid (MG w g bn bg) := hM
  have yf : w.cell? ⟨bn, 0, none⟩ = _ := hM.f.cell 0
  simp only [List.getElem?_cons_zero] at yf
  cases hn : numG g T with
  | none =>
    have e : picksG g T = [] := by unfold picksG; rw [hn]
    have en : numI g T = -1 := by unfold numI; rw [hn]
    rw [e]
    rw [en] at hN
    clear hM hf hT e en hn
    go_enter Try.func21, Try.ntmps21
    go_wp2_with (first
      | (go_at_call 20; refine (hN _ HM.out.t).mono ?_; rintro e W1 ⟨rfl, B1⟩))
    go_ret
    exact ⟨_, rfl, own_nil _ _ _ _, B1⟩
  | some n =>
    have hlt := num_lt hn
    have en : numI g T = n := by unfold numI; rw [hn]
    rw [en] at hN
    obtain ⟨a, c, hS, hR⟩ := hM.t.ex
    obtain ⟨r, hr⟩ : ∃ r, g.to[n]? = some r := ⟨_, List.getElem?_eq_getElem hlt⟩
    obtain ⟨b', o', a', c', rfl, hb', yr, _, _⟩ := hR.at n r hr
    have hm : r.length ≤ 1048576 := hf.r r (List.mem_of_getElem? hr)
    obtain ⟨m, em⟩ : ∃ m, r.length = m := ⟨_, rfl⟩
    have hrl : (g.to.getD n []).length = m := by rw [List.getD_eq_getElem?_getD, hr]; exact em
    obtain ⟨N, eN⟩ : ∃ N, g.to.length = N := ⟨_, rfl⟩
    have hnN : (n : Int) < N := by omega
    have hN200 : N ≤ 200 := by rw [← eN]; exact hf.t
    rw [eN] at hS
    rw [em] at yr hm
    have y0 := hS.cell 0
    have y2 := hS.cell 2
    simp only [List.getElem?_cons_zero, List.getElem?_cons_succ] at y0 y2
    clear hM hf hT en hR hS hr hlt eN em
    cases ho : g.odd
    · have e : picksG g T = ([] : List PK) ++ rowPk m := by unfold picksG; rw [hn]; simp only [ho, hrl]; rfl
      obtain ⟨L, hL⟩ : ∃ L, picksG g T = L := ⟨_, rfl⟩
      have HL : Hid (([] : List PK) ++ rowPk m = L) := e.symm.trans hL
      have hll : L.length = 0 + m := by rw [← HL.out]; simp [rowPk_len]
      rw [hL, hll]
      clear hL hll
      rw [ho] at y2
      clear hn e ho
      go_enter Try.func21, Try.ntmps21
      go_wp2_with (first
        | (go_at_call 20; refine (hN _ HM.out.t).mono ?_; rintro e W1 ⟨rfl, B1⟩; have ya := cell_grow y2 B1))
      have B3 := B1
      have O3 : W1.ownsRow w.heap.size 35 3 (.slice none 0 0) 0 [] := own_nil _ _ _ _
      go_loopw [6, 7] (fun v i wr => ∃ k : Nat, k ≤ m ∧ i = .int .i64 (k : Int) ∧ (∃ av cv, v = .slice av (0 + k) cv) ∧ Hid (wr.ownsRow w.heap.size 35 3 v (0 + k) ((([] : List PK) ++ rowPk k).flatMap pkL)) ∧ Hid (Below w.heap.size w wr)) (fun _ i _ => m - (intOf i).toNat)
      case atStart => exact ⟨0, Nat.zero_le _, rfl, own_form O3, O3, B3⟩
      case round =>
        obtain ⟨k, hk, rfl, ⟨av, cv, rfl⟩, HO, HB⟩ := hrel
        have z0 := cell_grow y0 HB.out
        have zr := cell_grow yr HB.out
        by_cases hlt : k < m
        · have hki : (k : Int) < m := by omega
          have t3 : True := trivial
          have t4 : True := trivial
          go_wp2_with (first
            | (clear t3; refine wpList_build1P rfl _ rfl ((k : Int), 1, 0) rfl ?_; intro W5 b5 F5 C5; have B5 := Below.then HB.out (F_b F5); have O5 := own_below HO.out (F_b F5); clear F5)
            | (clear t4; at_builtin; refine wpList_appM ePk rfl _ _ rfl w.heap.size _ (0 + k) _ rfl O5 _ 1 (pkL ((k : Int), 1, 0)) rfl (row_isS C5) rfl (pk_oneC _) (by omega) B5.size ?_; intro v6 W6 O6 G6; have B6 := grown_below B5 B5.size O5 G6; clear G6 C5 O5))
          have HF : Hid (W6.ownsRow w.heap.size 35 3 v6 (0 + (k + 1)) ((([] : List PK) ++ rowPk (k + 1)).flatMap pkL)) := (by
            show World.ownsRow _ _ _ _ _ _ _
            rw [rowPk_succ, ← List.append_assoc, List.flatMap_append, List.flatMap_singleton, ← Nat.add_assoc]; exact O6)
          clear O6
          go_wp2_with fail
          go_roundw
          case rel => exact ⟨k + 1, by omega, by go_num, own_form HF.out, HF, B6⟩
          case measure => simp [intOf]; omega
        · have e : k = m := by omega
          subst e
          have hki : ¬ (k : Int) < k := by omega
          go_wp2_with fail
          go_ret
          refine ⟨_, rfl, ?_, HB.out⟩
          have := HO.out
          rw [HL.out] at this
          simpa using this
    · have e : picksG g T = ([(99, 1, 0)] : List PK) ++ rowPk m := by unfold picksG; rw [hn]; simp only [ho, hrl]; rfl
      obtain ⟨L, hL⟩ : ∃ L, picksG g T = L := ⟨_, rfl⟩
      have HL : Hid (([(99, 1, 0)] : List PK) ++ rowPk m = L) := e.symm.trans hL
      have hll : L.length = 1 + m := by rw [← HL.out]; simp [rowPk_len]; omega
      rw [hL, hll]
      clear hL hll
      rw [ho] at y2
      clear hn e ho
      have t1 : True := trivial
      have t2 : True := trivial
      go_enter Try.func21, Try.ntmps21
      go_wp2_with (first
        | (go_at_call 20; refine (hN _ HM.out.t).mono ?_; rintro e W1 ⟨rfl, B1⟩; have ya := cell_grow y2 B1)
        | (clear t1; refine wpList_build1P rfl _ rfl (99, 1, 0) rfl ?_; intro W2 b2 F2 C2; have B2 := Below.then B1 (F_b F2); clear F2)
        | (clear t2; at_builtin; refine wpList_appM ePk rfl _ _ rfl w.heap.size _ 0 [] rfl (own_nil _ _ _ _) _ 1 (pkL (99, 1, 0)) rfl (row_isS C2) rfl (pk_oneC _) (by omega) B2.size ?_; intro v3 W3 O3 G3; have B3 := grown_below B2 B2.size (own_nil W2 w.heap.size 35 3) G3; obtain ⟨av3, cv3, ev3⟩ := own_form O3; subst ev3; clear G3 C2))
      go_loopw [6, 7] (fun v i wr => ∃ k : Nat, k ≤ m ∧ i = .int .i64 (k : Int) ∧ (∃ av cv, v = .slice av (1 + k) cv) ∧ Hid (wr.ownsRow w.heap.size 35 3 v (1 + k) ((([(99, 1, 0)] : List PK) ++ rowPk k).flatMap pkL)) ∧ Hid (Below w.heap.size w wr)) (fun _ i _ => m - (intOf i).toNat)
      case atStart => exact ⟨0, Nat.zero_le _, rfl, own_form O3, O3, B3⟩
      case round =>
        obtain ⟨k, hk, rfl, ⟨av, cv, rfl⟩, HO, HB⟩ := hrel
        have z0 := cell_grow y0 HB.out
        have zr := cell_grow yr HB.out
        by_cases hlt : k < m
        · have hki : (k : Int) < m := by omega
          have t3 : True := trivial
          have t4 : True := trivial
          go_wp2_with (first
            | (clear t3; refine wpList_build1P rfl _ rfl ((k : Int), 1, 0) rfl ?_; intro W5 b5 F5 C5; have B5 := Below.then HB.out (F_b F5); have O5 := own_below HO.out (F_b F5); clear F5)
            | (clear t4; at_builtin; refine wpList_appM ePk rfl _ _ rfl w.heap.size _ (1 + k) _ rfl O5 _ 1 (pkL ((k : Int), 1, 0)) rfl (row_isS C5) rfl (pk_oneC _) (by omega) B5.size ?_; intro v6 W6 O6 G6; have B6 := grown_below B5 B5.size O5 G6; clear G6 C5 O5))
          have HF : Hid (W6.ownsRow w.heap.size 35 3 v6 (1 + (k + 1)) ((([(99, 1, 0)] : List PK) ++ rowPk (k + 1)).flatMap pkL)) := (by
            show World.ownsRow _ _ _ _ _ _ _
            rw [rowPk_succ, ← List.append_assoc, List.flatMap_append, List.flatMap_singleton, ← Nat.add_assoc]; exact O6)
          clear O6
          go_wp2_with fail
          go_roundw
          case rel => exact ⟨k + 1, by omega, by go_num, own_form HF.out, HF, B6⟩
          case measure => simp [intOf]; omega
        · have e : k = m := by omega
          subst e
          have hki : ¬ (k : Int) < k := by omega
          go_wp2_with fail
          go_ret
          refine ⟨_, rfl, ?_, HB.out⟩
          have := HO.out
          rw [HL.out] at this
          exact this
end Go.Proofs.Ytmoieckmbimgoaa

/- Compare of the program: the order, and that it only adds blocks and draws. -/
import Derived.Test.YtimdmiefjnokmaaVB
import Derived.Deep.QuietTactic
import Derived.BigQuiet
import Derived.Sort.Grow
namespace Go.Proofs.Ytimdmiefjnokmaa
open Go.RowKit M
set_option linter.unusedSimpArgs false
set_option linter.unusedVariables false

/-- Draws and new blocks alone. -/
def Grew (w w' : World) : Prop := ∃ q os, w' = Go.Sort.grow (w.drewN q) os
theorem Grew.refl (w : World) : Grew w w := ⟨0, #[], by rw [Go.Sort.grow_empty]; rfl⟩
theorem Grew.alloc (w : World) (o : Obj) : Grew w (w.alloc o) := ⟨0, #[o], by rw [Go.Sort.alloc_eq_grow]; rfl⟩
theorem Grew.drewN (w : World) (n : Nat) : Grew w (w.drewN n) := ⟨n, #[], by rw [Go.Sort.grow_empty]⟩
theorem Grew.trans {a b c : World} (h : Grew a b) (k : Grew b c) : Grew a c := by
  obtain ⟨q, os, rfl⟩ := h
  obtain ⟨q', os', rfl⟩ := k
  refine ⟨q + q', os ++ os', ?_⟩
  rw [← Go.Sort.grow_grow]
  simp [Go.Sort.grow, World.drewN, Nat.add_assoc]
theorem Grew.below {w w' : World} (h : Grew w w') : Below w.heap.size w w' := by
  obtain ⟨q, os, rfl⟩ := h
  refine ⟨rfl, rfl, rfl, by simp [Go.Sort.grow, World.drewN], fun k hk => ?_⟩
  show (w.heap ++ os)[k]? = _
  rw [Array.getElem?_append_left hk]
section
variable {w : World} {ops : Array Oper} {rest : List Oper} {op : Oper} {a : Act} {Q : Exit → Act → World → Prop}
theorem wpList_boxGr (hgd : op.guard = none) (ty : TypeId) (x : Operand) (ho : op.op = .box ty x) (vs : List Value) (hx : a.eval x = .agg vs.toArray)
    (h : ∀ W b, Fresh w W b → Grew w W → IsS W b ty vs → wpList Try.prog ops Q rest (a.put op.dst (.pointer (some ⟨b, 0, none⟩))) W) : wpList Try.prog ops Q (op :: rest) a w := by
  refine wpList_plain hgd fun K hK => ?_
  unfold Oper.wp execOp
  simp only [ho, hx]
  have hb : (Instr.box ty (.agg vs.toArray)).run Try.prog w = .ok (.pointer (some ⟨w.heap.size, 0, none⟩)) (w.alloc (.cells vs.toArray ty)) := by
    simp [go_sem, Value.cells]
  simp only [Sem.run_bind, hb, Result.andThen_ok, Sem.run_pure]
  exact hK _ _ (h _ _ (Fresh.alloc w _) (Grew.alloc w _) (IsS.new w ty vs))
end
/-- Lists by their first so many values. -/
theorem cmpL_at : ∀ (k : Nat) (l m : List Int), (∀ j, j < k → l.getD j 0 = m.getD j 0) → k ≤ l.length → k ≤ m.length → cmpL l m = cmpL (l.drop k) (m.drop k)
  | 0, l, m, _, _, _ => by simp
  | k + 1, [], m, _, h, _ => by simp at h
  | k + 1, _, [], _, _, h => by simp at h
  | k + 1, x :: l, y :: m, h, h1, h2 => by
    have h0 := h 0 (by omega)
    simp at h0
    subst h0
    rw [List.drop_succ_cons, List.drop_succ_cons]
    have e : cmpL (x :: l) (x :: m) = cmpL l m := by simp [cmpL]
    rw [e]
    exact cmpL_at k l m (fun j hj => by have := h (j + 1) (by omega); simpa using this) (by simpa using h1) (by simpa using h2)
theorem cmpL_next {l m : List Int} {k : Nat} (h : ∀ j, j < k → l.getD j 0 = m.getD j 0) (h1 : k < l.length) (h2 : k < m.length) : cmpL l m = if l.getD k 0 < m.getD k 0 then -1 else if m.getD k 0 < l.getD k 0 then 1 else cmpL (l.drop (k + 1)) (m.drop (k + 1)) := by
  rw [cmpL_at k l m h (by omega) (by omega), List.drop_eq_getElem_cons h1, List.drop_eq_getElem_cons h2]
  have e1 : l.getD k 0 = l[k] := by simp [h1]
  have e2 : m.getD k 0 = m[k] := by simp [h2]
  rw [e1, e2]; rfl
theorem cmpL_end {l m : List Int} (hl : l.length = m.length) (h : ∀ j, j < l.length → l.getD j 0 = m.getD j 0) : cmpL l m = 0 := by
  rw [cmpL_at l.length l m h (Nat.le_refl _) (by omega), List.drop_eq_nil_of_le (Nat.le_refl _), List.drop_eq_nil_of_le (by omega)]; rfl

set_option maxRecDepth 100000 in
set_option maxHeartbeats 2000000 in
theorem scompare_any (a b : Nat) (l m : List Int) (hl : l.length = 48) (hm : m.length = 48) (w : World) (ha : ∀ j, j < 48 → w.cell? ⟨a, 1 + j, none⟩ = some (.int .i64 (l.getD j 0))) (hb : ∀ j, j < 48 → w.cell? ⟨b, 1 + j, none⟩ = some (.int .i64 (m.getD j 0))) :
    Calls Try.prog 12 #[.slice (some ⟨a, 1, none⟩) 48 48, .slice (some ⟨b, 1, none⟩) 48 48] w fun e w' => e = .returned (.int .i64 (cmpL l m)) ∧ w' = w := by
  have hC := fun x y W => cmpW_any x y W
  go_enter Try.func12, Try.ntmps12
  go_wp2
  go_loop [11] (fun i => ∃ k : Nat, k ≤ 48 ∧ i = .int .i64 (k : Int) ∧ Hid (∀ j, j < k → l.getD j 0 = m.getD j 0)) (fun i => 48 - (intOf i).toNat)
  case atStart => exact ⟨0, Nat.zero_le _, rfl, fun j hj => absurd hj (Nat.not_lt_zero _)⟩
  case round =>
    obtain ⟨k, hk, rfl, HE⟩ := hrel
    by_cases hlt : k < 48
    · have ca := ha k hlt
      have cb := hb k hlt
      have HN : Hid (cmpL l m = if l.getD k 0 < m.getD k 0 then -1 else if m.getD k 0 < l.getD k 0 then 1 else cmpL (l.drop (k + 1)) (m.drop (k + 1))) := cmpL_next HE.out (by omega) (by omega)
      have HE' : Hid (l.getD k 0 = m.getD k 0 → ∀ j, j < k + 1 → l.getD j 0 = m.getD j 0) := fun h j hj => by
        rcases Nat.lt_succ_iff_lt_or_eq.1 hj with h1 | h1
        · exact HE.out j h1
        · rw [h1, h]
      generalize l.getD k 0 = x at *
      generalize m.getD k 0 = y at *
      have hxy := hC x y
      have HK : Hid (cmpI x y = if x < y then -1 else if y < x then 1 else 0) := rfl
      clear HE ha hb hC
      by_cases h1 : x < y
      · rw [HK.out, if_pos h1] at hxy
        rw [if_pos h1] at HN
        clear HE' HK h1
        go_wp2_with (go_at_call 15; refine (hxy _).mono ?_; rintro e w' ⟨rfl, hw'⟩; replace hw' := hw'.symm; subst hw')
        go_ret
        exact ⟨ret_int HN.out.symm, rfl⟩
      · by_cases h2 : y < x
        · rw [HK.out, if_neg h1, if_pos h2] at hxy
          rw [if_neg h1, if_pos h2] at HN
          clear HE' HK h1 h2
          go_wp2_with (go_at_call 15; refine (hxy _).mono ?_; rintro e w' ⟨rfl, hw'⟩; replace hw' := hw'.symm; subst hw')
          go_ret
          exact ⟨ret_int HN.out.symm, rfl⟩
        · rw [HK.out, if_neg h1, if_neg h2] at hxy
          have HE2 : Hid _ := HE'.out (by omega)
          clear HE' HK h1 h2 HN
          go_wp2_with (go_at_call 15; refine (hxy _).mono ?_; rintro e w' ⟨rfl, hw'⟩; replace hw' := hw'.symm; subst hw')
          go_round
          case rel => exact ⟨k + 1, by omega, by go_num, HE2⟩
          case measure => simp [intOf]; omega
    · have HE2 : Hid (cmpL l m = 0) := cmpL_end (by omega) fun j hj => HE.out j (by omega)
      have e : k = 48 := by omega
      subst e
      clear HE ha hb hC hlt hk
      go_wp2
      go_ret
      exact ⟨ret_int HE2.out.symm, rfl⟩
theorem cint (x y : Int) : cmpI x y = if x < y then -1 else if y < x then 1 else 0 := rfl
theorem run_all48 (w : World) (b : Nat) : (Instr.sliceAt 23 (.pointer (some ⟨b, 1, none⟩)) none none none).run Try.prog w = .ok (.slice (some ⟨b, 1, none⟩) 48 48) w := by
  simp [go_sem, Instr.sliceAt]

set_option maxRecDepth 100000 in
set_option maxHeartbeats 2000000 in
theorem compare_any (x y : FS) (w : World) :
    Calls Try.prog 7 #[.agg (encF x).toArray, .agg (encF y).toArray] w fun e w' => e = .returned (.int .i64 (cmpF x y)) ∧ Grew w w' := by
  by_cases hxy : x = y
  · subst hxy
    have HC : Hid (cmpF x x = 0) := cmpF_refl x
    have hd : decide (x = x) = true := by simp
    have ta : True := trivial
    have tb : True := trivial
    go_enter Try.func7, Try.ntmps7
    go_wp2_with (first
      | (clear ta; refine wpList_boxGr rfl _ _ rfl (encF x) rfl ?_; intro w1 b1 F1 G1 I1)
      | (clear tb; refine wpList_boxGr rfl _ _ rfl (encF x) rfl ?_; intro w2 b2 F2 G2 I2; have J2 := I1.fresh F2)
      | (refine wpList_loadF rfl _ rfl rfl J2 ?_)
      | (refine wpList_loadF rfl _ rfl rfl I2 ?_)
      | (refine wpList_eqF rfl _ _ rfl rfl rfl ?_; rw [hd]))
    go_ret
    exact ⟨ret_int HC.out.symm, G1.trans G2⟩
  · have hd : decide (x = y) = false := by simpa using hxy
    have h0 : ∀ w b, IsS w b 25 (encF x) → w.cell? ⟨b, 0, none⟩ = some (.int .i64 x.n) := fun w b I => I.cell 0
    have k0 : ∀ w b, IsS w b 25 (encF y) → w.cell? ⟨b, 0, none⟩ = some (.int .i64 y.n) := fun w b I => I.cell 0
    by_cases hn : x.n = y.n
    · have HC : Hid (cmpF x y = cmpL x.v y.v) := by show _ = _; unfold cmpF; rw [if_neg (by omega), if_neg (by omega)]
      have hne : (x.n != y.n) = false := by simp [hn]
      have hS := fun (W : World) (a b : Nat) (IA : IsS W a 25 (encF x)) (IB : IsS W b 25 (encF y)) => scompare_any a b x.v y.v x.h y.h W
        (fun j hj => by rw [IA.cell, show 1 + j = j + 1 by omega, encF_get x _ (by omega)]) (fun j hj => by rw [IB.cell, show 1 + j = j + 1 by omega, encF_get y _ (by omega)])
      have hrun := run_all48
      generalize cmpL x.v y.v = r at *
      clear hn hxy
      have ta : True := trivial
      have tb : True := trivial
      go_enter Try.func7, Try.ntmps7
      go_wp2_with (first
        | (clear ta; refine wpList_boxGr rfl _ _ rfl (encF x) rfl ?_; intro w1 b1 F1 G1 I1)
        | (clear tb; refine wpList_boxGr rfl _ _ rfl (encF y) rfl ?_; intro w2 b2 F2 G2 I2; have J2 := I1.fresh F2; have c1 := h0 _ _ J2; have c2 := k0 _ _ I2)
        | (refine wpList_loadF rfl _ rfl rfl J2 ?_)
        | (refine wpList_loadF rfl _ rfl rfl I2 ?_)
        | (refine wpList_eqF rfl _ _ rfl rfl rfl ?_; rw [hd]))
      have hq : ∀ n, IsS (w2.drewN n) b1 25 (encF x) ∧ IsS (w2.drewN n) b2 25 (encF y) := fun n => ⟨J2, I2⟩
      go_quiet ((go_at_call 12; exact Calls.quiet_of_same (hS _ _ _ (hq _).1 (hq _).2)))
      go_wp2
      go_ret
      exact ⟨ret_int HC.out.symm, (G1.trans G2).trans (Grew.drewN _ _)⟩
    · have HC : Hid (cmpF x y = cmpI x.n y.n) := by
        show _ = _
        rw [cint]
        unfold cmpF
        by_cases h1 : x.n < y.n
        · rw [if_pos h1, if_pos h1]
        · have h2 : y.n < x.n := by omega
          rw [if_neg h1, if_pos h2, if_neg h1, if_pos h2]
      have hne : (x.n != y.n) = true := by simpa using hn
      have hC := fun W => cmpN_any x.n y.n W
      generalize cmpI x.n y.n = r at *
      clear hn hxy
      have ta : True := trivial
      have tb : True := trivial
      go_enter Try.func7, Try.ntmps7
      go_wp2_with (first
        | (clear ta; refine wpList_boxGr rfl _ _ rfl (encF x) rfl ?_; intro w1 b1 F1 G1 I1)
        | (clear tb; refine wpList_boxGr rfl _ _ rfl (encF y) rfl ?_; intro w2 b2 F2 G2 I2; have J2 := I1.fresh F2; have c1 := h0 _ _ J2; have c2 := k0 _ _ I2)
        | (refine wpList_loadF rfl _ rfl rfl J2 ?_)
        | (refine wpList_loadF rfl _ rfl rfl I2 ?_)
        | (refine wpList_eqF rfl _ _ rfl rfl rfl ?_; rw [hd])
        | (go_at_call 11; refine (hC _).mono ?_; rintro e w' ⟨rfl, hw'⟩; replace hw' := hw'.symm; subst hw'))
      go_ret
      exact ⟨ret_int HC.out.symm, G1.trans G2⟩
end Go.Proofs.Ytimdmiefjnokmaa

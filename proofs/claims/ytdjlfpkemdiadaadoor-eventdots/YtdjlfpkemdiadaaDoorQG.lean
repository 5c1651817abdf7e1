/- Several texts in one: FJ0, GA17, GB17, GC17, GD0. -/
import Derived.Test.YtdjlfpkemdiadaaDoorFA17
import Derived.Test.YtdjlfpkemdiadaaDoorXP
import Derived.Deep.CutRange
import Derived.Test.YtdjlfpkemdiadaaDoorPgPX
import Derived.Test.YtdjlfpkemdiadaaDoorPgQF
/- Rows of events of one's own; SameEvents. -/
namespace Go.Proofs.YtdjlfpkemdiadaaDoor
open Go.RowKit M
set_option linter.unusedSimpArgs false
set_option linter.unusedVariables false

theorem eEv : Elt 46 37 5 (.agg (evL ev0).toArray) 40 := ⟨Tryd.underlying37, info_parts (by kernel_rfl), rfl, by decide, by decide⟩
theorem own_open {W : World} {B t s n : Nat} {v : Value} {xs : List Value} (h : W.ownsRow B t s v n xs) (h0 : 0 < n) : ∃ g c, v = .slice (some ⟨g, 0, none⟩) n c ∧ n ≤ c ∧ Seg W (some ⟨g, 0, none⟩) xs := by
  obtain ⟨a, c, e, sg, _⟩ := own_row h
  rcases h.2 with ⟨h1, h2⟩ | ⟨g, cap, cur, hv, hg, hh, hc, _⟩
  · rw [h1] at e; cases e; omega
  · rw [hv] at e; cases e; exact ⟨g, c, hv, hc, sg⟩
theorem exec_build1E {w : World} {op : Oper} {a : Act} (x : Operand) (ho : op.op = .buildSlice 37 1 #[(0, x)]) (k : EV) (hx : a.eval x = .agg (evL k).toArray) : (execOp a.eval op).run Tryd.prog w = .ok (.value (.slice (some ⟨w.heap.size, 0, none⟩) 1 1)) (w.alloc (.cells (evL k).toArray 46)) := by
  obtain ⟨i, hi, hz, hk, _⟩ := eEv.info
  generalize a.eval = ev at hx ⊢
  unfold execOp
  simp only [ho, hx]
  simp [Instr.buildSlice, Instr.fill, run_underlying eEv.und, sizeOf, typeInfo, zeroValue, hi, hk, hz, hx, Value.cells, newRow, evL, show Array.range 5 = #[0, 1, 2, 3, 4] from rfl]
theorem wpList_build1V {w : World} {ops : Array Oper} {rest : List Oper} {op : Oper} {a : Act} {Q : Exit → Act → World → Prop} (hgd : op.guard = none) (x : Operand) (ho : op.op = .buildSlice 37 1 #[(0, x)]) (k : EV) (hx : a.eval x = .agg (evL k).toArray)
    (h : ∀ W b, Fresh w W b → IsS W b 46 (evL k) → wpList Tryd.prog ops Q rest (a.put op.dst (.slice (some ⟨b, 0, none⟩) 1 1)) W) : wpList Tryd.prog ops Q (op :: rest) a w := by
  refine wpList_plain hgd fun K hK => ?_
  unfold Oper.wp
  rw [exec_build1E x ho k hx]
  exact hK _ _ (h _ _ (Fresh.alloc w _) (IsS.new w 46 (evL k)))
theorem ev_oneL (l : List EV) : ∀ v ∈ l.flatMap evL, v.oneCell' = true := fun v hv => by
  obtain ⟨r, _, h⟩ := List.mem_flatMap.1 hv; exact ev_oneC r v h
theorem ev_len (l : List EV) : (l.flatMap evL).length = l.length * 5 := by
  induction l with
  | nil => rfl
  | cons x l ih => rw [List.flatMap_cons, List.length_append, ih, List.length_cons]; show 5 + _ = _; omega
end Go.Proofs.YtdjlfpkemdiadaaDoor
/- The events that an instruction makes: made and initial of event. -/
namespace Go.Proofs.YtdjlfpkemdiadaaDoor
open Go.RowKit M
set_option linter.unusedSimpArgs false
set_option linter.unusedVariables false

section
variable {w : World} {ops : Array Oper} {rest : List Oper} {op : Oper} {a : Act} {Q : Exit → Act → World → Prop}
set_option maxRecDepth 100000 in
theorem wpList_bA (hgd : op.guard = none) (k : Int) (x y z : Operand) (ho : op.op = .build 46 #[(0, .const (.int .i64 k)), (1, x), (2, y), (3, z)]) {t i l : Int} (hx : a.eval x = .int .i64 t) (hy : a.eval y = .int .i64 i) (hz : a.eval z = .int .i64 l)
    (h : wpList Tryd.prog ops Q rest (a.put op.dst (.agg (evL ⟨k, t, i, l, false⟩).toArray)) w) : wpList Tryd.prog ops Q (op :: rest) a w := by
  refine wpList_plain hgd fun K hK => ?_
  unfold Oper.wp execOp
  have hb : Tryd.prog.built 46 [(0, .int .i64 k), (1, .int .i64 t), (2, .int .i64 i), (3, .int .i64 l)] = some (evL ⟨k, t, i, l, false⟩).toArray := by kernel_rfl
  simp only [ho, List.map_toArray, List.map_cons, List.map_nil, hx, hy, hz, show ∀ v, a.eval (.const v) = v from fun _ => rfl, Sem.run_bind, run_build w 46 #[(0, .int .i64 k), (1, .int .i64 t), (2, .int .i64 i), (3, .int .i64 l)] (evL ⟨k, t, i, l, false⟩).toArray hb, Result.andThen_ok, Sem.run_pure]
  exact hK _ _ h
set_option maxRecDepth 100000 in
theorem wpList_bB (hgd : op.guard = none) (z : Operand) (ho : op.op = .build 46 #[(0, .const (.int .i64 1)), (1, .const (.int .i64 (-1))), (3, z)]) {l : Int} (hz : a.eval z = .int .i64 l)
    (h : wpList Tryd.prog ops Q rest (a.put op.dst (.agg (evL ⟨1, -1, 0, l, false⟩).toArray)) w) : wpList Tryd.prog ops Q (op :: rest) a w := by
  refine wpList_plain hgd fun K hK => ?_
  unfold Oper.wp execOp
  have hb : Tryd.prog.built 46 [(0, .int .i64 1), (1, .int .i64 (-1)), (3, .int .i64 l)] = some (evL ⟨1, -1, 0, l, false⟩).toArray := by kernel_rfl
  simp only [ho, List.map_toArray, List.map_cons, List.map_nil, hz, show ∀ v, a.eval (.const v) = v from fun _ => rfl, Sem.run_bind, run_build w 46 #[(0, .int .i64 1), (1, .int .i64 (-1)), (3, .int .i64 l)] (evL ⟨1, -1, 0, l, false⟩).toArray hb, Result.andThen_ok, Sem.run_pure]
  exact hK _ _ h
set_option maxRecDepth 100000 in
theorem wpList_bC (hgd : op.guard = none) (x y z : Operand) (ho : op.op = .build 46 #[(1, x), (2, y), (3, z)]) {t i l : Int} (hx : a.eval x = .int .i64 t) (hy : a.eval y = .int .i64 i) (hz : a.eval z = .int .i64 l)
    (h : wpList Tryd.prog ops Q rest (a.put op.dst (.agg (evL ⟨0, t, i, l, false⟩).toArray)) w) : wpList Tryd.prog ops Q (op :: rest) a w := by
  refine wpList_plain hgd fun K hK => ?_
  unfold Oper.wp execOp
  have hb : Tryd.prog.built 46 [(1, .int .i64 t), (2, .int .i64 i), (3, .int .i64 l)] = some (evL ⟨0, t, i, l, false⟩).toArray := by kernel_rfl
  simp only [ho, List.map_toArray, List.map_cons, List.map_nil, hx, hy, hz, show ∀ v, a.eval (.const v) = v from fun _ => rfl, Sem.run_bind, run_build w 46 #[(1, .int .i64 t), (2, .int .i64 i), (3, .int .i64 l)] (evL ⟨0, t, i, l, false⟩).toArray hb, Result.andThen_ok, Sem.run_pure]
  exact hK _ _ h
set_option maxRecDepth 100000 in
theorem exec_build2E {w : World} {op : Oper} {a : Act} (x y : Operand) (ho : op.op = .buildSlice 37 2 #[(0, x), (1, y)]) (k j : EV) (hx : a.eval x = .agg (evL k).toArray) (hy : a.eval y = .agg (evL j).toArray) : (execOp a.eval op).run Tryd.prog w = .ok (.value (.slice (some ⟨w.heap.size, 0, none⟩) 2 2)) (w.alloc (.cells (evL k ++ evL j).toArray 46)) := by
  obtain ⟨i, hi, hz, hk, _⟩ := eEv.info
  generalize a.eval = ev at hx hy ⊢
  unfold execOp
  simp only [ho, hx, hy]
  simp [Instr.buildSlice, Instr.fill, run_underlying eEv.und, sizeOf, typeInfo, zeroValue, hi, hk, hz, hx, hy, Value.cells, newRow, evL, show Array.range 10 = #[0, 1, 2, 3, 4, 5, 6, 7, 8, 9] from rfl]
theorem wpList_build2V (hgd : op.guard = none) (x y : Operand) (ho : op.op = .buildSlice 37 2 #[(0, x), (1, y)]) (k j : EV) (hx : a.eval x = .agg (evL k).toArray) (hy : a.eval y = .agg (evL j).toArray)
    (h : ∀ W b, Fresh w W b → IsS W b 46 (evL k ++ evL j) → wpList Tryd.prog ops Q rest (a.put op.dst (.slice (some ⟨b, 0, none⟩) 2 2)) W) : wpList Tryd.prog ops Q (op :: rest) a w := by
  refine wpList_plain hgd fun K hK => ?_
  unfold Oper.wp
  rw [exec_build2E x y ho k j hx hy]
  exact hK _ _ (h _ _ (Fresh.alloc w _) (IsS.new w 46 (evL k ++ evL j)))
end
/-- The events of an instruction. -/
def mdL (o : Op5) (t i : Int) (fl : Bool) : List EV :=
  if o.kind = 3 then [⟨3, t, i, o.loc, false⟩]
  else if o.kind = 4 ∨ o.kind = 5 then [⟨2, t, i, o.loc, false⟩]
  else if o.kind = 6 then [⟨4, t, i, -1, false⟩]
  else if o.kind = 7 ∨ o.kind = 8 ∨ o.kind = 9 then (if fl then [⟨3, t, i, o.loc, true⟩] else [⟨3, t, i, o.loc, true⟩, ⟨2, t, i, o.loc, true⟩])
  else []
theorem mdL_le (o : Op5) (t i : Int) (fl : Bool) : (mdL o t i fl).length ≤ 2 := by
  unfold mdL
  repeat (split <;> try (simp; done))
/-- What made answers. -/
def MdA (w : World) (L : List EV) (e : Ending) (w' : World) : Prop := ∃ v, e = .returned v ∧ RowV w' v L.length (L.flatMap evL) ∧ Below w.heap.size w w'
set_option maxRecDepth 100000 in
set_option maxHeartbeats 8000000 in
theorem made_any (o : Op5) (t i : Int) (fl : Bool) (w : World) : Calls Tryd.prog 29 #[.agg (op5L o).toArray, .int .i64 t, .int .i64 i, .bool fl] w fun e w' => MdA w (mdL o t i fl) e w' := by
  obtain ⟨A, hA⟩ : ∃ A, MdA w (mdL o t i fl) = A := ⟨_, rfl⟩
  have HA : Hid (∀ v w', RowV w' v (mdL o t i fl).length ((mdL o t i fl).flatMap evL) → Below w.heap.size w w' → A (.returned v) w') := by
    rw [← hA]; exact fun v w' h1 h2 => ⟨v, rfl, h1, h2⟩
  rw [hA]
  clear hA
  have HD : Hid (mdL o t i fl = (if o.kind = 3 then [⟨3, t, i, o.loc, false⟩]
    else if o.kind = 4 ∨ o.kind = 5 then [⟨2, t, i, o.loc, false⟩]
    else if o.kind = 6 then [⟨4, t, i, -1, false⟩]
    else if o.kind = 7 ∨ o.kind = 8 ∨ o.kind = 9 then (if fl then [⟨3, t, i, o.loc, true⟩] else [⟨3, t, i, o.loc, true⟩, ⟨2, t, i, o.loc, true⟩])
    else [])) := rfl
  have t1 : True := trivial
  have t2 : True := trivial
  have t3 : True := trivial
  go_enter Tryd.func29, Tryd.ntmps29
  go_upto_region 4 with (first
    | (refine wpList_boxS rfl 58 _ rfl (op5L o) rfl ?_; intro W1 b1 F1 C1; have B1 := F_b F1; clear F1; have y3 : W1.cell? ⟨b1, 3, none⟩ = some (.int .i64 o.loc) := C1.cell 3)
    | (clear t1; refine wpList_bA rfl 3 _ _ _ rfl rfl rfl rfl ?_)
    | (clear t2; refine wpList_allocS rfl 46 rfl (evL ev0) zeroEv ?_; intro W2 b9 F2 K9; have B2 := Below.then B1 (F_b F2); have hb9 : w.heap.size ≤ b9 := Nat.le_trans B1.size (Nat.le_of_eq F2.at'.symm); have C2 := C1.fresh F2; have hn19 : b1 ≠ b9 := (by have := C1.lt; have := F2.at'; omega); clear F2 B1 C1 y3)
    | (clear t3; refine wpList_storeW rfl 46 _ _ rfl rfl (evL ⟨3, t, i, o.loc, false⟩) rfl K9 rfl infoEv (ev_oneC _) ?_; intro W3 U3 q9; have B3 := U3.trans B2 hb9; have C3 := C2.upd U3 hn19; clear U3 K9 B2 C2; have y3 : W3.cell? ⟨b1, 3, none⟩ = some (.int .i64 o.loc) := C3.cell 3)
    | (refine wpList_bA rfl 2 _ _ _ rfl rfl rfl rfl ?_)
    | (refine wpList_allocS rfl 46 rfl (evL ev0) zeroEv ?_; intro W4 b10 F4 K10; have B4 := Below.then B3 (F_b F4); have hb10 : w.heap.size ≤ b10 := Nat.le_trans B3.size (Nat.le_of_eq F4.at'.symm); have C4 := C3.fresh F4; have hn110 : b1 ≠ b10 := (by have := C3.lt; have := F4.at'; omega); have hn910 : b9 ≠ b10 := (by have := q9.lt; have := F4.at'; omega); replace q9 := q9.fresh F4; clear F4 B3 C3 y3)
    | (refine wpList_storeW rfl 46 _ _ rfl rfl (evL ⟨2, t, i, o.loc, false⟩) rfl K10 rfl infoEv (ev_oneC _) ?_; intro W5 U5 q10; have B5 := U5.trans B4 hb10; have C5 := C4.upd U5 hn110; replace q9 := q9.upd U5 hn910; clear U5 K10 B4 C4; have y0 : W5.cell? ⟨b1, 0, none⟩ = some (.int .i64 o.kind) := C5.cell 0))
  rcases (show o.kind = 3 ∨ o.kind = 4 ∨ o.kind = 5 ∨ o.kind = 6 ∨ o.kind = 7 ∨ o.kind = 8 ∨ o.kind = 9 ∨ (o.kind ≠ 3 ∧ o.kind ≠ 4 ∧ o.kind ≠ 5 ∧ o.kind ≠ 6 ∧ o.kind ≠ 7 ∧ o.kind ≠ 8 ∧ o.kind ≠ 9) by omega) with hk | hk | hk | hk | hk | hk | hk | ⟨k3, k4, k5, k6, k7, k8, k9⟩
  · have HM : mdL o t i fl = [⟨3, t, i, o.loc, false⟩] := by rw [HD.out]; simp [hk]
    clear HD
    go_wp2_with (first
      | (refine wpList_loadW rfl 46 _ rfl rfl q9 _ Tryd.underlying46 rfl infoEv ?_)
      | (refine wpList_build1V rfl _ rfl ⟨3, t, i, o.loc, false⟩ rfl ?_; intro W6 b6 F6 C6; have B6 := Below.then B5 (F_b F6); clear F6))
    exact HA.out _ _ (by rw [HM]; exact row_isS C6) B6
  · have HM : mdL o t i fl = [⟨2, t, i, o.loc, false⟩] := by rw [HD.out]; simp [hk]
    clear HD
    go_wp2_with (first
      | (refine wpList_loadW rfl 46 _ rfl rfl q10 _ Tryd.underlying46 rfl infoEv ?_)
      | (refine wpList_build1V rfl _ rfl ⟨2, t, i, o.loc, false⟩ rfl ?_; intro W6 b6 F6 C6; have B6 := Below.then B5 (F_b F6); clear F6))
    exact HA.out _ _ (by rw [HM]; exact row_isS C6) B6
  · have HM : mdL o t i fl = [⟨2, t, i, o.loc, false⟩] := by rw [HD.out]; simp [hk]
    clear HD
    go_wp2_with (first
      | (refine wpList_loadW rfl 46 _ rfl rfl q10 _ Tryd.underlying46 rfl infoEv ?_)
      | (refine wpList_build1V rfl _ rfl ⟨2, t, i, o.loc, false⟩ rfl ?_; intro W6 b6 F6 C6; have B6 := Below.then B5 (F_b F6); clear F6))
    exact HA.out _ _ (by rw [HM]; exact row_isS C6) B6
  · have HM : mdL o t i fl = [⟨4, t, i, -1, false⟩] := by rw [HD.out]; simp [hk]
    clear HD
    go_wp2_with (first
      | (refine wpList_bA rfl 4 _ _ _ rfl rfl rfl rfl ?_)
      | (refine wpList_build1V rfl _ rfl ⟨4, t, i, -1, false⟩ rfl ?_; intro W6 b6 F6 C6; have B6 := Below.then B5 (F_b F6); clear F6))
    exact HA.out _ _ (by rw [HM]; exact row_isS C6) B6
  · cases fl with
    | true =>
      have HM : mdL o t i true = [⟨3, t, i, o.loc, true⟩] := by rw [HD.out]; simp [hk]
      clear HD
      have e9 : (evL ⟨3, t, i, o.loc, false⟩).set 4 (.bool true) = evL ⟨3, t, i, o.loc, true⟩ := rfl
      have e10 : (evL ⟨2, t, i, o.loc, false⟩).set 4 (.bool true) = evL ⟨2, t, i, o.loc, true⟩ := rfl
      have t5 : True := trivial
      go_wp2_with (first
        | (clear t5; refine wpList_store1 rfl 4 _ _ rfl rfl (.bool true) rfl q9 (show 4 < 5 by decide) (by kernel_rfl) rfl ?_; intro W7 U7 p9; have B7 := U7.trans B5 hb9; have p10 := q10.upd U7 (fun e => hn910 e.symm); rw [e9] at p9; clear U7 q9 q10 B5 C5 y0)
        | (refine wpList_store1 rfl 4 _ _ rfl rfl (.bool true) rfl p10 (show 4 < 5 by decide) (by kernel_rfl) rfl ?_; intro W8 U8 s10; have B8 := U8.trans B7 hb10; have s9 := p9.upd U8 hn910; rw [e10] at s10; clear U8 p9 p10 B7)
        | (refine wpList_loadW rfl 46 _ rfl rfl s9 _ Tryd.underlying46 rfl infoEv ?_)
        | (refine wpList_loadW rfl 46 _ rfl rfl s10 _ Tryd.underlying46 rfl infoEv ?_)
        | (refine wpList_build1V rfl _ rfl ⟨3, t, i, o.loc, true⟩ rfl ?_; intro W9 b11 F9 C9; have B9 := Below.then B8 (F_b F9); clear F9)
        | (refine wpList_build2V rfl _ _ rfl ⟨3, t, i, o.loc, true⟩ ⟨2, t, i, o.loc, true⟩ rfl rfl ?_; intro W9 b11 F9 C9; have B9 := Below.then B8 (F_b F9); clear F9))
      exact HA.out _ _ (by rw [HM]; exact row_isS C9) B9
    | false =>
      have HM : mdL o t i false = [⟨3, t, i, o.loc, true⟩, ⟨2, t, i, o.loc, true⟩] := by rw [HD.out]; simp [hk]
      clear HD
      have e9 : (evL ⟨3, t, i, o.loc, false⟩).set 4 (.bool true) = evL ⟨3, t, i, o.loc, true⟩ := rfl
      have e10 : (evL ⟨2, t, i, o.loc, false⟩).set 4 (.bool true) = evL ⟨2, t, i, o.loc, true⟩ := rfl
      have t5 : True := trivial
      go_wp2_with (first
        | (clear t5; refine wpList_store1 rfl 4 _ _ rfl rfl (.bool true) rfl q9 (show 4 < 5 by decide) (by kernel_rfl) rfl ?_; intro W7 U7 p9; have B7 := U7.trans B5 hb9; have p10 := q10.upd U7 (fun e => hn910 e.symm); rw [e9] at p9; clear U7 q9 q10 B5 C5 y0)
        | (refine wpList_store1 rfl 4 _ _ rfl rfl (.bool true) rfl p10 (show 4 < 5 by decide) (by kernel_rfl) rfl ?_; intro W8 U8 s10; have B8 := U8.trans B7 hb10; have s9 := p9.upd U8 hn910; rw [e10] at s10; clear U8 p9 p10 B7)
        | (refine wpList_loadW rfl 46 _ rfl rfl s9 _ Tryd.underlying46 rfl infoEv ?_)
        | (refine wpList_loadW rfl 46 _ rfl rfl s10 _ Tryd.underlying46 rfl infoEv ?_)
        | (refine wpList_build1V rfl _ rfl ⟨3, t, i, o.loc, true⟩ rfl ?_; intro W9 b11 F9 C9; have B9 := Below.then B8 (F_b F9); clear F9)
        | (refine wpList_build2V rfl _ _ rfl ⟨3, t, i, o.loc, true⟩ ⟨2, t, i, o.loc, true⟩ rfl rfl ?_; intro W9 b11 F9 C9; have B9 := Below.then B8 (F_b F9); clear F9))
      exact HA.out _ _ (by rw [HM]; exact row_isS C9) B9
  · cases fl with
    | true =>
      have HM : mdL o t i true = [⟨3, t, i, o.loc, true⟩] := by rw [HD.out]; simp [hk]
      clear HD
      have e9 : (evL ⟨3, t, i, o.loc, false⟩).set 4 (.bool true) = evL ⟨3, t, i, o.loc, true⟩ := rfl
      have e10 : (evL ⟨2, t, i, o.loc, false⟩).set 4 (.bool true) = evL ⟨2, t, i, o.loc, true⟩ := rfl
      have t5 : True := trivial
      go_wp2_with (first
        | (clear t5; refine wpList_store1 rfl 4 _ _ rfl rfl (.bool true) rfl q9 (show 4 < 5 by decide) (by kernel_rfl) rfl ?_; intro W7 U7 p9; have B7 := U7.trans B5 hb9; have p10 := q10.upd U7 (fun e => hn910 e.symm); rw [e9] at p9; clear U7 q9 q10 B5 C5 y0)
        | (refine wpList_store1 rfl 4 _ _ rfl rfl (.bool true) rfl p10 (show 4 < 5 by decide) (by kernel_rfl) rfl ?_; intro W8 U8 s10; have B8 := U8.trans B7 hb10; have s9 := p9.upd U8 hn910; rw [e10] at s10; clear U8 p9 p10 B7)
        | (refine wpList_loadW rfl 46 _ rfl rfl s9 _ Tryd.underlying46 rfl infoEv ?_)
        | (refine wpList_loadW rfl 46 _ rfl rfl s10 _ Tryd.underlying46 rfl infoEv ?_)
        | (refine wpList_build1V rfl _ rfl ⟨3, t, i, o.loc, true⟩ rfl ?_; intro W9 b11 F9 C9; have B9 := Below.then B8 (F_b F9); clear F9)
        | (refine wpList_build2V rfl _ _ rfl ⟨3, t, i, o.loc, true⟩ ⟨2, t, i, o.loc, true⟩ rfl rfl ?_; intro W9 b11 F9 C9; have B9 := Below.then B8 (F_b F9); clear F9))
      exact HA.out _ _ (by rw [HM]; exact row_isS C9) B9
    | false =>
      have HM : mdL o t i false = [⟨3, t, i, o.loc, true⟩, ⟨2, t, i, o.loc, true⟩] := by rw [HD.out]; simp [hk]
      clear HD
      have e9 : (evL ⟨3, t, i, o.loc, false⟩).set 4 (.bool true) = evL ⟨3, t, i, o.loc, true⟩ := rfl
      have e10 : (evL ⟨2, t, i, o.loc, false⟩).set 4 (.bool true) = evL ⟨2, t, i, o.loc, true⟩ := rfl
      have t5 : True := trivial
      go_wp2_with (first
        | (clear t5; refine wpList_store1 rfl 4 _ _ rfl rfl (.bool true) rfl q9 (show 4 < 5 by decide) (by kernel_rfl) rfl ?_; intro W7 U7 p9; have B7 := U7.trans B5 hb9; have p10 := q10.upd U7 (fun e => hn910 e.symm); rw [e9] at p9; clear U7 q9 q10 B5 C5 y0)
        | (refine wpList_store1 rfl 4 _ _ rfl rfl (.bool true) rfl p10 (show 4 < 5 by decide) (by kernel_rfl) rfl ?_; intro W8 U8 s10; have B8 := U8.trans B7 hb10; have s9 := p9.upd U8 hn910; rw [e10] at s10; clear U8 p9 p10 B7)
        | (refine wpList_loadW rfl 46 _ rfl rfl s9 _ Tryd.underlying46 rfl infoEv ?_)
        | (refine wpList_loadW rfl 46 _ rfl rfl s10 _ Tryd.underlying46 rfl infoEv ?_)
        | (refine wpList_build1V rfl _ rfl ⟨3, t, i, o.loc, true⟩ rfl ?_; intro W9 b11 F9 C9; have B9 := Below.then B8 (F_b F9); clear F9)
        | (refine wpList_build2V rfl _ _ rfl ⟨3, t, i, o.loc, true⟩ ⟨2, t, i, o.loc, true⟩ rfl rfl ?_; intro W9 b11 F9 C9; have B9 := Below.then B8 (F_b F9); clear F9))
      exact HA.out _ _ (by rw [HM]; exact row_isS C9) B9
  · cases fl with
    | true =>
      have HM : mdL o t i true = [⟨3, t, i, o.loc, true⟩] := by rw [HD.out]; simp [hk]
      clear HD
      have e9 : (evL ⟨3, t, i, o.loc, false⟩).set 4 (.bool true) = evL ⟨3, t, i, o.loc, true⟩ := rfl
      have e10 : (evL ⟨2, t, i, o.loc, false⟩).set 4 (.bool true) = evL ⟨2, t, i, o.loc, true⟩ := rfl
      have t5 : True := trivial
      go_wp2_with (first
        | (clear t5; refine wpList_store1 rfl 4 _ _ rfl rfl (.bool true) rfl q9 (show 4 < 5 by decide) (by kernel_rfl) rfl ?_; intro W7 U7 p9; have B7 := U7.trans B5 hb9; have p10 := q10.upd U7 (fun e => hn910 e.symm); rw [e9] at p9; clear U7 q9 q10 B5 C5 y0)
        | (refine wpList_store1 rfl 4 _ _ rfl rfl (.bool true) rfl p10 (show 4 < 5 by decide) (by kernel_rfl) rfl ?_; intro W8 U8 s10; have B8 := U8.trans B7 hb10; have s9 := p9.upd U8 hn910; rw [e10] at s10; clear U8 p9 p10 B7)
        | (refine wpList_loadW rfl 46 _ rfl rfl s9 _ Tryd.underlying46 rfl infoEv ?_)
        | (refine wpList_loadW rfl 46 _ rfl rfl s10 _ Tryd.underlying46 rfl infoEv ?_)
        | (refine wpList_build1V rfl _ rfl ⟨3, t, i, o.loc, true⟩ rfl ?_; intro W9 b11 F9 C9; have B9 := Below.then B8 (F_b F9); clear F9)
        | (refine wpList_build2V rfl _ _ rfl ⟨3, t, i, o.loc, true⟩ ⟨2, t, i, o.loc, true⟩ rfl rfl ?_; intro W9 b11 F9 C9; have B9 := Below.then B8 (F_b F9); clear F9))
      exact HA.out _ _ (by rw [HM]; exact row_isS C9) B9
    | false =>
      have HM : mdL o t i false = [⟨3, t, i, o.loc, true⟩, ⟨2, t, i, o.loc, true⟩] := by rw [HD.out]; simp [hk]
      clear HD
      have e9 : (evL ⟨3, t, i, o.loc, false⟩).set 4 (.bool true) = evL ⟨3, t, i, o.loc, true⟩ := rfl
      have e10 : (evL ⟨2, t, i, o.loc, false⟩).set 4 (.bool true) = evL ⟨2, t, i, o.loc, true⟩ := rfl
      have t5 : True := trivial
      go_wp2_with (first
        | (clear t5; refine wpList_store1 rfl 4 _ _ rfl rfl (.bool true) rfl q9 (show 4 < 5 by decide) (by kernel_rfl) rfl ?_; intro W7 U7 p9; have B7 := U7.trans B5 hb9; have p10 := q10.upd U7 (fun e => hn910 e.symm); rw [e9] at p9; clear U7 q9 q10 B5 C5 y0)
        | (refine wpList_store1 rfl 4 _ _ rfl rfl (.bool true) rfl p10 (show 4 < 5 by decide) (by kernel_rfl) rfl ?_; intro W8 U8 s10; have B8 := U8.trans B7 hb10; have s9 := p9.upd U8 hn910; rw [e10] at s10; clear U8 p9 p10 B7)
        | (refine wpList_loadW rfl 46 _ rfl rfl s9 _ Tryd.underlying46 rfl infoEv ?_)
        | (refine wpList_loadW rfl 46 _ rfl rfl s10 _ Tryd.underlying46 rfl infoEv ?_)
        | (refine wpList_build1V rfl _ rfl ⟨3, t, i, o.loc, true⟩ rfl ?_; intro W9 b11 F9 C9; have B9 := Below.then B8 (F_b F9); clear F9)
        | (refine wpList_build2V rfl _ _ rfl ⟨3, t, i, o.loc, true⟩ ⟨2, t, i, o.loc, true⟩ rfl rfl ?_; intro W9 b11 F9 C9; have B9 := Below.then B8 (F_b F9); clear F9))
      exact HA.out _ _ (by rw [HM]; exact row_isS C9) B9
  · have HM : mdL o t i fl = [] := by rw [HD.out]; simp [k3, k4, k5, k6, k7, k8, k9]
    clear HD
    go_wp2
    exact HA.out _ _ (by rw [HM]; exact ⟨none, 0, rfl, Seg.nil _ _, fun _ => rfl⟩) B5
end Go.Proofs.YtdjlfpkemdiadaaDoor
/- Tries, of event and of the reference. -/
namespace Go.Proofs.YtdjlfpkemdiadaaDoor
open Go.RowKit M
set_option linter.unusedSimpArgs false
set_option linter.unusedVariables false

theorem zeroOp (w : World) : (zeroValue 58).run Tryd.prog w = .ok (.agg (op5L ⟨0, 0, 0, 0, 0⟩).toArray) w := by
  have h : Tryd.t58.zero = some (.agg (op5L ⟨0, 0, 0, 0, 0⟩).toArray) := by kernel_rfl
  simp [go_sem, zeroValue, h]
/-- How many tries there are. -/
def trC (l : List Op5) : Nat := (l.filter fun o => decide (o.kind = 8)).length
theorem trC_snoc (l : List Op5) (o : Op5) : trC (l ++ [o]) = trC l + (if o.kind = 8 then 1 else 0) := by
  unfold trC
  rw [List.filter_append, List.length_append]
  by_cases h : o.kind = 8 <;> simp [List.filter_cons, h]
theorem trC_le (l : List Op5) : trC l ≤ l.length := List.length_filter_le _ _
theorem fl_snoc {α : Type} (ls : List (List α)) (l : List α) : (ls ++ [l]).flatten = ls.flatten ++ l := by simp
theorem fl_take {α : Type} (ls : List (List α)) (k : Nat) : (ls.take k).flatten.length ≤ ls.flatten.length := by
  conv => rhs; rw [← List.take_append_drop k ls, List.flatten_append, List.length_append]
  omega
theorem fl_part {α : Type} {ls : List (List α)} {k : Nat} {l : List α} (h : ls[k]? = some l) : (ls.take k).flatten.length + l.length ≤ ls.flatten.length := by
  have := fl_take ls (k + 1)
  rw [take_at h, fl_snoc, List.length_append] at this
  exact this
noncomputable def trA (p : PG) : Int := if validV p = 0 then (trC p.threads.flatten : Int) else 0
set_option maxRecDepth 100000 in
set_option maxHeartbeats 8000000 in
theorem tries_any (p : PG) (hf : p.Few) (vt vr vl vi vj : Value) (w : World) (hp : PGV w vt vr vl vi vj p) :
    Calls Tryd.prog 7 #[.agg #[vt, vr, vl, vi, vj]] w fun e w' => e = .returned (.tuple #[.int .i64 (trA p), .int .i64 (validV p)]) ∧ Below w.heap.size w w' := by
  have cv := fun W (h : Below w.heap.size w W) => valid_any p hf vt vr vl vi vj W (hp.below h)
  obtain ⟨at', ct, rfl⟩ := hp.t.form
  have HT : Hid (RowsV w (.slice at' p.threads.length ct) op5L p.threads) := hp.t
  have hn := hf.t
  have hfl := hf.tt
  clear hp hf
  obtain ⟨n, hn0⟩ : ∃ n, p.threads.length = n := ⟨_, rfl⟩
  rw [hn0] at cv HT hn ⊢
  have HN : Hid (p.threads.length = n) := hn0
  clear hn0
  have hzz : ∀ b : Bool, True := fun _ => trivial
  by_cases hv : validV p = 0
  · have HA : Hid (trA p = (trC p.threads.flatten : Int)) := if_pos hv
    rw [hv] at cv ⊢
    clear hv
    generalize p.threads = ths at *
    go_enter Tryd.func7, Tryd.ntmps7
    go_wp2_with (first
      | (refine wpList_boxS rfl 28 _ rfl [.slice at' n ct, vr, vl, vi, vj] rfl ?_; intro W1 b1 F1 C1; have B1 := F_b F1; clear F1)
      | (refine wpList_loadW rfl 28 _ rfl rfl C1 _ Tryd.underlying28 rfl infoPg ?_)
      | (go_at_call 8; refine (cv _ B1).mono ?_; rintro e W2 ⟨rfl, B2⟩; replace C1 := C1.grown B2; replace B1 := Below.then B1 B2; have y0 : W2.cell? ⟨b1, 0, none⟩ = some (.slice at' n ct) := C1.cell 0; clear B2))
    have HB1 : Hid (Below w.heap.size w W2) := B1
    clear B1 C1 y0 cv
    go_loopw [5, 18] (fun nv iv wr => ∃ a : Nat, a ≤ n ∧ iv = .int .i64 (a : Int) ∧ nv = .int .i64 (trC (ths.take a).flatten : Nat) ∧ Hid (Below w.heap.size w wr)) (fun _ iv _ => n - (intOf iv).toNat)
    case atStart => exact ⟨0, by omega, rfl, rfl, HB1.out⟩
    case round =>
      obtain ⟨a, ha, rfl, rfl, HB⟩ := hrel
      by_cases hlt : a < n
      · have hai : (a : Int) < n := by omega
        obtain ⟨os, ho⟩ : ∃ q, ths[a]? = some q := ⟨_, List.getElem?_eq_getElem (by rw [HN.out]; exact hlt)⟩
        obtain ⟨bt, ot, ao, co, ea, hbt, ca0, so, _⟩ := HT.out.at a os ho
        subst ea
        have ca := (HB.out.cell (p := ⟨bt, ot + a, none⟩) hbt).trans ca0
        have hpart := fl_part ho
        have HX : Hid ((ths.take (a + 1)).flatten = (ths.take a).flatten ++ os) := by show _ = _; rw [take_at ho, fl_snoc]
        obtain ⟨m, hm⟩ : ∃ m, os.length = m := ⟨_, rfl⟩
        rw [hm] at ca hpart
        have HM : Hid (os.length = m) := hm
        have HO : Hid (Seg w ao (os.flatMap op5L)) := so
        clear ho ca0 so hm
        generalize (ths.take a).flatten = pre at *
        go_wp2
        clear ca
        go_loopw [5, 24] (fun nv jv wr => ∃ b : Nat, b ≤ m ∧ jv = .int .i64 (b : Int) ∧ nv = .int .i64 (trC (pre ++ os.take b) : Nat) ∧ Hid (Below w.heap.size w wr)) (fun _ jv _ => m - (intOf jv).toNat)
        case atStart => exact ⟨0, by omega, rfl, by rw [List.take_zero, List.append_nil], HB⟩
        case round =>
          clear HB
          obtain ⟨b, hb, rfl, rfl, HB⟩ := hrel
          by_cases hlb : b < m
          · have hbi : (b : Int) < m := by omega
            obtain ⟨o, ho⟩ : ∃ q, os[b]? = some q := ⟨_, List.getElem?_eq_getElem (by rw [HM.out]; exact hlb)⟩
            obtain ⟨bo, oo, ea, hbo, rg0⟩ := Seg.op HO.out ho
            subst ea
            have rg := range_grow rg0 hbo HB.out
            have htk : pre ++ os.take (b + 1) = (pre ++ os.take b) ++ [o] := by rw [take_at ho, List.append_assoc]
            have HS : Hid (trC (pre ++ os.take (b + 1)) = trC (pre ++ os.take b) + (if o.kind = 8 then 1 else 0)) := by show _ = _; rw [htk, trC_snoc]
            have hcl : trC (pre ++ os.take b) ≤ 1048576 := by
              have h1 := trC_le (pre ++ os.take b)
              rw [List.length_append] at h1
              have h2 : (os.take b).length ≤ m := by rw [List.length_take]; omega
              omega
            clear rg0 ho htk
            generalize trC (pre ++ os.take b) = z at *
            have t3 : True := trivial
            by_cases hk : o.kind = 8
            · have HS2 : Hid (trC (pre ++ os.take (b + 1)) = z + 1) := by show _ = _; rw [HS.out, if_pos hk]
              clear HS
              go_wp2_with (first
                | (refine wpList_load_mid rfl 58 _ rfl bo (oo + b * 5) rfl (op5L o) _ rg Tryd.underlying58 rfl infoOp ?_)
                | (clear t3; refine wpList_allocS rfl 58 rfl (op5L ⟨0, 0, 0, 0, 0⟩) zeroOp ?_; intro W4 b4 F4 K4; have R4 := Below.then HB.out (F_b F4); have hc4 : w.heap.size ≤ b4 := Nat.le_trans HB.out.size (Nat.le_of_eq F4.at'.symm); clear F4)
                | (refine wpList_storeW rfl 58 _ _ rfl rfl (op5L o) rfl K4 rfl infoOp (op_one _) ?_; intro W5 U5 K5; have R5 := U5.trans R4 hc4; have y0 : W5.cell? ⟨b4, 0, none⟩ = some (.int .i64 o.kind) := K5.cell 0; clear K4 U5 R4))
              go_roundw
              case rel => exact ⟨b + 1, by omega, by simp, by rw [HS2.out]; simp, R5⟩
              case measure => simp [intOf]; omega
            · have HS2 : Hid (trC (pre ++ os.take (b + 1)) = z) := by show _ = _; rw [HS.out, if_neg hk]; rfl
              clear HS
              go_wp2_with (first
                | (refine wpList_load_mid rfl 58 _ rfl bo (oo + b * 5) rfl (op5L o) _ rg Tryd.underlying58 rfl infoOp ?_)
                | (clear t3; refine wpList_allocS rfl 58 rfl (op5L ⟨0, 0, 0, 0, 0⟩) zeroOp ?_; intro W4 b4 F4 K4; have R4 := Below.then HB.out (F_b F4); have hc4 : w.heap.size ≤ b4 := Nat.le_trans HB.out.size (Nat.le_of_eq F4.at'.symm); clear F4)
                | (refine wpList_storeW rfl 58 _ _ rfl rfl (op5L o) rfl K4 rfl infoOp (op_one _) ?_; intro W5 U5 K5; have R5 := U5.trans R4 hc4; have y0 : W5.cell? ⟨b4, 0, none⟩ = some (.int .i64 o.kind) := K5.cell 0; clear K4 U5 R4))
              go_roundw
              case rel => exact ⟨b + 1, by omega, by simp, by rw [HS2.out], R5⟩
              case measure => simp [intOf]; omega
          · obtain rfl : b = m := by omega
            have HS2 : Hid (trC (pre ++ os.take b) = trC (ths.take (a + 1)).flatten) := by show _ = _; rw [HX.out, List.take_of_length_le (Nat.le_of_eq HM.out)]
            go_wp2
            go_roundw
            case rel => exact ⟨a + 1, by omega, by simp, by rw [HS2.out], HB⟩
            case measure => simp [intOf]; omega
      · obtain rfl : a = n := by omega
        have HT2 : Hid (ths.take a = ths) := List.take_of_length_le (Nat.le_of_eq HN.out)
        go_wp2
        go_ret2
        exact ⟨by rw [HA.out, HT2.out]; rfl, HB.out⟩
  · have HA : Hid (trA p = 0) := if_neg hv
    generalize validV p = ev at *
    go_enter Tryd.func7, Tryd.ntmps7
    go_wp2_with (first
      | (refine wpList_boxS rfl 28 _ rfl [.slice at' n ct, vr, vl, vi, vj] rfl ?_; intro W1 b1 F1 C1; have B1 := F_b F1; clear F1)
      | (refine wpList_loadW rfl 28 _ rfl rfl C1 _ Tryd.underlying28 rfl infoPg ?_)
      | (go_at_call 8; refine (cv _ B1).mono ?_; rintro e W2 ⟨rfl, B2⟩; replace B1 := Below.then B1 B2; clear B2))
    go_ret2
    exact ⟨by rw [HA.out]; rfl, B1⟩
end Go.Proofs.YtdjlfpkemdiadaaDoor
/- The events of a program, in plain mathematics; initial of event. -/
namespace Go.Proofs.YtdjlfpkemdiadaaDoor
open Go.RowKit M
set_option linter.unusedSimpArgs false
set_option linter.unusedVariables false

/-- Does an instruction fail? -/
def flB (f : Nat) (o : Op5) (k : Nat) : Bool := decide (o.kind = 8) && f.testBit k
/-- The events of some instructions, the first one's number and its try's. -/
def opsE (f : Nat) (t : Nat) : Nat → Nat → List Op5 → List EV
  | _, _, [] => []
  | i, k, o :: os => mdL o t i (flB f o k) ++ opsE f t (i + 1) (k + trC [o]) os
def thsE (f : Nat) : Nat → Nat → List (List Op5) → List EV
  | _, _, [] => []
  | t, k, os :: r => opsE f t 0 k os ++ thsE f (t + 1) (k + trC os) r
theorem trC_app (a b : List Op5) : trC (a ++ b) = trC a + trC b := by unfold trC; rw [List.filter_append, List.length_append]
theorem opsE_snoc (f t : Nat) (o : Op5) : ∀ (os : List Op5) (i k : Nat), opsE f t i k (os ++ [o]) = opsE f t i k os ++ mdL o t ((i + os.length : Nat) : Int) (flB f o (k + trC os))
  | [], i, k => by
    show mdL o t i (flB f o k) ++ [] = [] ++ _
    rw [List.append_nil, List.nil_append]; rfl
  | x :: os, i, k => by
    show mdL x t i (flB f x k) ++ opsE f t (i + 1) (k + trC [x]) (os ++ [o]) = (mdL x t i (flB f x k) ++ opsE f t (i + 1) (k + trC [x]) os) ++ _
    rw [opsE_snoc f t o os (i + 1) (k + trC [x]), List.append_assoc]
    have e1 : i + 1 + os.length = i + (x :: os).length := by rw [List.length_cons]; omega
    have e2 : k + trC [x] + trC os = k + trC (x :: os) := by rw [show x :: os = [x] ++ os from rfl, trC_app]; omega
    rw [e1, e2]
theorem thsE_snoc (f : Nat) (os : List Op5) : ∀ (r : List (List Op5)) (t k : Nat), thsE f t k (r ++ [os]) = thsE f t k r ++ opsE f (t + r.length) 0 (k + trC r.flatten) os
  | [], t, k => by
    show opsE f t 0 k os ++ [] = [] ++ _
    rw [List.append_nil, List.nil_append]; rfl
  | x :: r, t, k => by
    show opsE f t 0 k x ++ thsE f (t + 1) (k + trC x) (r ++ [os]) = (opsE f t 0 k x ++ thsE f (t + 1) (k + trC x) r) ++ _
    rw [thsE_snoc f os r (t + 1) (k + trC x), List.append_assoc]
    have e1 : t + 1 + r.length = t + (x :: r).length := by rw [List.length_cons]; omega
    have e2 : k + trC x + trC r.flatten = k + trC (x :: r).flatten := by rw [List.flatten_cons, trC_app]; omega
    rw [e1, e2]
theorem opsE_len (f t : Nat) : ∀ (os : List Op5) (i k : Nat), (opsE f t i k os).length ≤ 2 * os.length
  | [], i, k => by simp [opsE]
  | o :: os, i, k => by
    show (mdL o t i (flB f o k) ++ opsE f t (i + 1) (k + trC [o]) os).length ≤ _
    rw [List.length_append, List.length_cons]
    have := mdL_le o t i (flB f o k)
    have := opsE_len f t os (i + 1) (k + trC [o])
    omega
theorem thsE_len (f : Nat) : ∀ (r : List (List Op5)) (t k : Nat), (thsE f t k r).length ≤ 2 * r.flatten.length
  | [], t, k => by simp [thsE]
  | os :: r, t, k => by
    show (opsE f t 0 k os ++ thsE f (t + 1) (k + trC os) r).length ≤ _
    rw [List.length_append, List.flatten_cons, List.length_append]
    have := opsE_len f t os 0 k
    have := thsE_len f r (t + 1) (k + trC os)
    omega
/-- The initial writes. -/
def inE (n : Nat) : List EV := (List.range n).map fun (i : Nat) => ⟨1, -1, 0, (i : Int), false⟩
theorem inE_snoc (n : Nat) : inE (n + 1) = inE n ++ [⟨1, -1, 0, (n : Int), false⟩] := by unfold inE; rw [List.range_succ, List.map_append]; rfl
theorem inE_len (n : Nat) : (inE n).length = n := by simp [inE]
def evE (p : PG) (f : Nat) : List EV := inE p.locs.length ++ thsE f 0 0 p.threads
/-- What List answers. -/
noncomputable def lsE (p : PG) (f : Nat) : Int := if validV p ≠ 0 then validV p else if f >>> trC p.threads.flatten ≠ 0 then 4 else 0
noncomputable def lsL (p : PG) (f : Nat) : List EV := if validV p ≠ 0 then [] else if f >>> trC p.threads.flatten ≠ 0 then [] else evE p f
def LsA (w : World) (L : List EV) (er : Int) (e : Ending) (w' : World) : Prop := ∃ v, e = .returned (.tuple #[v, .int .i64 er]) ∧ w'.ownsRow w.heap.size 46 5 v L.length (L.flatMap evL) ∧ Below w.heap.size w w'
theorem ev_snocL (l : List EV) (e : EV) : (l ++ [e]).flatMap evL = l.flatMap evL ++ evL e := by rw [List.flatMap_append, List.flatMap_singleton]
def InA (w : World) (n : Nat) (e : Ending) (w' : World) : Prop := ∃ v, e = .returned v ∧ w'.ownsRow w.heap.size 46 5 v n ((inE n).flatMap evL) ∧ Below w.heap.size w w'
set_option maxRecDepth 100000 in
set_option maxHeartbeats 4000000 in
theorem initial_any (n : Nat) (hn : n ≤ 1048576) (w : World) : Calls Tryd.prog 28 #[.int .i64 (n : Int)] w fun e w' => InA w n e w' := by
  obtain ⟨A, hA⟩ : ∃ A, InA w n = A := ⟨_, rfl⟩
  have HA : Hid (∀ v w', w'.ownsRow w.heap.size 46 5 v n ((inE n).flatMap evL) → Below w.heap.size w w' → A (.returned v) w') := by
    rw [← hA]; exact fun v w' h1 h2 => ⟨v, rfl, h1, h2⟩
  rw [hA]
  clear hA
  go_enter Tryd.func28, Tryd.ntmps28
  go_wp2
  go_loopw [3, 6] (fun v iv wr => ∃ i : Nat, i ≤ n ∧ iv = .int .i64 (i : Int) ∧ (∃ av cv, v = .slice av i cv) ∧ Hid (wr.ownsRow w.heap.size 46 5 v i ((inE i).flatMap evL)) ∧ Hid (Below w.heap.size w wr)) (fun _ iv _ => n - (intOf iv).toNat)
  case atStart => exact ⟨0, by omega, rfl, ⟨_, _, rfl⟩, own_nil _ _ _ _, Below.refl _ _⟩
  case round =>
    obtain ⟨i, hi, rfl, ⟨av, cv, rfl⟩, HO, HB⟩ := hrel
    by_cases hlt : i < n
    · have hki : (i : Int) < n := by omega
      have HS : Hid ((inE (i + 1)).flatMap evL = (inE i).flatMap evL ++ evL ⟨1, -1, 0, (i : Int), false⟩) := by show _ = _; rw [inE_snoc, ev_snocL]
      go_wp2_with (first
        | (refine wpList_bB rfl _ rfl rfl ?_)
        | (refine wpList_build1V rfl _ rfl ⟨1, -1, 0, (i : Int), false⟩ rfl ?_; intro W3 b3 F3 C3; have B3 := Below.then HB.out (F_b F3); have O3 := own_below HO.out (F_b F3); clear F3)
        | (at_builtin; refine wpList_appM eEv rfl _ _ rfl w.heap.size _ i _ rfl O3 _ 1 (evL ⟨1, -1, 0, (i : Int), false⟩) rfl (row_isS C3) rfl (ev_oneC _) (by omega) B3.size ?_; intro v4 W4 O4 G4; have B4 := grown_below B3 B3.size O3 G4; clear O3 G4 B3 C3))
      have O5 : Hid (W4.ownsRow w.heap.size 46 5 v4 (i + 1) ((inE (i + 1)).flatMap evL)) := by rw [HS.out]; exact O4
      obtain ⟨a5, c5, rfl⟩ := own_form O4
      go_roundw
      case rel => exact ⟨i + 1, by omega, by simp, ⟨_, _, rfl⟩, O5, B4⟩
      case measure => simp [intOf]; omega
    · obtain rfl : i = n := by omega
      go_wp2
      exact HA.out _ _ HO.out HB.out
end Go.Proofs.YtdjlfpkemdiadaaDoor
/- List of event. -/
namespace Go.Proofs.YtdjlfpkemdiadaaDoor
open Go.RowKit M
set_option linter.unusedSimpArgs false
set_option linter.unusedVariables false

theorem bit_and1 (f k : Nat) (hf : f < 18446744073709551616) : bits .and .u64 ((f >>> k : Nat) : Int) 1 = if f.testBit k then 1 else 0 := by
  have h1 : f >>> k < 18446744073709551616 := Nat.lt_of_le_of_lt (Nat.shiftRight_le f k) hf
  have := u64_and_nat (f >>> k) 1 h1 (by decide)
  have e : ((1 : Nat) : Int) = 1 := rfl
  rw [e] at this
  rw [this, Nat.and_one_is_mod]
  have h2 := Nat.testBit_eq_decide_div_mod_eq (x := f) (i := k)
  rw [Nat.shiftRight_eq_div_pow]
  by_cases h : f / 2 ^ k % 2 = 1
  · rw [h2, decide_eq_true h, h]; rfl
  · have h0 : f / 2 ^ k % 2 = 0 := by omega
    rw [h2, decide_eq_false h, h0]; rfl
theorem half_shift (f k : Nat) : (((f >>> k : Nat) : Int) / 2) = ((f >>> (k + 1) : Nat) : Int) := by
  rw [Nat.shiftRight_succ]; rfl
theorem shr_cast (f n : Nat) : ((f : Int) / 2 ^ n) = ((f >>> n : Nat) : Int) := by
  rw [Nat.shiftRight_eq_div_pow]; simp
theorem own_updT {W W' : World} {B t t' s n b : Nat} {v : Value} {xs cs : List Value} (h : W.ownsRow B t s v n xs) (I : IsS W b t' cs) (U : Upd W W' b) (hne : t ≠ t') : W'.ownsRow B t s v n xs := by
  refine ⟨h.1, ?_⟩
  rcases h.2 with hn | ⟨g, cap, cur, rfl, hg, hh, rest⟩
  · exact Or.inl hn
  · refine Or.inr ⟨g, cap, cur, rfl, hg, (U.block g (fun e => ?_)).trans hh, rest⟩
    subst e
    have I' : W.heap[g]? = some (.cells cs.toArray t' (0, 0)) := I
    rw [hh] at I'
    simp at I'
    exact hne I'.2
theorem shr_ne (f K : Nat) : Value.bool (((f : Int) >>> K) != 0) = .bool (decide (f >>> K ≠ 0)) := by
  have e : ((f : Int) >>> K) = ((f >>> K : Nat) : Int) := by simp
  rw [e]
  generalize f >>> K = q
  cases q with
  | zero => rfl
  | succ q =>
    have h : (((q + 1 : Nat) : Int) != 0) = true := by simp; omega
    rw [h]; simp
theorem shr_ge (f K : Nat) (hf : f < 18446744073709551616) (hK : 64 ≤ K) : Value.bool ((f : Int) / 2 ^ min K 64 != 0) = .bool (decide (f >>> K ≠ 0)) := by
  have e1 : (f : Int) / 2 ^ min K 64 = 0 := by
    rw [Nat.min_eq_right hK]
    exact Int.ediv_eq_zero_of_lt (by omega) (by have : ((2 : Int) ^ 64) = 18446744073709551616 := by decide
                                                rw [this]; omega)
  have e2 : f >>> K = 0 := by
    rw [Nat.shiftRight_eq_div_pow]
    exact Nat.div_eq_of_lt (Nat.lt_of_lt_of_le hf (Nat.pow_le_pow_right (n := 2) (by omega) hK))
  rw [e1, e2]; rfl
end Go.Proofs.YtdjlfpkemdiadaaDoor

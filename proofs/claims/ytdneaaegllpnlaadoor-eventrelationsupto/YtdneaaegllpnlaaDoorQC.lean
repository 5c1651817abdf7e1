/- Several texts in one: FH0, FH17. -/
import Derived.Test.YtdneaaegllpnlaaDoorFF17
import Derived.Deep.CutRange
/- A region in order, whose operations grow memory at most: one boxed walk. -/
namespace Go.Proofs.YtdneaaegllpnlaaDoor
open Go Go.RowKit M
set_option linter.unusedSimpArgs false
set_option linter.unusedVariables false

theorem list_of_grow {ops : Array Oper} {W : World} {Q : Exit → Act → World → Prop} : ∀ (l : List Oper) (a : Act) (w : World), Below W.heap.size W w → wpG Tryd.prog ops W (fun a' => ∀ w', Below W.heap.size W w' → Q .normal a' w') l a → wpList Tryd.prog ops Q l a w
  | [], a, w, hB, h => h w hB
  | o :: l, a, w, hB, h => by
    refine wpList_step fun K hK => ?_
    unfold wpG growOp at h
    split
    · rename_i hw
      rw [if_pos hw] at h
      obtain ⟨v, h1, h2⟩ := h
      have h3 := h1 w hB
      unfold Oper.quietAt at h3
      unfold Oper.wp
      generalize (execOp a.eval o).run Tryd.prog w = r at h3 ⊢
      match r, h3 with
      | .ok (.value u) w', h3 =>
        obtain ⟨e1, e2⟩ := h3
        subst e1 e2
        exact hK _ _ (list_of_grow l _ _ hB h2)
      | .ok .skip w', h3 =>
        obtain ⟨e1, e2⟩ := h3
        subst e1 e2
        exact hK _ _ (list_of_grow l _ _ hB h2)
      | .ok (.enter f args) w', ⟨e, hc⟩ =>
        subst e
        rw [Oper.upon_enter]
        refine hc.mono ?_
        rintro e' w'' ⟨rfl, hb⟩
        exact hK _ _ (list_of_grow l _ _ (Below.then hB hb) h2)
    · rename_i hw
      rw [if_neg hw] at h
      exact hK _ _ (list_of_grow l _ _ hB h)
theorem grow_region {id : Nat} {W : World} {Q : Exit → Act → World → Prop} {a : Act} {l : List Oper} (h : WG l.toArray W (fun a' => ∀ w', Below W.heap.size W w' → Q .normal a' w') l a) : (Code.region id l.toArray false).wp Tryd.prog Q a W :=
  wp_region_lit (list_of_grow l a W (Below.refl _ _) h.out)
end Go.Proofs.YtdneaaegllpnlaaDoor
/- The reference's stands. -/
namespace Go.Proofs.YtdneaaegllpnlaaDoor
open Go.RowKit M
set_option linter.unusedSimpArgs false
set_option linter.unusedVariables false

theorem nowT {listed : Array Bool} {i : Nat} (h : i < listed.size) : (listed.setIfInBounds i true).getD i false = true := by simp [h]
theorem keepT {listed : Array Bool} {i j : Nat} (h : listed.getD j false = true) : (listed.setIfInBounds i true).getD j false = true := by
  by_cases hij : i = j
  · subst hij
    have hs : i < listed.size := by
      by_cases hs : i < listed.size
      · exact hs
      · simp [hs] at h
    exact nowT hs
  · rw [getD_set_ne false hij]; exact h
theorem exec_loadRg {w : World} {b o t : Nat} {cs : List Value} {op : Oper} {a : Act} {p : Operand} {d : TypeDesc} (ho : op.op = .load t p) (hp : a.eval p = .pointer (some ⟨b, o, none⟩)) (hc : w.rangeAt b o cs) (hu : Tryd.prog.underlying t = some d) (hd : d.isRow = true) (hi : (Tryd.prog.info? t).map (·.size) = some cs.length) : (execOp a.eval op).run Tryd.prog w = .ok (.value (.agg cs.toArray)) w := by
  have hr := run_loadAt_mid (P := Tryd.prog) w b o t cs d hc hu hd hi
  unfold execOp
  simp only [ho, hp, Sem.run_bind, hr, Result.andThen_ok, Sem.run_pure]
theorem wpList_loadGW {w : World} {b t : Nat} {cs : List Value} {ops : Array Oper} {rest : List Oper} {op : Oper} {a : Act} {Q : Exit → Act → World → Prop} (hw : Region.wanted op (yielded ops a.tmps) = true) (ty : TypeId) (x : Operand) (ho : op.op = .load ty x) (hx : a.eval x = .pointer (some ⟨b, 0, none⟩)) (hc : IsS w b t cs) (d : TypeDesc)
    (hu : Tryd.prog.underlying ty = some d) (hd : d.isRow = true) (hi : (Tryd.prog.info? ty).map (·.size) = some cs.length)
    (h : wpList Tryd.prog ops Q rest (a.put op.dst (.agg cs.toArray)) w) : wpList Tryd.prog ops Q (op :: rest) a w := by
  refine wpList_step fun K hK => ?_
  simp only [hw, if_true]
  have hr := run_loadAt_mid (P := Tryd.prog) w b 0 ty cs d (fun i u hu => by rw [Nat.zero_add]; exact (hc.cell i).trans hu) hu hd hi
  unfold Oper.wp execOp
  simp only [ho, hx, Sem.run_bind, hr, Result.andThen_ok, Sem.run_pure]
  exact hK _ _ h
/-- What stands answers, of two events and their places. -/
def stV (r : Int) (x y : EV) (p q : Nat) : Bool :=
  if r = 1 then oneB x y && decide (p < q)
  else if r = 2 then (mmB x && mmB y) && decide (x.loc = y.loc)
  else if r = 3 then oneB x y
  else if r = 4 then !oneB x y
  else ((((((oneB x y && decide (x.idx = y.idx)) && rdB x) && wrB y) && x.lck) && y.lck) && decide (p < q))
set_option maxRecDepth 100000 in
set_option maxHeartbeats 8000000 in
theorem stands_any (r : Int) (hr : r = 1 ∨ r = 2 ∨ r = 3 ∨ r = 4 ∨ r = 5) (x y : EV) (p q n bl ol cl : Nat) (w : World) (hp : p < n) (hq : q < n) (hn : n ≤ 64) (hbl : bl < w.heap.size) (hx : w.rangeAt bl (ol + p * 5) (evL x)) (hy : w.rangeAt bl (ol + q * 5) (evL y)) :
    Calls Tryd.prog 60 #[.slice (some ⟨bl, ol, none⟩) n cl, .int .i64 r, .int .i64 (p : Int), .int .i64 (q : Int)] w fun e w' => e = .returned (.bool (stV r x y p q)) ∧ Below w.heap.size w w' := by
  have HX : Hid (w.rangeAt bl (ol + p * 5) (evL x)) := hx
  have HY : Hid (w.rangeAt bl (ol + q * 5) (evL y)) := hy
  have HBL : Hid (bl < w.heap.size) := hbl
  have hpi : (p : Int) < n := by omega
  have hqi : (q : Int) < n := by omega
  clear hx hy hbl
  go_enter Tryd.func60, Tryd.ntmps60
  go_upto_region 1 with fail
  refine region_invA 11 (fun a0 listed a' w' => ∃ x13 x14 x15 x16 x17 x18 x19 x20 x9 x10 : Value, a' = ((((((((((a0.put (some 13) x13).put (some 14) x14).put (some 15) x15).put (some 16) x16).put (some 17) x17).put (some 18) x18).put (some 19) x19).put (some 20) x20).put (some 9) x9).put (some 10) x10) ∧ Hid (Below w.heap.size w w') ∧ (listed.getD 10 false = true → listed.getD 8 false = true) ∧ (listed.getD 0 false = true → x13 = (.slice (some ⟨bl, ol, none⟩) n cl)) ∧ (listed.getD 1 false = true → x14 = (.int .i64 (p : Int))) ∧ (listed.getD 2 false = true → x15 = (.pointer (some ⟨bl, ol + p * 5, none⟩))) ∧ (listed.getD 3 false = true → x16 = (.agg (evL x).toArray)) ∧ (listed.getD 4 false = true → x17 = (.slice (some ⟨bl, ol, none⟩) n cl)) ∧ (listed.getD 5 false = true → x18 = (.int .i64 (q : Int))) ∧ (listed.getD 6 false = true → x19 = (.pointer (some ⟨bl, ol + q * 5, none⟩))) ∧ (listed.getD 7 false = true → x20 = (.agg (evL y).toArray)) ∧ (listed.getD 8 false = true → ∃ b9, x9 = .pointer (some ⟨b9, 0, none⟩) ∧ w.heap.size ≤ b9 ∧ ∃ cs : List Value, cs.length = 5 ∧ IsS w' b9 32 cs) ∧ (listed.getD 9 false = true → ∃ b9, x10 = .pointer (some ⟨b9, 0, none⟩) ∧ w.heap.size ≤ b9 ∧ IsS w' b9 32 (evL ev0) ∧ (listed.getD 8 false = true → ∀ b, x9 = .pointer (some ⟨b, 0, none⟩) → b ≠ b9)) ∧ (listed.getD 10 false = true → ∃ b9, x9 = .pointer (some ⟨b9, 0, none⟩) ∧ IsS w' b9 32 (evL x))) (by kernel_rfl) (by kernel_rfl) ?i0 ?istep ?iend
  case i0 => exact ⟨_, _, _, _, _, _, _, _, _, _, by first | (simp only [Act.put, List.setIfInBounds_toArray, List.set_cons_succ, List.set_cons_zero]; done) | (simp only [Act.put, List.setIfInBounds_toArray, List.set_cons_succ, List.set_cons_zero]; rfl) | rfl, below_drew (Below.refl _ _), fun h => (not_rep h).elim, fun h => (not_rep h).elim, fun h => (not_rep h).elim, fun h => (not_rep h).elim, fun h => (not_rep h).elim, fun h => (not_rep h).elim, fun h => (not_rep h).elim, fun h => (not_rep h).elim, fun h => (not_rep h).elim, fun h => (not_rep h).elim, fun h => (not_rep h).elim, fun h => (not_rep h).elim⟩
  case istep =>
    rintro i listed a' w' hi hr ⟨x13, x14, x15, x16, x17, x18, x19, x20, x9, x10, rfl, HBw, m10_8, d0, d1, d2, d3, d4, d5, d6, d7, d8, d9, d10⟩
    obtain ⟨hun, oj, hoj, hwt⟩ := mem_ready.1 hr
    simp only [Act.put, List.setIfInBounds_toArray, List.set_cons_succ, List.set_cons_zero]
    have hcase : i = 0 ∨ i = 1 ∨ i = 2 ∨ i = 3 ∨ i = 4 ∨ i = 5 ∨ i = 6 ∨ i = 7 ∨ i = 8 ∨ i = 9 ∨ i = 10 := by omega
    rcases hcase with rfl | rfl | rfl | rfl | rfl | rfl | rfl | rfl | rfl | rfl | rfl
    · have hoj2 := hoj
      obtain rfl := Option.some.inj hoj
      refine wpOp_value hoj2 rfl (v := (.slice (some ⟨bl, ol, none⟩) n cl)) (w' := w') (by first | rfl | (go_simp; done) | (simp [go_sem]; done) | (simp [execOp, go_sem]; done)) ?_
      exact ⟨(.slice (some ⟨bl, ol, none⟩) n cl), x14, x15, x16, x17, x18, x19, x20, x9, x10, by first | (simp only [Act.put, List.setIfInBounds_toArray, List.set_cons_succ, List.set_cons_zero]; done) | (simp only [Act.put, List.setIfInBounds_toArray, List.set_cons_succ, List.set_cons_zero]; rfl) | rfl, Below.then HBw.out (Below.refl _ _), fun h => keepT (m10_8 (keep (by decide) h)), fun _ => rfl, fun h => (d1 (keep (by decide) h)), fun h => (d2 (keep (by decide) h)), fun h => (d3 (keep (by decide) h)), fun h => (d4 (keep (by decide) h)), fun h => (d5 (keep (by decide) h)), fun h => (d6 (keep (by decide) h)), fun h => (d7 (keep (by decide) h)), fun h => (Exists.elim (d8 (keep (by decide) h)) fun b h => ⟨b, h.1, h.2.1, Exists.elim h.2.2 fun cs h => ⟨cs, h.1, h.2.grown (Below.refl _ _)⟩⟩), fun h => (Exists.elim (d9 (keep (by decide) h)) fun b h => ⟨b, h.1, h.2.1, h.2.2.1.grown (Below.refl _ _), fun hq => h.2.2.2 (keep (by decide) hq)⟩), fun h => (Exists.elim (d10 (keep (by decide) h)) fun b h => ⟨b, h.1, h.2.grown (Below.refl _ _)⟩)⟩
    · have hoj2 := hoj
      obtain rfl := Option.some.inj hoj
      refine wpOp_value hoj2 rfl (v := (.int .i64 (p : Int))) (w' := w') (by first | rfl | (go_simp; done) | (simp [go_sem]; done) | (simp [execOp, go_sem]; done)) ?_
      exact ⟨x13, (.int .i64 (p : Int)), x15, x16, x17, x18, x19, x20, x9, x10, by first | (simp only [Act.put, List.setIfInBounds_toArray, List.set_cons_succ, List.set_cons_zero]; done) | (simp only [Act.put, List.setIfInBounds_toArray, List.set_cons_succ, List.set_cons_zero]; rfl) | rfl, Below.then HBw.out (Below.refl _ _), fun h => keepT (m10_8 (keep (by decide) h)), fun h => (d0 (keep (by decide) h)), fun _ => rfl, fun h => (d2 (keep (by decide) h)), fun h => (d3 (keep (by decide) h)), fun h => (d4 (keep (by decide) h)), fun h => (d5 (keep (by decide) h)), fun h => (d6 (keep (by decide) h)), fun h => (d7 (keep (by decide) h)), fun h => (Exists.elim (d8 (keep (by decide) h)) fun b h => ⟨b, h.1, h.2.1, Exists.elim h.2.2 fun cs h => ⟨cs, h.1, h.2.grown (Below.refl _ _)⟩⟩), fun h => (Exists.elim (d9 (keep (by decide) h)) fun b h => ⟨b, h.1, h.2.1, h.2.2.1.grown (Below.refl _ _), fun hq => h.2.2.2 (keep (by decide) hq)⟩), fun h => (Exists.elim (d10 (keep (by decide) h)) fun b h => ⟨b, h.1, h.2.grown (Below.refl _ _)⟩)⟩
    · have hoj2 := hoj
      obtain rfl := Option.some.inj hoj
      have e0 := d0 (hwt ⟨0, .data⟩ (by simp) rfl)
      have e1 := d1 (hwt ⟨1, .data⟩ (by simp) rfl)
      subst e0
      subst e1
      refine wpOp_value hoj2 rfl (v := (.pointer (some ⟨bl, ol + p * 5, none⟩))) (w' := w') (by first | (simp [execOp, go_sem, hpi]; done) | rfl) ?_
      exact ⟨(.slice (some ⟨bl, ol, none⟩) n cl), (.int .i64 (p : Int)), (.pointer (some ⟨bl, ol + p * 5, none⟩)), x16, x17, x18, x19, x20, x9, x10, by first | (simp only [Act.put, List.setIfInBounds_toArray, List.set_cons_succ, List.set_cons_zero]; done) | (simp only [Act.put, List.setIfInBounds_toArray, List.set_cons_succ, List.set_cons_zero]; rfl) | rfl, Below.then HBw.out (Below.refl _ _), fun h => keepT (m10_8 (keep (by decide) h)), fun h => (d0 (keep (by decide) h)), fun h => (d1 (keep (by decide) h)), fun _ => rfl, fun h => (d3 (keep (by decide) h)), fun h => (d4 (keep (by decide) h)), fun h => (d5 (keep (by decide) h)), fun h => (d6 (keep (by decide) h)), fun h => (d7 (keep (by decide) h)), fun h => (Exists.elim (d8 (keep (by decide) h)) fun b h => ⟨b, h.1, h.2.1, Exists.elim h.2.2 fun cs h => ⟨cs, h.1, h.2.grown (Below.refl _ _)⟩⟩), fun h => (Exists.elim (d9 (keep (by decide) h)) fun b h => ⟨b, h.1, h.2.1, h.2.2.1.grown (Below.refl _ _), fun hq => h.2.2.2 (keep (by decide) hq)⟩), fun h => (Exists.elim (d10 (keep (by decide) h)) fun b h => ⟨b, h.1, h.2.grown (Below.refl _ _)⟩)⟩
    · have hoj2 := hoj
      obtain rfl := Option.some.inj hoj
      have e2 := d2 (hwt ⟨2, .data⟩ (by simp) rfl)
      subst e2
      refine wpOp_value hoj2 rfl (v := (.agg (evL x).toArray)) (w' := w') (exec_loadRg rfl rfl (range_grow HX.out HBL.out HBw.out) Tryd.underlying32 rfl infoEv) ?_
      exact ⟨x13, x14, (.pointer (some ⟨bl, ol + p * 5, none⟩)), (.agg (evL x).toArray), x17, x18, x19, x20, x9, x10, by first | (simp only [Act.put, List.setIfInBounds_toArray, List.set_cons_succ, List.set_cons_zero]; done) | (simp only [Act.put, List.setIfInBounds_toArray, List.set_cons_succ, List.set_cons_zero]; rfl) | rfl, Below.then HBw.out (Below.refl _ _), fun h => keepT (m10_8 (keep (by decide) h)), fun h => (d0 (keep (by decide) h)), fun h => (d1 (keep (by decide) h)), fun h => (d2 (keep (by decide) h)), fun _ => rfl, fun h => (d4 (keep (by decide) h)), fun h => (d5 (keep (by decide) h)), fun h => (d6 (keep (by decide) h)), fun h => (d7 (keep (by decide) h)), fun h => (Exists.elim (d8 (keep (by decide) h)) fun b h => ⟨b, h.1, h.2.1, Exists.elim h.2.2 fun cs h => ⟨cs, h.1, h.2.grown (Below.refl _ _)⟩⟩), fun h => (Exists.elim (d9 (keep (by decide) h)) fun b h => ⟨b, h.1, h.2.1, h.2.2.1.grown (Below.refl _ _), fun hq => h.2.2.2 (keep (by decide) hq)⟩), fun h => (Exists.elim (d10 (keep (by decide) h)) fun b h => ⟨b, h.1, h.2.grown (Below.refl _ _)⟩)⟩
    · have hoj2 := hoj
      obtain rfl := Option.some.inj hoj
      refine wpOp_value hoj2 rfl (v := (.slice (some ⟨bl, ol, none⟩) n cl)) (w' := w') (by first | rfl | (go_simp; done) | (simp [go_sem]; done) | (simp [execOp, go_sem]; done)) ?_
      exact ⟨x13, x14, x15, x16, (.slice (some ⟨bl, ol, none⟩) n cl), x18, x19, x20, x9, x10, by first | (simp only [Act.put, List.setIfInBounds_toArray, List.set_cons_succ, List.set_cons_zero]; done) | (simp only [Act.put, List.setIfInBounds_toArray, List.set_cons_succ, List.set_cons_zero]; rfl) | rfl, Below.then HBw.out (Below.refl _ _), fun h => keepT (m10_8 (keep (by decide) h)), fun h => (d0 (keep (by decide) h)), fun h => (d1 (keep (by decide) h)), fun h => (d2 (keep (by decide) h)), fun h => (d3 (keep (by decide) h)), fun _ => rfl, fun h => (d5 (keep (by decide) h)), fun h => (d6 (keep (by decide) h)), fun h => (d7 (keep (by decide) h)), fun h => (Exists.elim (d8 (keep (by decide) h)) fun b h => ⟨b, h.1, h.2.1, Exists.elim h.2.2 fun cs h => ⟨cs, h.1, h.2.grown (Below.refl _ _)⟩⟩), fun h => (Exists.elim (d9 (keep (by decide) h)) fun b h => ⟨b, h.1, h.2.1, h.2.2.1.grown (Below.refl _ _), fun hq => h.2.2.2 (keep (by decide) hq)⟩), fun h => (Exists.elim (d10 (keep (by decide) h)) fun b h => ⟨b, h.1, h.2.grown (Below.refl _ _)⟩)⟩
    · have hoj2 := hoj
      obtain rfl := Option.some.inj hoj
      refine wpOp_value hoj2 rfl (v := (.int .i64 (q : Int))) (w' := w') (by first | rfl | (go_simp; done) | (simp [go_sem]; done) | (simp [execOp, go_sem]; done)) ?_
      exact ⟨x13, x14, x15, x16, x17, (.int .i64 (q : Int)), x19, x20, x9, x10, by first | (simp only [Act.put, List.setIfInBounds_toArray, List.set_cons_succ, List.set_cons_zero]; done) | (simp only [Act.put, List.setIfInBounds_toArray, List.set_cons_succ, List.set_cons_zero]; rfl) | rfl, Below.then HBw.out (Below.refl _ _), fun h => keepT (m10_8 (keep (by decide) h)), fun h => (d0 (keep (by decide) h)), fun h => (d1 (keep (by decide) h)), fun h => (d2 (keep (by decide) h)), fun h => (d3 (keep (by decide) h)), fun h => (d4 (keep (by decide) h)), fun _ => rfl, fun h => (d6 (keep (by decide) h)), fun h => (d7 (keep (by decide) h)), fun h => (Exists.elim (d8 (keep (by decide) h)) fun b h => ⟨b, h.1, h.2.1, Exists.elim h.2.2 fun cs h => ⟨cs, h.1, h.2.grown (Below.refl _ _)⟩⟩), fun h => (Exists.elim (d9 (keep (by decide) h)) fun b h => ⟨b, h.1, h.2.1, h.2.2.1.grown (Below.refl _ _), fun hq => h.2.2.2 (keep (by decide) hq)⟩), fun h => (Exists.elim (d10 (keep (by decide) h)) fun b h => ⟨b, h.1, h.2.grown (Below.refl _ _)⟩)⟩
    · have hoj2 := hoj
      obtain rfl := Option.some.inj hoj
      have e4 := d4 (hwt ⟨4, .data⟩ (by simp) rfl)
      have e5 := d5 (hwt ⟨5, .data⟩ (by simp) rfl)
      subst e4
      subst e5
      refine wpOp_value hoj2 rfl (v := (.pointer (some ⟨bl, ol + q * 5, none⟩))) (w' := w') (by first | (simp [execOp, go_sem, hqi]; done) | rfl) ?_
      exact ⟨x13, x14, x15, x16, (.slice (some ⟨bl, ol, none⟩) n cl), (.int .i64 (q : Int)), (.pointer (some ⟨bl, ol + q * 5, none⟩)), x20, x9, x10, by first | (simp only [Act.put, List.setIfInBounds_toArray, List.set_cons_succ, List.set_cons_zero]; done) | (simp only [Act.put, List.setIfInBounds_toArray, List.set_cons_succ, List.set_cons_zero]; rfl) | rfl, Below.then HBw.out (Below.refl _ _), fun h => keepT (m10_8 (keep (by decide) h)), fun h => (d0 (keep (by decide) h)), fun h => (d1 (keep (by decide) h)), fun h => (d2 (keep (by decide) h)), fun h => (d3 (keep (by decide) h)), fun h => (d4 (keep (by decide) h)), fun h => (d5 (keep (by decide) h)), fun _ => rfl, fun h => (d7 (keep (by decide) h)), fun h => (Exists.elim (d8 (keep (by decide) h)) fun b h => ⟨b, h.1, h.2.1, Exists.elim h.2.2 fun cs h => ⟨cs, h.1, h.2.grown (Below.refl _ _)⟩⟩), fun h => (Exists.elim (d9 (keep (by decide) h)) fun b h => ⟨b, h.1, h.2.1, h.2.2.1.grown (Below.refl _ _), fun hq => h.2.2.2 (keep (by decide) hq)⟩), fun h => (Exists.elim (d10 (keep (by decide) h)) fun b h => ⟨b, h.1, h.2.grown (Below.refl _ _)⟩)⟩
    · have hoj2 := hoj
      obtain rfl := Option.some.inj hoj
      have e6 := d6 (hwt ⟨6, .data⟩ (by simp) rfl)
      subst e6
      refine wpOp_value hoj2 rfl (v := (.agg (evL y).toArray)) (w' := w') (exec_loadRg rfl rfl (range_grow HY.out HBL.out HBw.out) Tryd.underlying32 rfl infoEv) ?_
      exact ⟨x13, x14, x15, x16, x17, x18, (.pointer (some ⟨bl, ol + q * 5, none⟩)), (.agg (evL y).toArray), x9, x10, by first | (simp only [Act.put, List.setIfInBounds_toArray, List.set_cons_succ, List.set_cons_zero]; done) | (simp only [Act.put, List.setIfInBounds_toArray, List.set_cons_succ, List.set_cons_zero]; rfl) | rfl, Below.then HBw.out (Below.refl _ _), fun h => keepT (m10_8 (keep (by decide) h)), fun h => (d0 (keep (by decide) h)), fun h => (d1 (keep (by decide) h)), fun h => (d2 (keep (by decide) h)), fun h => (d3 (keep (by decide) h)), fun h => (d4 (keep (by decide) h)), fun h => (d5 (keep (by decide) h)), fun h => (d6 (keep (by decide) h)), fun _ => rfl, fun h => (Exists.elim (d8 (keep (by decide) h)) fun b h => ⟨b, h.1, h.2.1, Exists.elim h.2.2 fun cs h => ⟨cs, h.1, h.2.grown (Below.refl _ _)⟩⟩), fun h => (Exists.elim (d9 (keep (by decide) h)) fun b h => ⟨b, h.1, h.2.1, h.2.2.1.grown (Below.refl _ _), fun hq => h.2.2.2 (keep (by decide) hq)⟩), fun h => (Exists.elim (d10 (keep (by decide) h)) fun b h => ⟨b, h.1, h.2.grown (Below.refl _ _)⟩)⟩
    · have hoj2 := hoj
      obtain rfl := Option.some.inj hoj
      refine wpOp_value hoj2 rfl (run_allocS 32 (evL ev0) zeroEv rfl _ w') ?_
      have B9a := F_b (Fresh.alloc w' (.cells (evL ev0).toArray 32))
      exact ⟨x13, x14, x15, x16, x17, x18, x19, x20, _, x10, by first | (simp only [Act.put, List.setIfInBounds_toArray, List.set_cons_succ, List.set_cons_zero]; done) | (simp only [Act.put, List.setIfInBounds_toArray, List.set_cons_succ, List.set_cons_zero]; rfl) | rfl, Below.then HBw.out B9a, fun h => keepT (m10_8 (keep (by decide) h)), fun h => (d0 (keep (by decide) h)), fun h => (d1 (keep (by decide) h)), fun h => (d2 (keep (by decide) h)), fun h => (d3 (keep (by decide) h)), fun h => (d4 (keep (by decide) h)), fun h => (d5 (keep (by decide) h)), fun h => (d6 (keep (by decide) h)), fun h => (d7 (keep (by decide) h)), fun _ => ⟨_, rfl, HBw.out.size, evL ev0, rfl, IsS.new w' 32 (evL ev0)⟩, fun h => (Exists.elim (d9 (keep (by decide) h)) fun b h => ⟨b, h.1, h.2.1, h.2.2.1.grown B9a, fun _ b8 e => by injection e with e; injection e with e; injection e with e; have := h.2.2.1.lt; omega⟩), fun h => absurd (m10_8 (keep (by decide) h)) (by rw [getD_both hun]; simp)⟩
    · have hoj2 := hoj
      obtain rfl := Option.some.inj hoj
      refine wpOp_value hoj2 rfl (run_allocS 32 (evL ev0) zeroEv rfl _ w') ?_
      have B9 := F_b (Fresh.alloc w' (.cells (evL ev0).toArray 32))
      exact ⟨x13, x14, x15, x16, x17, x18, x19, x20, x9, _, by first | (simp only [Act.put, List.setIfInBounds_toArray, List.set_cons_succ, List.set_cons_zero]; done) | (simp only [Act.put, List.setIfInBounds_toArray, List.set_cons_succ, List.set_cons_zero]; rfl) | rfl, Below.then HBw.out B9, fun h => keepT (m10_8 (keep (by decide) h)), fun h => (d0 (keep (by decide) h)), fun h => (d1 (keep (by decide) h)), fun h => (d2 (keep (by decide) h)), fun h => (d3 (keep (by decide) h)), fun h => (d4 (keep (by decide) h)), fun h => (d5 (keep (by decide) h)), fun h => (d6 (keep (by decide) h)), fun h => (d7 (keep (by decide) h)), fun h => (Exists.elim (d8 (keep (by decide) h)) fun b h => ⟨b, h.1, h.2.1, Exists.elim h.2.2 fun cs h => ⟨cs, h.1, h.2.grown B9⟩⟩), fun _ => ⟨_, rfl, HBw.out.size, IsS.new w' 32 (evL ev0), fun hq b8 e => by obtain ⟨b7, e7, _, cs7, _, h7⟩ := d8 (keep (by decide) hq); rw [e7] at e; injection e with e; injection e with e; injection e with e; have := h7.lt; omega⟩, fun h => (Exists.elim (d10 (keep (by decide) h)) fun b h => ⟨b, h.1, h.2.grown B9⟩)⟩
    · have hoj2 := hoj
      obtain rfl := Option.some.inj hoj
      have e8 := d8 (hwt ⟨8, .data⟩ (by simp) rfl)
      have e3 := d3 (hwt ⟨3, .data⟩ (by simp) rfl)
      obtain ⟨b9, rfl, hb9, cs9, hl9, I9⟩ := e8
      subst e3
      refine wpOp_storeW hoj2 rfl 32 _ _ rfl rfl (evL x) rfl I9 (by rw [hl9]; rfl) infoEv (ev_oneC _) ?_
      intro W6 U6 I6
      exact ⟨x13, x14, x15, _, x17, x18, x19, x20, _, x10, by first | (simp only [Act.put, List.setIfInBounds_toArray, List.set_cons_succ, List.set_cons_zero]; done) | (simp only [Act.put, List.setIfInBounds_toArray, List.set_cons_succ, List.set_cons_zero]; rfl) | rfl, U6.trans HBw.out hb9, fun _ => keepT (hwt ⟨8, .data⟩ (by simp) rfl), fun h => (d0 (keep (by decide) h)), fun h => (d1 (keep (by decide) h)), fun h => (d2 (keep (by decide) h)), fun h => (d3 (keep (by decide) h)), fun h => (d4 (keep (by decide) h)), fun h => (d5 (keep (by decide) h)), fun h => (d6 (keep (by decide) h)), fun h => (d7 (keep (by decide) h)), fun h => ⟨b9, rfl, hb9, evL x, rfl, I6⟩, fun h => (Exists.elim (d9 (keep (by decide) h)) fun b h => ⟨b, h.1, h.2.1, h.2.2.1.upd U6 (fun e => h.2.2.2 (hwt ⟨8, .data⟩ (by simp) rfl) b9 rfl e.symm), fun hq => h.2.2.2 (keep (by decide) hq)⟩), fun _ => ⟨b9, rfl, I6⟩⟩
  case iend =>
    rintro a' w' ⟨x13, x14, x15, x16, x17, x18, x19, x20, x9, x10, rfl, HBw, m10_8, d0, d1, d2, d3, d4, d5, d6, d7, d8, d9, d10⟩
    replace d0 := d0 rfl
    replace d1 := d1 rfl
    replace d2 := d2 rfl
    replace d3 := d3 rfl
    replace d4 := d4 rfl
    replace d5 := d5 rfl
    replace d6 := d6 rfl
    replace d7 := d7 rfl
    replace d8 := d8 rfl
    replace d9 := d9 rfl
    replace d10 := d10 rfl
    clear m10_8
    simp only [Act.put, List.setIfInBounds_toArray, List.set_cons_succ, List.set_cons_zero]
    simp only [List.drop_succ_cons, List.drop_zero]
    obtain ⟨b9, rfl, hb9, cs9, _, _⟩ := d8
    obtain ⟨b9x, eb9, q9⟩ := d10
    injection eb9 with eb9
    injection eb9 with eb9
    injection eb9 with eb9
    subst eb9
    obtain ⟨b10, rfl, hb10, r10, hne⟩ := d9
    have hne2 : b9 ≠ b10 := hne rfl b9 rfl
    clear hne
    subst d0 d1 d2 d3 d4 d5 d6 d7
    have B3 : Below w.heap.size w w' := HBw.out
    clear HBw
    go_upto_region 2 with (first
      | (refine wpList_storeW rfl 32 _ _ rfl rfl (evL y) rfl r10 rfl infoEv (ev_oneC _) ?_; intro W6 U6 q10; replace B3 := U6.trans B3 hb10; replace q9 := q9.upd U6 hne2; clear U6 r10))
    have HB6 : Hid (Below w.heap.size w W6) := B3
    have HQ : Hid (IsS W6 b9 32 (evL x) ∧ IsS W6 b10 32 (evL y)) := ⟨q9, q10⟩
    have c1 : W6.cell? ⟨b9, 1, none⟩ = some (.int .i64 x.thr) := q9.cell 1
    have c2 : W6.cell? ⟨b10, 1, none⟩ = some (.int .i64 y.thr) := q10.cell 1
    clear q9 q10 B3
    simp only [Act.put]
    go_cut [11] from 21 to 30 (fun v wx => v = .bool (oneB x y) ∧ wx = W6)
    case first =>
      have HV : Hid (oneB x y = (decide (x.thr = y.thr) && !decide (x.thr = -1))) := rfl
      by_cases h1 : x.thr = y.thr
      · by_cases h2 : x.thr = -1
        all_goals
          go_wp2
          go_meet
          exact ⟨by rw [HV.out]; simp [h1, h2]; rfl, rfl⟩
      · go_wp2
        go_meet
        exact ⟨by rw [HV.out]; simp [h1], rfl⟩
    case rest =>
      obtain ⟨rfl, rfl⟩ := hcut
      clear c1 c2
      go_upto_region 3 with fail
      try simp only [Act.put]
      go_cut [12] from 31 to 44 (fun v wx => v = .bool (mmB x && mmB y) ∧ Hid (Below w.heap.size w wx) ∧ Hid (IsS wx b9 32 (evL x) ∧ IsS wx b10 32 (evL y)))
      case first =>
        obtain ⟨QX, QY⟩ := HQ.out
        have BB := HB6.out
        have cwx := fun W => write_any x W
        have cwy := fun W => write_any y W
        have crx := fun W => read_any x W
        have cry := fun W => read_any y W
        have HV : Hid ((mmB x && mmB y) = ((wrB x || rdB x) && (wrB y || rdB y))) := rfl
        generalize (mmB x && mmB y) = mv at *
        generalize wrB x = v1 at *
        generalize rdB x = v2 at *
        generalize wrB y = v3 at *
        generalize rdB y = v4 at *
        clear HQ HB6 HX HY HBL
        cases v1
        · cases v2
          · refine grow_region ?_
            refine WG.row rfl 32 _ rfl rfl QX (evL x) rfl _ Tryd.underlying32 rfl infoEv ?_
            simp only [Act.put, List.setIfInBounds_toArray, List.set_cons_succ, List.set_cons_zero]
            refine WG.call rfl (fun w' _ => cwx w') (fun w => by first | rfl | (go_simp; done) | (simp [execOp, go_sem]; done)) ?_
            simp only [Act.put, List.setIfInBounds_toArray, List.set_cons_succ, List.set_cons_zero]
            refine WG.put rfl (v := (.bool false)) (fun w => by first | rfl | (go_simp; done) | (simp [execOp, go_sem]; done)) ?_
            simp only [Act.put, List.setIfInBounds_toArray, List.set_cons_succ, List.set_cons_zero]
            refine WG.row rfl 32 _ rfl rfl QX (evL x) rfl _ Tryd.underlying32 rfl infoEv ?_
            simp only [Act.put, List.setIfInBounds_toArray, List.set_cons_succ, List.set_cons_zero]
            refine WG.call rfl (fun w' _ => crx w') (fun w => by first | rfl | (go_simp; done) | (simp [execOp, go_sem]; done)) ?_
            simp only [Act.put, List.setIfInBounds_toArray, List.set_cons_succ, List.set_cons_zero]
            refine WG.put rfl (v := (.bool false)) (fun w => by first | rfl | (go_simp; done) | (simp [execOp, go_sem]; done)) ?_
            simp only [Act.put, List.setIfInBounds_toArray, List.set_cons_succ, List.set_cons_zero]
            refine WG.put rfl (v := (.bool false)) (fun w => by first | rfl | (go_simp; done) | (simp [execOp, go_sem]; done)) ?_
            simp only [Act.put, List.setIfInBounds_toArray, List.set_cons_succ, List.set_cons_zero]
            refine WG.skip rfl ?_
            simp only [Act.put, List.setIfInBounds_toArray, List.set_cons_succ, List.set_cons_zero]
            refine WG.skip rfl ?_
            simp only [Act.put, List.setIfInBounds_toArray, List.set_cons_succ, List.set_cons_zero]
            refine WG.skip rfl ?_
            simp only [Act.put, List.setIfInBounds_toArray, List.set_cons_succ, List.set_cons_zero]
            refine WG.skip rfl ?_
            simp only [Act.put, List.setIfInBounds_toArray, List.set_cons_succ, List.set_cons_zero]
            refine WG.skip rfl ?_
            simp only [Act.put, List.setIfInBounds_toArray, List.set_cons_succ, List.set_cons_zero]
            refine WG.skip rfl ?_
            simp only [Act.put, List.setIfInBounds_toArray, List.set_cons_succ, List.set_cons_zero]
            refine WG.put rfl (v := (.bool false)) (fun w => by first | rfl | (go_simp; done) | (simp [execOp, go_sem]; done)) ?_
            simp only [Act.put, List.setIfInBounds_toArray, List.set_cons_succ, List.set_cons_zero]
            refine WG.put rfl (v := (.bool false)) (fun w => by first | rfl | (go_simp; done) | (simp [execOp, go_sem]; done)) ?_
            simp only [Act.put, List.setIfInBounds_toArray, List.set_cons_succ, List.set_cons_zero]
            refine WG.nil (fun w7 hw7 => ?_)
            go_wp2
            go_meet
            exact ⟨by rw [HV.out]; simp, Below.then BB hw7, QX.grown hw7, QY.grown hw7⟩
          · cases v3
            · cases v4
              · refine grow_region ?_
                refine WG.row rfl 32 _ rfl rfl QX (evL x) rfl _ Tryd.underlying32 rfl infoEv ?_
                simp only [Act.put, List.setIfInBounds_toArray, List.set_cons_succ, List.set_cons_zero]
                refine WG.call rfl (fun w' _ => cwx w') (fun w => by first | rfl | (go_simp; done) | (simp [execOp, go_sem]; done)) ?_
                simp only [Act.put, List.setIfInBounds_toArray, List.set_cons_succ, List.set_cons_zero]
                refine WG.put rfl (v := (.bool false)) (fun w => by first | rfl | (go_simp; done) | (simp [execOp, go_sem]; done)) ?_
                simp only [Act.put, List.setIfInBounds_toArray, List.set_cons_succ, List.set_cons_zero]
                refine WG.row rfl 32 _ rfl rfl QX (evL x) rfl _ Tryd.underlying32 rfl infoEv ?_
                simp only [Act.put, List.setIfInBounds_toArray, List.set_cons_succ, List.set_cons_zero]
                refine WG.call rfl (fun w' _ => crx w') (fun w => by first | rfl | (go_simp; done) | (simp [execOp, go_sem]; done)) ?_
                simp only [Act.put, List.setIfInBounds_toArray, List.set_cons_succ, List.set_cons_zero]
                refine WG.put rfl (v := (.bool true)) (fun w => by first | rfl | (go_simp; done) | (simp [execOp, go_sem]; done)) ?_
                simp only [Act.put, List.setIfInBounds_toArray, List.set_cons_succ, List.set_cons_zero]
                refine WG.put rfl (v := (.bool true)) (fun w => by first | rfl | (go_simp; done) | (simp [execOp, go_sem]; done)) ?_
                simp only [Act.put, List.setIfInBounds_toArray, List.set_cons_succ, List.set_cons_zero]
                refine WG.row rfl 32 _ rfl rfl QY (evL y) rfl _ Tryd.underlying32 rfl infoEv ?_
                simp only [Act.put, List.setIfInBounds_toArray, List.set_cons_succ, List.set_cons_zero]
                refine WG.call rfl (fun w' _ => cwy w') (fun w => by first | rfl | (go_simp; done) | (simp [execOp, go_sem]; done)) ?_
                simp only [Act.put, List.setIfInBounds_toArray, List.set_cons_succ, List.set_cons_zero]
                refine WG.put rfl (v := (.bool false)) (fun w => by first | rfl | (go_simp; done) | (simp [execOp, go_sem]; done)) ?_
                simp only [Act.put, List.setIfInBounds_toArray, List.set_cons_succ, List.set_cons_zero]
                refine WG.row rfl 32 _ rfl rfl QY (evL y) rfl _ Tryd.underlying32 rfl infoEv ?_
                simp only [Act.put, List.setIfInBounds_toArray, List.set_cons_succ, List.set_cons_zero]
                refine WG.call rfl (fun w' _ => cry w') (fun w => by first | rfl | (go_simp; done) | (simp [execOp, go_sem]; done)) ?_
                simp only [Act.put, List.setIfInBounds_toArray, List.set_cons_succ, List.set_cons_zero]
                refine WG.put rfl (v := (.bool false)) (fun w => by first | rfl | (go_simp; done) | (simp [execOp, go_sem]; done)) ?_
                simp only [Act.put, List.setIfInBounds_toArray, List.set_cons_succ, List.set_cons_zero]
                refine WG.put rfl (v := (.bool false)) (fun w => by first | rfl | (go_simp; done) | (simp [execOp, go_sem]; done)) ?_
                simp only [Act.put, List.setIfInBounds_toArray, List.set_cons_succ, List.set_cons_zero]
                refine WG.put rfl (v := (.bool false)) (fun w => by first | rfl | (go_simp; done) | (simp [execOp, go_sem]; done)) ?_
                simp only [Act.put, List.setIfInBounds_toArray, List.set_cons_succ, List.set_cons_zero]
                refine WG.nil (fun w7 hw7 => ?_)
                go_wp2
                go_meet
                exact ⟨by rw [HV.out]; simp, Below.then BB hw7, QX.grown hw7, QY.grown hw7⟩
              · refine grow_region ?_
                refine WG.row rfl 32 _ rfl rfl QX (evL x) rfl _ Tryd.underlying32 rfl infoEv ?_
                simp only [Act.put, List.setIfInBounds_toArray, List.set_cons_succ, List.set_cons_zero]
                refine WG.call rfl (fun w' _ => cwx w') (fun w => by first | rfl | (go_simp; done) | (simp [execOp, go_sem]; done)) ?_
                simp only [Act.put, List.setIfInBounds_toArray, List.set_cons_succ, List.set_cons_zero]
                refine WG.put rfl (v := (.bool false)) (fun w => by first | rfl | (go_simp; done) | (simp [execOp, go_sem]; done)) ?_
                simp only [Act.put, List.setIfInBounds_toArray, List.set_cons_succ, List.set_cons_zero]
                refine WG.row rfl 32 _ rfl rfl QX (evL x) rfl _ Tryd.underlying32 rfl infoEv ?_
                simp only [Act.put, List.setIfInBounds_toArray, List.set_cons_succ, List.set_cons_zero]
                refine WG.call rfl (fun w' _ => crx w') (fun w => by first | rfl | (go_simp; done) | (simp [execOp, go_sem]; done)) ?_
                simp only [Act.put, List.setIfInBounds_toArray, List.set_cons_succ, List.set_cons_zero]
                refine WG.put rfl (v := (.bool true)) (fun w => by first | rfl | (go_simp; done) | (simp [execOp, go_sem]; done)) ?_
                simp only [Act.put, List.setIfInBounds_toArray, List.set_cons_succ, List.set_cons_zero]
                refine WG.put rfl (v := (.bool true)) (fun w => by first | rfl | (go_simp; done) | (simp [execOp, go_sem]; done)) ?_
                simp only [Act.put, List.setIfInBounds_toArray, List.set_cons_succ, List.set_cons_zero]
                refine WG.row rfl 32 _ rfl rfl QY (evL y) rfl _ Tryd.underlying32 rfl infoEv ?_
                simp only [Act.put, List.setIfInBounds_toArray, List.set_cons_succ, List.set_cons_zero]
                refine WG.call rfl (fun w' _ => cwy w') (fun w => by first | rfl | (go_simp; done) | (simp [execOp, go_sem]; done)) ?_
                simp only [Act.put, List.setIfInBounds_toArray, List.set_cons_succ, List.set_cons_zero]
                refine WG.put rfl (v := (.bool false)) (fun w => by first | rfl | (go_simp; done) | (simp [execOp, go_sem]; done)) ?_
                simp only [Act.put, List.setIfInBounds_toArray, List.set_cons_succ, List.set_cons_zero]
                refine WG.row rfl 32 _ rfl rfl QY (evL y) rfl _ Tryd.underlying32 rfl infoEv ?_
                simp only [Act.put, List.setIfInBounds_toArray, List.set_cons_succ, List.set_cons_zero]
                refine WG.call rfl (fun w' _ => cry w') (fun w => by first | rfl | (go_simp; done) | (simp [execOp, go_sem]; done)) ?_
                simp only [Act.put, List.setIfInBounds_toArray, List.set_cons_succ, List.set_cons_zero]
                refine WG.put rfl (v := (.bool true)) (fun w => by first | rfl | (go_simp; done) | (simp [execOp, go_sem]; done)) ?_
                simp only [Act.put, List.setIfInBounds_toArray, List.set_cons_succ, List.set_cons_zero]
                refine WG.put rfl (v := (.bool true)) (fun w => by first | rfl | (go_simp; done) | (simp [execOp, go_sem]; done)) ?_
                simp only [Act.put, List.setIfInBounds_toArray, List.set_cons_succ, List.set_cons_zero]
                refine WG.put rfl (v := (.bool true)) (fun w => by first | rfl | (go_simp; done) | (simp [execOp, go_sem]; done)) ?_
                simp only [Act.put, List.setIfInBounds_toArray, List.set_cons_succ, List.set_cons_zero]
                refine WG.nil (fun w7 hw7 => ?_)
                go_wp2
                go_meet
                exact ⟨by rw [HV.out]; simp, Below.then BB hw7, QX.grown hw7, QY.grown hw7⟩
            · refine grow_region ?_
              refine WG.row rfl 32 _ rfl rfl QX (evL x) rfl _ Tryd.underlying32 rfl infoEv ?_
              simp only [Act.put, List.setIfInBounds_toArray, List.set_cons_succ, List.set_cons_zero]
              refine WG.call rfl (fun w' _ => cwx w') (fun w => by first | rfl | (go_simp; done) | (simp [execOp, go_sem]; done)) ?_
              simp only [Act.put, List.setIfInBounds_toArray, List.set_cons_succ, List.set_cons_zero]
              refine WG.put rfl (v := (.bool false)) (fun w => by first | rfl | (go_simp; done) | (simp [execOp, go_sem]; done)) ?_
              simp only [Act.put, List.setIfInBounds_toArray, List.set_cons_succ, List.set_cons_zero]
              refine WG.row rfl 32 _ rfl rfl QX (evL x) rfl _ Tryd.underlying32 rfl infoEv ?_
              simp only [Act.put, List.setIfInBounds_toArray, List.set_cons_succ, List.set_cons_zero]
              refine WG.call rfl (fun w' _ => crx w') (fun w => by first | rfl | (go_simp; done) | (simp [execOp, go_sem]; done)) ?_
              simp only [Act.put, List.setIfInBounds_toArray, List.set_cons_succ, List.set_cons_zero]
              refine WG.put rfl (v := (.bool true)) (fun w => by first | rfl | (go_simp; done) | (simp [execOp, go_sem]; done)) ?_
              simp only [Act.put, List.setIfInBounds_toArray, List.set_cons_succ, List.set_cons_zero]
              refine WG.put rfl (v := (.bool true)) (fun w => by first | rfl | (go_simp; done) | (simp [execOp, go_sem]; done)) ?_
              simp only [Act.put, List.setIfInBounds_toArray, List.set_cons_succ, List.set_cons_zero]
              refine WG.row rfl 32 _ rfl rfl QY (evL y) rfl _ Tryd.underlying32 rfl infoEv ?_
              simp only [Act.put, List.setIfInBounds_toArray, List.set_cons_succ, List.set_cons_zero]
              refine WG.call rfl (fun w' _ => cwy w') (fun w => by first | rfl | (go_simp; done) | (simp [execOp, go_sem]; done)) ?_
              simp only [Act.put, List.setIfInBounds_toArray, List.set_cons_succ, List.set_cons_zero]
              refine WG.put rfl (v := (.bool true)) (fun w => by first | rfl | (go_simp; done) | (simp [execOp, go_sem]; done)) ?_
              simp only [Act.put, List.setIfInBounds_toArray, List.set_cons_succ, List.set_cons_zero]
              refine WG.skip rfl ?_
              simp only [Act.put, List.setIfInBounds_toArray, List.set_cons_succ, List.set_cons_zero]
              refine WG.skip rfl ?_
              simp only [Act.put, List.setIfInBounds_toArray, List.set_cons_succ, List.set_cons_zero]
              refine WG.put rfl (v := (.bool true)) (fun w => by first | rfl | (go_simp; done) | (simp [execOp, go_sem]; done)) ?_
              simp only [Act.put, List.setIfInBounds_toArray, List.set_cons_succ, List.set_cons_zero]
              refine WG.put rfl (v := (.bool true)) (fun w => by first | rfl | (go_simp; done) | (simp [execOp, go_sem]; done)) ?_
              simp only [Act.put, List.setIfInBounds_toArray, List.set_cons_succ, List.set_cons_zero]
              refine WG.put rfl (v := (.bool true)) (fun w => by first | rfl | (go_simp; done) | (simp [execOp, go_sem]; done)) ?_
              simp only [Act.put, List.setIfInBounds_toArray, List.set_cons_succ, List.set_cons_zero]
              refine WG.nil (fun w7 hw7 => ?_)
              go_wp2
              go_meet
              exact ⟨by rw [HV.out]; simp, Below.then BB hw7, QX.grown hw7, QY.grown hw7⟩
        · cases v3
          · cases v4
            · refine grow_region ?_
              refine WG.row rfl 32 _ rfl rfl QX (evL x) rfl _ Tryd.underlying32 rfl infoEv ?_
              simp only [Act.put, List.setIfInBounds_toArray, List.set_cons_succ, List.set_cons_zero]
              refine WG.call rfl (fun w' _ => cwx w') (fun w => by first | rfl | (go_simp; done) | (simp [execOp, go_sem]; done)) ?_
              simp only [Act.put, List.setIfInBounds_toArray, List.set_cons_succ, List.set_cons_zero]
              refine WG.put rfl (v := (.bool true)) (fun w => by first | rfl | (go_simp; done) | (simp [execOp, go_sem]; done)) ?_
              simp only [Act.put, List.setIfInBounds_toArray, List.set_cons_succ, List.set_cons_zero]
              refine WG.skip rfl ?_
              simp only [Act.put, List.setIfInBounds_toArray, List.set_cons_succ, List.set_cons_zero]
              refine WG.skip rfl ?_
              simp only [Act.put, List.setIfInBounds_toArray, List.set_cons_succ, List.set_cons_zero]
              refine WG.put rfl (v := (.bool true)) (fun w => by first | rfl | (go_simp; done) | (simp [execOp, go_sem]; done)) ?_
              simp only [Act.put, List.setIfInBounds_toArray, List.set_cons_succ, List.set_cons_zero]
              refine WG.put rfl (v := (.bool true)) (fun w => by first | rfl | (go_simp; done) | (simp [execOp, go_sem]; done)) ?_
              simp only [Act.put, List.setIfInBounds_toArray, List.set_cons_succ, List.set_cons_zero]
              refine WG.row rfl 32 _ rfl rfl QY (evL y) rfl _ Tryd.underlying32 rfl infoEv ?_
              simp only [Act.put, List.setIfInBounds_toArray, List.set_cons_succ, List.set_cons_zero]
              refine WG.call rfl (fun w' _ => cwy w') (fun w => by first | rfl | (go_simp; done) | (simp [execOp, go_sem]; done)) ?_
              simp only [Act.put, List.setIfInBounds_toArray, List.set_cons_succ, List.set_cons_zero]
              refine WG.put rfl (v := (.bool false)) (fun w => by first | rfl | (go_simp; done) | (simp [execOp, go_sem]; done)) ?_
              simp only [Act.put, List.setIfInBounds_toArray, List.set_cons_succ, List.set_cons_zero]
              refine WG.row rfl 32 _ rfl rfl QY (evL y) rfl _ Tryd.underlying32 rfl infoEv ?_
              simp only [Act.put, List.setIfInBounds_toArray, List.set_cons_succ, List.set_cons_zero]
              refine WG.call rfl (fun w' _ => cry w') (fun w => by first | rfl | (go_simp; done) | (simp [execOp, go_sem]; done)) ?_
              simp only [Act.put, List.setIfInBounds_toArray, List.set_cons_succ, List.set_cons_zero]
              refine WG.put rfl (v := (.bool false)) (fun w => by first | rfl | (go_simp; done) | (simp [execOp, go_sem]; done)) ?_
              simp only [Act.put, List.setIfInBounds_toArray, List.set_cons_succ, List.set_cons_zero]
              refine WG.put rfl (v := (.bool false)) (fun w => by first | rfl | (go_simp; done) | (simp [execOp, go_sem]; done)) ?_
              simp only [Act.put, List.setIfInBounds_toArray, List.set_cons_succ, List.set_cons_zero]
              refine WG.put rfl (v := (.bool false)) (fun w => by first | rfl | (go_simp; done) | (simp [execOp, go_sem]; done)) ?_
              simp only [Act.put, List.setIfInBounds_toArray, List.set_cons_succ, List.set_cons_zero]
              refine WG.nil (fun w7 hw7 => ?_)
              go_wp2
              go_meet
              exact ⟨by rw [HV.out]; simp, Below.then BB hw7, QX.grown hw7, QY.grown hw7⟩
            · refine grow_region ?_
              refine WG.row rfl 32 _ rfl rfl QX (evL x) rfl _ Tryd.underlying32 rfl infoEv ?_
              simp only [Act.put, List.setIfInBounds_toArray, List.set_cons_succ, List.set_cons_zero]
              refine WG.call rfl (fun w' _ => cwx w') (fun w => by first | rfl | (go_simp; done) | (simp [execOp, go_sem]; done)) ?_
              simp only [Act.put, List.setIfInBounds_toArray, List.set_cons_succ, List.set_cons_zero]
              refine WG.put rfl (v := (.bool true)) (fun w => by first | rfl | (go_simp; done) | (simp [execOp, go_sem]; done)) ?_
              simp only [Act.put, List.setIfInBounds_toArray, List.set_cons_succ, List.set_cons_zero]
              refine WG.skip rfl ?_
              simp only [Act.put, List.setIfInBounds_toArray, List.set_cons_succ, List.set_cons_zero]
              refine WG.skip rfl ?_
              simp only [Act.put, List.setIfInBounds_toArray, List.set_cons_succ, List.set_cons_zero]
              refine WG.put rfl (v := (.bool true)) (fun w => by first | rfl | (go_simp; done) | (simp [execOp, go_sem]; done)) ?_
              simp only [Act.put, List.setIfInBounds_toArray, List.set_cons_succ, List.set_cons_zero]
              refine WG.put rfl (v := (.bool true)) (fun w => by first | rfl | (go_simp; done) | (simp [execOp, go_sem]; done)) ?_
              simp only [Act.put, List.setIfInBounds_toArray, List.set_cons_succ, List.set_cons_zero]
              refine WG.row rfl 32 _ rfl rfl QY (evL y) rfl _ Tryd.underlying32 rfl infoEv ?_
              simp only [Act.put, List.setIfInBounds_toArray, List.set_cons_succ, List.set_cons_zero]
              refine WG.call rfl (fun w' _ => cwy w') (fun w => by first | rfl | (go_simp; done) | (simp [execOp, go_sem]; done)) ?_
              simp only [Act.put, List.setIfInBounds_toArray, List.set_cons_succ, List.set_cons_zero]
              refine WG.put rfl (v := (.bool false)) (fun w => by first | rfl | (go_simp; done) | (simp [execOp, go_sem]; done)) ?_
              simp only [Act.put, List.setIfInBounds_toArray, List.set_cons_succ, List.set_cons_zero]
              refine WG.row rfl 32 _ rfl rfl QY (evL y) rfl _ Tryd.underlying32 rfl infoEv ?_
              simp only [Act.put, List.setIfInBounds_toArray, List.set_cons_succ, List.set_cons_zero]
              refine WG.call rfl (fun w' _ => cry w') (fun w => by first | rfl | (go_simp; done) | (simp [execOp, go_sem]; done)) ?_
              simp only [Act.put, List.setIfInBounds_toArray, List.set_cons_succ, List.set_cons_zero]
              refine WG.put rfl (v := (.bool true)) (fun w => by first | rfl | (go_simp; done) | (simp [execOp, go_sem]; done)) ?_
              simp only [Act.put, List.setIfInBounds_toArray, List.set_cons_succ, List.set_cons_zero]
              refine WG.put rfl (v := (.bool true)) (fun w => by first | rfl | (go_simp; done) | (simp [execOp, go_sem]; done)) ?_
              simp only [Act.put, List.setIfInBounds_toArray, List.set_cons_succ, List.set_cons_zero]
              refine WG.put rfl (v := (.bool true)) (fun w => by first | rfl | (go_simp; done) | (simp [execOp, go_sem]; done)) ?_
              simp only [Act.put, List.setIfInBounds_toArray, List.set_cons_succ, List.set_cons_zero]
              refine WG.nil (fun w7 hw7 => ?_)
              go_wp2
              go_meet
              exact ⟨by rw [HV.out]; simp, Below.then BB hw7, QX.grown hw7, QY.grown hw7⟩
          · refine grow_region ?_
            refine WG.row rfl 32 _ rfl rfl QX (evL x) rfl _ Tryd.underlying32 rfl infoEv ?_
            simp only [Act.put, List.setIfInBounds_toArray, List.set_cons_succ, List.set_cons_zero]
            refine WG.call rfl (fun w' _ => cwx w') (fun w => by first | rfl | (go_simp; done) | (simp [execOp, go_sem]; done)) ?_
            simp only [Act.put, List.setIfInBounds_toArray, List.set_cons_succ, List.set_cons_zero]
            refine WG.put rfl (v := (.bool true)) (fun w => by first | rfl | (go_simp; done) | (simp [execOp, go_sem]; done)) ?_
            simp only [Act.put, List.setIfInBounds_toArray, List.set_cons_succ, List.set_cons_zero]
            refine WG.skip rfl ?_
            simp only [Act.put, List.setIfInBounds_toArray, List.set_cons_succ, List.set_cons_zero]
            refine WG.skip rfl ?_
            simp only [Act.put, List.setIfInBounds_toArray, List.set_cons_succ, List.set_cons_zero]
            refine WG.put rfl (v := (.bool true)) (fun w => by first | rfl | (go_simp; done) | (simp [execOp, go_sem]; done)) ?_
            simp only [Act.put, List.setIfInBounds_toArray, List.set_cons_succ, List.set_cons_zero]
            refine WG.put rfl (v := (.bool true)) (fun w => by first | rfl | (go_simp; done) | (simp [execOp, go_sem]; done)) ?_
            simp only [Act.put, List.setIfInBounds_toArray, List.set_cons_succ, List.set_cons_zero]
            refine WG.row rfl 32 _ rfl rfl QY (evL y) rfl _ Tryd.underlying32 rfl infoEv ?_
            simp only [Act.put, List.setIfInBounds_toArray, List.set_cons_succ, List.set_cons_zero]
            refine WG.call rfl (fun w' _ => cwy w') (fun w => by first | rfl | (go_simp; done) | (simp [execOp, go_sem]; done)) ?_
            simp only [Act.put, List.setIfInBounds_toArray, List.set_cons_succ, List.set_cons_zero]
            refine WG.put rfl (v := (.bool true)) (fun w => by first | rfl | (go_simp; done) | (simp [execOp, go_sem]; done)) ?_
            simp only [Act.put, List.setIfInBounds_toArray, List.set_cons_succ, List.set_cons_zero]
            refine WG.skip rfl ?_
            simp only [Act.put, List.setIfInBounds_toArray, List.set_cons_succ, List.set_cons_zero]
            refine WG.skip rfl ?_
            simp only [Act.put, List.setIfInBounds_toArray, List.set_cons_succ, List.set_cons_zero]
            refine WG.put rfl (v := (.bool true)) (fun w => by first | rfl | (go_simp; done) | (simp [execOp, go_sem]; done)) ?_
            simp only [Act.put, List.setIfInBounds_toArray, List.set_cons_succ, List.set_cons_zero]
            refine WG.put rfl (v := (.bool true)) (fun w => by first | rfl | (go_simp; done) | (simp [execOp, go_sem]; done)) ?_
            simp only [Act.put, List.setIfInBounds_toArray, List.set_cons_succ, List.set_cons_zero]
            refine WG.put rfl (v := (.bool true)) (fun w => by first | rfl | (go_simp; done) | (simp [execOp, go_sem]; done)) ?_
            simp only [Act.put, List.setIfInBounds_toArray, List.set_cons_succ, List.set_cons_zero]
            refine WG.nil (fun w7 hw7 => ?_)
            go_wp2
            go_meet
            exact ⟨by rw [HV.out]; simp, Below.then BB hw7, QX.grown hw7, QY.grown hw7⟩
      case rest =>
        obtain ⟨rfl, HB7, HQ7⟩ := hcut
        obtain ⟨QX, QY⟩ := HQ7.out
        have BB := HB7.out
        have ld3 : ∀ {b o : Nat} {v : Int} (w : World), w.cell? ⟨b, o, none⟩ = some (.int .i64 v) → (Instr.loadAt 3 (.pointer (some ⟨b, o, none⟩))).run Tryd.prog w = .ok (.int .i64 v) w := fun w h => by go_simp
        have ld4 : ∀ {b o : Nat} {v : Bool} (w : World), w.cell? ⟨b, o, none⟩ = some (.bool v) → (Instr.loadAt 4 (.pointer (some ⟨b, o, none⟩))).run Tryd.prog w = .ok (.bool v) w := fun w h => by go_simp
        clear HQ HB6 HX HY HBL HQ7 HB7
        rcases hr with rfl | rfl | rfl | rfl | rfl
        · have HV : Hid (stV 1 x y p q = (oneB x y && decide (p < q))) := rfl
          generalize oneB x y = v1 at *
          cases v1
          · go_wp2
            go_ret
            exact ⟨ret_bool (by rw [HV.out]; simp), BB⟩
          · by_cases hpq : p < q
            · have hpqi : (p : Int) < q := by omega
              go_wp2
              go_ret
              exact ⟨ret_bool (by rw [HV.out]; simp [hpq]), BB⟩
            · have hpqi : ¬ (p : Int) < q := by omega
              go_wp2
              go_ret
              exact ⟨ret_bool (by rw [HV.out]; simp [hpq]), BB⟩
        · have HV : Hid (stV 2 x y p q = ((mmB x && mmB y) && decide (x.loc = y.loc))) := rfl
          have cxl : wc.cell? ⟨b9, 3, none⟩ = some (.int .i64 x.loc) := QX.cell 3
          have cyl : wc.cell? ⟨b10, 3, none⟩ = some (.int .i64 y.loc) := QY.cell 3
          generalize (mmB x && mmB y) = v1 at *
          cases v1
          · go_wp2
            go_ret
            exact ⟨ret_bool (by rw [HV.out]; simp), BB⟩
          · by_cases hpq : x.loc = y.loc
            all_goals
              go_wp2
              go_ret
              exact ⟨ret_bool (by rw [HV.out]; simp [hpq]), BB⟩
        · have HV : Hid (stV 3 x y p q = oneB x y) := rfl
          generalize oneB x y = v1 at *
          go_wp2
          all_goals
            go_ret
            exact ⟨ret_bool (by rw [HV.out]), BB⟩
        · have HV : Hid (stV 4 x y p q = !oneB x y) := rfl
          generalize oneB x y = v1 at *
          cases v1
          all_goals
            go_wp2
            go_ret
            exact ⟨ret_bool (by rw [HV.out]; rfl), BB⟩
        · have HV : Hid (stV 5 x y p q = ((((((oneB x y && decide (x.idx = y.idx)) && rdB x) && wrB y) && x.lck) && y.lck) && decide (p < q))) := rfl
          have cxi : wc.cell? ⟨b9, 2, none⟩ = some (.int .i64 x.idx) := QX.cell 2
          have cyi : wc.cell? ⟨b10, 2, none⟩ = some (.int .i64 y.idx) := QY.cell 2
          have cxl : wc.cell? ⟨b9, 4, none⟩ = some (.bool x.lck) := QX.cell 4
          have cyl : wc.cell? ⟨b10, 4, none⟩ = some (.bool y.lck) := QY.cell 4
          have crx := fun W => read_any x W
          have cwy := fun W => write_any y W
          have hkx : (x.idx == y.idx) = decide (x.idx = y.idx) := rfl
          have hpq2 : decide ((p : Int) < q) = decide (p < q) := by simp
          generalize oneB x y = v1 at *
          generalize rdB x = v3 at *
          generalize wrB y = v4 at *
          go_upto_region 13 with fail
          try simp only [Act.put]
          cases v1
          · refine grow_region ?_
            refine WG.put rfl (v := (.bool false)) (fun w => by first | rfl | (go_simp; done) | (simp [execOp, go_sem]; done)) ?_
            simp only [Act.put, List.setIfInBounds_toArray, List.set_cons_succ, List.set_cons_zero]
            refine WG.put rfl (v := (.bool false)) (fun w => by first | rfl | (go_simp; done) | (simp [execOp, go_sem]; done)) ?_
            simp only [Act.put, List.setIfInBounds_toArray, List.set_cons_succ, List.set_cons_zero]
            refine WG.skip rfl ?_
            simp only [Act.put, List.setIfInBounds_toArray, List.set_cons_succ, List.set_cons_zero]
            refine WG.skip rfl ?_
            simp only [Act.put, List.setIfInBounds_toArray, List.set_cons_succ, List.set_cons_zero]
            refine WG.skip rfl ?_
            simp only [Act.put, List.setIfInBounds_toArray, List.set_cons_succ, List.set_cons_zero]
            refine WG.skip rfl ?_
            simp only [Act.put, List.setIfInBounds_toArray, List.set_cons_succ, List.set_cons_zero]
            refine WG.skip rfl ?_
            simp only [Act.put, List.setIfInBounds_toArray, List.set_cons_succ, List.set_cons_zero]
            refine WG.put rfl (v := (.bool false)) (fun w => by first | rfl | (go_simp; done) | (simp [execOp, go_sem]; done)) ?_
            simp only [Act.put, List.setIfInBounds_toArray, List.set_cons_succ, List.set_cons_zero]
            refine WG.put rfl (v := (.bool false)) (fun w => by first | rfl | (go_simp; done) | (simp [execOp, go_sem]; done)) ?_
            simp only [Act.put, List.setIfInBounds_toArray, List.set_cons_succ, List.set_cons_zero]
            refine WG.skip rfl ?_
            simp only [Act.put, List.setIfInBounds_toArray, List.set_cons_succ, List.set_cons_zero]
            refine WG.skip rfl ?_
            simp only [Act.put, List.setIfInBounds_toArray, List.set_cons_succ, List.set_cons_zero]
            refine WG.put rfl (v := (.bool false)) (fun w => by first | rfl | (go_simp; done) | (simp [execOp, go_sem]; done)) ?_
            simp only [Act.put, List.setIfInBounds_toArray, List.set_cons_succ, List.set_cons_zero]
            refine WG.put rfl (v := (.bool false)) (fun w => by first | rfl | (go_simp; done) | (simp [execOp, go_sem]; done)) ?_
            simp only [Act.put, List.setIfInBounds_toArray, List.set_cons_succ, List.set_cons_zero]
            refine WG.skip rfl ?_
            simp only [Act.put, List.setIfInBounds_toArray, List.set_cons_succ, List.set_cons_zero]
            refine WG.skip rfl ?_
            simp only [Act.put, List.setIfInBounds_toArray, List.set_cons_succ, List.set_cons_zero]
            refine WG.put rfl (v := (.bool false)) (fun w => by first | rfl | (go_simp; done) | (simp [execOp, go_sem]; done)) ?_
            simp only [Act.put, List.setIfInBounds_toArray, List.set_cons_succ, List.set_cons_zero]
            refine WG.put rfl (v := (.bool false)) (fun w => by first | rfl | (go_simp; done) | (simp [execOp, go_sem]; done)) ?_
            simp only [Act.put, List.setIfInBounds_toArray, List.set_cons_succ, List.set_cons_zero]
            refine WG.skip rfl ?_
            simp only [Act.put, List.setIfInBounds_toArray, List.set_cons_succ, List.set_cons_zero]
            refine WG.skip rfl ?_
            simp only [Act.put, List.setIfInBounds_toArray, List.set_cons_succ, List.set_cons_zero]
            refine WG.put rfl (v := (.bool false)) (fun w => by first | rfl | (go_simp; done) | (simp [execOp, go_sem]; done)) ?_
            simp only [Act.put, List.setIfInBounds_toArray, List.set_cons_succ, List.set_cons_zero]
            refine WG.put rfl (v := (.bool false)) (fun w => by first | rfl | (go_simp; done) | (simp [execOp, go_sem]; done)) ?_
            simp only [Act.put, List.setIfInBounds_toArray, List.set_cons_succ, List.set_cons_zero]
            refine WG.skip rfl ?_
            simp only [Act.put, List.setIfInBounds_toArray, List.set_cons_succ, List.set_cons_zero]
            refine WG.skip rfl ?_
            simp only [Act.put, List.setIfInBounds_toArray, List.set_cons_succ, List.set_cons_zero]
            refine WG.put rfl (v := (.bool false)) (fun w => by first | rfl | (go_simp; done) | (simp [execOp, go_sem]; done)) ?_
            simp only [Act.put, List.setIfInBounds_toArray, List.set_cons_succ, List.set_cons_zero]
            refine WG.put rfl (v := (.bool false)) (fun w => by first | rfl | (go_simp; done) | (simp [execOp, go_sem]; done)) ?_
            simp only [Act.put, List.setIfInBounds_toArray, List.set_cons_succ, List.set_cons_zero]
            refine WG.skip rfl ?_
            simp only [Act.put, List.setIfInBounds_toArray, List.set_cons_succ, List.set_cons_zero]
            refine WG.skip rfl ?_
            simp only [Act.put, List.setIfInBounds_toArray, List.set_cons_succ, List.set_cons_zero]
            refine WG.skip rfl ?_
            simp only [Act.put, List.setIfInBounds_toArray, List.set_cons_succ, List.set_cons_zero]
            refine WG.put rfl (v := (.bool false)) (fun w => by first | rfl | (go_simp; done) | (simp [execOp, go_sem]; done)) ?_
            simp only [Act.put, List.setIfInBounds_toArray, List.set_cons_succ, List.set_cons_zero]
            refine WG.put rfl (v := (.bool false)) (fun w => by first | rfl | (go_simp; done) | (simp [execOp, go_sem]; done)) ?_
            simp only [Act.put, List.setIfInBounds_toArray, List.set_cons_succ, List.set_cons_zero]
            refine WG.nil (fun w8 hw8 => ?_)
            go_wp2
            go_ret
            exact ⟨ret_bool (by rw [HV.out]; simp), Below.then BB hw8⟩
          · by_cases h2 : x.idx = y.idx
            · cases v3
              · refine grow_region ?_
                refine WG.put rfl (v := (.bool true)) (fun w => by first | rfl | (go_simp; done) | (simp [execOp, go_sem]; done) | (simp [execOp, go_sem, h2]; done)) ?_
                simp only [Act.put, List.setIfInBounds_toArray, List.set_cons_succ, List.set_cons_zero]
                refine WG.put rfl (v := (.bool true)) (fun w => by first | rfl | (go_simp; done) | (simp [execOp, go_sem]; done) | (simp [execOp, go_sem, h2]; done)) ?_
                simp only [Act.put, List.setIfInBounds_toArray, List.set_cons_succ, List.set_cons_zero]
                refine WG.put rfl (v := (.pointer (some ⟨b9, 2, none⟩))) (fun w => by first | rfl | (go_simp; done) | (simp [execOp, go_sem]; done) | (simp [execOp, go_sem, h2]; done)) ?_
                simp only [Act.put, List.setIfInBounds_toArray, List.set_cons_succ, List.set_cons_zero]
                refine WG.cell rfl 3 _ rfl rfl cxi ld3 ?_
                simp only [Act.put, List.setIfInBounds_toArray, List.set_cons_succ, List.set_cons_zero]
                refine WG.put rfl (v := (.pointer (some ⟨b10, 2, none⟩))) (fun w => by first | rfl | (go_simp; done) | (simp [execOp, go_sem]; done) | (simp [execOp, go_sem, h2]; done)) ?_
                simp only [Act.put, List.setIfInBounds_toArray, List.set_cons_succ, List.set_cons_zero]
                refine WG.cell rfl 3 _ rfl rfl cyi ld3 ?_
                simp only [Act.put, List.setIfInBounds_toArray, List.set_cons_succ, List.set_cons_zero]
                refine WG.put rfl (v := (.bool true)) (fun w => by first | rfl | (go_simp; done) | (simp [execOp, go_sem]; done) | (simp [execOp, go_sem, h2]; done)) ?_
                simp only [Act.put, List.setIfInBounds_toArray, List.set_cons_succ, List.set_cons_zero]
                refine WG.put rfl (v := (.bool true)) (fun w => by first | rfl | (go_simp; done) | (simp [execOp, go_sem]; done) | (simp [execOp, go_sem, h2]; done)) ?_
                simp only [Act.put, List.setIfInBounds_toArray, List.set_cons_succ, List.set_cons_zero]
                refine WG.put rfl (v := (.bool true)) (fun w => by first | rfl | (go_simp; done) | (simp [execOp, go_sem]; done) | (simp [execOp, go_sem, h2]; done)) ?_
                simp only [Act.put, List.setIfInBounds_toArray, List.set_cons_succ, List.set_cons_zero]
                refine WG.row rfl 32 _ rfl rfl QX (evL x) rfl _ Tryd.underlying32 rfl infoEv ?_
                simp only [Act.put, List.setIfInBounds_toArray, List.set_cons_succ, List.set_cons_zero]
                refine WG.call rfl (fun w' _ => crx w') (fun w => by first | rfl | (go_simp; done) | (simp [execOp, go_sem]; done)) ?_
                simp only [Act.put, List.setIfInBounds_toArray, List.set_cons_succ, List.set_cons_zero]
                refine WG.put rfl (v := (.bool false)) (fun w => by first | rfl | (go_simp; done) | (simp [execOp, go_sem]; done) | (simp [execOp, go_sem, h2]; done)) ?_
                simp only [Act.put, List.setIfInBounds_toArray, List.set_cons_succ, List.set_cons_zero]
                refine WG.put rfl (v := (.bool false)) (fun w => by first | rfl | (go_simp; done) | (simp [execOp, go_sem]; done) | (simp [execOp, go_sem, h2]; done)) ?_
                simp only [Act.put, List.setIfInBounds_toArray, List.set_cons_succ, List.set_cons_zero]
                refine WG.skip rfl ?_
                simp only [Act.put, List.setIfInBounds_toArray, List.set_cons_succ, List.set_cons_zero]
                refine WG.skip rfl ?_
                simp only [Act.put, List.setIfInBounds_toArray, List.set_cons_succ, List.set_cons_zero]
                refine WG.put rfl (v := (.bool false)) (fun w => by first | rfl | (go_simp; done) | (simp [execOp, go_sem]; done) | (simp [execOp, go_sem, h2]; done)) ?_
                simp only [Act.put, List.setIfInBounds_toArray, List.set_cons_succ, List.set_cons_zero]
                refine WG.put rfl (v := (.bool false)) (fun w => by first | rfl | (go_simp; done) | (simp [execOp, go_sem]; done) | (simp [execOp, go_sem, h2]; done)) ?_
                simp only [Act.put, List.setIfInBounds_toArray, List.set_cons_succ, List.set_cons_zero]
                refine WG.skip rfl ?_
                simp only [Act.put, List.setIfInBounds_toArray, List.set_cons_succ, List.set_cons_zero]
                refine WG.skip rfl ?_
                simp only [Act.put, List.setIfInBounds_toArray, List.set_cons_succ, List.set_cons_zero]
                refine WG.put rfl (v := (.bool false)) (fun w => by first | rfl | (go_simp; done) | (simp [execOp, go_sem]; done) | (simp [execOp, go_sem, h2]; done)) ?_
                simp only [Act.put, List.setIfInBounds_toArray, List.set_cons_succ, List.set_cons_zero]
                refine WG.put rfl (v := (.bool false)) (fun w => by first | rfl | (go_simp; done) | (simp [execOp, go_sem]; done) | (simp [execOp, go_sem, h2]; done)) ?_
                simp only [Act.put, List.setIfInBounds_toArray, List.set_cons_succ, List.set_cons_zero]
                refine WG.skip rfl ?_
                simp only [Act.put, List.setIfInBounds_toArray, List.set_cons_succ, List.set_cons_zero]
                refine WG.skip rfl ?_
                simp only [Act.put, List.setIfInBounds_toArray, List.set_cons_succ, List.set_cons_zero]
                refine WG.put rfl (v := (.bool false)) (fun w => by first | rfl | (go_simp; done) | (simp [execOp, go_sem]; done) | (simp [execOp, go_sem, h2]; done)) ?_
                simp only [Act.put, List.setIfInBounds_toArray, List.set_cons_succ, List.set_cons_zero]
                refine WG.put rfl (v := (.bool false)) (fun w => by first | rfl | (go_simp; done) | (simp [execOp, go_sem]; done) | (simp [execOp, go_sem, h2]; done)) ?_
                simp only [Act.put, List.setIfInBounds_toArray, List.set_cons_succ, List.set_cons_zero]
                refine WG.skip rfl ?_
                simp only [Act.put, List.setIfInBounds_toArray, List.set_cons_succ, List.set_cons_zero]
                refine WG.skip rfl ?_
                simp only [Act.put, List.setIfInBounds_toArray, List.set_cons_succ, List.set_cons_zero]
                refine WG.skip rfl ?_
                simp only [Act.put, List.setIfInBounds_toArray, List.set_cons_succ, List.set_cons_zero]
                refine WG.put rfl (v := (.bool false)) (fun w => by first | rfl | (go_simp; done) | (simp [execOp, go_sem]; done) | (simp [execOp, go_sem, h2]; done)) ?_
                simp only [Act.put, List.setIfInBounds_toArray, List.set_cons_succ, List.set_cons_zero]
                refine WG.put rfl (v := (.bool false)) (fun w => by first | rfl | (go_simp; done) | (simp [execOp, go_sem]; done) | (simp [execOp, go_sem, h2]; done)) ?_
                simp only [Act.put, List.setIfInBounds_toArray, List.set_cons_succ, List.set_cons_zero]
                refine WG.nil (fun w8 hw8 => ?_)
                go_wp2
                go_ret
                exact ⟨ret_bool (by rw [HV.out]; simp [h2]), Below.then BB hw8⟩
              · cases v4
                · refine grow_region ?_
                  refine WG.put rfl (v := (.bool true)) (fun w => by first | rfl | (go_simp; done) | (simp [execOp, go_sem]; done) | (simp [execOp, go_sem, h2]; done)) ?_
                  simp only [Act.put, List.setIfInBounds_toArray, List.set_cons_succ, List.set_cons_zero]
                  refine WG.put rfl (v := (.bool true)) (fun w => by first | rfl | (go_simp; done) | (simp [execOp, go_sem]; done) | (simp [execOp, go_sem, h2]; done)) ?_
                  simp only [Act.put, List.setIfInBounds_toArray, List.set_cons_succ, List.set_cons_zero]
                  refine WG.put rfl (v := (.pointer (some ⟨b9, 2, none⟩))) (fun w => by first | rfl | (go_simp; done) | (simp [execOp, go_sem]; done) | (simp [execOp, go_sem, h2]; done)) ?_
                  simp only [Act.put, List.setIfInBounds_toArray, List.set_cons_succ, List.set_cons_zero]
                  refine WG.cell rfl 3 _ rfl rfl cxi ld3 ?_
                  simp only [Act.put, List.setIfInBounds_toArray, List.set_cons_succ, List.set_cons_zero]
                  refine WG.put rfl (v := (.pointer (some ⟨b10, 2, none⟩))) (fun w => by first | rfl | (go_simp; done) | (simp [execOp, go_sem]; done) | (simp [execOp, go_sem, h2]; done)) ?_
                  simp only [Act.put, List.setIfInBounds_toArray, List.set_cons_succ, List.set_cons_zero]
                  refine WG.cell rfl 3 _ rfl rfl cyi ld3 ?_
                  simp only [Act.put, List.setIfInBounds_toArray, List.set_cons_succ, List.set_cons_zero]
                  refine WG.put rfl (v := (.bool true)) (fun w => by first | rfl | (go_simp; done) | (simp [execOp, go_sem]; done) | (simp [execOp, go_sem, h2]; done)) ?_
                  simp only [Act.put, List.setIfInBounds_toArray, List.set_cons_succ, List.set_cons_zero]
                  refine WG.put rfl (v := (.bool true)) (fun w => by first | rfl | (go_simp; done) | (simp [execOp, go_sem]; done) | (simp [execOp, go_sem, h2]; done)) ?_
                  simp only [Act.put, List.setIfInBounds_toArray, List.set_cons_succ, List.set_cons_zero]
                  refine WG.put rfl (v := (.bool true)) (fun w => by first | rfl | (go_simp; done) | (simp [execOp, go_sem]; done) | (simp [execOp, go_sem, h2]; done)) ?_
                  simp only [Act.put, List.setIfInBounds_toArray, List.set_cons_succ, List.set_cons_zero]
                  refine WG.row rfl 32 _ rfl rfl QX (evL x) rfl _ Tryd.underlying32 rfl infoEv ?_
                  simp only [Act.put, List.setIfInBounds_toArray, List.set_cons_succ, List.set_cons_zero]
                  refine WG.call rfl (fun w' _ => crx w') (fun w => by first | rfl | (go_simp; done) | (simp [execOp, go_sem]; done)) ?_
                  simp only [Act.put, List.setIfInBounds_toArray, List.set_cons_succ, List.set_cons_zero]
                  refine WG.put rfl (v := (.bool true)) (fun w => by first | rfl | (go_simp; done) | (simp [execOp, go_sem]; done) | (simp [execOp, go_sem, h2]; done)) ?_
                  simp only [Act.put, List.setIfInBounds_toArray, List.set_cons_succ, List.set_cons_zero]
                  refine WG.put rfl (v := (.bool true)) (fun w => by first | rfl | (go_simp; done) | (simp [execOp, go_sem]; done) | (simp [execOp, go_sem, h2]; done)) ?_
                  simp only [Act.put, List.setIfInBounds_toArray, List.set_cons_succ, List.set_cons_zero]
                  refine WG.row rfl 32 _ rfl rfl QY (evL y) rfl _ Tryd.underlying32 rfl infoEv ?_
                  simp only [Act.put, List.setIfInBounds_toArray, List.set_cons_succ, List.set_cons_zero]
                  refine WG.call rfl (fun w' _ => cwy w') (fun w => by first | rfl | (go_simp; done) | (simp [execOp, go_sem]; done)) ?_
                  simp only [Act.put, List.setIfInBounds_toArray, List.set_cons_succ, List.set_cons_zero]
                  refine WG.put rfl (v := (.bool false)) (fun w => by first | rfl | (go_simp; done) | (simp [execOp, go_sem]; done) | (simp [execOp, go_sem, h2]; done)) ?_
                  simp only [Act.put, List.setIfInBounds_toArray, List.set_cons_succ, List.set_cons_zero]
                  refine WG.put rfl (v := (.bool false)) (fun w => by first | rfl | (go_simp; done) | (simp [execOp, go_sem]; done) | (simp [execOp, go_sem, h2]; done)) ?_
                  simp only [Act.put, List.setIfInBounds_toArray, List.set_cons_succ, List.set_cons_zero]
                  refine WG.skip rfl ?_
                  simp only [Act.put, List.setIfInBounds_toArray, List.set_cons_succ, List.set_cons_zero]
                  refine WG.skip rfl ?_
                  simp only [Act.put, List.setIfInBounds_toArray, List.set_cons_succ, List.set_cons_zero]
                  refine WG.put rfl (v := (.bool false)) (fun w => by first | rfl | (go_simp; done) | (simp [execOp, go_sem]; done) | (simp [execOp, go_sem, h2]; done)) ?_
                  simp only [Act.put, List.setIfInBounds_toArray, List.set_cons_succ, List.set_cons_zero]
                  refine WG.put rfl (v := (.bool false)) (fun w => by first | rfl | (go_simp; done) | (simp [execOp, go_sem]; done) | (simp [execOp, go_sem, h2]; done)) ?_
                  simp only [Act.put, List.setIfInBounds_toArray, List.set_cons_succ, List.set_cons_zero]
                  refine WG.skip rfl ?_
                  simp only [Act.put, List.setIfInBounds_toArray, List.set_cons_succ, List.set_cons_zero]
                  refine WG.skip rfl ?_
                  simp only [Act.put, List.setIfInBounds_toArray, List.set_cons_succ, List.set_cons_zero]
                  refine WG.put rfl (v := (.bool false)) (fun w => by first | rfl | (go_simp; done) | (simp [execOp, go_sem]; done) | (simp [execOp, go_sem, h2]; done)) ?_
                  simp only [Act.put, List.setIfInBounds_toArray, List.set_cons_succ, List.set_cons_zero]
                  refine WG.put rfl (v := (.bool false)) (fun w => by first | rfl | (go_simp; done) | (simp [execOp, go_sem]; done) | (simp [execOp, go_sem, h2]; done)) ?_
                  simp only [Act.put, List.setIfInBounds_toArray, List.set_cons_succ, List.set_cons_zero]
                  refine WG.skip rfl ?_
                  simp only [Act.put, List.setIfInBounds_toArray, List.set_cons_succ, List.set_cons_zero]
                  refine WG.skip rfl ?_
                  simp only [Act.put, List.setIfInBounds_toArray, List.set_cons_succ, List.set_cons_zero]
                  refine WG.skip rfl ?_
                  simp only [Act.put, List.setIfInBounds_toArray, List.set_cons_succ, List.set_cons_zero]
                  refine WG.put rfl (v := (.bool false)) (fun w => by first | rfl | (go_simp; done) | (simp [execOp, go_sem]; done) | (simp [execOp, go_sem, h2]; done)) ?_
                  simp only [Act.put, List.setIfInBounds_toArray, List.set_cons_succ, List.set_cons_zero]
                  refine WG.put rfl (v := (.bool false)) (fun w => by first | rfl | (go_simp; done) | (simp [execOp, go_sem]; done) | (simp [execOp, go_sem, h2]; done)) ?_
                  simp only [Act.put, List.setIfInBounds_toArray, List.set_cons_succ, List.set_cons_zero]
                  refine WG.nil (fun w8 hw8 => ?_)
                  go_wp2
                  go_ret
                  exact ⟨ret_bool (by rw [HV.out]; simp [h2]), Below.then BB hw8⟩
                · cases hlx : x.lck
                  · rw [hlx] at cxl
                    refine grow_region ?_
                    refine WG.put rfl (v := (.bool true)) (fun w => by first | rfl | (go_simp; done) | (simp [execOp, go_sem]; done) | (simp [execOp, go_sem, h2]; done) | (simp [execOp, go_sem, hlx]; done)) ?_
                    simp only [Act.put, List.setIfInBounds_toArray, List.set_cons_succ, List.set_cons_zero]
                    refine WG.put rfl (v := (.bool true)) (fun w => by first | rfl | (go_simp; done) | (simp [execOp, go_sem]; done) | (simp [execOp, go_sem, h2]; done) | (simp [execOp, go_sem, hlx]; done)) ?_
                    simp only [Act.put, List.setIfInBounds_toArray, List.set_cons_succ, List.set_cons_zero]
                    refine WG.put rfl (v := (.pointer (some ⟨b9, 2, none⟩))) (fun w => by first | rfl | (go_simp; done) | (simp [execOp, go_sem]; done) | (simp [execOp, go_sem, h2]; done) | (simp [execOp, go_sem, hlx]; done)) ?_
                    simp only [Act.put, List.setIfInBounds_toArray, List.set_cons_succ, List.set_cons_zero]
                    refine WG.cell rfl 3 _ rfl rfl cxi ld3 ?_
                    simp only [Act.put, List.setIfInBounds_toArray, List.set_cons_succ, List.set_cons_zero]
                    refine WG.put rfl (v := (.pointer (some ⟨b10, 2, none⟩))) (fun w => by first | rfl | (go_simp; done) | (simp [execOp, go_sem]; done) | (simp [execOp, go_sem, h2]; done) | (simp [execOp, go_sem, hlx]; done)) ?_
                    simp only [Act.put, List.setIfInBounds_toArray, List.set_cons_succ, List.set_cons_zero]
                    refine WG.cell rfl 3 _ rfl rfl cyi ld3 ?_
                    simp only [Act.put, List.setIfInBounds_toArray, List.set_cons_succ, List.set_cons_zero]
                    refine WG.put rfl (v := (.bool true)) (fun w => by first | rfl | (go_simp; done) | (simp [execOp, go_sem]; done) | (simp [execOp, go_sem, h2]; done) | (simp [execOp, go_sem, hlx]; done)) ?_
                    simp only [Act.put, List.setIfInBounds_toArray, List.set_cons_succ, List.set_cons_zero]
                    refine WG.put rfl (v := (.bool true)) (fun w => by first | rfl | (go_simp; done) | (simp [execOp, go_sem]; done) | (simp [execOp, go_sem, h2]; done) | (simp [execOp, go_sem, hlx]; done)) ?_
                    simp only [Act.put, List.setIfInBounds_toArray, List.set_cons_succ, List.set_cons_zero]
                    refine WG.put rfl (v := (.bool true)) (fun w => by first | rfl | (go_simp; done) | (simp [execOp, go_sem]; done) | (simp [execOp, go_sem, h2]; done) | (simp [execOp, go_sem, hlx]; done)) ?_
                    simp only [Act.put, List.setIfInBounds_toArray, List.set_cons_succ, List.set_cons_zero]
                    refine WG.row rfl 32 _ rfl rfl QX (evL x) rfl _ Tryd.underlying32 rfl infoEv ?_
                    simp only [Act.put, List.setIfInBounds_toArray, List.set_cons_succ, List.set_cons_zero]
                    refine WG.call rfl (fun w' _ => crx w') (fun w => by first | rfl | (go_simp; done) | (simp [execOp, go_sem]; done)) ?_
                    simp only [Act.put, List.setIfInBounds_toArray, List.set_cons_succ, List.set_cons_zero]
                    refine WG.put rfl (v := (.bool true)) (fun w => by first | rfl | (go_simp; done) | (simp [execOp, go_sem]; done) | (simp [execOp, go_sem, h2]; done) | (simp [execOp, go_sem, hlx]; done)) ?_
                    simp only [Act.put, List.setIfInBounds_toArray, List.set_cons_succ, List.set_cons_zero]
                    refine WG.put rfl (v := (.bool true)) (fun w => by first | rfl | (go_simp; done) | (simp [execOp, go_sem]; done) | (simp [execOp, go_sem, h2]; done) | (simp [execOp, go_sem, hlx]; done)) ?_
                    simp only [Act.put, List.setIfInBounds_toArray, List.set_cons_succ, List.set_cons_zero]
                    refine WG.row rfl 32 _ rfl rfl QY (evL y) rfl _ Tryd.underlying32 rfl infoEv ?_
                    simp only [Act.put, List.setIfInBounds_toArray, List.set_cons_succ, List.set_cons_zero]
                    refine WG.call rfl (fun w' _ => cwy w') (fun w => by first | rfl | (go_simp; done) | (simp [execOp, go_sem]; done)) ?_
                    simp only [Act.put, List.setIfInBounds_toArray, List.set_cons_succ, List.set_cons_zero]
                    refine WG.put rfl (v := (.bool true)) (fun w => by first | rfl | (go_simp; done) | (simp [execOp, go_sem]; done) | (simp [execOp, go_sem, h2]; done) | (simp [execOp, go_sem, hlx]; done)) ?_
                    simp only [Act.put, List.setIfInBounds_toArray, List.set_cons_succ, List.set_cons_zero]
                    refine WG.put rfl (v := (.bool true)) (fun w => by first | rfl | (go_simp; done) | (simp [execOp, go_sem]; done) | (simp [execOp, go_sem, h2]; done) | (simp [execOp, go_sem, hlx]; done)) ?_
                    simp only [Act.put, List.setIfInBounds_toArray, List.set_cons_succ, List.set_cons_zero]
                    refine WG.put rfl (v := (.pointer (some ⟨b9, 4, none⟩))) (fun w => by first | rfl | (go_simp; done) | (simp [execOp, go_sem]; done) | (simp [execOp, go_sem, h2]; done) | (simp [execOp, go_sem, hlx]; done)) ?_
                    simp only [Act.put, List.setIfInBounds_toArray, List.set_cons_succ, List.set_cons_zero]
                    refine WG.cell rfl 4 _ rfl rfl cxl ld4 ?_
                    simp only [Act.put, List.setIfInBounds_toArray, List.set_cons_succ, List.set_cons_zero]
                    refine WG.put rfl (v := (.bool false)) (fun w => by first | rfl | (go_simp; done) | (simp [execOp, go_sem]; done) | (simp [execOp, go_sem, h2]; done) | (simp [execOp, go_sem, hlx]; done)) ?_
                    simp only [Act.put, List.setIfInBounds_toArray, List.set_cons_succ, List.set_cons_zero]
                    refine WG.put rfl (v := (.bool false)) (fun w => by first | rfl | (go_simp; done) | (simp [execOp, go_sem]; done) | (simp [execOp, go_sem, h2]; done) | (simp [execOp, go_sem, hlx]; done)) ?_
                    simp only [Act.put, List.setIfInBounds_toArray, List.set_cons_succ, List.set_cons_zero]
                    refine WG.skip rfl ?_
                    simp only [Act.put, List.setIfInBounds_toArray, List.set_cons_succ, List.set_cons_zero]
                    refine WG.skip rfl ?_
                    simp only [Act.put, List.setIfInBounds_toArray, List.set_cons_succ, List.set_cons_zero]
                    refine WG.put rfl (v := (.bool false)) (fun w => by first | rfl | (go_simp; done) | (simp [execOp, go_sem]; done) | (simp [execOp, go_sem, h2]; done) | (simp [execOp, go_sem, hlx]; done)) ?_
                    simp only [Act.put, List.setIfInBounds_toArray, List.set_cons_succ, List.set_cons_zero]
                    refine WG.put rfl (v := (.bool false)) (fun w => by first | rfl | (go_simp; done) | (simp [execOp, go_sem]; done) | (simp [execOp, go_sem, h2]; done) | (simp [execOp, go_sem, hlx]; done)) ?_
                    simp only [Act.put, List.setIfInBounds_toArray, List.set_cons_succ, List.set_cons_zero]
                    refine WG.skip rfl ?_
                    simp only [Act.put, List.setIfInBounds_toArray, List.set_cons_succ, List.set_cons_zero]
                    refine WG.skip rfl ?_
                    simp only [Act.put, List.setIfInBounds_toArray, List.set_cons_succ, List.set_cons_zero]
                    refine WG.skip rfl ?_
                    simp only [Act.put, List.setIfInBounds_toArray, List.set_cons_succ, List.set_cons_zero]
                    refine WG.put rfl (v := (.bool false)) (fun w => by first | rfl | (go_simp; done) | (simp [execOp, go_sem]; done) | (simp [execOp, go_sem, h2]; done) | (simp [execOp, go_sem, hlx]; done)) ?_
                    simp only [Act.put, List.setIfInBounds_toArray, List.set_cons_succ, List.set_cons_zero]
                    refine WG.put rfl (v := (.bool false)) (fun w => by first | rfl | (go_simp; done) | (simp [execOp, go_sem]; done) | (simp [execOp, go_sem, h2]; done) | (simp [execOp, go_sem, hlx]; done)) ?_
                    simp only [Act.put, List.setIfInBounds_toArray, List.set_cons_succ, List.set_cons_zero]
                    refine WG.nil (fun w8 hw8 => ?_)
                    go_wp2
                    go_ret
                    exact ⟨ret_bool (by rw [HV.out]; simp [h2, hlx]), Below.then BB hw8⟩
                  · rw [hlx] at cxl
                    cases hly : y.lck
                    · rw [hly] at cyl
                      refine grow_region ?_
                      refine WG.put rfl (v := (.bool true)) (fun w => by first | rfl | (go_simp; done) | (simp [execOp, go_sem]; done) | (simp [execOp, go_sem, h2]; done) | (simp [execOp, go_sem, hlx]; done) | (simp [execOp, go_sem, hly]; done)) ?_
                      simp only [Act.put, List.setIfInBounds_toArray, List.set_cons_succ, List.set_cons_zero]
                      refine WG.put rfl (v := (.bool true)) (fun w => by first | rfl | (go_simp; done) | (simp [execOp, go_sem]; done) | (simp [execOp, go_sem, h2]; done) | (simp [execOp, go_sem, hlx]; done) | (simp [execOp, go_sem, hly]; done)) ?_
                      simp only [Act.put, List.setIfInBounds_toArray, List.set_cons_succ, List.set_cons_zero]
                      refine WG.put rfl (v := (.pointer (some ⟨b9, 2, none⟩))) (fun w => by first | rfl | (go_simp; done) | (simp [execOp, go_sem]; done) | (simp [execOp, go_sem, h2]; done) | (simp [execOp, go_sem, hlx]; done) | (simp [execOp, go_sem, hly]; done)) ?_
                      simp only [Act.put, List.setIfInBounds_toArray, List.set_cons_succ, List.set_cons_zero]
                      refine WG.cell rfl 3 _ rfl rfl cxi ld3 ?_
                      simp only [Act.put, List.setIfInBounds_toArray, List.set_cons_succ, List.set_cons_zero]
                      refine WG.put rfl (v := (.pointer (some ⟨b10, 2, none⟩))) (fun w => by first | rfl | (go_simp; done) | (simp [execOp, go_sem]; done) | (simp [execOp, go_sem, h2]; done) | (simp [execOp, go_sem, hlx]; done) | (simp [execOp, go_sem, hly]; done)) ?_
                      simp only [Act.put, List.setIfInBounds_toArray, List.set_cons_succ, List.set_cons_zero]
                      refine WG.cell rfl 3 _ rfl rfl cyi ld3 ?_
                      simp only [Act.put, List.setIfInBounds_toArray, List.set_cons_succ, List.set_cons_zero]
                      refine WG.put rfl (v := (.bool true)) (fun w => by first | rfl | (go_simp; done) | (simp [execOp, go_sem]; done) | (simp [execOp, go_sem, h2]; done) | (simp [execOp, go_sem, hlx]; done) | (simp [execOp, go_sem, hly]; done)) ?_
                      simp only [Act.put, List.setIfInBounds_toArray, List.set_cons_succ, List.set_cons_zero]
                      refine WG.put rfl (v := (.bool true)) (fun w => by first | rfl | (go_simp; done) | (simp [execOp, go_sem]; done) | (simp [execOp, go_sem, h2]; done) | (simp [execOp, go_sem, hlx]; done) | (simp [execOp, go_sem, hly]; done)) ?_
                      simp only [Act.put, List.setIfInBounds_toArray, List.set_cons_succ, List.set_cons_zero]
                      refine WG.put rfl (v := (.bool true)) (fun w => by first | rfl | (go_simp; done) | (simp [execOp, go_sem]; done) | (simp [execOp, go_sem, h2]; done) | (simp [execOp, go_sem, hlx]; done) | (simp [execOp, go_sem, hly]; done)) ?_
                      simp only [Act.put, List.setIfInBounds_toArray, List.set_cons_succ, List.set_cons_zero]
                      refine WG.row rfl 32 _ rfl rfl QX (evL x) rfl _ Tryd.underlying32 rfl infoEv ?_
                      simp only [Act.put, List.setIfInBounds_toArray, List.set_cons_succ, List.set_cons_zero]
                      refine WG.call rfl (fun w' _ => crx w') (fun w => by first | rfl | (go_simp; done) | (simp [execOp, go_sem]; done)) ?_
                      simp only [Act.put, List.setIfInBounds_toArray, List.set_cons_succ, List.set_cons_zero]
                      refine WG.put rfl (v := (.bool true)) (fun w => by first | rfl | (go_simp; done) | (simp [execOp, go_sem]; done) | (simp [execOp, go_sem, h2]; done) | (simp [execOp, go_sem, hlx]; done) | (simp [execOp, go_sem, hly]; done)) ?_
                      simp only [Act.put, List.setIfInBounds_toArray, List.set_cons_succ, List.set_cons_zero]
                      refine WG.put rfl (v := (.bool true)) (fun w => by first | rfl | (go_simp; done) | (simp [execOp, go_sem]; done) | (simp [execOp, go_sem, h2]; done) | (simp [execOp, go_sem, hlx]; done) | (simp [execOp, go_sem, hly]; done)) ?_
                      simp only [Act.put, List.setIfInBounds_toArray, List.set_cons_succ, List.set_cons_zero]
                      refine WG.row rfl 32 _ rfl rfl QY (evL y) rfl _ Tryd.underlying32 rfl infoEv ?_
                      simp only [Act.put, List.setIfInBounds_toArray, List.set_cons_succ, List.set_cons_zero]
                      refine WG.call rfl (fun w' _ => cwy w') (fun w => by first | rfl | (go_simp; done) | (simp [execOp, go_sem]; done)) ?_
                      simp only [Act.put, List.setIfInBounds_toArray, List.set_cons_succ, List.set_cons_zero]
                      refine WG.put rfl (v := (.bool true)) (fun w => by first | rfl | (go_simp; done) | (simp [execOp, go_sem]; done) | (simp [execOp, go_sem, h2]; done) | (simp [execOp, go_sem, hlx]; done) | (simp [execOp, go_sem, hly]; done)) ?_
                      simp only [Act.put, List.setIfInBounds_toArray, List.set_cons_succ, List.set_cons_zero]
                      refine WG.put rfl (v := (.bool true)) (fun w => by first | rfl | (go_simp; done) | (simp [execOp, go_sem]; done) | (simp [execOp, go_sem, h2]; done) | (simp [execOp, go_sem, hlx]; done) | (simp [execOp, go_sem, hly]; done)) ?_
                      simp only [Act.put, List.setIfInBounds_toArray, List.set_cons_succ, List.set_cons_zero]
                      refine WG.put rfl (v := (.pointer (some ⟨b9, 4, none⟩))) (fun w => by first | rfl | (go_simp; done) | (simp [execOp, go_sem]; done) | (simp [execOp, go_sem, h2]; done) | (simp [execOp, go_sem, hlx]; done) | (simp [execOp, go_sem, hly]; done)) ?_
                      simp only [Act.put, List.setIfInBounds_toArray, List.set_cons_succ, List.set_cons_zero]
                      refine WG.cell rfl 4 _ rfl rfl cxl ld4 ?_
                      simp only [Act.put, List.setIfInBounds_toArray, List.set_cons_succ, List.set_cons_zero]
                      refine WG.put rfl (v := (.bool true)) (fun w => by first | rfl | (go_simp; done) | (simp [execOp, go_sem]; done) | (simp [execOp, go_sem, h2]; done) | (simp [execOp, go_sem, hlx]; done) | (simp [execOp, go_sem, hly]; done)) ?_
                      simp only [Act.put, List.setIfInBounds_toArray, List.set_cons_succ, List.set_cons_zero]
                      refine WG.put rfl (v := (.bool true)) (fun w => by first | rfl | (go_simp; done) | (simp [execOp, go_sem]; done) | (simp [execOp, go_sem, h2]; done) | (simp [execOp, go_sem, hlx]; done) | (simp [execOp, go_sem, hly]; done)) ?_
                      simp only [Act.put, List.setIfInBounds_toArray, List.set_cons_succ, List.set_cons_zero]
                      refine WG.put rfl (v := (.pointer (some ⟨b10, 4, none⟩))) (fun w => by first | rfl | (go_simp; done) | (simp [execOp, go_sem]; done) | (simp [execOp, go_sem, h2]; done) | (simp [execOp, go_sem, hlx]; done) | (simp [execOp, go_sem, hly]; done)) ?_
                      simp only [Act.put, List.setIfInBounds_toArray, List.set_cons_succ, List.set_cons_zero]
                      refine WG.cell rfl 4 _ rfl rfl cyl ld4 ?_
                      simp only [Act.put, List.setIfInBounds_toArray, List.set_cons_succ, List.set_cons_zero]
                      refine WG.put rfl (v := (.bool false)) (fun w => by first | rfl | (go_simp; done) | (simp [execOp, go_sem]; done) | (simp [execOp, go_sem, h2]; done) | (simp [execOp, go_sem, hlx]; done) | (simp [execOp, go_sem, hly]; done)) ?_
                      simp only [Act.put, List.setIfInBounds_toArray, List.set_cons_succ, List.set_cons_zero]
                      refine WG.put rfl (v := (.bool false)) (fun w => by first | rfl | (go_simp; done) | (simp [execOp, go_sem]; done) | (simp [execOp, go_sem, h2]; done) | (simp [execOp, go_sem, hlx]; done) | (simp [execOp, go_sem, hly]; done)) ?_
                      simp only [Act.put, List.setIfInBounds_toArray, List.set_cons_succ, List.set_cons_zero]
                      refine WG.skip rfl ?_
                      simp only [Act.put, List.setIfInBounds_toArray, List.set_cons_succ, List.set_cons_zero]
                      refine WG.skip rfl ?_
                      simp only [Act.put, List.setIfInBounds_toArray, List.set_cons_succ, List.set_cons_zero]
                      refine WG.skip rfl ?_
                      simp only [Act.put, List.setIfInBounds_toArray, List.set_cons_succ, List.set_cons_zero]
                      refine WG.put rfl (v := (.bool false)) (fun w => by first | rfl | (go_simp; done) | (simp [execOp, go_sem]; done) | (simp [execOp, go_sem, h2]; done) | (simp [execOp, go_sem, hlx]; done) | (simp [execOp, go_sem, hly]; done)) ?_
                      simp only [Act.put, List.setIfInBounds_toArray, List.set_cons_succ, List.set_cons_zero]
                      refine WG.put rfl (v := (.bool false)) (fun w => by first | rfl | (go_simp; done) | (simp [execOp, go_sem]; done) | (simp [execOp, go_sem, h2]; done) | (simp [execOp, go_sem, hlx]; done) | (simp [execOp, go_sem, hly]; done)) ?_
                      simp only [Act.put, List.setIfInBounds_toArray, List.set_cons_succ, List.set_cons_zero]
                      refine WG.nil (fun w8 hw8 => ?_)
                      go_wp2
                      go_ret
                      exact ⟨ret_bool (by rw [HV.out]; simp [h2, hlx, hly]), Below.then BB hw8⟩
                    · rw [hly] at cyl
                      by_cases h7 : p < q
                      · refine grow_region ?_
                        refine WG.put rfl (v := (.bool true)) (fun w => by first | rfl | (go_simp; done) | (simp [execOp, go_sem]; done) | (simp [execOp, go_sem, h2]; done) | (simp [execOp, go_sem, hlx]; done) | (simp [execOp, go_sem, hly]; done) | (simp [execOp, go_sem, h7]; done)) ?_
                        simp only [Act.put, List.setIfInBounds_toArray, List.set_cons_succ, List.set_cons_zero]
                        refine WG.put rfl (v := (.bool true)) (fun w => by first | rfl | (go_simp; done) | (simp [execOp, go_sem]; done) | (simp [execOp, go_sem, h2]; done) | (simp [execOp, go_sem, hlx]; done) | (simp [execOp, go_sem, hly]; done) | (simp [execOp, go_sem, h7]; done)) ?_
                        simp only [Act.put, List.setIfInBounds_toArray, List.set_cons_succ, List.set_cons_zero]
                        refine WG.put rfl (v := (.pointer (some ⟨b9, 2, none⟩))) (fun w => by first | rfl | (go_simp; done) | (simp [execOp, go_sem]; done) | (simp [execOp, go_sem, h2]; done) | (simp [execOp, go_sem, hlx]; done) | (simp [execOp, go_sem, hly]; done) | (simp [execOp, go_sem, h7]; done)) ?_
                        simp only [Act.put, List.setIfInBounds_toArray, List.set_cons_succ, List.set_cons_zero]
                        refine WG.cell rfl 3 _ rfl rfl cxi ld3 ?_
                        simp only [Act.put, List.setIfInBounds_toArray, List.set_cons_succ, List.set_cons_zero]
                        refine WG.put rfl (v := (.pointer (some ⟨b10, 2, none⟩))) (fun w => by first | rfl | (go_simp; done) | (simp [execOp, go_sem]; done) | (simp [execOp, go_sem, h2]; done) | (simp [execOp, go_sem, hlx]; done) | (simp [execOp, go_sem, hly]; done) | (simp [execOp, go_sem, h7]; done)) ?_
                        simp only [Act.put, List.setIfInBounds_toArray, List.set_cons_succ, List.set_cons_zero]
                        refine WG.cell rfl 3 _ rfl rfl cyi ld3 ?_
                        simp only [Act.put, List.setIfInBounds_toArray, List.set_cons_succ, List.set_cons_zero]
                        refine WG.put rfl (v := (.bool true)) (fun w => by first | rfl | (go_simp; done) | (simp [execOp, go_sem]; done) | (simp [execOp, go_sem, h2]; done) | (simp [execOp, go_sem, hlx]; done) | (simp [execOp, go_sem, hly]; done) | (simp [execOp, go_sem, h7]; done)) ?_
                        simp only [Act.put, List.setIfInBounds_toArray, List.set_cons_succ, List.set_cons_zero]
                        refine WG.put rfl (v := (.bool true)) (fun w => by first | rfl | (go_simp; done) | (simp [execOp, go_sem]; done) | (simp [execOp, go_sem, h2]; done) | (simp [execOp, go_sem, hlx]; done) | (simp [execOp, go_sem, hly]; done) | (simp [execOp, go_sem, h7]; done)) ?_
                        simp only [Act.put, List.setIfInBounds_toArray, List.set_cons_succ, List.set_cons_zero]
                        refine WG.put rfl (v := (.bool true)) (fun w => by first | rfl | (go_simp; done) | (simp [execOp, go_sem]; done) | (simp [execOp, go_sem, h2]; done) | (simp [execOp, go_sem, hlx]; done) | (simp [execOp, go_sem, hly]; done) | (simp [execOp, go_sem, h7]; done)) ?_
                        simp only [Act.put, List.setIfInBounds_toArray, List.set_cons_succ, List.set_cons_zero]
                        refine WG.row rfl 32 _ rfl rfl QX (evL x) rfl _ Tryd.underlying32 rfl infoEv ?_
                        simp only [Act.put, List.setIfInBounds_toArray, List.set_cons_succ, List.set_cons_zero]
                        refine WG.call rfl (fun w' _ => crx w') (fun w => by first | rfl | (go_simp; done) | (simp [execOp, go_sem]; done)) ?_
                        simp only [Act.put, List.setIfInBounds_toArray, List.set_cons_succ, List.set_cons_zero]
                        refine WG.put rfl (v := (.bool true)) (fun w => by first | rfl | (go_simp; done) | (simp [execOp, go_sem]; done) | (simp [execOp, go_sem, h2]; done) | (simp [execOp, go_sem, hlx]; done) | (simp [execOp, go_sem, hly]; done) | (simp [execOp, go_sem, h7]; done)) ?_
                        simp only [Act.put, List.setIfInBounds_toArray, List.set_cons_succ, List.set_cons_zero]
                        refine WG.put rfl (v := (.bool true)) (fun w => by first | rfl | (go_simp; done) | (simp [execOp, go_sem]; done) | (simp [execOp, go_sem, h2]; done) | (simp [execOp, go_sem, hlx]; done) | (simp [execOp, go_sem, hly]; done) | (simp [execOp, go_sem, h7]; done)) ?_
                        simp only [Act.put, List.setIfInBounds_toArray, List.set_cons_succ, List.set_cons_zero]
                        refine WG.row rfl 32 _ rfl rfl QY (evL y) rfl _ Tryd.underlying32 rfl infoEv ?_
                        simp only [Act.put, List.setIfInBounds_toArray, List.set_cons_succ, List.set_cons_zero]
                        refine WG.call rfl (fun w' _ => cwy w') (fun w => by first | rfl | (go_simp; done) | (simp [execOp, go_sem]; done)) ?_
                        simp only [Act.put, List.setIfInBounds_toArray, List.set_cons_succ, List.set_cons_zero]
                        refine WG.put rfl (v := (.bool true)) (fun w => by first | rfl | (go_simp; done) | (simp [execOp, go_sem]; done) | (simp [execOp, go_sem, h2]; done) | (simp [execOp, go_sem, hlx]; done) | (simp [execOp, go_sem, hly]; done) | (simp [execOp, go_sem, h7]; done)) ?_
                        simp only [Act.put, List.setIfInBounds_toArray, List.set_cons_succ, List.set_cons_zero]
                        refine WG.put rfl (v := (.bool true)) (fun w => by first | rfl | (go_simp; done) | (simp [execOp, go_sem]; done) | (simp [execOp, go_sem, h2]; done) | (simp [execOp, go_sem, hlx]; done) | (simp [execOp, go_sem, hly]; done) | (simp [execOp, go_sem, h7]; done)) ?_
                        simp only [Act.put, List.setIfInBounds_toArray, List.set_cons_succ, List.set_cons_zero]
                        refine WG.put rfl (v := (.pointer (some ⟨b9, 4, none⟩))) (fun w => by first | rfl | (go_simp; done) | (simp [execOp, go_sem]; done) | (simp [execOp, go_sem, h2]; done) | (simp [execOp, go_sem, hlx]; done) | (simp [execOp, go_sem, hly]; done) | (simp [execOp, go_sem, h7]; done)) ?_
                        simp only [Act.put, List.setIfInBounds_toArray, List.set_cons_succ, List.set_cons_zero]
                        refine WG.cell rfl 4 _ rfl rfl cxl ld4 ?_
                        simp only [Act.put, List.setIfInBounds_toArray, List.set_cons_succ, List.set_cons_zero]
                        refine WG.put rfl (v := (.bool true)) (fun w => by first | rfl | (go_simp; done) | (simp [execOp, go_sem]; done) | (simp [execOp, go_sem, h2]; done) | (simp [execOp, go_sem, hlx]; done) | (simp [execOp, go_sem, hly]; done) | (simp [execOp, go_sem, h7]; done)) ?_
                        simp only [Act.put, List.setIfInBounds_toArray, List.set_cons_succ, List.set_cons_zero]
                        refine WG.put rfl (v := (.bool true)) (fun w => by first | rfl | (go_simp; done) | (simp [execOp, go_sem]; done) | (simp [execOp, go_sem, h2]; done) | (simp [execOp, go_sem, hlx]; done) | (simp [execOp, go_sem, hly]; done) | (simp [execOp, go_sem, h7]; done)) ?_
                        simp only [Act.put, List.setIfInBounds_toArray, List.set_cons_succ, List.set_cons_zero]
                        refine WG.put rfl (v := (.pointer (some ⟨b10, 4, none⟩))) (fun w => by first | rfl | (go_simp; done) | (simp [execOp, go_sem]; done) | (simp [execOp, go_sem, h2]; done) | (simp [execOp, go_sem, hlx]; done) | (simp [execOp, go_sem, hly]; done) | (simp [execOp, go_sem, h7]; done)) ?_
                        simp only [Act.put, List.setIfInBounds_toArray, List.set_cons_succ, List.set_cons_zero]
                        refine WG.cell rfl 4 _ rfl rfl cyl ld4 ?_
                        simp only [Act.put, List.setIfInBounds_toArray, List.set_cons_succ, List.set_cons_zero]
                        refine WG.put rfl (v := (.bool true)) (fun w => by first | rfl | (go_simp; done) | (simp [execOp, go_sem]; done) | (simp [execOp, go_sem, h2]; done) | (simp [execOp, go_sem, hlx]; done) | (simp [execOp, go_sem, hly]; done) | (simp [execOp, go_sem, h7]; done)) ?_
                        simp only [Act.put, List.setIfInBounds_toArray, List.set_cons_succ, List.set_cons_zero]
                        refine WG.put rfl (v := (.bool true)) (fun w => by first | rfl | (go_simp; done) | (simp [execOp, go_sem]; done) | (simp [execOp, go_sem, h2]; done) | (simp [execOp, go_sem, hlx]; done) | (simp [execOp, go_sem, hly]; done) | (simp [execOp, go_sem, h7]; done)) ?_
                        simp only [Act.put, List.setIfInBounds_toArray, List.set_cons_succ, List.set_cons_zero]
                        refine WG.put rfl (v := (.int .i64 (p : Int))) (fun w => by first | rfl | (go_simp; done) | (simp [execOp, go_sem]; done) | (simp [execOp, go_sem, h2]; done) | (simp [execOp, go_sem, hlx]; done) | (simp [execOp, go_sem, hly]; done) | (simp [execOp, go_sem, h7]; done)) ?_
                        simp only [Act.put, List.setIfInBounds_toArray, List.set_cons_succ, List.set_cons_zero]
                        refine WG.put rfl (v := (.int .i64 (q : Int))) (fun w => by first | rfl | (go_simp; done) | (simp [execOp, go_sem]; done) | (simp [execOp, go_sem, h2]; done) | (simp [execOp, go_sem, hlx]; done) | (simp [execOp, go_sem, hly]; done) | (simp [execOp, go_sem, h7]; done)) ?_
                        simp only [Act.put, List.setIfInBounds_toArray, List.set_cons_succ, List.set_cons_zero]
                        refine WG.put rfl (v := (.bool true)) (fun w => by first | rfl | (go_simp; done) | (simp [execOp, go_sem]; done) | (simp [execOp, go_sem, h2]; done) | (simp [execOp, go_sem, hlx]; done) | (simp [execOp, go_sem, hly]; done) | (simp [execOp, go_sem, h7]; done)) ?_
                        simp only [Act.put, List.setIfInBounds_toArray, List.set_cons_succ, List.set_cons_zero]
                        refine WG.put rfl (v := (.bool true)) (fun w => by first | rfl | (go_simp; done) | (simp [execOp, go_sem]; done) | (simp [execOp, go_sem, h2]; done) | (simp [execOp, go_sem, hlx]; done) | (simp [execOp, go_sem, hly]; done) | (simp [execOp, go_sem, h7]; done)) ?_
                        simp only [Act.put, List.setIfInBounds_toArray, List.set_cons_succ, List.set_cons_zero]
                        refine WG.put rfl (v := (.bool true)) (fun w => by first | rfl | (go_simp; done) | (simp [execOp, go_sem]; done) | (simp [execOp, go_sem, h2]; done) | (simp [execOp, go_sem, hlx]; done) | (simp [execOp, go_sem, hly]; done) | (simp [execOp, go_sem, h7]; done)) ?_
                        simp only [Act.put, List.setIfInBounds_toArray, List.set_cons_succ, List.set_cons_zero]
                        refine WG.nil (fun w8 hw8 => ?_)
                        go_wp2
                        go_ret
                        exact ⟨ret_bool (by rw [HV.out]; simp [h2, hlx, hly, h7]), Below.then BB hw8⟩
                      · refine grow_region ?_
                        refine WG.put rfl (v := (.bool true)) (fun w => by first | rfl | (go_simp; done) | (simp [execOp, go_sem]; done) | (simp [execOp, go_sem, h2]; done) | (simp [execOp, go_sem, hlx]; done) | (simp [execOp, go_sem, hly]; done) | (simp [execOp, go_sem, h7]; done)) ?_
                        simp only [Act.put, List.setIfInBounds_toArray, List.set_cons_succ, List.set_cons_zero]
                        refine WG.put rfl (v := (.bool true)) (fun w => by first | rfl | (go_simp; done) | (simp [execOp, go_sem]; done) | (simp [execOp, go_sem, h2]; done) | (simp [execOp, go_sem, hlx]; done) | (simp [execOp, go_sem, hly]; done) | (simp [execOp, go_sem, h7]; done)) ?_
                        simp only [Act.put, List.setIfInBounds_toArray, List.set_cons_succ, List.set_cons_zero]
                        refine WG.put rfl (v := (.pointer (some ⟨b9, 2, none⟩))) (fun w => by first | rfl | (go_simp; done) | (simp [execOp, go_sem]; done) | (simp [execOp, go_sem, h2]; done) | (simp [execOp, go_sem, hlx]; done) | (simp [execOp, go_sem, hly]; done) | (simp [execOp, go_sem, h7]; done)) ?_
                        simp only [Act.put, List.setIfInBounds_toArray, List.set_cons_succ, List.set_cons_zero]
                        refine WG.cell rfl 3 _ rfl rfl cxi ld3 ?_
                        simp only [Act.put, List.setIfInBounds_toArray, List.set_cons_succ, List.set_cons_zero]
                        refine WG.put rfl (v := (.pointer (some ⟨b10, 2, none⟩))) (fun w => by first | rfl | (go_simp; done) | (simp [execOp, go_sem]; done) | (simp [execOp, go_sem, h2]; done) | (simp [execOp, go_sem, hlx]; done) | (simp [execOp, go_sem, hly]; done) | (simp [execOp, go_sem, h7]; done)) ?_
                        simp only [Act.put, List.setIfInBounds_toArray, List.set_cons_succ, List.set_cons_zero]
                        refine WG.cell rfl 3 _ rfl rfl cyi ld3 ?_
                        simp only [Act.put, List.setIfInBounds_toArray, List.set_cons_succ, List.set_cons_zero]
                        refine WG.put rfl (v := (.bool true)) (fun w => by first | rfl | (go_simp; done) | (simp [execOp, go_sem]; done) | (simp [execOp, go_sem, h2]; done) | (simp [execOp, go_sem, hlx]; done) | (simp [execOp, go_sem, hly]; done) | (simp [execOp, go_sem, h7]; done)) ?_
                        simp only [Act.put, List.setIfInBounds_toArray, List.set_cons_succ, List.set_cons_zero]
                        refine WG.put rfl (v := (.bool true)) (fun w => by first | rfl | (go_simp; done) | (simp [execOp, go_sem]; done) | (simp [execOp, go_sem, h2]; done) | (simp [execOp, go_sem, hlx]; done) | (simp [execOp, go_sem, hly]; done) | (simp [execOp, go_sem, h7]; done)) ?_
                        simp only [Act.put, List.setIfInBounds_toArray, List.set_cons_succ, List.set_cons_zero]
                        refine WG.put rfl (v := (.bool true)) (fun w => by first | rfl | (go_simp; done) | (simp [execOp, go_sem]; done) | (simp [execOp, go_sem, h2]; done) | (simp [execOp, go_sem, hlx]; done) | (simp [execOp, go_sem, hly]; done) | (simp [execOp, go_sem, h7]; done)) ?_
                        simp only [Act.put, List.setIfInBounds_toArray, List.set_cons_succ, List.set_cons_zero]
                        refine WG.row rfl 32 _ rfl rfl QX (evL x) rfl _ Tryd.underlying32 rfl infoEv ?_
                        simp only [Act.put, List.setIfInBounds_toArray, List.set_cons_succ, List.set_cons_zero]
                        refine WG.call rfl (fun w' _ => crx w') (fun w => by first | rfl | (go_simp; done) | (simp [execOp, go_sem]; done)) ?_
                        simp only [Act.put, List.setIfInBounds_toArray, List.set_cons_succ, List.set_cons_zero]
                        refine WG.put rfl (v := (.bool true)) (fun w => by first | rfl | (go_simp; done) | (simp [execOp, go_sem]; done) | (simp [execOp, go_sem, h2]; done) | (simp [execOp, go_sem, hlx]; done) | (simp [execOp, go_sem, hly]; done) | (simp [execOp, go_sem, h7]; done)) ?_
                        simp only [Act.put, List.setIfInBounds_toArray, List.set_cons_succ, List.set_cons_zero]
                        refine WG.put rfl (v := (.bool true)) (fun w => by first | rfl | (go_simp; done) | (simp [execOp, go_sem]; done) | (simp [execOp, go_sem, h2]; done) | (simp [execOp, go_sem, hlx]; done) | (simp [execOp, go_sem, hly]; done) | (simp [execOp, go_sem, h7]; done)) ?_
                        simp only [Act.put, List.setIfInBounds_toArray, List.set_cons_succ, List.set_cons_zero]
                        refine WG.row rfl 32 _ rfl rfl QY (evL y) rfl _ Tryd.underlying32 rfl infoEv ?_
                        simp only [Act.put, List.setIfInBounds_toArray, List.set_cons_succ, List.set_cons_zero]
                        refine WG.call rfl (fun w' _ => cwy w') (fun w => by first | rfl | (go_simp; done) | (simp [execOp, go_sem]; done)) ?_
                        simp only [Act.put, List.setIfInBounds_toArray, List.set_cons_succ, List.set_cons_zero]
                        refine WG.put rfl (v := (.bool true)) (fun w => by first | rfl | (go_simp; done) | (simp [execOp, go_sem]; done) | (simp [execOp, go_sem, h2]; done) | (simp [execOp, go_sem, hlx]; done) | (simp [execOp, go_sem, hly]; done) | (simp [execOp, go_sem, h7]; done)) ?_
                        simp only [Act.put, List.setIfInBounds_toArray, List.set_cons_succ, List.set_cons_zero]
                        refine WG.put rfl (v := (.bool true)) (fun w => by first | rfl | (go_simp; done) | (simp [execOp, go_sem]; done) | (simp [execOp, go_sem, h2]; done) | (simp [execOp, go_sem, hlx]; done) | (simp [execOp, go_sem, hly]; done) | (simp [execOp, go_sem, h7]; done)) ?_
                        simp only [Act.put, List.setIfInBounds_toArray, List.set_cons_succ, List.set_cons_zero]
                        refine WG.put rfl (v := (.pointer (some ⟨b9, 4, none⟩))) (fun w => by first | rfl | (go_simp; done) | (simp [execOp, go_sem]; done) | (simp [execOp, go_sem, h2]; done) | (simp [execOp, go_sem, hlx]; done) | (simp [execOp, go_sem, hly]; done) | (simp [execOp, go_sem, h7]; done)) ?_
                        simp only [Act.put, List.setIfInBounds_toArray, List.set_cons_succ, List.set_cons_zero]
                        refine WG.cell rfl 4 _ rfl rfl cxl ld4 ?_
                        simp only [Act.put, List.setIfInBounds_toArray, List.set_cons_succ, List.set_cons_zero]
                        refine WG.put rfl (v := (.bool true)) (fun w => by first | rfl | (go_simp; done) | (simp [execOp, go_sem]; done) | (simp [execOp, go_sem, h2]; done) | (simp [execOp, go_sem, hlx]; done) | (simp [execOp, go_sem, hly]; done) | (simp [execOp, go_sem, h7]; done)) ?_
                        simp only [Act.put, List.setIfInBounds_toArray, List.set_cons_succ, List.set_cons_zero]
                        refine WG.put rfl (v := (.bool true)) (fun w => by first | rfl | (go_simp; done) | (simp [execOp, go_sem]; done) | (simp [execOp, go_sem, h2]; done) | (simp [execOp, go_sem, hlx]; done) | (simp [execOp, go_sem, hly]; done) | (simp [execOp, go_sem, h7]; done)) ?_
                        simp only [Act.put, List.setIfInBounds_toArray, List.set_cons_succ, List.set_cons_zero]
                        refine WG.put rfl (v := (.pointer (some ⟨b10, 4, none⟩))) (fun w => by first | rfl | (go_simp; done) | (simp [execOp, go_sem]; done) | (simp [execOp, go_sem, h2]; done) | (simp [execOp, go_sem, hlx]; done) | (simp [execOp, go_sem, hly]; done) | (simp [execOp, go_sem, h7]; done)) ?_
                        simp only [Act.put, List.setIfInBounds_toArray, List.set_cons_succ, List.set_cons_zero]
                        refine WG.cell rfl 4 _ rfl rfl cyl ld4 ?_
                        simp only [Act.put, List.setIfInBounds_toArray, List.set_cons_succ, List.set_cons_zero]
                        refine WG.put rfl (v := (.bool true)) (fun w => by first | rfl | (go_simp; done) | (simp [execOp, go_sem]; done) | (simp [execOp, go_sem, h2]; done) | (simp [execOp, go_sem, hlx]; done) | (simp [execOp, go_sem, hly]; done) | (simp [execOp, go_sem, h7]; done)) ?_
                        simp only [Act.put, List.setIfInBounds_toArray, List.set_cons_succ, List.set_cons_zero]
                        refine WG.put rfl (v := (.bool true)) (fun w => by first | rfl | (go_simp; done) | (simp [execOp, go_sem]; done) | (simp [execOp, go_sem, h2]; done) | (simp [execOp, go_sem, hlx]; done) | (simp [execOp, go_sem, hly]; done) | (simp [execOp, go_sem, h7]; done)) ?_
                        simp only [Act.put, List.setIfInBounds_toArray, List.set_cons_succ, List.set_cons_zero]
                        refine WG.put rfl (v := (.int .i64 (p : Int))) (fun w => by first | rfl | (go_simp; done) | (simp [execOp, go_sem]; done) | (simp [execOp, go_sem, h2]; done) | (simp [execOp, go_sem, hlx]; done) | (simp [execOp, go_sem, hly]; done) | (simp [execOp, go_sem, h7]; done)) ?_
                        simp only [Act.put, List.setIfInBounds_toArray, List.set_cons_succ, List.set_cons_zero]
                        refine WG.put rfl (v := (.int .i64 (q : Int))) (fun w => by first | rfl | (go_simp; done) | (simp [execOp, go_sem]; done) | (simp [execOp, go_sem, h2]; done) | (simp [execOp, go_sem, hlx]; done) | (simp [execOp, go_sem, hly]; done) | (simp [execOp, go_sem, h7]; done)) ?_
                        simp only [Act.put, List.setIfInBounds_toArray, List.set_cons_succ, List.set_cons_zero]
                        refine WG.put rfl (v := (.bool false)) (fun w => by first | rfl | (go_simp; done) | (simp [execOp, go_sem]; done) | (simp [execOp, go_sem, h2]; done) | (simp [execOp, go_sem, hlx]; done) | (simp [execOp, go_sem, hly]; done) | (simp [execOp, go_sem, h7]; done)) ?_
                        simp only [Act.put, List.setIfInBounds_toArray, List.set_cons_succ, List.set_cons_zero]
                        refine WG.put rfl (v := (.bool false)) (fun w => by first | rfl | (go_simp; done) | (simp [execOp, go_sem]; done) | (simp [execOp, go_sem, h2]; done) | (simp [execOp, go_sem, hlx]; done) | (simp [execOp, go_sem, hly]; done) | (simp [execOp, go_sem, h7]; done)) ?_
                        simp only [Act.put, List.setIfInBounds_toArray, List.set_cons_succ, List.set_cons_zero]
                        refine WG.put rfl (v := (.bool false)) (fun w => by first | rfl | (go_simp; done) | (simp [execOp, go_sem]; done) | (simp [execOp, go_sem, h2]; done) | (simp [execOp, go_sem, hlx]; done) | (simp [execOp, go_sem, hly]; done) | (simp [execOp, go_sem, h7]; done)) ?_
                        simp only [Act.put, List.setIfInBounds_toArray, List.set_cons_succ, List.set_cons_zero]
                        refine WG.nil (fun w8 hw8 => ?_)
                        go_wp2
                        go_ret
                        exact ⟨ret_bool (by rw [HV.out]; simp [h2, hlx, hly, h7]), Below.then BB hw8⟩
            · refine grow_region ?_
              refine WG.put rfl (v := (.bool true)) (fun w => by first | rfl | (go_simp; done) | (simp [execOp, go_sem]; done) | (simp [execOp, go_sem, h2]; done)) ?_
              simp only [Act.put, List.setIfInBounds_toArray, List.set_cons_succ, List.set_cons_zero]
              refine WG.put rfl (v := (.bool true)) (fun w => by first | rfl | (go_simp; done) | (simp [execOp, go_sem]; done) | (simp [execOp, go_sem, h2]; done)) ?_
              simp only [Act.put, List.setIfInBounds_toArray, List.set_cons_succ, List.set_cons_zero]
              refine WG.put rfl (v := (.pointer (some ⟨b9, 2, none⟩))) (fun w => by first | rfl | (go_simp; done) | (simp [execOp, go_sem]; done) | (simp [execOp, go_sem, h2]; done)) ?_
              simp only [Act.put, List.setIfInBounds_toArray, List.set_cons_succ, List.set_cons_zero]
              refine WG.cell rfl 3 _ rfl rfl cxi ld3 ?_
              simp only [Act.put, List.setIfInBounds_toArray, List.set_cons_succ, List.set_cons_zero]
              refine WG.put rfl (v := (.pointer (some ⟨b10, 2, none⟩))) (fun w => by first | rfl | (go_simp; done) | (simp [execOp, go_sem]; done) | (simp [execOp, go_sem, h2]; done)) ?_
              simp only [Act.put, List.setIfInBounds_toArray, List.set_cons_succ, List.set_cons_zero]
              refine WG.cell rfl 3 _ rfl rfl cyi ld3 ?_
              simp only [Act.put, List.setIfInBounds_toArray, List.set_cons_succ, List.set_cons_zero]
              refine WG.put rfl (v := (.bool false)) (fun w => by first | rfl | (go_simp; done) | (simp [execOp, go_sem]; done) | (simp [execOp, go_sem, h2]; done)) ?_
              simp only [Act.put, List.setIfInBounds_toArray, List.set_cons_succ, List.set_cons_zero]
              refine WG.put rfl (v := (.bool false)) (fun w => by first | rfl | (go_simp; done) | (simp [execOp, go_sem]; done) | (simp [execOp, go_sem, h2]; done)) ?_
              simp only [Act.put, List.setIfInBounds_toArray, List.set_cons_succ, List.set_cons_zero]
              refine WG.put rfl (v := (.bool false)) (fun w => by first | rfl | (go_simp; done) | (simp [execOp, go_sem]; done) | (simp [execOp, go_sem, h2]; done)) ?_
              simp only [Act.put, List.setIfInBounds_toArray, List.set_cons_succ, List.set_cons_zero]
              refine WG.skip rfl ?_
              simp only [Act.put, List.setIfInBounds_toArray, List.set_cons_succ, List.set_cons_zero]
              refine WG.skip rfl ?_
              simp only [Act.put, List.setIfInBounds_toArray, List.set_cons_succ, List.set_cons_zero]
              refine WG.put rfl (v := (.bool false)) (fun w => by first | rfl | (go_simp; done) | (simp [execOp, go_sem]; done) | (simp [execOp, go_sem, h2]; done)) ?_
              simp only [Act.put, List.setIfInBounds_toArray, List.set_cons_succ, List.set_cons_zero]
              refine WG.put rfl (v := (.bool false)) (fun w => by first | rfl | (go_simp; done) | (simp [execOp, go_sem]; done) | (simp [execOp, go_sem, h2]; done)) ?_
              simp only [Act.put, List.setIfInBounds_toArray, List.set_cons_succ, List.set_cons_zero]
              refine WG.skip rfl ?_
              simp only [Act.put, List.setIfInBounds_toArray, List.set_cons_succ, List.set_cons_zero]
              refine WG.skip rfl ?_
              simp only [Act.put, List.setIfInBounds_toArray, List.set_cons_succ, List.set_cons_zero]
              refine WG.put rfl (v := (.bool false)) (fun w => by first | rfl | (go_simp; done) | (simp [execOp, go_sem]; done) | (simp [execOp, go_sem, h2]; done)) ?_
              simp only [Act.put, List.setIfInBounds_toArray, List.set_cons_succ, List.set_cons_zero]
              refine WG.put rfl (v := (.bool false)) (fun w => by first | rfl | (go_simp; done) | (simp [execOp, go_sem]; done) | (simp [execOp, go_sem, h2]; done)) ?_
              simp only [Act.put, List.setIfInBounds_toArray, List.set_cons_succ, List.set_cons_zero]
              refine WG.skip rfl ?_
              simp only [Act.put, List.setIfInBounds_toArray, List.set_cons_succ, List.set_cons_zero]
              refine WG.skip rfl ?_
              simp only [Act.put, List.setIfInBounds_toArray, List.set_cons_succ, List.set_cons_zero]
              refine WG.put rfl (v := (.bool false)) (fun w => by first | rfl | (go_simp; done) | (simp [execOp, go_sem]; done) | (simp [execOp, go_sem, h2]; done)) ?_
              simp only [Act.put, List.setIfInBounds_toArray, List.set_cons_succ, List.set_cons_zero]
              refine WG.put rfl (v := (.bool false)) (fun w => by first | rfl | (go_simp; done) | (simp [execOp, go_sem]; done) | (simp [execOp, go_sem, h2]; done)) ?_
              simp only [Act.put, List.setIfInBounds_toArray, List.set_cons_succ, List.set_cons_zero]
              refine WG.skip rfl ?_
              simp only [Act.put, List.setIfInBounds_toArray, List.set_cons_succ, List.set_cons_zero]
              refine WG.skip rfl ?_
              simp only [Act.put, List.setIfInBounds_toArray, List.set_cons_succ, List.set_cons_zero]
              refine WG.put rfl (v := (.bool false)) (fun w => by first | rfl | (go_simp; done) | (simp [execOp, go_sem]; done) | (simp [execOp, go_sem, h2]; done)) ?_
              simp only [Act.put, List.setIfInBounds_toArray, List.set_cons_succ, List.set_cons_zero]
              refine WG.put rfl (v := (.bool false)) (fun w => by first | rfl | (go_simp; done) | (simp [execOp, go_sem]; done) | (simp [execOp, go_sem, h2]; done)) ?_
              simp only [Act.put, List.setIfInBounds_toArray, List.set_cons_succ, List.set_cons_zero]
              refine WG.skip rfl ?_
              simp only [Act.put, List.setIfInBounds_toArray, List.set_cons_succ, List.set_cons_zero]
              refine WG.skip rfl ?_
              simp only [Act.put, List.setIfInBounds_toArray, List.set_cons_succ, List.set_cons_zero]
              refine WG.skip rfl ?_
              simp only [Act.put, List.setIfInBounds_toArray, List.set_cons_succ, List.set_cons_zero]
              refine WG.put rfl (v := (.bool false)) (fun w => by first | rfl | (go_simp; done) | (simp [execOp, go_sem]; done) | (simp [execOp, go_sem, h2]; done)) ?_
              simp only [Act.put, List.setIfInBounds_toArray, List.set_cons_succ, List.set_cons_zero]
              refine WG.put rfl (v := (.bool false)) (fun w => by first | rfl | (go_simp; done) | (simp [execOp, go_sem]; done) | (simp [execOp, go_sem, h2]; done)) ?_
              simp only [Act.put, List.setIfInBounds_toArray, List.set_cons_succ, List.set_cons_zero]
              refine WG.nil (fun w8 hw8 => ?_)
              go_wp2
              go_ret
              exact ⟨ret_bool (by rw [HV.out]; simp [h2]), Below.then BB hw8⟩
end Go.Proofs.YtdneaaegllpnlaaDoor

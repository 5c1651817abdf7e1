/- The law's helpers: Bare, SameTokens. -/
import Derived.Test.YtbelajboalikcaaW2
namespace Go.Proofs.Ytbelajboalikcaa
open Go.RowKit Go.Shelf M
set_option linter.unusedSimpArgs false
set_option linter.unusedVariables false

def cellsG (gs : List GT) : List Value := gs.flatMap gtL
theorem cellsG_snoc (gs : List GT) (g : GT) : cellsG (gs ++ [g]) = cellsG gs ++ gtL g := by simp [cellsG]
def toG (t : Tok) : GT := ⟨t.kind, ⟨t.text.toArray⟩, t.value, t.line, t.col, t.at', t.fin⟩
theorem cellsT_G (ts : List Tok) : cellsT ts = cellsG (ts.map toG) := by
  induction ts with
  | nil => rfl
  | cons t ts ih => simp only [cellsT, cellsG, List.flatMap_cons, List.map_cons] at *; rw [ih]; rfl
def bareG (g : GT) : GT := ⟨g.kind, g.text, 0, 0, 0, 0, 0⟩
theorem cellsG_len (gs : List GT) : (cellsG gs).length = gs.length * 7 := by
  induction gs with
  | nil => rfl
  | cons t ts ih => simp only [cellsG, List.flatMap_cons, List.length_append, List.length_cons] at *; rw [ih]; simp [gtL]; omega
theorem cellsG_at : ∀ (gs : List GT) (j : Nat) (g : GT), gs[j]? = some g → ∀ (i : Nat) (v : Value), (gtL g)[i]? = some v → (cellsG gs)[j * 7 + i]? = some v
  | [], j, g, h, i, v, hv => by simp at h
  | x :: gs, 0, g, h, i, v, hv => by
    simp at h; subst h
    have hi : i < (gtL x).length := (List.getElem?_eq_some_iff.1 hv).1
    show (gtL x ++ cellsG gs)[0 * 7 + i]? = some v
    rw [Nat.zero_mul, Nat.zero_add, List.getElem?_append_left hi]; exact hv
  | x :: gs, j + 1, g, h, i, v, hv => by
    have := cellsG_at gs j g (by simpa using h) i v hv
    show (gtL x ++ cellsG gs)[(j + 1) * 7 + i]? = some v
    have e : (gtL x).length = 7 := rfl
    rw [List.getElem?_append_right (by omega), e, show (j + 1) * 7 + i - 7 = j * 7 + i by omega]
    exact this
theorem own_toks {W : World} {base n : Nat} {v : Value} {gs : List GT} (h : W.ownsRow base 38 7 v n (cellsG gs)) (hn : gs.length = n) : ∃ a cap, v = .slice a gs.length cap ∧ Toks W a gs := by
  rcases h.2 with ⟨rfl, h0⟩ | ⟨g, cap, cur, rfl, hg, hh, rest⟩
  · refine ⟨none, 0, by rw [hn, h0], fun j x hx => ?_⟩
    have := (List.getElem?_eq_some_iff.1 hx).1
    omega
  · refine ⟨_, cap, by rw [hn], fun j x hx => ⟨g, 0, rfl, (Array.getElem?_eq_some_iff.1 hh).1, fun i u hu => ?_⟩⟩
    have hc := cellsG_at gs j x hx i u hu
    rw [cell_of_row W g _ cur 38 (0, 0) hh, Nat.zero_add]
    rw [← rest.2.2.2, List.getElem?_take] at hc
    split at hc
    · simpa using hc
    · cases hc

set_option maxRecDepth 100000 in
set_option maxHeartbeats 1000000 in
theorem rbare_any (g : GT) (w : World) : Calls Try.prog 46 #[.agg (gtL g).toArray] w fun e w' => e = .returned (.agg (gtL (bareG g)).toArray) ∧ Below w.heap.size w w' := by
  obtain ⟨k, tx, v, a, b, c, d⟩ := g
  dsimp only [gtL, bareG]
  go_enter Try.func46, Try.ntmps46
  go_wp2_with (first
    | (refine wpList_boxS rfl 38 _ rfl (gtL ⟨k, tx, v, a, b, c, d⟩) rfl ?_; intro W1 b1 F1 N1; have B1 := F1.trans (Below.refl _ w) (Nat.le_refl _); clear F1)
    | (refine wpList_allocS rfl 38 rfl (tokL noTok) Try.zeroValue38 ?_; intro W2 b2 F2 M2; have N2 := N1.fresh F2; have B2 := F2.trans B1 B1.size; have hb2 : w.heap.size ≤ b2 := Nat.le_trans B1.size (Nat.le_of_eq F2.at'.symm); clear F2 N1 B1; have c0 : W2.cell? ⟨b1, 0, none⟩ = some (.int .i64 k) := N2.cell 0; have c1 : W2.cell? ⟨b1, 1, none⟩ = some (.string tx) := N2.cell 1)
    | (refine wpList_storeS rfl 38 _ _ rfl rfl (gtL ⟨k, tx, 0, 0, 0, 0, 0⟩) rfl M2 (by simp [tokL, gtL]) info38 (gt_one _) ?_; intro W3 U3 M3; have B3 := U3.trans B2 hb2))
  exact ret_S rfl rfl rfl M3 _ Try.underlying38 rfl info38 ⟨rfl, B3⟩

theorem wpList_buildG {w : World} {ops : Array Oper} {rest : List Oper} {op : Oper} {a : Act} {Q : Exit → Act → World → Prop} (hgd : op.guard = none) (x : Operand) (ho : op.op = .buildSlice 24 1 #[(0, x)]) (g : GT) (hx : a.eval x = .agg (gtL g).toArray)
    (h : ∀ W b, Fresh w W b → IsS W b 38 (gtL g) → wpList Try.prog ops Q rest (a.put op.dst (.slice (some ⟨b, 0, none⟩) 1 1)) W) : wpList Try.prog ops Q (op :: rest) a w := by
  refine wpList_plain hgd fun K hK => ?_
  have hr : (execOp a.eval op).run Try.prog w = .ok (.value (.slice (some ⟨w.heap.size, 0, none⟩) 1 1)) (w.alloc (.cells (gtL g).toArray 38)) := by
    generalize a.eval = ev at hx ⊢
    unfold execOp
    simp [ho, hx, go_sem, Value.cells, gtL]
  unfold Oper.wp
  rw [hr]
  exact hK _ _ (h _ _ (Fresh.alloc w _) (IsS.new w 38 _))
theorem take_map_snoc (gs : List GT) (j : Nat) (g : GT) (h : gs[j]? = some g) : (gs.take (j + 1)).map bareG = (gs.take j).map bareG ++ [bareG g] := by
  have hlt := (List.getElem?_eq_some_iff.1 h).1
  rw [List.take_succ_eq_append_getElem hlt, List.map_append]
  rw [List.getElem?_eq_getElem hlt] at h
  cases h
  rfl

set_option maxRecDepth 100000 in
set_option maxHeartbeats 2000000 in
theorem lbare_any (a : Option Addr) (cap : Nat) (gs : List GT) (hn : gs.length ≤ 1048576) (w : World) (hT : Toks w a gs) :
    Calls Try.prog 25 #[.slice a gs.length cap] w fun e w' => (∃ v, e = .returned v ∧ w'.ownsRow w.heap.size 38 7 v gs.length (cellsG (gs.map bareG))) ∧ Below w.heap.size w w' := by
  obtain ⟨i0, hi, hz0, hz1, hz2⟩ := parts38
  go_enter Try.func25, Try.ntmps25
  go_wp2
  go_loopw [3, 4] (fun v i wr => ∃ j : Nat, j ≤ gs.length ∧ i = .int .i64 (j : Int) ∧ Hid (wr.ownsRow w.heap.size 38 7 v j (cellsG ((gs.take j).map bareG))) ∧ Hid (Below w.heap.size w wr)) (fun _ i _ => gs.length - (intOf i).toNat)
  case atStart => exact ⟨0, by omega, rfl, World.ownsRow_nil _ _ _ _, Below.refl _ _⟩
  case round =>
    obtain ⟨j, hj, rfl, hown, HB⟩ := hrel
    have hwr := HB.out.size
    obtain ⟨a0, c0, rfl⟩ := own_form hown.out
    by_cases hlt : j < gs.length
    · have hi' : (j : Int) < gs.length := by omega
      obtain ⟨g, hg⟩ : ∃ g, gs[j]? = some g := ⟨_, List.getElem?_eq_getElem hlt⟩
      obtain ⟨b, o, rfl, hb, hrg⟩ := hT.below HB.out j g hg
      have HC : Hid (cellsG ((gs.take (j + 1)).map bareG) = cellsG ((gs.take j).map bareG) ++ gtL (bareG g)) := (by show _ = _; rw [take_map_snoc gs j g hg, cellsG_snoc])
      clear hg
      go_wp2_with (first
        | (refine wpList_load_mid rfl 38 _ rfl b _ rfl (gtL g) _ hrg Try.underlying38 rfl info38 ?_)
        | (go_at_call 46; refine (rbare_any g _).mono ?_; rintro e W2 ⟨rfl, B2⟩; have own2 : Hid (W2.ownsRow w.heap.size 38 7 (.slice a0 j c0) j (cellsG ((gs.take j).map bareG))) := own_belowW hown.out B2; have H2 : Hid (Below w.heap.size w W2) := HB.out.trans (B2.mono hwr); clear B2)
        | (refine wpList_buildG rfl _ rfl (bareG g) rfl ?_; intro W3 b3 F3 N3; have own3 : Hid (W3.ownsRow w.heap.size 38 7 (.slice a0 j c0) j (cellsG ((gs.take j).map bareG))) := own_belowW own2.out (F3.trans (Below.refl _ _) (Nat.le_refl _)); have H3 : Hid (Below w.heap.size w W3) := F3.trans H2.out H2.out.size; clear F3 H2 own2; refine Hid.out ?_))
      refine Lib.hid ?_
      have hw3 := H3.out.size
      refine wpList_append_own _ rfl _ _ 24 rfl w.heap.size 38 i0 (.agg (tokL noTok).toArray) 7 64 Try.underlying24 hi hz0 hz1 hz2 rfl (by decide) _ _ _ rfl own3.out ⟨b3, 0, none⟩ 1 1 (gtL (bareG g)) rfl rfl (fun j u hj => by rw [Addr.add_mid, Nat.zero_add, N3.cell]; exact hj) (gt_one _) (by unfold maxLen; omega) (by omega) hw3 ?_
      intro v' W4 own4 hgr _
      have H4 : Hid (Below w.heap.size w W4) := H3.out.grown hgr hw3 (fun k hk => (own3.out.lt k hk).1)
      obtain ⟨a1, c1, rfl⟩ := own_form own4
      have own5 : Hid (W4.ownsRow w.heap.size 38 7 (.slice a1 (j + 1) c1) (j + 1) (cellsG ((gs.take (j + 1)).map bareG))) := (by rw [HC.out]; exact own4)
      clear own4 own3 hgr H3
      go_wp2_with fail
      go_roundw
      case rel => exact ⟨j + 1, by omega, by go_num, own5, H4⟩
      case measure => simp [intOf]; omega
    · obtain rfl : j = gs.length := by omega
      have own5 : Hid (wr.ownsRow w.heap.size 38 7 (.slice a0 gs.length c0) gs.length (cellsG (gs.map bareG))) := (by have := hown.out; rw [List.take_of_length_le (Nat.le_refl _)] at this; exact this)
      clear hown
      go_wp2
      go_ret
      exact ⟨⟨_, rfl, own5.out⟩, HB.out⟩

set_option maxRecDepth 100000 in
set_option maxHeartbeats 2000000 in
theorem same_any (a b : Option Addr) (c d : Nat) (gs : List GT) (hn : gs.length ≤ 1048576) (w : World) (hA : Toks w a gs) (hB : Toks w b gs) :
    Calls Try.prog 13 #[.slice a gs.length c, .slice b gs.length d] w fun e w' => e = .returned (.bool true) ∧ Below w.heap.size w w' := by
  go_enter Try.func13, Try.ntmps13
  go_wp2
  go_loopw [5] (fun i wr => ∃ j : Nat, j ≤ gs.length ∧ i = .int .i64 (j : Int) ∧ Hid (Below w.heap.size w wr)) (fun i _ => gs.length - (intOf i).toNat)
  case atStart => exact ⟨0, by omega, rfl, Below.refl _ _⟩
  case round =>
    obtain ⟨j, hj, rfl, HB⟩ := hrel
    by_cases hlt : j < gs.length
    · have hi' : (j : Int) < gs.length := by omega
      obtain ⟨g, hg⟩ : ∃ g, gs[j]? = some g := ⟨_, List.getElem?_eq_getElem hlt⟩
      obtain ⟨b1, o1, rfl, hb1, hr1⟩ := hA j g hg
      obtain ⟨b2, o2, rfl, hb2, hr2⟩ := hB j g hg
      have q1 : ∀ W, Below wr.heap.size wr W → W.rangeAt b1 (o1 + j * 7) (gtL g) := fun W hW i v hv => by
        rw [(HB.out.trans (hW.mono HB.out.size)).cell (p := ⟨b1, o1 + j * 7 + i, none⟩) hb1]; exact hr1 i v hv
      have q2 : ∀ W, Below wr.heap.size wr W → W.rangeAt b2 (o2 + j * 7) (gtL g) := fun W hW i v hv => by
        rw [(HB.out.trans (hW.mono HB.out.size)).cell (p := ⟨b2, o2 + j * 7 + i, none⟩) hb2]; exact hr2 i v hv
      clear hA hB hg hr1 hr2
      go_wp2_with fail
      refine grow_all (by kernel_rfl) (by kernel_rfl) ?_
      refine wpG_put rfl (v := .slice (some ⟨b1, o1, none⟩) gs.length c) (fun w => by first | rfl | (go_simp; done)) ?_
      refine wpG_put rfl (v := .int .i64 (j : Int)) (fun w => by first | rfl | (go_simp; done)) ?_
      simp only [Act.put, List.setIfInBounds_toArray, List.set_cons_succ, List.set_cons_zero]
      refine wpG_put rfl (v := .pointer (some ⟨b1, o1 + j * 7, none⟩)) (fun w => by first | rfl | (go_simp; done)) ?_
      refine wpG_value rfl (v := .agg (gtL g).toArray) (fun w hw => by unfold execOp; simp only [Sem.run_bind]; show ((Instr.loadAt 38 (.pointer (some ⟨b1, o1 + j * 7, none⟩))).run Try.prog w).andThen _ = _; rw [run_loadAt_mid w b1 (o1 + j * 7) 38 (gtL g) _ (q1 w hw) Try.underlying38 rfl info38]; rfl) ?_
      simp only [Act.put, List.setIfInBounds_toArray, List.set_cons_succ, List.set_cons_zero]
      refine wpG_put rfl (v := .slice (some ⟨b2, o2, none⟩) gs.length d) (fun w => by first | rfl | (go_simp; done)) ?_
      refine wpG_put rfl (v := .int .i64 (j : Int)) (fun w => by first | rfl | (go_simp; done)) ?_
      simp only [Act.put, List.setIfInBounds_toArray, List.set_cons_succ, List.set_cons_zero]
      refine wpG_put rfl (v := .pointer (some ⟨b2, o2 + j * 7, none⟩)) (fun w => by first | rfl | (go_simp; done)) ?_
      refine wpG_value rfl (v := .agg (gtL g).toArray) (fun w hw => by unfold execOp; simp only [Sem.run_bind]; show ((Instr.loadAt 38 (.pointer (some ⟨b2, o2 + j * 7, none⟩))).run Try.prog w).andThen _ = _; rw [run_loadAt_mid w b2 (o2 + j * 7) 38 (gtL g) _ (q2 w hw) Try.underlying38 rfl info38]; rfl) ?_
      simp only [Act.put, List.setIfInBounds_toArray, List.set_cons_succ, List.set_cons_zero]
      refine wpG_put rfl (v := .bool false) (fun w => by first | rfl | (go_simp; done) | (simp [go_sem, gtL]; done)) ?_
      simp only [Act.put, List.setIfInBounds_toArray, List.set_cons_succ, List.set_cons_zero]
      refine wpG_nil ?_
      intro W1 B1
      have H1 : Hid (Below w.heap.size w W1) := HB.out.trans (B1.mono HB.out.size)
      clear q1 q2 B1
      go_wp2_with fail
      go_roundw
      case rel => exact ⟨j + 1, by omega, by go_num, H1⟩
      case measure => simp [intOf]; omega
    · obtain rfl : j = gs.length := by omega
      clear hA hB
      go_wp2
      go_ret
      exact ⟨rfl, HB.out⟩
end Go.Proofs.Ytbelajboalikcaa

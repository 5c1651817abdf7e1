/- The reference's open: its reader is made. -/
import Derived.Test.YtpbcngnginffgaaXP
import Derived.Test.YtpbcngnginffgaaH0
namespace Go.Proofs.Ytpbcngnginffgaa
open Go.RowKit Go.Shelf M
set_option linter.unusedSimpArgs false
set_option linter.unusedVariables false

section
variable {F : Fence} {m : Nat} {P : Program} {ops : Array Oper} {Q : Exit → Act → World → Prop} {C : World → Prop}
/-- The one that may come up now, where it only runs. -/
theorem atC_run (hfn : ∀ f, F.fn f) {n : Nat} {L : Act → World → Prop} {f : Nat} {listed : Array Bool} {a : Act} {w : World} (i : Nat) {oi : Oper} (hi : ops[i]? = some oi) (hB : (decide (i < n) && decide (Region.ready .any ops listed = [i])) = true)
    (hnd : ∀ c, oi.op ≠ .defer c) (hw : Region.wanted oi (yielded ops a.tmps) = true) {v : Value} {w' : World} (hr : (execOp a.eval oi).run P w = .ok (.value v) w') (hc : C w')
    (h : AtC F m P ops Q C n L f (listed.setIfInBounds i true) (a.put oi.dst v) w') : AtC F m P ops Q C n L (f + 1) listed a w := by
  refine atC_next i hi hB fun K hK => ?_
  rw [if_pos hw]
  refine ⟨fun f _ => hfn f, ?_⟩
  rw [Oper.semAt_eq _ _ _ hnd, hr]
  exact hK _ _ hc h
theorem atC_ex (hfn : ∀ f, F.fn f) {n : Nat} {L : Act → World → Prop} {f : Nat} {listed : Array Bool} {a : Act} {w : World} (i : Nat) {oi : Oper} (hi : ops[i]? = some oi) (hB : (decide (i < n) && decide (Region.ready .any ops listed = [i])) = true)
    (hnd : ∀ c, oi.op ≠ .defer c) (hw : Region.wanted oi (yielded ops a.tmps) = true) {R : Value → World → Prop} (hr : ∃ v w', (execOp a.eval oi).run P w = .ok (.value v) w' ∧ R v w')
    (h : ∀ v w', R v w' → C w' ∧ AtC F m P ops Q C n L f (listed.setIfInBounds i true) (a.put oi.dst v) w') : AtC F m P ops Q C n L (f + 1) listed a w := by
  obtain ⟨v, w', hr, hR⟩ := hr
  exact atC_run hfn i hi hB hnd hw hr (h v w' hR).1 (h v w' hR).2
end
def rest0 : List Value := [.string ⟨#[]⟩, .string ⟨#[]⟩, .slice none 0 0, .slice none 0 0, .slice none 0 0, .int .i64 0, .slice none 0 0, .slice none 0 0, .slice none 0 0, .slice none 0 0, .slice none 0 0, .int .i64 0]
theorem own_tokT {W : World} {base n : Nat} {v : Value} {T : List Tok} (h : W.ownsRow base 39 7 v n (cellsT T)) (hn : T.length = n) (h0 : 0 < n) :
    ∃ g cap, v = .slice (some ⟨g, 0, none⟩) n cap ∧ base ≤ g ∧ g < W.heap.size ∧ ∀ j t, T[j]? = some t → W.rangeAt g (j * 7) (tokL t) := by
  rcases h.2 with ⟨rfl, h0'⟩ | ⟨g, cap, cur, rfl, hg, hh, rest⟩
  · omega
  · refine ⟨g, cap, rfl, hg, (Array.getElem?_eq_some_iff.1 hh).1, fun j t ht i u hu => ?_⟩
    have hc := cellsG_at (T.map toG) j (toG t) (by rw [List.getElem?_map, ht]; rfl) i u hu
    rw [← cellsT_G] at hc
    rw [cell_of_row W g _ cur 39 (0, 0) hh]
    rw [← rest.2.2.2, List.getElem?_take] at hc
    split at hc
    · simpa using hc
    · cases hc
theorem run_loadP {op : Oper} {a : Act} {w : World} {b t o : Nat} {cs : List Value} (ty : TypeId) (x : Operand) (ho : op.op = .load ty x) (hx : a.eval x = .pointer (some ⟨b, o, none⟩)) (hc : IsS w b t cs) (k : Nat) (sub : List Value) (hsub : (cs.drop o).take k = sub) (d : TypeDesc)
    (hu : Try.prog.underlying ty = some d) (hd : d.isRow = true) (hi : (Try.prog.info? ty).map (·.size) = some sub.length) : (execOp a.eval op).run Try.prog w = .ok (.value (.agg sub.toArray)) w := by
  subst hsub
  unfold execOp
  simp only [ho, hx, Sem.run_bind, run_loadAt_mid w b o ty _ d (hc.range o k) hu hd hi, Result.andThen_ok, Sem.run_pure]
theorem run_buildT {op : Oper} {a : Act} {w : World} (x : Operand) (ho : op.op = .buildSlice 47 1 #[(0, x)]) (t : Tok) (hx : a.eval x = .agg (tokL t).toArray) :
    ∃ v W, (execOp a.eval op).run Try.prog w = .ok (.value v) W ∧ (∃ b, v = .slice (some ⟨b, 0, none⟩) 1 1 ∧ Fresh w W b ∧ IsS W b 39 (tokL t)) := by
  refine ⟨_, _, ?_, _, rfl, Fresh.alloc w (.cells (tokL t).toArray 39), IsS.new w 39 _⟩
  generalize a.eval = ev at hx ⊢
  unfold execOp
  simp [ho, hx, go_sem, Value.cells, tokL]
theorem run_appT {op : Oper} {a : Act} {w : World} (sl x : Operand) (ho : op.op = .call { callee := .builtin .append, args := #[sl, x], argTypes := #[47, 47] })
    (B : Nat) (v : Value) (ts : List Tok) (hs : a.eval sl = v) (hown : w.ownsRow B 39 7 v ts.length (cellsT ts)) (b : Nat) (t : Tok) (hx : a.eval x = .slice (some ⟨b, 0, none⟩) 1 1) (hb : IsS w b 39 (tokL t)) (hn : ts.length ≤ 1048576) (hB : B ≤ w.heap.size) :
    ∃ v' W, (execOp a.eval op).run Try.prog w = .ok (.value v') W ∧ W.ownsRow B 39 7 v' (ts.length + 1) (cellsT (ts ++ [t])) ∧ w.grownBy W v.ownBlock := by
  obtain ⟨i0, hi, hz0, hz1, hz2⟩ := parts38
  obtain ⟨v', W, h1, h2, h3, _⟩ := run_append_own (P := Try.prog) (w := w) B 47 op.type 39 i0 (.agg (tokL noTok).toArray) 7 64 Try.underlying47 hi hz0 hz1 hz2 rfl (by decide) v ts.length (cellsT ts) hown ⟨b, 0, none⟩ 1 1 (tokL t) rfl (fun j u hj => by rw [Addr.add_mid, Nat.zero_add, hb.cell]; exact hj) (tok_one t) (by unfold maxLen; omega) (by omega) hB
  refine ⟨v', W, ?_, by rw [cellsT_snoc]; exact h2, h3⟩
  unfold execOp
  simp only [ho, resolve, invoke, builtin, Sem.run_bind, Sem.run_pure, Result.andThen_ok, List.map_toArray, List.map_cons, List.map_nil, hs, hx, h1]
theorem run_boxR {op : Oper} {a : Act} {w : World} (x : Operand) (ho : op.op = .box 57 x) (cs : List Value) (hx : a.eval x = .agg cs.toArray) :
    ∃ v W, (execOp a.eval op).run Try.prog w = .ok (.value v) W ∧ (∃ b, v = .pointer (some ⟨b, 0, none⟩) ∧ Fresh w W b ∧ IsS W b 57 cs) := by
  refine ⟨_, _, ?_, _, rfl, Fresh.alloc w (.cells cs.toArray 57), IsS.new w 57 cs⟩
  unfold execOp
  simp only [ho, hx]
  have hb : (Instr.box 57 (.agg cs.toArray)).run Try.prog w = .ok (.pointer (some ⟨w.heap.size, 0, none⟩)) (w.alloc (.cells cs.toArray 57)) := by
    simp [go_sem, Value.cells]
  simp only [Sem.run_bind, hb, Result.andThen_ok, Sem.run_pure]
theorem isS_grownT {W W' : World} {base n b : Nat} {v : Value} {xs cs : List Value} (h : W.ownsRow base 39 7 v n xs) (hc : IsS W b 39 cs) (hne : v.ownBlock ≠ some b) (hg : W.grownBy W' v.ownBlock) : IsS W' b 39 cs :=
  (hg.block b hc.lt (Ne.symm hne)).trans hc
/-- A text's tokens, as the readers have them. -/
def ttOf (l : List UInt8) (ts : List Tok) (er : Option Rd) : TT := ⟨ts ++ [finTok l er], badOf er⟩
theorem fin_kind (l : List UInt8) (er : Option Rd) : (finTok l er).kind = 0 := by unfold finTok; split <;> rfl
theorem tt_good {l : List UInt8} {ts : List Tok} {er : Option Rd} (hl : l.length ≤ 1048576) (h1 : ts.length ≤ l.length) (hp : posOnly er) : WD (ttOf l ts er) := by
  refine ⟨fun k hk => ?_, ?_, ?_, ?_⟩
  · show k + 1 < (ts ++ [finTok l er]).length
    rw [List.length_append, List.length_singleton]
    by_cases h : k < ts.length
    · omega
    · exfalso; apply hk
      show (((ts ++ [finTok l er])[k]?).getD noTok).kind = 0
      rw [List.getElem?_append_right (by omega)]
      cases hk2 : k - ts.length with
      | zero => exact fin_kind l er
      | succ j => rfl
  · show (ts ++ [finTok l er]).length ≤ _
    rw [List.length_append, List.length_singleton]; omega
  · show 0 < (ts ++ [finTok l er]).length
    rw [List.length_append, List.length_singleton]; omega
  · intro f hf
    unfold ttOf badOf at hf
    split at hf
    · simp only [Option.some.injEq] at hf
      subst hf
      exact hp
    · cases hf
theorem fO_bad {er : Option Rd} (hp : posOnly er) : fOf er = fO (badOf er) := by
  cases er with
  | none => rfl
  | some r => cases r with
    | pos x y e => rfl
    | tok t => exact hp.elim
    | long => exact hp.elim
theorem not_tok {er : Option Rd} (hp : posOnly er) : ∀ t, er ≠ some (.tok t) := by
  rintro t rfl; exact hp
set_option maxRecDepth 100000 in
set_option maxHeartbeats 2000000 in
theorem open_long (s : ByteArray) (hsz : s.size < 4611686018427387904) (hl : 1048576 < s.size) (w : World) :
    Calls Try.prog 11 #[.string s] w fun en w' => en = .returned (.tuple #[.pointer none, .agg (fL (-1, 0, 1)).toArray]) ∧ Below w.heap.size w w' := by
  have hl' : (1048576 : Int) < s.size := by omega
  go_enter Try.func11, Try.ntmps11
  go_wp2_with (first
    | (refine wpList_allocS rfl 29 rfl (fL (0, 0, 0)) Try.zeroValue29 ?_; intro W1 b3 F1 N1; have h3 : w.heap.size ≤ b3 := Nat.le_of_eq F1.at'.symm; have B1 := F1.trans (Below.refl _ w) (Nat.le_refl _); clear F1)
    | (refine wpList_storeS rfl 29 _ _ rfl rfl (fL (-1, 0, 1)) rfl N1 (by simp [fL]) info30 (fL_one _) ?_; intro W2 U2 N2x; have N2 : IsS W2 b3 29 (fL (-1, 0, 1)) := N2x; have B2 := U2.trans B1 h3))
  exact ret_TS rfl rfl rfl N2 _ Try.underlying29 rfl info30 _ rfl ⟨rfl, B2⟩
set_option maxRecDepth 100000 in
set_option maxHeartbeats 4000000 in
theorem open_any (s : ByteArray) (hl : s.size ≤ 1048576) (ts : List Tok) (er : Option Rd) (hr : rounds s.data.toList = ts.map Rd.tok ++ er.toList) (hp : posOnly er) (hts : ts.length ≤ s.size) (w : World) :
    Calls Try.prog 11 #[.string s] w fun en w' => (∃ br g cap, en = .returned (.tuple #[.pointer (some ⟨br, 0, none⟩), .agg (fL (0, 0, 0)).toArray]) ∧ w.heap.size ≤ br ∧ w.heap.size ≤ g ∧ RR (ttOf s.data.toList ts er) w' br g cap rest0 ⟨0, none⟩) ∧ Below w.heap.size w w' := by
  have hl' : ¬ ((1048576 : Int) < s.size) := by omega
  have cT := fun w => rtokens_any s (by omega) ts er hr (not_tok hp) w
  rw [fO_bad hp] at cT
  have cP := fun w => rPlaceF_any s (by omega) (s.size : Int) w
  have hsL := sizeL s
  cases er with
  | none =>
    have hpl : placeV s (s.size : Int) = .tuple #[.int .i64 ((spotF (1, 1) s.data.toList).1 : Nat), .int .i64 ((spotF (1, 1) s.data.toList).2 : Nat), .bool true] := by
      unfold placeV
      rw [if_pos ⟨by omega, Int.le_refl _⟩, Int.toNat_natCast, List.take_of_length_le (by omega)]
    rw [hpl] at cP
    have hfin : finTok s.data.toList none = ⟨0, [], 0, (spotF (1, 1) s.data.toList).1, (spotF (1, 1) s.data.toList).2, s.size, s.size⟩ := by unfold finTok; rw [hsL]
    have HF : Hid (ttOf s.data.toList ts none = ⟨ts ++ [⟨0, [], 0, (spotF (1, 1) s.data.toList).1, (spotF (1, 1) s.data.toList).2, s.size, s.size⟩], none⟩) := (by show _ = _; unfold ttOf; rw [hfin]; rfl)
    generalize (spotF (1, 1) s.data.toList).1 = z1 at *
    generalize (spotF (1, 1) s.data.toList).2 = z2 at *
    clear hr hpl hfin hsL
    have tk : True := trivial
    go_enter Try.func11, Try.ntmps11
    go_wp2_with (first
      | (refine wpList_allocS rfl 29 rfl (fL (0, 0, 0)) Try.zeroValue29 ?_; clear tk; intro W1 b3 F1 N1; have h3 : w.heap.size ≤ b3 := Nat.le_of_eq F1.at'.symm; have B1 := F1.trans (Below.refl _ w) (Nat.le_refl _); clear F1)
      | (go_at_call 25; refine (cT _).mono ?_; rintro en W2 ⟨⟨v, rfl, O2⟩, B2x⟩; have N2 := N1.grown B2x; have B2 := Below.then B1 B2x; have O2' := own_base O2 B1.size; clear cT B2x N1 O2)
      | (refine wpList_allocS rfl 29 rfl (fL (0, 0, 0)) Try.zeroValue29 ?_; intro W3 b5 F3 M3; have h5 : w.heap.size ≤ b5 := Nat.le_trans B2.size (Nat.le_of_eq F3.at'.symm); have n35 : b3 ≠ b5 := (by have := N2.lt; have := F3.at'; omega); have N3 := N2.fresh F3; have B3 := F3.trans B2 B2.size; have O3 := own_belowW O2' (F3.trans (Below.refl _ _) (Nat.le_refl _)); clear F3 N2 O2')
      | (refine wpList_storeS rfl 29 _ _ rfl rfl (fL (0, 0, 0)) rfl M3 (by simp [fL]) info30 (fL_one _) ?_; intro W4 U4 M4x; have M4 : IsS W4 b5 29 (fL (0, 0, 0)) := M4x; have N4 := N3.upd U4 n35; have B4 := U4.trans B3 h5; have O4 := own_updN O3 U4 (own_ne O3 M3 (by decide)); have c0 : W4.cell? ⟨b5, 0, none⟩ = some (.int .i64 0) := M4.cell 0; have c1 : W4.cell? ⟨b5, 1, none⟩ = some (.int .i64 0) := M4.cell 1; clear U4 M4x M3 N3 O3)
      | (refine wpList_allocS rfl 39 rfl (tokL noTok) Try.zeroValue39 ?_; intro W5 b6 F5 L5; have h6 : w.heap.size ≤ b6 := Nat.le_trans B4.size (Nat.le_of_eq F5.at'.symm); have n36 : b3 ≠ b6 := (by have := N4.lt; have := F5.at'; omega); have n56 : b5 ≠ b6 := (by have := M4.lt; have := F5.at'; omega); have N5 := N4.fresh F5; have M5 := M4.fresh F5; have B5 := F5.trans B4 B4.size; have O5 := own_belowW O4 (F5.trans (Below.refl _ _) (Nat.le_refl _)); have o6 : v.ownBlock ≠ some b6 := (fun hg => (by have := (O4.lt _ hg).2; have := F5.at'; omega)); clear F5 N4 M4 O4 c0 c1)
      | (refine wpList_storeS rfl 39 _ _ rfl rfl (tokL ⟨0, [], 0, 0, 0, s.size, s.size⟩) rfl L5 (by simp [tokL, noTok]) info38 (tok_one _) ?_; intro W6 U6 L6x; have L6 : IsS W6 b6 39 (tokL ⟨0, [], 0, 0, 0, s.size, s.size⟩) := L6x; have N6 := N5.upd U6 n36; have M6 := M5.upd U6 n56; have B6 := U6.trans B5 h6; have O6 := own_updN O5 U6 o6; have c2 : W6.cell? ⟨b5, 2, none⟩ = some (.int .i64 0) := M6.cell 2; clear U6 L6x L5 N5 M5 O5)
      | (go_at_call 26; refine (cP _).mono ?_; rintro en w' ⟨rfl, hw'⟩; replace hw' := hw'.symm; subst hw'; clear cP)
      | (refine wpList_store1 rfl 3 _ _ rfl rfl (.int .i64 (z1 : Int)) rfl L6 (by simp [tokL]) info3 rfl ?_; intro W7 U7 L7x; have L7 : IsS W7 b6 39 (tokL ⟨0, [], 0, z1, 0, s.size, s.size⟩) := L7x; have N7 := N6.upd U7 n36; have M7 := M6.upd U7 n56; have B7 := U7.trans B6 h6; have O7 := own_updN O6 U7 o6; clear U7 L7x L6 N6 M6 O6 c2)
      | (refine wpList_store1 rfl 3 _ _ rfl rfl (.int .i64 (z2 : Int)) rfl L7 (by simp [tokL]) info3 rfl ?_; intro W8 U8 L8x; have L8 : IsS W8 b6 39 (tokL ⟨0, [], 0, z1, z2, s.size, s.size⟩) := L8x; have N8 := N7.upd U8 n36; have M8 := M7.upd U8 n56; have B8 := U8.trans B7 h6; have O8 := own_updN O7 U8 o6; clear U8 L8x L7 N7 M7 O7))
    obtain ⟨X, hX⟩ : ∃ X : World, X = { W8 with drawn := W8.drawn + 1 } := ⟨_, rfl⟩
    have L9 : IsS X b6 39 (tokL ⟨0, [], 0, z1, z2, s.size, s.size⟩) := (by rw [hX]; exact L8)
    have M9 : IsS X b5 29 (fL (0, 0, 0)) := (by rw [hX]; exact M8)
    have N9 : IsS X b3 29 (fL (0, 0, 0)) := (by rw [hX]; exact N8)
    have B9 : Below w.heap.size w X := (by rw [hX]; exact ⟨B8.os, B8.tape, B8.output, B8.size, B8.block⟩)
    have O9 : X.ownsRow w.heap.size 39 7 v ts.length (cellsT ts) := (by rw [hX]; exact own_belowW O8 ⟨rfl, rfl, rfl, Nat.le_refl _, fun _ _ => rfl⟩)
    clear L8 M8 N8 B8 O8
    try dsimp only [Act.put]
    refine (wpIn_wide (n := 0)).1 ?_
    refine region_headC (fun w => IsS w b5 29 (fL (0, 0, 0)) ∧ IsS w b6 39 (tokL ⟨0, [], 0, z1, z2, s.size, s.size⟩)) 9 (by kernel_rfl) (by decide) ?_
    rw [← hX]
    clear hX
    refine atC_take (fun _ => trivial) (headed_of (by kernel_rfl)) 0 rfl (by kernel_rfl) (fun c a w h => h) (v := v) (.inl ⟨rfl, fun w hc => ?y0⟩) ⟨M9, L9⟩ ?_
    case y0 =>
      rfl
    simp only [Act.put, List.getElem_toArray, List.getElem_cons_zero, List.getElem_cons_succ, List.setIfInBounds_toArray, List.set_cons_succ, List.set_cons_zero]
    refine atC_take (fun _ => trivial) (headed_of (by kernel_rfl)) 1 rfl (by kernel_rfl) (fun c a w h => h) (v := .agg (tokL ⟨0, [], 0, z1, z2, s.size, s.size⟩).toArray) (.inl ⟨rfl, fun w hc => ?y1⟩) ⟨M9, L9⟩ ?_
    case y1 =>
      exact run_loadP 39 _ rfl rfl hc.2 7 (tokL ⟨0, [], 0, z1, z2, s.size, s.size⟩) rfl _ Try.underlying39 rfl info38
    simp only [Act.put, List.getElem_toArray, List.getElem_cons_zero, List.getElem_cons_succ, List.setIfInBounds_toArray, List.set_cons_succ, List.set_cons_zero]
    refine atC_take (fun _ => trivial) (headed_of (by kernel_rfl)) 4 rfl (by kernel_rfl) (fun c a w h => h) (v := .agg (fL (0, 0, 0)).toArray) (.inl ⟨rfl, fun w hc => ?y4⟩) ⟨M9, L9⟩ ?_
    case y4 =>
      exact run_loadP 29 _ rfl rfl hc.1 3 (fL (0, 0, 0)) rfl _ Try.underlying29 rfl info30
    simp only [Act.put, List.getElem_toArray, List.getElem_cons_zero, List.getElem_cons_succ, List.setIfInBounds_toArray, List.set_cons_succ, List.set_cons_zero]
    refine atC_take (fun _ => trivial) (headed_of (by kernel_rfl)) 7 rfl (by kernel_rfl) (fun c a w h => h) (v := .agg (fL (0, 0, 0)).toArray) (.inl ⟨rfl, fun w hc => ?y7⟩) ⟨M9, L9⟩ ?_
    case y7 =>
      first | rfl | simp [execOp, go_sem, fL]
    simp only [Act.put, List.getElem_toArray, List.getElem_cons_zero, List.getElem_cons_succ, List.setIfInBounds_toArray, List.set_cons_succ, List.set_cons_zero]
    refine atC_ex (fun _ => trivial) 2 rfl (by kernel_rfl) (by intro c h; cases h) rfl (run_buildT (w := X) _ rfl ⟨0, [], 0, z1, z2, s.size, s.size⟩ rfl) ?_
    rintro _ Y ⟨b9, rfl, FY, NY⟩
    refine ⟨⟨M9.fresh FY, L9.fresh FY⟩, ?_⟩
    simp only [Act.put, List.getElem_toArray, List.getElem_cons_zero, List.getElem_cons_succ, List.setIfInBounds_toArray, List.set_cons_succ, List.set_cons_zero]
    have OY := own_belowW O9 (FY.trans (Below.refl _ _) (Nat.le_refl _))
    have BY := FY.trans B9 B9.size
    have M10 := M9.fresh FY
    have L10 := L9.fresh FY
    have N10 := N9.fresh FY
    clear M9 L9 N9 O9 B9 FY
    refine atC_ex (fun _ => trivial) 3 rfl (by kernel_rfl) (by intro c h; cases h) rfl (run_appT (w := Y) _ _ rfl w.heap.size v ts rfl OY b9 ⟨0, [], 0, z1, z2, s.size, s.size⟩ rfl NY (by omega) BY.size) ?_
    rintro v2 Z ⟨OZ, gZ⟩
    have M11 := isS_grownBy OY M10 (by decide) gZ
    have L11 := isS_grownT OY L10 o6 gZ
    have N11 := isS_grownBy OY N10 (by decide) gZ
    refine ⟨⟨M11, L11⟩, ?_⟩
    simp only [Act.put, List.getElem_toArray, List.getElem_cons_zero, List.getElem_cons_succ, List.setIfInBounds_toArray, List.set_cons_succ, List.set_cons_zero]
    have BZ := BY.grown gZ BY.size (fun k hk => (OY.lt k hk).1)
    obtain ⟨g, cap, rfl, hg1, hg2, hg3⟩ := own_tokT OZ (by simp) (by omega)
    clear M10 L10 N10 OY BY gZ NY
    refine atC_run (fun _ => trivial) 5 rfl (by kernel_rfl) (by intro c h; cases h) rfl (v := .agg (rrL g (ts.length + 1) cap (none) ⟨0, none⟩ rest0).toArray) (w' := Z) (by first | rfl | simp [execOp, go_sem, rrL, fL, fO, rest0]) ⟨M11, L11⟩ ?_
    simp only [Act.put, List.getElem_toArray, List.getElem_cons_zero, List.getElem_cons_succ, List.setIfInBounds_toArray, List.set_cons_succ, List.set_cons_zero]
    refine atC_ex (fun _ => trivial) 6 rfl (by kernel_rfl) (by intro c h; cases h) rfl (run_boxR (w := Z) _ rfl (rrL g (ts.length + 1) cap (none) ⟨0, none⟩ rest0) rfl) ?_
    rintro _ V ⟨br, rfl, FV, NV⟩
    refine ⟨⟨M11.fresh FV, L11.fresh FV⟩, ?_⟩
    simp only [Act.put, List.getElem_toArray, List.getElem_cons_zero, List.getElem_cons_succ, List.setIfInBounds_toArray, List.set_cons_succ, List.set_cons_zero]
    refine atC_run (fun _ => trivial) 8 rfl (by kernel_rfl) (by intro c h; cases h) rfl (v := .pointer (some ⟨br, 0, none⟩)) (w' := V) (by first | rfl | simp [execOp, go_sem]) ⟨M11.fresh FV, L11.fresh FV⟩ ?_
    simp only [Act.put, List.getElem_toArray, List.getElem_cons_zero, List.getElem_cons_succ, List.setIfInBounds_toArray, List.set_cons_succ, List.set_cons_zero]
    have NN := N11.fresh FV
    have BV := FV.trans BZ BZ.size
    have hbr : w.heap.size ≤ br := Nat.le_trans BZ.size (Nat.le_of_eq FV.at'.symm)
    have hgb : g ≠ br := (by have := FV.at'; omega)
    have h3b : b3 ≠ br := (by have := N11.lt; have := FV.at'; omega)
    have h3g : g ≠ b3 := (fun e => own_ne OZ N11 (by decide) (by rw [← e]; rfl))
    have RRV : RR (TT.mk (ts ++ [⟨0, [], 0, z1, z2, s.size, s.size⟩]) (none)) V br g cap rest0 ⟨0, none⟩ := ⟨by show IsS V br _ (rrL g (ts ++ ([⟨0, [], 0, z1, z2, s.size, s.size⟩] : List Tok)).length cap _ _ _); rw [List.length_append]; exact NV, fun j t ht i u hu => (FV.below.cell (p := ⟨g, j * 7 + i, none⟩) (by have := FV.at'; show g < br; omega)).trans (hg3 j t ht i u hu), by have := FV.at'; have := FV.size; omega, hgb⟩
    refine atC_end (by kernel_rfl) ?_
    simp only [List.drop_succ_cons, List.drop_zero]
    clear M11 L11 N11 OZ BZ FV NV hg3
    gi_wp2_with (first
      | (refine inStoreS rfl 29 _ _ rfl rfl (fL (0, 0, 0)) rfl NN (by simp [fL]) info30 (fL_one _) ?_; intro W9 U9 N9x; have N9 : IsS W9 b3 29 (fL (0, 0, 0)) := N9x; have R9 := RRV.upd U9 (Ne.symm h3b) h3g; have B9 := U9.trans BV h3))
    go_wp2_with fail
    refine ret_TS rfl rfl rfl N9 _ Try.underlying29 rfl info30 _ rfl ⟨⟨br, g, cap, rfl, hbr, hg1, ?_⟩, B9⟩
    rw [HF.out]; exact R9
  | some r =>
    cases r with
    | tok t => exact hp.elim
    | long => exact hp.elim
    | pos x y e =>
      have hfin : finTok s.data.toList (some (.pos x y e)) = ⟨0, [], 0, x, y, s.size, s.size⟩ := by unfold finTok; rw [hsL]
      have HF : Hid (ttOf s.data.toList ts (some (.pos x y e)) = ⟨ts ++ [⟨0, [], 0, x, y, s.size, s.size⟩], some (x, y, e)⟩) := (by show _ = _; unfold ttOf; rw [hfin]; rfl)
      have hbe : fO (badOf (some (.pos x y e))) = ((x : Int), (y : Int), (e : Int)) := rfl
      rw [hbe] at cT
      have he0 : ((e : Int) == 0) = false := (by have h : e ≠ 0 := hp; simp; omega)
      clear hr hfin hsL cP hbe
      have tk : True := trivial
      go_enter Try.func11, Try.ntmps11
      go_wp2_with (first
        | (refine wpList_allocS rfl 29 rfl (fL (0, 0, 0)) Try.zeroValue29 ?_; clear tk; intro W1 b3 F1 N1; have h3 : w.heap.size ≤ b3 := Nat.le_of_eq F1.at'.symm; have B1 := F1.trans (Below.refl _ w) (Nat.le_refl _); clear F1)
        | (go_at_call 25; refine (cT _).mono ?_; rintro en W2 ⟨⟨v, rfl, O2⟩, B2x⟩; have N2 := N1.grown B2x; have B2 := Below.then B1 B2x; have O2' := own_base O2 B1.size; clear cT B2x N1 O2)
        | (refine wpList_allocS rfl 29 rfl (fL (0, 0, 0)) Try.zeroValue29 ?_; intro W3 b5 F3 M3; have h5 : w.heap.size ≤ b5 := Nat.le_trans B2.size (Nat.le_of_eq F3.at'.symm); have n35 : b3 ≠ b5 := (by have := N2.lt; have := F3.at'; omega); have N3 := N2.fresh F3; have B3 := F3.trans B2 B2.size; have O3 := own_belowW O2' (F3.trans (Below.refl _ _) (Nat.le_refl _)); clear F3 N2 O2')
        | (refine wpList_storeS rfl 29 _ _ rfl rfl (fL ((x : Int), (y : Int), (e : Int))) rfl M3 (by simp [fL]) info30 (fL_one _) ?_; intro W4 U4 M4x; have M4 : IsS W4 b5 29 (fL ((x : Int), (y : Int), (e : Int))) := M4x; have N4 := N3.upd U4 n35; have B4 := U4.trans B3 h5; have O4 := own_updN O3 U4 (own_ne O3 M3 (by decide)); have c0 : W4.cell? ⟨b5, 0, none⟩ = some (.int .i64 (x : Int)) := M4.cell 0; have c1 : W4.cell? ⟨b5, 1, none⟩ = some (.int .i64 (y : Int)) := M4.cell 1; clear U4 M4x M3 N3 O3)
        | (refine wpList_allocS rfl 39 rfl (tokL noTok) Try.zeroValue39 ?_; intro W5 b6 F5 L5; have h6 : w.heap.size ≤ b6 := Nat.le_trans B4.size (Nat.le_of_eq F5.at'.symm); have n36 : b3 ≠ b6 := (by have := N4.lt; have := F5.at'; omega); have n56 : b5 ≠ b6 := (by have := M4.lt; have := F5.at'; omega); have N5 := N4.fresh F5; have M5 := M4.fresh F5; have B5 := F5.trans B4 B4.size; have O5 := own_belowW O4 (F5.trans (Below.refl _ _) (Nat.le_refl _)); have o6 : v.ownBlock ≠ some b6 := (fun hg => (by have := (O4.lt _ hg).2; have := F5.at'; omega)); clear F5 N4 M4 O4 c0 c1)
        | (refine wpList_storeS rfl 39 _ _ rfl rfl (tokL ⟨0, [], 0, x, y, s.size, s.size⟩) rfl L5 (by simp [tokL, noTok]) info38 (tok_one _) ?_; intro W6 U6 L6x; have L6 : IsS W6 b6 39 (tokL ⟨0, [], 0, x, y, s.size, s.size⟩) := L6x; have N6 := N5.upd U6 n36; have M6 := M5.upd U6 n56; have B6 := U6.trans B5 h6; have O6 := own_updN O5 U6 o6; have c2 : W6.cell? ⟨b5, 2, none⟩ = some (.int .i64 (e : Int)) := M6.cell 2; clear U6 L6x L5 N5 M5 O5))
      obtain ⟨X, hX⟩ : ∃ X : World, X = { W6 with drawn := W6.drawn + 1 } := ⟨_, rfl⟩
      have L9 : IsS X b6 39 (tokL ⟨0, [], 0, x, y, s.size, s.size⟩) := (by rw [hX]; exact L6)
      have M9 : IsS X b5 29 (fL ((x : Int), (y : Int), (e : Int))) := (by rw [hX]; exact M6)
      have N9 : IsS X b3 29 (fL (0, 0, 0)) := (by rw [hX]; exact N6)
      have B9 : Below w.heap.size w X := (by rw [hX]; exact ⟨B6.os, B6.tape, B6.output, B6.size, B6.block⟩)
      have O9 : X.ownsRow w.heap.size 39 7 v ts.length (cellsT ts) := (by rw [hX]; exact own_belowW O6 ⟨rfl, rfl, rfl, Nat.le_refl _, fun _ _ => rfl⟩)
      clear L6 M6 N6 B6 O6 c2
      try dsimp only [Act.put]
      refine (wpIn_wide (n := 0)).1 ?_
      refine region_headC (fun w => IsS w b5 29 (fL ((x : Int), (y : Int), (e : Int))) ∧ IsS w b6 39 (tokL ⟨0, [], 0, x, y, s.size, s.size⟩)) 9 (by kernel_rfl) (by decide) ?_
      rw [← hX]
      clear hX
      refine atC_take (fun _ => trivial) (headed_of (by kernel_rfl)) 0 rfl (by kernel_rfl) (fun c a w h => h) (v := v) (.inl ⟨rfl, fun w hc => ?y0⟩) ⟨M9, L9⟩ ?_
      case y0 =>
        rfl
      simp only [Act.put, List.getElem_toArray, List.getElem_cons_zero, List.getElem_cons_succ, List.setIfInBounds_toArray, List.set_cons_succ, List.set_cons_zero]
      refine atC_take (fun _ => trivial) (headed_of (by kernel_rfl)) 1 rfl (by kernel_rfl) (fun c a w h => h) (v := .agg (tokL ⟨0, [], 0, x, y, s.size, s.size⟩).toArray) (.inl ⟨rfl, fun w hc => ?y1⟩) ⟨M9, L9⟩ ?_
      case y1 =>
        exact run_loadP 39 _ rfl rfl hc.2 7 (tokL ⟨0, [], 0, x, y, s.size, s.size⟩) rfl _ Try.underlying39 rfl info38
      simp only [Act.put, List.getElem_toArray, List.getElem_cons_zero, List.getElem_cons_succ, List.setIfInBounds_toArray, List.set_cons_succ, List.set_cons_zero]
      refine atC_take (fun _ => trivial) (headed_of (by kernel_rfl)) 4 rfl (by kernel_rfl) (fun c a w h => h) (v := .agg (fL ((x : Int), (y : Int), (e : Int))).toArray) (.inl ⟨rfl, fun w hc => ?y4⟩) ⟨M9, L9⟩ ?_
      case y4 =>
        exact run_loadP 29 _ rfl rfl hc.1 3 (fL ((x : Int), (y : Int), (e : Int))) rfl _ Try.underlying29 rfl info30
      simp only [Act.put, List.getElem_toArray, List.getElem_cons_zero, List.getElem_cons_succ, List.setIfInBounds_toArray, List.set_cons_succ, List.set_cons_zero]
      refine atC_take (fun _ => trivial) (headed_of (by kernel_rfl)) 7 rfl (by kernel_rfl) (fun c a w h => h) (v := .agg (fL (0, 0, 0)).toArray) (.inl ⟨rfl, fun w hc => ?y7⟩) ⟨M9, L9⟩ ?_
      case y7 =>
        first | rfl | simp [execOp, go_sem, fL]
      simp only [Act.put, List.getElem_toArray, List.getElem_cons_zero, List.getElem_cons_succ, List.setIfInBounds_toArray, List.set_cons_succ, List.set_cons_zero]
      refine atC_ex (fun _ => trivial) 2 rfl (by kernel_rfl) (by intro c h; cases h) rfl (run_buildT (w := X) _ rfl ⟨0, [], 0, x, y, s.size, s.size⟩ rfl) ?_
      rintro _ Y ⟨b9, rfl, FY, NY⟩
      refine ⟨⟨M9.fresh FY, L9.fresh FY⟩, ?_⟩
      simp only [Act.put, List.getElem_toArray, List.getElem_cons_zero, List.getElem_cons_succ, List.setIfInBounds_toArray, List.set_cons_succ, List.set_cons_zero]
      have OY := own_belowW O9 (FY.trans (Below.refl _ _) (Nat.le_refl _))
      have BY := FY.trans B9 B9.size
      have M10 := M9.fresh FY
      have L10 := L9.fresh FY
      have N10 := N9.fresh FY
      clear M9 L9 N9 O9 B9 FY
      refine atC_ex (fun _ => trivial) 3 rfl (by kernel_rfl) (by intro c h; cases h) rfl (run_appT (w := Y) _ _ rfl w.heap.size v ts rfl OY b9 ⟨0, [], 0, x, y, s.size, s.size⟩ rfl NY (by omega) BY.size) ?_
      rintro v2 Z ⟨OZ, gZ⟩
      have M11 := isS_grownBy OY M10 (by decide) gZ
      have L11 := isS_grownT OY L10 o6 gZ
      have N11 := isS_grownBy OY N10 (by decide) gZ
      refine ⟨⟨M11, L11⟩, ?_⟩
      simp only [Act.put, List.getElem_toArray, List.getElem_cons_zero, List.getElem_cons_succ, List.setIfInBounds_toArray, List.set_cons_succ, List.set_cons_zero]
      have BZ := BY.grown gZ BY.size (fun k hk => (OY.lt k hk).1)
      obtain ⟨g, cap, rfl, hg1, hg2, hg3⟩ := own_tokT OZ (by simp) (by omega)
      clear M10 L10 N10 OY BY gZ NY
      refine atC_run (fun _ => trivial) 5 rfl (by kernel_rfl) (by intro c h; cases h) rfl (v := .agg (rrL g (ts.length + 1) cap (some (x, y, e)) ⟨0, none⟩ rest0).toArray) (w' := Z) (by first | rfl | simp [execOp, go_sem, rrL, fL, fO, rest0]) ⟨M11, L11⟩ ?_
      simp only [Act.put, List.getElem_toArray, List.getElem_cons_zero, List.getElem_cons_succ, List.setIfInBounds_toArray, List.set_cons_succ, List.set_cons_zero]
      refine atC_ex (fun _ => trivial) 6 rfl (by kernel_rfl) (by intro c h; cases h) rfl (run_boxR (w := Z) _ rfl (rrL g (ts.length + 1) cap (some (x, y, e)) ⟨0, none⟩ rest0) rfl) ?_
      rintro _ V ⟨br, rfl, FV, NV⟩
      refine ⟨⟨M11.fresh FV, L11.fresh FV⟩, ?_⟩
      simp only [Act.put, List.getElem_toArray, List.getElem_cons_zero, List.getElem_cons_succ, List.setIfInBounds_toArray, List.set_cons_succ, List.set_cons_zero]
      refine atC_run (fun _ => trivial) 8 rfl (by kernel_rfl) (by intro c h; cases h) rfl (v := .pointer (some ⟨br, 0, none⟩)) (w' := V) (by first | rfl | simp [execOp, go_sem]) ⟨M11.fresh FV, L11.fresh FV⟩ ?_
      simp only [Act.put, List.getElem_toArray, List.getElem_cons_zero, List.getElem_cons_succ, List.setIfInBounds_toArray, List.set_cons_succ, List.set_cons_zero]
      have NN := N11.fresh FV
      have BV := FV.trans BZ BZ.size
      have hbr : w.heap.size ≤ br := Nat.le_trans BZ.size (Nat.le_of_eq FV.at'.symm)
      have hgb : g ≠ br := (by have := FV.at'; omega)
      have h3b : b3 ≠ br := (by have := N11.lt; have := FV.at'; omega)
      have h3g : g ≠ b3 := (fun e => own_ne OZ N11 (by decide) (by rw [← e]; rfl))
      have RRV : RR (TT.mk (ts ++ [⟨0, [], 0, x, y, s.size, s.size⟩]) (some (x, y, e))) V br g cap rest0 ⟨0, none⟩ := ⟨by show IsS V br _ (rrL g (ts ++ ([⟨0, [], 0, x, y, s.size, s.size⟩] : List Tok)).length cap _ _ _); rw [List.length_append]; exact NV, fun j t ht i u hu => (FV.below.cell (p := ⟨g, j * 7 + i, none⟩) (by have := FV.at'; show g < br; omega)).trans (hg3 j t ht i u hu), by have := FV.at'; have := FV.size; omega, hgb⟩
      refine atC_end (by kernel_rfl) ?_
      simp only [List.drop_succ_cons, List.drop_zero]
      clear M11 L11 N11 OZ BZ FV NV hg3
      gi_wp2_with (first
        | (refine inStoreS rfl 29 _ _ rfl rfl (fL (0, 0, 0)) rfl NN (by simp [fL]) info30 (fL_one _) ?_; intro W9 U9 N9x; have N9 : IsS W9 b3 29 (fL (0, 0, 0)) := N9x; have R9 := RRV.upd U9 (Ne.symm h3b) h3g; have B9 := U9.trans BV h3))
      go_wp2_with fail
      refine ret_TS rfl rfl rfl N9 _ Try.underlying29 rfl info30 _ rfl ⟨⟨br, g, cap, rfl, hbr, hg1, ?_⟩, B9⟩
      rw [HF.out]; exact R9
end Go.Proofs.Ytpbcngnginffgaa

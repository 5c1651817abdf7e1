/- Several texts in one: FN, PE. -/
import Derived.Test.YtegpnicajlndlaaQah
import Derived.Laws.IdiomCopy
/- Final states: lists of at most 48 values; grown. -/
namespace Go.Proofs.Ytegpnicajlndlaa
open Go.RowKit M
set_option linter.unusedSimpArgs false
set_option linter.unusedVariables false

def padI (vs : List Int) : List Int := vs ++ List.replicate (48 - vs.length) 0
def finL (vs : List Int) : List Value := .int .i64 (vs.length : Int) :: (padI vs).map (.int .i64)
theorem padI_len {vs : List Int} (h : vs.length ≤ 48) : (padI vs).length = 48 := by unfold padI; rw [List.length_append, List.length_replicate]; omega
theorem finL_len {vs : List Int} (h : vs.length ≤ 48) : (finL vs).length = 49 := by unfold finL; rw [List.length_cons, List.length_map, padI_len h]
theorem finL_one (vs : List Int) : ∀ v ∈ finL vs, v.oneCell' = true := fun v hv => by
  unfold finL at hv
  rcases List.mem_cons.1 hv with rfl | hv
  · rfl
  · obtain ⟨i, _, rfl⟩ := List.mem_map.1 hv; rfl
theorem infoFin : (Try.prog.info? 80).map (·.size) = some 49 := by kernel_rfl
theorem zeroFin (w : World) : (zeroValue 80).run Try.prog w = .ok (.agg (finL []).toArray) w := by
  have h : Try.t80.zero = some (.agg (finL []).toArray) := by kernel_rfl
  simp [go_sem, zeroValue, h]
/-- So many values: those that there are, then 0. -/
def padTo (m : Nat) (vals : List Int) : List Int := (List.range m).map fun i => vals.getD i 0
theorem padTo_len (m : Nat) (vals : List Int) : (padTo m vals).length = m := by simp [padTo]
theorem padTo_take (m n : Nat) (vals : List Int) (h : n ≤ m) : (padTo m vals).take n = padTo n vals := by
  refine List.ext_getElem (by rw [List.length_take, padTo_len, padTo_len]; omega) fun i h1 h2 => ?_
  simp [padTo]
def slA (b N : Nat) : Addr := if 48 = N then ⟨b, 1, none⟩ else ⟨b, 1 + N, none⟩
theorem run_sl (w : World) (b N n : Nat) (h : N + n ≤ 48) : (Instr.sliceAt 78 (.pointer (some ⟨b, 1, none⟩)) (some (.int .i64 (N : Int))) (some (.int .i64 ((N : Int) + (n : Int)))) none).run Try.prog w = .ok (.slice (some (slA b N)) n (48 - N)) w := by
  have h1 : (0 : Int) ≤ (N : Int) + n ∧ (N : Int) + n ≤ 48 := by omega
  have h2 : N ≤ ((N : Int) + n).toNat := by omega
  have h3 : ((N : Int) + n).toNat - N = n := by omega
  have hs : ¬ ((N : Int) + n < 0) := by omega
  simp [go_sem, Instr.sliceAt, h1, h2, h3, slA]
theorem infoI2 : (Try.prog.info? 2).map (·.size) = some 1 := by kernel_rfl
theorem int_map (vals : List Int) : vals.flatMap intE = vals.map (.int .i64) := flat1 _ vals
theorem run_cp (w : World) (ty : TypeId) (b t N n nv c : Nat) (cs : List Value) (vals : List Int) (hn : N + n ≤ 48) (hv : vals.length = nv) (a : Option Addr) (hC : IsS w b t cs) (hl : cs.length = 49) (hs : Seg w a (vals.flatMap intE)) :
    ∃ v W, (Builtin.copy_ #[26, 26] ty #[.slice (some (slA b N)) n (48 - N), .slice a nv c]).run Try.prog w = .ok v W ∧ Upd w W b ∧ IsS W b t (putL cs (1 + N) ((vals.take n).map (.int .i64))) := by
  by_cases h0 : Nat.min nv n = 0
  · refine ⟨_, w, run_copy_none (P := Try.prog) w _ _ ty 2 _ _ n (48 - N) nv c Try.underlying26 infoI2 h0, Upd.refl w b, ?_⟩
    have : vals.take n = [] := by
      rcases Nat.eq_zero_or_pos n with h | h
      · rw [h]; rfl
      · have : nv = 0 := by
          have h' : min nv n = 0 := h0
          omega
        have : vals = [] := List.length_eq_zero_iff.1 (by omega)
        rw [this]; simp
    rw [this]; exact hC
  · have h0' : min nv n ≠ 0 := h0
    have hsl : slA b N = ⟨b, 1 + N, none⟩ := by unfold slA; rw [if_neg (by omega)]
    rw [hsl]
    obtain ⟨v0, hv0⟩ : ∃ v, vals[0]? = some v := ⟨_, List.getElem?_eq_getElem (by omega)⟩
    obtain ⟨ba, oa, rfl, _, _⟩ := hs.int hv0
    have hlen : ((vals.take n).map (Value.int .i64)).length = Nat.min nv n := by
      rw [List.length_map, List.length_take, hv]; show min n nv = min nv n; omega
    have hle : min nv n ≤ n := Nat.min_le_right _ _
    refine ⟨_, _, run_copy_cells (P := Try.prog) w _ _ ty 2 b (1 + N) n (48 - N) ⟨ba, oa, none⟩ nv c ((vals.take n).map (.int .i64)) Try.underlying26 infoI2 hlen (fun j v hj => ?_) (fun j hj => ?_) (fun j hj => hC.frozen _) (fun v hv' => ?_), Upd.setCells b _ _ w, IsS.setL _ _ _ _ hC⟩
    · rw [Addr.add_mid]
      rw [List.getElem?_map, List.getElem?_take] at hj
      split at hj
      · cases hq : vals[j]? with
        | none => rw [hq] at hj; cases hj
        | some x =>
          rw [hq] at hj; cases hj
          obtain ⟨b', o', e', _, hc⟩ := hs.int hq
          cases e'; exact hc
      · cases hj
    · rw [hC.cell, List.getElem?_eq_getElem (by have h' : Nat.min nv n = min nv n := rfl; omega)]; rfl
    · obtain ⟨x, _, rfl⟩ := List.mem_map.1 hv'; rfl
/-- Cells replaced, one by one. -/
theorem putL_get : ∀ (vs cs : List Value) (o j : Nat), o + vs.length ≤ cs.length → (putL cs o vs)[j]? = if o ≤ j ∧ j < o + vs.length then vs[j - o]? else cs[j]?
  | [], cs, o, j, h => by rw [if_neg (by simp only [List.length_nil]; omega)]; rfl
  | v :: vs, cs, o, j, h => by
    show (putL (cs.set o v) (o + 1) vs)[j]? = _
    simp only [List.length_cons] at *
    rw [putL_get vs (cs.set o v) (o + 1) j (by rw [List.length_set]; omega)]
    by_cases h1 : o + 1 ≤ j ∧ j < o + 1 + vs.length
    · rw [if_pos h1, if_pos (by omega), show j - o = (j - (o + 1)) + 1 by omega]; rfl
    · rw [if_neg h1]
      by_cases h2 : j = o
      · subst h2
        rw [if_pos (by omega), List.getElem?_set_self (by omega), Nat.sub_self]; rfl
      · rw [if_neg (by omega), List.getElem?_set_ne (by omega)]
theorem putL_len : ∀ (vs cs : List Value) (o : Nat), (putL cs o vs).length = cs.length
  | [], cs, o => rfl
  | v :: vs, cs, o => by show (putL (cs.set o v) (o + 1) vs).length = _; rw [putL_len vs, List.length_set]
theorem finL_get (vs : List Int) (hv : vs.length ≤ 48) (j : Nat) (hj : j < 48) : (finL vs)[j + 1]? = some (.int .i64 (vs.getD j 0)) := by
  unfold finL padI
  rw [List.getElem?_cons_succ, List.getElem?_map]
  by_cases h : j < vs.length
  · rw [List.getElem?_append_left h, List.getElem?_eq_getElem h]
    simp [h]
  · rw [List.getElem?_append_right (by omega), List.getElem?_replicate, if_pos (by omega)]
    simp [Nat.not_lt.1 h]
/-- The values are laid into the cells. -/
theorem put_fin (vs vals : List Int) (n : Nat) (h : vs.length + n ≤ 48) :
    ((putL (finL vs) (1 + vs.length) ((vals.take n).map (.int .i64))).set 0 (.int .i64 ((vs.length : Int) + (n : Int)))) = finL (vs ++ padTo n vals) := by
  have hL : (vs ++ padTo n vals).length = vs.length + n := by rw [List.length_append, padTo_len]
  have hml : ((vals.take n).map (Value.int .i64)).length ≤ n := by rw [List.length_map, List.length_take]; omega
  refine List.ext_getElem? fun j => ?_
  cases j with
  | zero =>
    rw [List.getElem?_set_self (by rw [putL_len, finL_len (by omega)]; omega)]
    unfold finL
    rw [List.getElem?_cons_zero, hL]
    simp
  | succ j =>
    rw [List.getElem?_set_ne (by omega), putL_get _ _ _ _ (by rw [finL_len (by omega)]; omega)]
    by_cases hj : j < 48
    · rw [finL_get (vs ++ padTo n vals) (by rw [hL]; exact h) j hj]
      by_cases h1 : 1 + vs.length ≤ j + 1 ∧ j + 1 < 1 + vs.length + ((vals.take n).map (Value.int .i64)).length
      · rw [if_pos h1]
        rw [List.length_map, List.length_take] at h1
        rw [List.getElem?_map, List.getElem?_take, if_pos (by omega)]
        have e : j + 1 - (1 + vs.length) = j - vs.length := by omega
        rw [e]
        obtain ⟨x, hx⟩ : ∃ x, vals[j - vs.length]? = some x := ⟨_, List.getElem?_eq_getElem (by omega)⟩
        rw [hx]
        have : (vs ++ padTo n vals).getD j 0 = x := by
          rw [List.getD_eq_getElem?_getD, List.getElem?_append_right (by omega)]
          unfold padTo
          rw [List.getElem?_map, List.getElem?_range (by omega)]
          simp [hx]
        rw [this]; rfl
      · rw [if_neg h1, finL_get vs (by omega) j hj]
        rw [List.length_map, List.length_take] at h1
        congr 2
        rw [List.getD_eq_getElem?_getD, List.getD_eq_getElem?_getD]
        by_cases h2 : j < vs.length
        · rw [List.getElem?_append_left h2]
        · rw [List.getElem?_eq_none (by omega), List.getElem?_append_right (by omega)]
          by_cases h3 : j - vs.length < n
          · unfold padTo
            rw [List.getElem?_map, List.getElem?_range h3]
            simp only [Option.map_some, Option.getD_some, Option.getD_none]
            rw [List.getD_eq_getElem?_getD, List.getElem?_eq_none (by omega)]; rfl
          · rw [List.getElem?_eq_none (by rw [padTo_len]; omega)]
    · rw [if_neg (by omega), List.getElem?_eq_none (l := finL vs) (by rw [finL_len (by omega)]; omega), List.getElem?_eq_none (by rw [finL_len (by rw [hL]; exact h)]; omega)]
theorem info3' : (Try.prog.info? 3).map (·.size) = some 1 := by kernel_rfl
theorem putL_all {cs vs : List Value} (h : vs.length = cs.length) : putL cs 0 vs = vs := by
  refine List.ext_getElem? fun j => ?_
  rw [putL_get _ _ _ _ (by omega)]
  by_cases hj : j < vs.length
  · rw [if_pos (by omega), Nat.sub_zero]
  · rw [if_neg (by omega), List.getElem?_eq_none (by omega), List.getElem?_eq_none (by omega)]
section
variable {w : World} {b t o : Nat} {cs : List Value} {ops : Array Oper} {rest : List Oper} {op : Oper} {a : Act} {Q : Exit → Act → World → Prop}
theorem wpList_loadW (hgd : op.guard = none) (ty : TypeId) (x : Operand) (ho : op.op = .load ty x) (hx : a.eval x = .pointer (some ⟨b, 0, none⟩)) (hc : IsS w b t cs) (d : TypeDesc)
    (hu : Try.prog.underlying ty = some d) (hd : d.isRow = true) (hi : (Try.prog.info? ty).map (·.size) = some cs.length)
    (h : wpList Try.prog ops Q rest (a.put op.dst (.agg cs.toArray)) w) : wpList Try.prog ops Q (op :: rest) a w := by
  have hr := hc.range 0 cs.length
  rw [List.drop_zero, List.take_length] at hr
  exact wpList_load_mid hgd ty x ho b 0 hx cs d hr hu hd hi h
theorem wpList_storeW (hgd : op.guard = none) (ty : TypeId) (x y : Operand) (ho : op.op = .store ty x y) (hx : a.eval x = .pointer (some ⟨b, 0, none⟩)) (vs : List Value) (hy : a.eval y = .agg vs.toArray) (hc : IsS w b t cs)
    (hk : vs.length = cs.length) (hi : (Try.prog.info? ty).map (·.size) = some vs.length) (h1 : ∀ v ∈ vs, v.oneCell' = true)
    (h : ∀ W, Upd w W b → IsS W b t vs → wpList Try.prog ops Q rest (a.put op.dst undef) W) : wpList Try.prog ops Q (op :: rest) a w :=
  wpList_storeS hgd ty x y ho hx vs hy hc (by omega) hi h1 (fun W U C => h W U (by rw [putL_all hk] at C; exact C))
end
set_option maxRecDepth 100000 in
set_option maxHeartbeats 4000000 in
theorem grown_in (vs vals : List Int) (m n N nv : Nat) (hN : vs.length = N) (hn : N + n ≤ 48) (hm : m ≤ 1048576) (hmn : ((48 : Int) - N < m ∧ n = 48 - N) ∨ (¬ (48 : Int) - N < m ∧ n = m)) (hv : vals.length = nv) (hl : nv ≤ 1048576) (a : Option Addr) (c : Nat) (w : World) (hs : Seg w a (vals.flatMap intE)) :
    Calls Try.prog 115 #[.agg (finL vs).toArray, .int .i64 (m : Int), .slice a nv c] w fun en w' => en = .returned (.agg (finL (vs ++ padTo n vals)).toArray) ∧ Below w.heap.size w w' := by
  have HN : Hid (vs.length = N) := hN
  have HV : Hid (vals.length = nv) := hv
  have HS : Hid (Seg w a (vals.flatMap intE)) := hs
  clear hN hv hs
  have hN0 : N ≤ 48 := by omega
  have t1 : True := trivial
  have t2 : True := trivial
  have t3 : True := trivial
  have t4 : True := trivial
  have t5 : True := trivial
  have hmm : (if (48 : Int) - N < m then (48 : Int) - N else m) = (n : Int) := by rcases hmn with ⟨h1, h2⟩ | ⟨h1, h2⟩ <;> simp [h1] <;> omega
  have HM := hmn
  rcases hmn with ⟨hmn, hnn⟩ | ⟨hmn, hnn⟩
  · have h48 : (48 : Int) - N = n := by omega
    rw [h48] at hmn
    clear hmm HM hnn
    go_enter Try.func115, Try.ntmps115
    go_wp2_with (first
      | (clear t1; refine wpList_boxS rfl 80 _ rfl (finL vs) rfl ?_; intro W1 b1 F1 C1; have B1 : Below w.heap.size w W1 := F1.trans (Below.refl _ w) (Nat.le_refl _); have hb1 : w.heap.size ≤ b1 := Nat.le_of_eq F1.at'.symm; clear F1)
      | (clear t2; refine wpList_allocS rfl 80 rfl (finL []) zeroFin ?_; intro W2 b2 F2 D2; have C2 := C1.fresh F2; have B2 := F2.trans B1 B1.size; have hb2 : w.heap.size ≤ b2 := Nat.le_trans B1.size (Nat.le_of_eq F2.at'.symm); have n12 : b1 ≠ b2 := (by have := C1.lt; have := F2.at'; omega); have c0 : W2.cell? ⟨b1, 0, none⟩ = some (.int .i64 (N : Int)) := (by rw [C2.cell 0, ← HN.out]; rfl); have hsl := run_sl W2 b1 N n hn; obtain ⟨cv, W3, hcp, U3, C3⟩ := run_cp W2 3 b1 _ N n nv c (finL vs) vals hn HV.out a C2 (finL_len (by rw [HN.out]; exact hN0)) (HS.out.below B2); have D3 := D2.upd U3 (Ne.symm n12); have B3 := U3.trans B2 hb1; have HC3 : Hid (IsS W3 b1 80 (putL (finL vs) (1 + N) ((vals.take n).map (.int .i64)))) := C3; have c3 : W3.cell? ⟨b1, 0, none⟩ = some (.int .i64 (N : Int)) := (by rw [C3.cell 0, putL_get _ _ _ _ (by rw [finL_len (by rw [HN.out]; exact hN0), List.length_map, List.length_take]; omega), if_neg (by omega), ← HN.out]; rfl); clear F2 C1 U3 C3 C2 D2)
      | (clear t3; refine wpList_store1 rfl 3 _ _ rfl rfl (.int .i64 ((N : Int) + (n : Int))) rfl HC3.out (by rw [putL_len, finL_len (by rw [HN.out]; exact hN0)]; omega) info3' rfl ?_; intro W4 U4 C4x; have D4 := D3.upd U4 (Ne.symm n12); have B4 := U4.trans B3 hb1; have C4 : IsS W4 b1 80 (finL (vs ++ padTo n vals)) := (by rw [← put_fin vs vals n (by rw [HN.out]; exact hn), HN.out]; exact C4x); clear U4 C4x D3 HC3)
      | (clear t4; refine wpList_loadW rfl 80 _ rfl rfl C4 _ Try.underlying80 rfl (by rw [finL_len (by rw [List.length_append, padTo_len, HN.out]; exact hn)]; exact infoFin) ?_)
      | (clear t5; refine wpList_storeW rfl 80 _ _ rfl rfl (finL (vs ++ padTo n vals)) rfl D4 (by rw [finL_len (by rw [List.length_append, padTo_len, HN.out]; exact hn), finL_len (by simp)]) (by rw [finL_len (by rw [List.length_append, padTo_len, HN.out]; exact hn)]; exact infoFin) (finL_one _) ?_; intro W5 U5 D5; have B5 := U5.trans B4 hb2; clear U5 D4))
    exact ret_S (cs := finL (vs ++ padTo n vals)) rfl rfl rfl D5 _ Try.underlying80 rfl (by rw [finL_len (by rw [List.length_append, padTo_len, HN.out]; exact hn)]; exact infoFin) ⟨rfl, B5⟩
  · subst hnn
    clear hmm HM
    go_enter Try.func115, Try.ntmps115
    go_wp2_with (first
      | (clear t1; refine wpList_boxS rfl 80 _ rfl (finL vs) rfl ?_; intro W1 b1 F1 C1; have B1 : Below w.heap.size w W1 := F1.trans (Below.refl _ w) (Nat.le_refl _); have hb1 : w.heap.size ≤ b1 := Nat.le_of_eq F1.at'.symm; clear F1)
      | (clear t2; refine wpList_allocS rfl 80 rfl (finL []) zeroFin ?_; intro W2 b2 F2 D2; have C2 := C1.fresh F2; have B2 := F2.trans B1 B1.size; have hb2 : w.heap.size ≤ b2 := Nat.le_trans B1.size (Nat.le_of_eq F2.at'.symm); have n12 : b1 ≠ b2 := (by have := C1.lt; have := F2.at'; omega); have c0 : W2.cell? ⟨b1, 0, none⟩ = some (.int .i64 (N : Int)) := (by rw [C2.cell 0, ← HN.out]; rfl); have hsl := run_sl W2 b1 N n hn; obtain ⟨cv, W3, hcp, U3, C3⟩ := run_cp W2 3 b1 _ N n nv c (finL vs) vals hn HV.out a C2 (finL_len (by rw [HN.out]; exact hN0)) (HS.out.below B2); have D3 := D2.upd U3 (Ne.symm n12); have B3 := U3.trans B2 hb1; have HC3 : Hid (IsS W3 b1 80 (putL (finL vs) (1 + N) ((vals.take n).map (.int .i64)))) := C3; have c3 : W3.cell? ⟨b1, 0, none⟩ = some (.int .i64 (N : Int)) := (by rw [C3.cell 0, putL_get _ _ _ _ (by rw [finL_len (by rw [HN.out]; exact hN0), List.length_map, List.length_take]; omega), if_neg (by omega), ← HN.out]; rfl); clear F2 C1 U3 C3 C2 D2)
      | (clear t3; refine wpList_store1 rfl 3 _ _ rfl rfl (.int .i64 ((N : Int) + (n : Int))) rfl HC3.out (by rw [putL_len, finL_len (by rw [HN.out]; exact hN0)]; omega) info3' rfl ?_; intro W4 U4 C4x; have D4 := D3.upd U4 (Ne.symm n12); have B4 := U4.trans B3 hb1; have C4 : IsS W4 b1 80 (finL (vs ++ padTo n vals)) := (by rw [← put_fin vs vals n (by rw [HN.out]; exact hn), HN.out]; exact C4x); clear U4 C4x D3 HC3)
      | (clear t4; refine wpList_loadW rfl 80 _ rfl rfl C4 _ Try.underlying80 rfl (by rw [finL_len (by rw [List.length_append, padTo_len, HN.out]; exact hn)]; exact infoFin) ?_)
      | (clear t5; refine wpList_storeW rfl 80 _ _ rfl rfl (finL (vs ++ padTo n vals)) rfl D4 (by rw [finL_len (by rw [List.length_append, padTo_len, HN.out]; exact hn), finL_len (by simp)]) (by rw [finL_len (by rw [List.length_append, padTo_len, HN.out]; exact hn)]; exact infoFin) (finL_one _) ?_; intro W5 U5 D5; have B5 := U5.trans B4 hb2; clear U5 D4))
    exact ret_S (cs := finL (vs ++ padTo n vals)) rfl rfl rfl D5 _ Try.underlying80 rfl (by rw [finL_len (by rw [List.length_append, padTo_len, HN.out]; exact hn)]; exact infoFin) ⟨rfl, B5⟩
theorem grown_any (vs vals : List Int) (hv : vs.length ≤ 48) (m : Nat) (hm : m ≤ 1048576) (hl : vals.length ≤ 1048576) (a : Option Addr) (c : Nat) (w : World) (hs : Seg w a (vals.flatMap intE)) :
    Calls Try.prog 115 #[.agg (finL vs).toArray, .int .i64 (m : Int), .slice a vals.length c] w fun en w' => en = .returned (.agg (finL (vs ++ (padTo m vals).take (48 - vs.length))).toArray) ∧ Below w.heap.size w w' := by
  by_cases h : (48 : Int) - vs.length < m
  · have := grown_in vs vals m (48 - vs.length) vs.length vals.length rfl (by omega) hm (.inl ⟨h, rfl⟩) rfl hl a c w hs
    rw [padTo_take m _ vals (by omega)]; exact this
  · have := grown_in vs vals m m vs.length vals.length rfl (by omega) hm (.inr ⟨h, rfl⟩) rfl hl a c w hs
    rw [List.take_of_length_le (by rw [padTo_len]; omega)]; exact this
end Go.Proofs.Ytegpnicajlndlaa
/- Events of a program, of both sides. -/
namespace Go.Proofs.Ytegpnicajlndlaa
open Go.RowKit M
set_option linter.unusedSimpArgs false
set_option linter.unusedVariables false

/-- The five cells of a program that is boxed. -/
theorem pg_cells {W : World} {b : Nat} {v0 v1 v2 v3 v4 : Value} (h : IsS W b 28 [v0, v1, v2, v3, v4]) {w : World} (hB : Below W.heap.size W w) :
    w.cell? ⟨b, 0, none⟩ = some v0 ∧ w.cell? ⟨b, 1, none⟩ = some v1 ∧ w.cell? ⟨b, 2, none⟩ = some v2 ∧ w.cell? ⟨b, 3, none⟩ = some v3 ∧ w.cell? ⟨b, 4, none⟩ = some v4 :=
  have h' := h.grown hB
  ⟨h'.cell 0, h'.cell 1, h'.cell 2, h'.cell 3, h'.cell 4⟩
set_option maxRecDepth 100000 in
set_option maxHeartbeats 2000000 in
theorem events_any (p : PG) (hf : p.Few) (vt vr vl vi vj : Value) (w : World) (hp : PGV w vt vr vl vi vj p) :
    Calls Try.prog 82 #[.agg #[vt, vr, vl, vi, vj]] w fun en w' => en = .returned (.int .i64 (eventsV p)) ∧ Below w.heap.size w w' := by
  obtain ⟨at', ct, rfl⟩ := hp.t.form
  obtain ⟨al, cl, rfl, _, _⟩ := hp.l
  have HT : Hid (RowsV w (.slice at' p.threads.length ct) op5L p.threads) := hp.t
  obtain ⟨nt, hnt⟩ : ∃ n, p.threads.length = n := ⟨_, rfl⟩
  obtain ⟨nl, hnl⟩ : ∃ n, p.locs.length = n := ⟨_, rfl⟩
  have hft := hf.t
  have HTT : Hid (p.threads.flatten.length ≤ 1048576) := hf.tt
  have hfl := hf.l
  rw [hnt] at HT hft ⊢
  rw [hnl] at hfl ⊢
  have HNT : Hid (p.threads.length = nt) := hnt
  have HE : Hid (eventsV p = nl + evL p.threads.flatten) := (by show _ = _; unfold eventsV; rw [hnl])
  clear hp hf hnt hnl
  obtain ⟨ths, hths⟩ : ∃ t, p.threads = t := ⟨_, rfl⟩
  rw [hths] at HT HTT HNT HE
  clear hths
  have t1 : True := trivial
  go_enter Try.func82, Try.ntmps82
  go_wp2_with (clear t1; refine wpList_boxS rfl 28 _ rfl [.slice at' nt ct, vr, .slice al nl cl, vi, vj] rfl ?_; intro W1 b1 F1 C1; have B1 : Below w.heap.size w W1 := F1.trans (Below.refl _ w) (Nat.le_refl _); obtain ⟨k0, k1, k2, k3, k4⟩ := pg_cells C1 (Below.refl _ W1); clear F1)
  go_loopw [3, 14] (fun n i wr => ∃ k : Nat, k ≤ nt ∧ i = .int .i64 k ∧ ∃ s : Int, n = .int .i64 s ∧ Hid (s = nl + evL (ths.take k).flatten) ∧ Hid (Below W1.heap.size W1 wr)) (fun _ i _ => nt - (intOf i).toNat)
  case atStart => exact ⟨0, Nat.zero_le _, rfl, nl, rfl, by show _ = _; simp [evL], Below.refl _ _⟩
  case round =>
    obtain ⟨k, hk, rfl, s, rfl, HS, HB⟩ := hrel
    obtain ⟨WR, eWR⟩ : ∃ W, W = wr := ⟨_, rfl⟩
    subst eWR
    by_cases hlt : k < nt
    · have hki : (k : Int) < nt := by omega
      obtain ⟨l, hl⟩ : ∃ l, ths[k]? = some l := ⟨_, List.getElem?_eq_getElem (by rw [HNT.out]; exact hlt)⟩
      obtain ⟨b, o, a', c', rfl, hb, hc, hseg, _⟩ := (HT.out.below (Below.then B1 HB.out)).at k l hl
      have HG : Hid (Seg WR a' (l.flatMap op5L)) := hseg
      have HL : Hid (ths[k]? = some l) := hl
      have hll : l.length ≤ 1048576 := Nat.le_trans (by have := flat_at hl (Nat.le_refl _); rw [List.take_length, List.length_append] at this; omega) HTT.out
      obtain ⟨nn, hnn⟩ : ∃ n, l.length = n := ⟨_, rfl⟩
      have HNN : Hid (l.length = nn) := hnn
      rw [hnn] at hc hll
      clear hl hseg hnn
      go_wp2_with fail
      go_loopw [3, 20] (fun n i wr' => ∃ j : Nat, j ≤ nn ∧ i = .int .i64 j ∧ ∃ s : Int, n = .int .i64 s ∧ Hid (s = nl + evL ((ths.take k).flatten ++ l.take j)) ∧ Hid (Below WR.heap.size WR wr')) (fun _ i _ => nn - (intOf i).toNat)
      case atStart => exact ⟨0, Nat.zero_le _, rfl, s, rfl, by show _ = _; rw [HS.out]; simp, Below.refl _ _⟩
      case round =>
        obtain ⟨j, hj, rfl, s', rfl, HS', HB'⟩ := hrel
        by_cases hjt : j < nn
        · have hji : (j : Int) < nn := by omega
          obtain ⟨g, hg⟩ : ∃ g, l[j]? = some g := ⟨_, List.getElem?_eq_getElem (by rw [HNN.out]; exact hjt)⟩
          obtain ⟨b', o', rfl, hb', hr'⟩ := (HG.out.below HB'.out).op hg
          have HN : Hid (evL ((ths.take k).flatten ++ l.take (j + 1)) = evL ((ths.take k).flatten ++ l.take j) + evOf g.kind) := (by show _ = _; rw [take_at hg, ← List.append_assoc, evL_app]; simp [evL])
          have hbd := evL_bd ((ths.take k).flatten ++ l.take j)
          have hbl := flat_at HL.out (k := j) (by rw [HNN.out]; omega)
          have hs0 : 0 ≤ s' ∧ s' ≤ 4194304 := by have := HS'.out; have := HTT.out; omega
          clear hbd hbl hg
          obtain ⟨hs1, hs2⟩ := hs0
          have hev := evOf_bd g.kind
          obtain ⟨ev, hev'⟩ : ∃ e, evOf g.kind = e := ⟨_, rfl⟩
          have cE := fun w => eventsOf_any g.kind w
          rw [hev'] at cE HN hev
          clear hev'
          obtain ⟨he1, he2⟩ := hev
          have t2 : True := trivial
          have t3 : True := trivial
          have t4 : True := trivial
          go_wp2_with (first
            | (clear t2; refine wpList_load_mid rfl 63 _ rfl b' (o' + j * 5) rfl (op5L g) _ hr' Try.underlying63 rfl infoOp ?_)
            | (clear t3; refine wpList_allocS rfl 63 rfl (op5L ⟨0, 0, 0, 0, 0⟩) Try.zeroValue63 ?_; intro W3 b3 F3 C3; have B3 := F3.trans HB'.out HB'.out.size; have h3 : WR.heap.size ≤ b3 := Nat.le_trans HB'.out.size (Nat.le_of_eq F3.at'.symm); clear F3)
            | (clear t4; refine wpList_storeS rfl 63 _ _ rfl rfl (op5L g) rfl C3 (by simp [op5L]) infoOp (op_one _) ?_; intro W4 U4 C4x; have C4 : IsS W4 b3 63 (op5L g) := C4x; have B4 := U4.trans B3 h3; have c4 : W4.cell? ⟨b3, 0, none⟩ = some (.int .i64 g.kind) := C4.cell 0; clear U4 C3 C4x)
            | (go_at_call 112; refine (cE _).mono ?_; rintro en w' ⟨rfl, hw⟩; replace hw := hw.symm; subst hw))
          go_roundw
          case rel => exact ⟨j + 1, by omega, by go_num, s' + ev, rfl, by show _ = _; rw [HN.out, HS'.out]; omega, B4⟩
          case measure => simp [intOf]; omega
        · have hji : ¬ (j : Int) < nn := by omega
          have hjn : j = nn := by omega
          go_wp2_with fail
          go_roundw
          case rel => exact ⟨k + 1, by omega, by go_num, s', rfl, by show _ = _; rw [HS'.out, hjn, ← HNN.out, List.take_length, flat_take HL.out], Below.then HB.out HB'.out⟩
          case measure => simp [intOf]; omega
    · have hki : ¬ (k : Int) < nt := by omega
      go_wp2_with fail
      go_ret
      refine ⟨ret_int ?_, Below.then B1 HB.out⟩
      rw [HE.out, HS.out, List.take_of_length_le (by rw [HNT.out]; omega)]
set_option maxRecDepth 100000 in
set_option maxHeartbeats 2000000 in
theorem revents_any (p : PG) (hf : p.Few) (vt vr vl vi vj : Value) (w : World) (hp : PGV w vt vr vl vi vj p) :
    Calls Try.prog 74 #[.agg #[vt, vr, vl, vi, vj]] w fun en w' => en = .returned (.int .i64 (eventsV p)) ∧ Below w.heap.size w w' := by
  obtain ⟨at', ct, rfl⟩ := hp.t.form
  obtain ⟨al, cl, rfl, _, _⟩ := hp.l
  have HT : Hid (RowsV w (.slice at' p.threads.length ct) op5L p.threads) := hp.t
  obtain ⟨nt, hnt⟩ : ∃ n, p.threads.length = n := ⟨_, rfl⟩
  obtain ⟨nl, hnl⟩ : ∃ n, p.locs.length = n := ⟨_, rfl⟩
  have hft := hf.t
  have HTT : Hid (p.threads.flatten.length ≤ 1048576) := hf.tt
  have hfl := hf.l
  rw [hnt] at HT hft ⊢
  rw [hnl] at hfl ⊢
  have HNT : Hid (p.threads.length = nt) := hnt
  have HE : Hid (eventsV p = nl + evL p.threads.flatten) := (by show _ = _; unfold eventsV; rw [hnl])
  clear hp hf hnt hnl
  obtain ⟨ths, hths⟩ : ∃ t, p.threads = t := ⟨_, rfl⟩
  rw [hths] at HT HTT HNT HE
  clear hths
  have t1 : True := trivial
  go_enter Try.func74, Try.ntmps74
  go_wp2_with (clear t1; refine wpList_boxS rfl 28 _ rfl [.slice at' nt ct, vr, .slice al nl cl, vi, vj] rfl ?_; intro W1 b1 F1 C1; have B1 : Below w.heap.size w W1 := F1.trans (Below.refl _ w) (Nat.le_refl _); obtain ⟨k0, k1, k2, k3, k4⟩ := pg_cells C1 (Below.refl _ W1); clear F1)
  go_loopw [3, 4] (fun n i wr => ∃ k : Nat, k ≤ nt ∧ i = .int .i64 k ∧ ∃ s : Int, n = .int .i64 s ∧ Hid (s = nl + evL (ths.take k).flatten) ∧ Hid (Below W1.heap.size W1 wr)) (fun _ i _ => nt - (intOf i).toNat)
  case atStart => exact ⟨0, Nat.zero_le _, rfl, nl, rfl, by show _ = _; simp [evL], Below.refl _ _⟩
  case round =>
    obtain ⟨k, hk, rfl, s, rfl, HS, HB⟩ := hrel
    obtain ⟨WR, eWR⟩ : ∃ W, W = wr := ⟨_, rfl⟩
    subst eWR
    by_cases hlt : k < nt
    · have hki : (k : Int) < nt := by omega
      obtain ⟨l, hl⟩ : ∃ l, ths[k]? = some l := ⟨_, List.getElem?_eq_getElem (by rw [HNT.out]; exact hlt)⟩
      obtain ⟨b, o, a', c', rfl, hb, hc, hseg, _⟩ := (HT.out.below (Below.then B1 HB.out)).at k l hl
      have HG : Hid (Seg WR a' (l.flatMap op5L)) := hseg
      have HL : Hid (ths[k]? = some l) := hl
      have hll : l.length ≤ 1048576 := Nat.le_trans (by have := flat_at hl (Nat.le_refl _); rw [List.take_length, List.length_append] at this; omega) HTT.out
      obtain ⟨nn, hnn⟩ : ∃ n, l.length = n := ⟨_, rfl⟩
      have HNN : Hid (l.length = nn) := hnn
      rw [hnn] at hc hll
      clear hl hseg hnn
      obtain ⟨k0, k1, k2, k3, k4⟩ := pg_cells C1 HB.out
      go_wp2_with fail
      go_loopw [3, 5] (fun n i wr' => ∃ j : Nat, j ≤ nn ∧ i = .int .i64 j ∧ ∃ s : Int, n = .int .i64 s ∧ Hid (s = nl + evL ((ths.take k).flatten ++ l.take j)) ∧ Hid (Below WR.heap.size WR wr')) (fun _ i _ => nn - (intOf i).toNat)
      case atStart => exact ⟨0, Nat.zero_le _, rfl, s, rfl, by show _ = _; rw [HS.out]; simp, Below.refl _ _⟩
      case round =>
        obtain ⟨j, hj, rfl, s', rfl, HS', HB'⟩ := hrel
        by_cases hjt : j < nn
        · have hji : (j : Int) < nn := by omega
          obtain ⟨g, hg⟩ : ∃ g, l[j]? = some g := ⟨_, List.getElem?_eq_getElem (by rw [HNN.out]; exact hjt)⟩
          obtain ⟨b', o', rfl, hb', hr'⟩ := (HG.out.below HB'.out).op hg
          have HN : Hid (evL ((ths.take k).flatten ++ l.take (j + 1)) = evL ((ths.take k).flatten ++ l.take j) + evOf g.kind) := (by show _ = _; rw [take_at hg, ← List.append_assoc, evL_app]; simp [evL])
          have hbd := evL_bd ((ths.take k).flatten ++ l.take j)
          have hbl := flat_at HL.out (k := j) (by rw [HNN.out]; omega)
          have hs0 : 0 ≤ s' ∧ s' ≤ 4194304 := by have := HS'.out; have := HTT.out; omega
          clear hbd hbl hg
          obtain ⟨hs1, hs2⟩ := hs0
          have hev := evOf_bd g.kind
          obtain ⟨ev, hev'⟩ : ∃ e, evOf g.kind = e := ⟨_, rfl⟩
          have cE := fun w => weight_any g.kind w
          rw [hev'] at cE HN hev
          clear hev'
          obtain ⟨he1, he2⟩ := hev
          have hz : wr.cell? ⟨b', o' + j * 5, none⟩ = some (.int .i64 g.kind) := hr' 0 _ rfl
          obtain ⟨k0, k1, k2, k3, k4⟩ := pg_cells C1 (Below.then HB.out HB'.out)
          have hc' : wr.cell? ⟨b, o + k, none⟩ = some (.slice (some ⟨b', o', none⟩) nn c') := by rw [HB'.out.cell (p := ⟨b, o + k, none⟩) hb]; exact hc
          go_wp2_with (go_at_call 102; refine (cE _).mono ?_; rintro en w' ⟨rfl, hw⟩; replace hw := hw.symm; subst hw)
          go_roundw
          case rel => exact ⟨j + 1, by omega, by go_num, s' + ev, rfl, by show _ = _; rw [HN.out, HS'.out]; omega, HB'.out⟩
          case measure => simp [intOf]; omega
        · have hji : ¬ (j : Int) < nn := by omega
          have hjn : j = nn := by omega
          obtain ⟨k0, k1, k2, k3, k4⟩ := pg_cells C1 (Below.then HB.out HB'.out)
          have hc' : wr.cell? ⟨b, o + k, none⟩ = some (.slice a' nn c') := by rw [HB'.out.cell (p := ⟨b, o + k, none⟩) hb]; exact hc
          go_wp2_with fail
          go_roundw
          case rel => exact ⟨k + 1, by omega, by go_num, s', rfl, by show _ = _; rw [HS'.out, hjn, ← HNN.out, List.take_length, flat_take HL.out], Below.then HB.out HB'.out⟩
          case measure => simp [intOf]; omega
    · have hki : ¬ (k : Int) < nt := by omega
      obtain ⟨k0, k1, k2, k3, k4⟩ := pg_cells C1 HB.out
      go_wp2_with fail
      go_ret
      refine ⟨ret_int ?_, Below.then B1 HB.out⟩
      rw [HE.out, HS.out, List.take_of_length_le (by rw [HNT.out]; omega)]
end Go.Proofs.Ytegpnicajlndlaa

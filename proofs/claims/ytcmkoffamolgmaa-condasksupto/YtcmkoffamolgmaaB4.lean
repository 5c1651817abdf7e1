/- slices.Compact over a row of api.Ref of one's own. -/
import Derived.Test.YtcmkoffamolgmaaB3
import Derived.Lib.SliceRun
namespace Go.Proofs.Ytcmkoffamolgmaa
open Go Go.RowKit M
set_option linter.unusedSimpArgs false
set_option linter.unusedVariables false

theorem wrap_len {n : Nat} (h : n ≤ 4611686018427387903) : IntKind.i64.wrap (n : Int) = (n : Int) := by
  rw [IntKind.wrap_i64]; omega
theorem zeroKz (w : World) : (zeroValue 39).run Try.prog w = .ok (.agg (nkL zN).toArray) w := by
  have h : Try.t39.zero = some (.agg (nkL zN).toArray) := by kernel_rfl
  simp [go_sem, zeroValue, h]
/-- A block's first cells are a list's. -/
def RowC (cs : List Value) (l : List NK) : Prop := cs.take (l.length * 2) = flatR l
theorem RowC.at {cs : List Value} {l : List NK} (h : RowC cs l) (j : Nat) (hj : j < l.length) : (cs.drop (j * 2)).take 2 = nkL (l.getD j zN) := by
  rw [getD_atG zN l j hj, ← flatR_at l j hj, ← h, List.drop_take, List.take_take]
  congr 1
  omega
theorem RowC.len {cs : List Value} {l : List NK} (h : RowC cs l) : l.length * 2 ≤ cs.length := by
  have := congrArg List.length h
  rw [List.length_take, flatR_len] at this
  omega
theorem RowC.range {cs : List Value} {l : List NK} {w : World} {g t : Nat} (h : RowC cs l) (I : IsS w g t cs) (j : Nat) (hj : j < l.length) : w.rangeAt g (j * 2) (nkL (l.getD j zN)) := by
  have := I.range (j * 2) 2
  rwa [h.at j hj] at this
theorem RowC.set {cs : List Value} {l : List NK} (h : RowC cs l) (i : Nat) (hi : i < l.length) (x : NK) : RowC (putL cs (i * 2) (nkL x)) (l.set i x) := by
  have hl := h.len
  have hx := encK_len x
  unfold RowC
  rw [List.length_set]
  refine List.ext_getElem? fun t => ?_
  rw [List.getElem?_take]
  by_cases ht : t < l.length * 2
  · rw [if_pos ht, putL_get _ _ _ _ (by rw [hx]; omega), hx]
    have h1 : t / 2 < l.length := by omega
    have e2 : (flatR (l.set i x))[t]? = (nkL ((l.set i x).getD (t / 2) zN))[t % 2]? := by
      rw [getD_atG zN _ _ (by simpa using h1), ← flatR_at _ _ (by simpa using h1), List.getElem?_take, if_pos (Nat.mod_lt _ (by decide)), List.getElem?_drop]
      congr 1; omega
    have e1 : cs[t]? = (nkL (l.getD (t / 2) zN))[t % 2]? := by
      rw [← h.at (t / 2) h1, List.getElem?_take, if_pos (Nat.mod_lt _ (by decide)), List.getElem?_drop]
      congr 1; omega
    rw [e2]
    by_cases hti : i * 2 ≤ t ∧ t < i * 2 + 2
    · rw [if_pos hti]
      have e3 : t / 2 = i := by omega
      have e4 : t - i * 2 = t % 2 := by omega
      rw [e3, e4]
      congr 1
      simp [hi]
    · rw [if_neg hti, e1]
      have e3 : t / 2 ≠ i := by omega
      congr 2
      rw [List.getD_eq_getElem?_getD, List.getD_eq_getElem?_getD, List.getElem?_set_ne (by omega)]
  · rw [if_neg ht, List.getElem?_eq_none (by rw [flatR_len, List.length_set]; omega)]
theorem RowC.take {cs : List Value} {l : List NK} (h : RowC cs l) (i : Nat) (hi : i ≤ l.length) : RowC cs (l.take i) := by
  unfold RowC
  rw [List.length_take, Nat.min_eq_left hi, ← flatR_take, ← h, List.take_take]
  congr 1
  omega
theorem putL_len' : ∀ (vs cs : List Value) (o : Nat), (putL cs o vs).length = cs.length
  | [], cs, o => rfl
  | v :: vs, cs, o => by show (putL (cs.set o v) (o + 1) vs).length = _; rw [putL_len' vs, List.length_set]
theorem RowC.clear {cs zs : List Value} {l : List NK} (h : RowC cs l) (o : Nat) (ho : l.length * 2 ≤ o) (hz : o + zs.length ≤ cs.length) : RowC (putL cs o zs) l := by
  unfold RowC
  rw [← h]
  refine List.ext_getElem? fun t => ?_
  rw [List.getElem?_take, List.getElem?_take]
  by_cases ht : t < l.length * 2
  · rw [if_pos ht, if_pos ht, putL_get _ _ _ _ hz, if_neg (by omega)]
  · rw [if_neg ht, if_neg ht]
theorem own_of_row {w : World} {B g cap : Nat} {cs : List Value} {l : List NK} (hg : B ≤ g) (I : IsS w g 39 cs) (hR : RowC cs l) (hc : l.length ≤ cap) (hm : cap ≤ maxLen) (hs : cs.length = cap * 2) : OwnK w B (.slice (some ⟨g, 0, none⟩) l.length cap) l :=
  ⟨flatR_len l, .inr ⟨g, cap, cs.toArray, rfl, hg, I, hc, hm, by simpa using hs, hR⟩⟩
theorem run_clearK (w : World) (ty : TypeId) (b o n c : Nat) (cs : List Value) (I : IsS w b 39 cs) (hn : o + n * 2 ≤ cs.length) :
    ∃ zs, zs.length = n * 2 ∧ (Builtin.clear_ #[24] ty #[.slice (some ⟨b, o, none⟩) n c]).run Try.prog w = .ok (.tuple #[]) (w.setCells b o zs) := by
  cases n with
  | zero => exact ⟨[], by simp, by simp [Builtin.clear_, run_underlying Try.underlying24, World.setCells]⟩
  | succ m =>
    have hzc : (Value.agg (nkL zN).toArray).cells = (nkL zN).toArray := rfl
    have hzl : (Builtin.zeroCells (nkL zN).toArray (m + 1)).toList.length = (m + 1) * 2 := by simp [Builtin.zeroCells, encK_len]
    have hz1 : ∀ v ∈ (Builtin.zeroCells (nkL zN).toArray (m + 1)).toList, v.oneCell' = true := fun v hv => by
      simp only [Builtin.zeroCells, Array.toList_map, List.mem_map] at hv
      obtain ⟨i, _, rfl⟩ := hv
      have : i % (nkL zN).toArray.size < (nkL zN).length := by simpa using Nat.mod_lt i (by simp [encK_len])
      rw [getElem!_pos _ _ (by simpa using this)]
      exact nk_one zN _ (by simp)
    refine ⟨_, hzl, ?_⟩
    have hst := run_storeCells_cells (P := Try.prog) b o (Builtin.zeroCells (nkL zN).toArray (m + 1)).toList 0 w (fun j hj => by rw [Nat.add_zero, I.cell, List.getElem?_eq_getElem (by omega)]; rfl) (fun j hj => by rw [Nat.add_zero]; exact I.frozen _) hz1
    simp only [Nat.add_zero] at hst
    simp only [Builtin.clear_, List.getElem?_toArray, List.getElem?_cons_zero, Sem.run_bind, run_underlying Try.underlying24, Result.andThen_ok, zeroKz, hzc, hst, Sem.run_pure]
section
variable {w : World} {b o : Nat} {x : NK} {cs : List Value} {ops : Array Oper} {rest : List Oper} {op : Oper} {a : Act} {Q : Exit → Act → World → Prop}
theorem wpList_clearK (hgd : op.guard = none) (s : Operand) (ho : op.op = .call { callee := .builtin .clear, args := #[s], argTypes := #[24] }) (n c : Nat) (hs : a.eval s = .slice (some ⟨b, o, none⟩) n c) (I : IsS w b 39 cs) (hn : o + n * 2 ≤ cs.length)
    (h : ∀ W zs, zs.length = n * 2 → Upd w W b → IsS W b 39 (putL cs o zs) → wpList Try.prog ops Q rest (a.put op.dst (.tuple #[])) W) : wpList Try.prog ops Q (op :: rest) a w := by
  refine wpList_plain hgd fun K hK => ?_
  obtain ⟨zs, hz, hr⟩ := run_clearK w op.type b o n c cs I hn
  unfold Oper.wp execOp
  simp only [ho, resolve, invoke, builtin, Sem.run_bind, Sem.run_pure, Result.andThen_ok, List.map_toArray, List.map_cons, List.map_nil, hs, hr]
  exact hK _ _ (h _ zs hz (Upd.setCells b zs o w) (IsS.setL zs o cs w I))
theorem wpList_storeK (hgd : op.guard = none) (y u : Operand) (ho : op.op = .store 39 y u) (hy : a.eval y = .pointer (some ⟨b, o, none⟩)) (hu : a.eval u = .agg (nkL x).toArray) (hc : IsS w b 39 cs) (hk : o + 2 ≤ cs.length)
    (h : ∀ W, Upd w W b → IsS W b 39 (putL cs o (nkL x)) → wpList Try.prog ops Q rest (a.put op.dst undef) W) : wpList Try.prog ops Q (op :: rest) a w :=
  wpList_storeS hgd 39 y u ho hy (nkL x) hu hc (by rw [encK_len]; exact hk) infoRk (nk_one x) h
end
/-- From a number on; up to a number. -/
theorem run_sfrom (w : World) (g i n cap : Nat) (h : i ≤ n) (hc : n ≤ cap) (hi : i < cap) (hm : cap ≤ maxLen) : (Instr.sliceAt 24 (.slice (some ⟨g, 0, none⟩) n cap) (some (.int .i64 (i : Int))) none none).run Try.prog w = .ok (.slice (some ⟨g, i * 2, none⟩) (n - i) (cap - i)) w := by
  unfold maxLen at hm
  have h1 : (0 : Int) ≤ (i : Int) ∧ (i : Int) ≤ (cap : Int) := by omega
  have hs : ¬ ((i : Int) < 0) := by omega
  have h2 : i ≤ cap := by omega
  have h3 : ¬ cap = i := by omega
  simp [go_sem, Instr.sliceAt, h1, h, h2, h3, hc]
theorem run_supto (w : World) (g i n cap : Nat) (h : i ≤ n) (hc : n ≤ cap) (hm : cap ≤ maxLen) : (Instr.sliceAt 24 (.slice (some ⟨g, 0, none⟩) n cap) none (some (.int .i64 (i : Int))) none).run Try.prog w = .ok (.slice (some ⟨g, 0, none⟩) i cap) w := by
  unfold maxLen at hm
  have h1 : (0 : Int) ≤ (i : Int) ∧ (i : Int) ≤ (cap : Int) := by omega
  have hs : ¬ ((i : Int) < 0) := by omega
  have h2 : i ≤ cap := by omega
  simp [go_sem, Instr.sliceAt, h1, h, h2, hc]

set_option maxRecDepth 100000 in
set_option maxHeartbeats 4000000 in
theorem compact_great {w : World} {B g cap : Nat} {cs : List Value} {l : List NK} (hg : B ≤ g) (I : IsS w g 39 cs) (hR : RowC cs l) (h2 : 2 ≤ l.length) (hn : l.length ≤ 4611686018427387903) (hc : l.length ≤ cap) (hm : cap ≤ maxLen) (hs : cs.length = cap * 2) :
    Calls Try.prog 17 #[.slice (some ⟨g, 0, none⟩) l.length cap] w fun e w' => ∃ v, e = .returned v ∧ OwnK w' B v (cmpG l) ∧ Below B w w' := by
  have hsl := fun (w : World) (i : Nat) (h : i ≤ l.length) (hi : i < cap) => run_sfrom w g i l.length cap h hc hi hm
  have hup := fun (w : World) (i : Nat) (h : i ≤ l.length) => run_supto w g i l.length cap h hc hm
  have hnI : ¬ ((l.length : Int) < 2) := by omega
  go_enter Try.func17, Try.ntmps17
  go_wp2
  go_loopw [3] (fun p wr => ∃ i : Nat, 1 ≤ i ∧ i ≤ l.length ∧ p = .int .i64 (i : Int) ∧ Below w.heap.size w wr ∧ Hid (cmpG (l.take i) = l.take i)) (fun p _ => l.length - (intOf p).toNat)
  case atStart => exact ⟨1, by omega, by omega, rfl, Below.refl _ _, cmpG_one l (by omega)⟩
  case round =>
    obtain ⟨i, hi1, hi, rfl, BR, HC⟩ := hrel
    have IR := I.grown BR
    by_cases hlt : i < l.length
    · have HX := hR.range IR i hlt
      have HY := hR.range IR (i - 1) (by omega)
      have HB := IR.lt
      have HT : Hid (cmpG (l.take (i + 1)) = if l.getD i zN = l.getD (i - 1) zN then cmpG (l.take i) else cmpG (l.take i) ++ [l.getD i zN]) := cmpG_take zN hi1 hlt
      have HT2 : Hid (l.take (i + 1) = l.take i ++ [l.getD i zN]) := take_snocG zN l i hlt
      obtain ⟨i1, hi1'⟩ : ∃ i1, i - 1 = i1 := ⟨_, rfl⟩
      rw [hi1'] at HY HT
      have hwr : IntKind.i64.wrap ((i : Int) - 1) = (i1 : Int) := by rw [show (i : Int) - 1 = (i1 : Int) by omega]; exact wrap_len (by omega)
      have hiX : (i : Int) < (l.length : Int) := by omega
      have hiY : (i1 : Int) < (l.length : Int) := by omega
      generalize hX : l.getD i zN = X at *
      generalize hY : l.getD i1 zN = Y at *
      by_cases he : X = Y
      · have hxy : decide (X = Y) = true := by simpa using he
        have HC1 : Hid (cmpG (l.take (i + 1)) = l.take i) := by show _ = _; rw [HT.out, if_pos he, HC.out]
        have hs1 := hsl
        clear HC HT HT2 he hX hY hi1'
        go_wp2
        refine grow_allW (by kernel_rfl) (by kernel_rfl) ?_
        refine WG.put rfl (v := .slice (some ⟨g, 0, none⟩) l.length cap) (fun w => by first | rfl | (go_simp; done) | (simp [go_sem]; done)) ?_
        simp only [Act.put, List.setIfInBounds_toArray, List.set_cons_succ, List.set_cons_zero]
        refine WG.put rfl (v := .int .i64 (i : Int)) (fun w => by first | rfl | (go_simp; done) | (simp [go_sem]; done)) ?_
        simp only [Act.put, List.setIfInBounds_toArray, List.set_cons_succ, List.set_cons_zero]
        refine WG.put rfl (v := .pointer (some ⟨g, i * 2, none⟩)) (fun w => by first | rfl | (go_simp; done) | (simp [go_sem, hiX]; done)) ?_
        simp only [Act.put, List.setIfInBounds_toArray, List.set_cons_succ, List.set_cons_zero]
        refine WG.nk (x := X) rfl _ rfl rfl HB HX ?_
        simp only [Act.put, List.setIfInBounds_toArray, List.set_cons_succ, List.set_cons_zero]
        refine WG.put rfl (v := .slice (some ⟨g, 0, none⟩) l.length cap) (fun w => by first | rfl | (go_simp; done) | (simp [go_sem]; done)) ?_
        simp only [Act.put, List.setIfInBounds_toArray, List.set_cons_succ, List.set_cons_zero]
        refine WG.put rfl (v := .int .i64 (i : Int)) (fun w => by first | rfl | (go_simp; done) | (simp [go_sem]; done)) ?_
        simp only [Act.put, List.setIfInBounds_toArray, List.set_cons_succ, List.set_cons_zero]
        refine WG.put rfl (v := .int .i64 (i1 : Int)) (fun w => by first | rfl | (go_simp; done) | (simp [go_sem, hwr]; done)) ?_
        simp only [Act.put, List.setIfInBounds_toArray, List.set_cons_succ, List.set_cons_zero]
        refine WG.put rfl (v := .pointer (some ⟨g, i1 * 2, none⟩)) (fun w => by first | rfl | (go_simp; done) | (simp [go_sem, hiY]; done)) ?_
        simp only [Act.put, List.setIfInBounds_toArray, List.set_cons_succ, List.set_cons_zero]
        refine WG.nk (x := Y) rfl _ rfl rfl HB HY ?_
        simp only [Act.put, List.setIfInBounds_toArray, List.set_cons_succ, List.set_cons_zero]
        refine WG.eqN rfl _ _ rfl rfl rfl true hxy ?_
        simp only [Act.put, List.setIfInBounds_toArray, List.set_cons_succ, List.set_cons_zero]
        refine WG.nil ?_
        intro w5 B5
        have BW5 := Below.then BR B5
        have I5 := I.grown BW5
        clear HX HY HB IR BR B5 hwr hiX hiY hxy
        have hsi := fun w => hsl w i (by omega) (by omega)
        obtain ⟨m, hmm⟩ : ∃ m, l.length - i = m := ⟨_, rfl⟩
        obtain ⟨cap2, hcc⟩ : ∃ c, cap - i = c := ⟨_, rfl⟩
        simp only [hmm, hcc] at hsi
        have HM : Hid (l.length - i = m) := hmm
        clear hmm hcc
        go_wp2
        have hmm := HM.out
        go_loopw [3, 5] (fun p q wr => ∃ (ii k : Nat) (L : List NK) (cs' : List Value), 1 ≤ k ∧ i + k ≤ l.length ∧ 1 ≤ ii ∧ ii + 1 ≤ i + k ∧ p = .int .i64 (ii : Int) ∧ q = .int .i64 (k : Int) ∧ L.length = l.length ∧ cs'.length = cap * 2 ∧ IsS wr g 39 cs' ∧ RowC cs' L ∧ Below B w wr ∧ Hid (L.take ii = cmpG (l.take (i + k)) ∧ ∀ j, i + k ≤ j + 1 → L.getD j zN = l.getD j zN)) (fun _ q _ => m - (intOf q).toNat)
        case atStart => exact ⟨i, 1, l, cs, by omega, by omega, hi1, by omega, rfl, rfl, rfl, hs, I5, hR, BW5.mono (by have := I.lt; omega), HC1.out.symm, fun j _ => rfl⟩
        case round =>
          obtain ⟨ii, k, L, cs', hk1, hk, hii, hik, rfl, rfl, hL, hcs, IR, RR, BR, HV⟩ := hrel
          obtain ⟨HV1, HV2⟩ := HV.out
          clear HV
          by_cases hkm : k < m
          · have hkl : i + k < l.length := by omega
            have HX := RR.range IR (i + k) (by omega)
            have HY := RR.range IR (i + (k - 1)) (by omega)
            have HB := IR.lt
            have HT : Hid (cmpG (l.take (i + k + 1)) = if l.getD (i + k) zN = l.getD (i + k - 1) zN then cmpG (l.take (i + k)) else cmpG (l.take (i + k)) ++ [l.getD (i + k) zN]) := cmpG_take zN (by omega) hkl
            rw [HV2 (i + k) (by omega)] at HX
            rw [HV2 (i + (k - 1)) (by omega)] at HY
            have HV2' : Hid (∀ j, i + (k + 1) ≤ j + 1 → L.getD j zN = l.getD j zN) := fun j hj => HV2 j (by omega)
            have HV1' : Hid (L.take ii = cmpG (l.take (i + k))) := HV1
            obtain ⟨k1, hk1'⟩ : ∃ k1, k - 1 = k1 := ⟨_, rfl⟩
            rw [show i + k - 1 = i + k1 by omega] at HT
            rw [hk1'] at HY
            rw [Nat.add_mul] at HX HY
            have hwr : IntKind.i64.wrap ((k : Int) - 1) = (k1 : Int) := by rw [show (k : Int) - 1 = (k1 : Int) by omega]; exact wrap_len (by omega)
            have hiX : (k : Int) < (m : Int) := by omega
            have hiY : (k1 : Int) < (m : Int) := by omega
            generalize hX : l.getD (i + k) zN = X at *
            generalize hY : l.getD (i + k1) zN = Y at *
            clear hX hY HV1 HV2
            by_cases he : X = Y
            · have hxy : (!decide (X = Y)) = false := by simpa using he
              have HN : Hid (L.take ii = cmpG (l.take (i + k + 1))) := by show _ = _; rw [HT.out, if_pos he, HV1'.out]
              clear HT HV1' he hk1'
              go_wp2
              refine grow_allW (by kernel_rfl) (by kernel_rfl) ?_
              refine WG.put rfl (v := .slice (some ⟨g, i * 2, none⟩) m cap2) (fun w => by first | rfl | (go_simp; done) | (simp [go_sem]; done)) ?_
              simp only [Act.put, List.setIfInBounds_toArray, List.set_cons_succ, List.set_cons_zero]
              refine WG.put rfl (v := .int .i64 (k : Int)) (fun w => by first | rfl | (go_simp; done) | (simp [go_sem]; done)) ?_
              simp only [Act.put, List.setIfInBounds_toArray, List.set_cons_succ, List.set_cons_zero]
              refine WG.put rfl (v := .pointer (some ⟨g, i * 2 + k * 2, none⟩)) (fun w => by first | rfl | (go_simp; done) | (simp [go_sem, hiX]; done)) ?_
              simp only [Act.put, List.setIfInBounds_toArray, List.set_cons_succ, List.set_cons_zero]
              refine WG.nk (x := X) rfl _ rfl rfl HB HX ?_
              simp only [Act.put, List.setIfInBounds_toArray, List.set_cons_succ, List.set_cons_zero]
              refine WG.put rfl (v := .slice (some ⟨g, i * 2, none⟩) m cap2) (fun w => by first | rfl | (go_simp; done) | (simp [go_sem]; done)) ?_
              simp only [Act.put, List.setIfInBounds_toArray, List.set_cons_succ, List.set_cons_zero]
              refine WG.put rfl (v := .int .i64 (k : Int)) (fun w => by first | rfl | (go_simp; done) | (simp [go_sem]; done)) ?_
              simp only [Act.put, List.setIfInBounds_toArray, List.set_cons_succ, List.set_cons_zero]
              refine WG.put rfl (v := .int .i64 (k1 : Int)) (fun w => by first | rfl | (go_simp; done) | (simp [go_sem, hwr]; done)) ?_
              simp only [Act.put, List.setIfInBounds_toArray, List.set_cons_succ, List.set_cons_zero]
              refine WG.put rfl (v := .pointer (some ⟨g, i * 2 + k1 * 2, none⟩)) (fun w => by first | rfl | (go_simp; done) | (simp [go_sem, hiY]; done)) ?_
              simp only [Act.put, List.setIfInBounds_toArray, List.set_cons_succ, List.set_cons_zero]
              refine WG.nk (x := Y) rfl _ rfl rfl HB HY ?_
              simp only [Act.put, List.setIfInBounds_toArray, List.set_cons_succ, List.set_cons_zero]
              refine WG.neqN rfl _ _ rfl rfl rfl false hxy ?_
              simp only [Act.put, List.setIfInBounds_toArray, List.set_cons_succ, List.set_cons_zero]
              refine WG.nil ?_
              intro w6 B6
              have IR6 := IR.grown B6
              have BR6 : Below B w w6 := BR.trans (B6.mono (by have := IR.lt; omega))
              clear HX HY hwr hiX hiY
              go_wp2
              go_roundw
              case rel => exact ⟨ii, k + 1, L, cs', by omega, by omega, hii, by omega, rfl, by go_num, hL, hcs, IR6, RR, BR6, HN.out, HV2'.out⟩
              case measure => simp [intOf]; omega
            · have hxy : (!decide (X = Y)) = true := by simpa using he
              have HN : Hid ((L.set ii X).take (ii + 1) = cmpG (l.take (i + k + 1))) := by
                show _ = _
                rw [HT.out, if_neg he, ← HV1'.out, List.take_succ_eq_append_getElem (by rw [List.length_set]; omega), List.take_set_of_le (Nat.le_refl _)]
                simp
              have HN2 : Hid (∀ j, i + (k + 1) ≤ j + 1 → (L.set ii X).getD j zN = l.getD j zN) := fun j hj => by
                rw [← HV2'.out j hj, List.getD_eq_getElem?_getD, List.getD_eq_getElem?_getD, List.getElem?_set_ne (by omega)]
              have RN := RR.set ii (by omega) X
              have hlN : (putL cs' (ii * 2) (nkL X)).length = cap * 2 := by rw [putL_len']; exact hcs
              have hLN : (L.set ii X).length = l.length := by rw [List.length_set]; exact hL
              have hiS : (ii : Int) < (l.length : Int) := by omega
              have hbnd : ii * 2 + 2 ≤ cs'.length := by rw [hcs]; have : (ii + 1) * 2 ≤ cap * 2 := Nat.mul_le_mul_right _ (by omega); omega
              clear HT HV1' HV2' he hk1' hs
              go_wp2
              refine grow_allW (by kernel_rfl) (by kernel_rfl) ?_
              refine WG.put rfl (v := .slice (some ⟨g, i * 2, none⟩) m cap2) (fun w => by first | rfl | (go_simp; done) | (simp [go_sem]; done)) ?_
              simp only [Act.put, List.setIfInBounds_toArray, List.set_cons_succ, List.set_cons_zero]
              refine WG.put rfl (v := .int .i64 (k : Int)) (fun w => by first | rfl | (go_simp; done) | (simp [go_sem]; done)) ?_
              simp only [Act.put, List.setIfInBounds_toArray, List.set_cons_succ, List.set_cons_zero]
              refine WG.put rfl (v := .pointer (some ⟨g, i * 2 + k * 2, none⟩)) (fun w => by first | rfl | (go_simp; done) | (simp [go_sem, hiX]; done)) ?_
              simp only [Act.put, List.setIfInBounds_toArray, List.set_cons_succ, List.set_cons_zero]
              refine WG.nk (x := X) rfl _ rfl rfl HB HX ?_
              simp only [Act.put, List.setIfInBounds_toArray, List.set_cons_succ, List.set_cons_zero]
              refine WG.put rfl (v := .slice (some ⟨g, i * 2, none⟩) m cap2) (fun w => by first | rfl | (go_simp; done) | (simp [go_sem]; done)) ?_
              simp only [Act.put, List.setIfInBounds_toArray, List.set_cons_succ, List.set_cons_zero]
              refine WG.put rfl (v := .int .i64 (k : Int)) (fun w => by first | rfl | (go_simp; done) | (simp [go_sem]; done)) ?_
              simp only [Act.put, List.setIfInBounds_toArray, List.set_cons_succ, List.set_cons_zero]
              refine WG.put rfl (v := .int .i64 (k1 : Int)) (fun w => by first | rfl | (go_simp; done) | (simp [go_sem, hwr]; done)) ?_
              simp only [Act.put, List.setIfInBounds_toArray, List.set_cons_succ, List.set_cons_zero]
              refine WG.put rfl (v := .pointer (some ⟨g, i * 2 + k1 * 2, none⟩)) (fun w => by first | rfl | (go_simp; done) | (simp [go_sem, hiY]; done)) ?_
              simp only [Act.put, List.setIfInBounds_toArray, List.set_cons_succ, List.set_cons_zero]
              refine WG.nk (x := Y) rfl _ rfl rfl HB HY ?_
              simp only [Act.put, List.setIfInBounds_toArray, List.set_cons_succ, List.set_cons_zero]
              refine WG.neqN rfl _ _ rfl rfl rfl true hxy ?_
              simp only [Act.put, List.setIfInBounds_toArray, List.set_cons_succ, List.set_cons_zero]
              refine WG.nil ?_
              intro w6 B6
              have IR6 := IR.grown B6
              have HX6 : w6.rangeAt g (i * 2 + k * 2) (nkL X) := fun j v hv => (B6.cell (p := ⟨g, i * 2 + k * 2 + j, none⟩) HB).trans (HX j v hv)
              have BR6 : Below B w w6 := BR.trans (B6.mono (by have := IR.lt; omega))
              clear HX HY hwr hiY
              go_wp2_with (first
                | (refine wpList_loadNK (x := X) rfl _ rfl rfl HX6 ?_)
                | (refine wpList_storeK (x := X) rfl _ _ rfl rfl rfl IR6 hbnd ?_; intro w7 U7 IR7))
              have BR7 : Below B w w7 := U7.trans BR6 hg
              go_roundw
              case rel => exact ⟨ii + 1, k + 1, L.set ii X, _, by omega, by omega, by omega, by omega, by go_num, by go_num, hLN, hlN, IR7, RN, BR7, HN.out, HN2.out⟩
              case measure => simp [intOf]; omega
          · have hkm' : i + k = l.length := by omega
            have HN : Hid (L.take ii = cmpG l) := by show _ = _; rw [HV1, hkm', List.take_length]
            have hsi2 := fun w => hsl w ii (by omega) (by omega)
            have hup2 := fun w => hup w ii (by omega)
            have hbnd : ii * 2 + (l.length - ii) * 2 ≤ cs'.length := by
              rw [hcs, ← Nat.add_mul]; exact Nat.mul_le_mul_right _ (by omega)
            have RT := RR.take ii (by omega)
            have hTL : (L.take ii).length = ii := by rw [List.length_take]; omega
            obtain ⟨n2, hn2⟩ : ∃ n, l.length - ii = n := ⟨_, rfl⟩
            simp only [hn2] at hsi2 hbnd
            have hiic : ii ≤ cap := by omega
            clear HV1 HV2 hsl hup hn2 hkm'
            go_wp2_with (first
              | (refine wpList_clearK rfl _ rfl n2 (cap - ii) rfl IR hbnd ?_; intro w7 zs hz U7 I7))
            go_ret
            have RZ := RT.clear (zs := zs) (ii * 2) (by rw [hTL]; exact Nat.le_refl _) (by rw [hz]; exact hbnd)
            have ON := own_of_row (B := B) (cap := cap) hg I7 RZ (by rw [hTL]; exact hiic) hm (by rw [putL_len']; exact hcs)
            rw [hTL, HN.out] at ON
            exact ⟨_, rfl, ON, U7.trans BR hg⟩
      · have hxy : decide (X = Y) = false := by simpa using he
        have HC1 : Hid (cmpG (l.take (i + 1)) = l.take (i + 1)) := by show _ = _; rw [HT.out, if_neg he, HC.out, HT2.out]
        clear HC HT HT2 he hX hY hi1' hsl hup
        go_wp2
        refine grow_allW (by kernel_rfl) (by kernel_rfl) ?_
        refine WG.put rfl (v := .slice (some ⟨g, 0, none⟩) l.length cap) (fun w => by first | rfl | (go_simp; done) | (simp [go_sem]; done)) ?_
        simp only [Act.put, List.setIfInBounds_toArray, List.set_cons_succ, List.set_cons_zero]
        refine WG.put rfl (v := .int .i64 (i : Int)) (fun w => by first | rfl | (go_simp; done) | (simp [go_sem]; done)) ?_
        simp only [Act.put, List.setIfInBounds_toArray, List.set_cons_succ, List.set_cons_zero]
        refine WG.put rfl (v := .pointer (some ⟨g, i * 2, none⟩)) (fun w => by first | rfl | (go_simp; done) | (simp [go_sem, hiX]; done)) ?_
        simp only [Act.put, List.setIfInBounds_toArray, List.set_cons_succ, List.set_cons_zero]
        refine WG.nk (x := X) rfl _ rfl rfl HB HX ?_
        simp only [Act.put, List.setIfInBounds_toArray, List.set_cons_succ, List.set_cons_zero]
        refine WG.put rfl (v := .slice (some ⟨g, 0, none⟩) l.length cap) (fun w => by first | rfl | (go_simp; done) | (simp [go_sem]; done)) ?_
        simp only [Act.put, List.setIfInBounds_toArray, List.set_cons_succ, List.set_cons_zero]
        refine WG.put rfl (v := .int .i64 (i : Int)) (fun w => by first | rfl | (go_simp; done) | (simp [go_sem]; done)) ?_
        simp only [Act.put, List.setIfInBounds_toArray, List.set_cons_succ, List.set_cons_zero]
        refine WG.put rfl (v := .int .i64 (i1 : Int)) (fun w => by first | rfl | (go_simp; done) | (simp [go_sem, hwr]; done)) ?_
        simp only [Act.put, List.setIfInBounds_toArray, List.set_cons_succ, List.set_cons_zero]
        refine WG.put rfl (v := .pointer (some ⟨g, i1 * 2, none⟩)) (fun w => by first | rfl | (go_simp; done) | (simp [go_sem, hiY]; done)) ?_
        simp only [Act.put, List.setIfInBounds_toArray, List.set_cons_succ, List.set_cons_zero]
        refine WG.nk (x := Y) rfl _ rfl rfl HB HY ?_
        simp only [Act.put, List.setIfInBounds_toArray, List.set_cons_succ, List.set_cons_zero]
        refine WG.eqN rfl _ _ rfl rfl rfl false hxy ?_
        simp only [Act.put, List.setIfInBounds_toArray, List.set_cons_succ, List.set_cons_zero]
        refine WG.nil ?_
        intro w5 B5
        have BW5 := Below.then BR B5
        clear HX HY HB IR
        go_wp2
        go_roundw
        case rel => exact ⟨i + 1, by omega, by omega, by go_num, BW5, HC1⟩
        case measure => simp [intOf]; omega
    · have e : i = l.length := by omega
      subst e
      have HC1 : Hid (cmpG l = l) := by have := HC.out; rwa [List.take_length] at this
      clear HC hsl hup hlt
      go_wp2
      go_ret
      refine ⟨_, rfl, ?_, BR.mono (by have := I.lt; omega)⟩
      rw [HC1.out]
      exact own_of_row hg IR hR hc hm hs
set_option maxRecDepth 100000 in
set_option maxHeartbeats 2000000 in
theorem compact_any {w : World} {B : Nat} {v : Value} {l : List NK} (hown : OwnK w B v l) (hB : B ≤ w.heap.size) (hn : l.length ≤ 4611686018427387903) :
    Calls Try.prog 17 #[v] w fun e w' => ∃ v', e = .returned v' ∧ OwnK w' B v' (cmpG l) ∧ Below B w w' := by
  by_cases h2 : l.length < 2
  · rw [cmpG_small h2]
    obtain ⟨a, c, rfl⟩ := own_form hown
    have hI : (l.length : Int) < 2 := by omega
    go_enter Try.func17, Try.ntmps17
    go_wp2
    go_ret
    exact ⟨_, rfl, hown, Below.refl _ _⟩
  · rcases hown.2 with ⟨hv, h0⟩ | ⟨g, cap, cur, hv, hg, hh, hc, hm, hs, ht⟩
    · omega
    · subst hv
      exact compact_great (cs := cur.toList) hg (by unfold IsS; rw [hh]) ht (by omega) hn hc hm (by simpa using hs)
end Go.Proofs.Ytcmkoffamolgmaa

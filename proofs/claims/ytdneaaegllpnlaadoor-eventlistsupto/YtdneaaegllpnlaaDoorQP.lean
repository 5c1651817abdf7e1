/- Several texts in one: PgRC, PgRG, PgRK, PgFN, PgFO, PgFP, PgCP. -/
import Derived.Test.YtdneaaegllpnlaaDoorPgPW
import Derived.Test.YtdneaaegllpnlaaDoorKB
import Derived.Test.YtdneaaegllpnlaaDoorPgPM
import Derived.Laws.IdiomCopy
import Derived.Test.YtdneaaegllpnlaaDoorPgQD
/- Rows of rows of one's own; the reference's Copy. -/
namespace Go.Proofs.YtdneaaegllpnlaaDoor
open Go.RowKit M
set_option linter.unusedSimpArgs false
set_option linter.unusedVariables false

theorem OwnRows.below {α : Type} {W W' : World} {B t tin k : Nat} {v : Value} {enc : α → List Value} {xss : List (List α)} (h : OwnRows W B t tin k v enc xss) (hB : Below W.heap.size W W') : OwnRows W' B t tin k v enc xss := by
  obtain ⟨vs, h1, h2, h3⟩ := h; exact ⟨vs, h1, own_below h2 hB, fun j u xs hu hx => own_below (h3 j u xs hu hx) hB⟩
theorem OwnRows.nil {α : Type} (W : World) (B t tin k : Nat) (enc : α → List Value) : OwnRows W B t tin k (.slice none 0 0) enc ([] : List (List α)) := ⟨[], rfl, own_nil _ _ _ _, fun j u xs hu => by simp at hu⟩
/-- One row more. -/
theorem OwnRows.snoc {α : Type} {W W' : World} {B t tin k : Nat} {v v' u : Value} {enc : α → List Value} {xss : List (List α)} {xs : List α} {vs : List Value} (h1 : vs.length = xss.length) (h2 : W.ownsRow B t 1 v xss.length vs)
    (h3 : ∀ (j : Nat) u xs, vs[j]? = some u → xss[j]? = some xs → W.ownsRow B tin k u xs.length (xs.flatMap enc)) (hu : W.ownsRow B tin k u xs.length (xs.flatMap enc)) (ho : W'.ownsRow B t 1 v' (xss.length + 1) (vs ++ [u])) (hg : W.grownBy W' v.ownBlock) (ht : tin ≠ t) : OwnRows W' B t tin k v' enc (xss ++ [xs]) := by
  refine ⟨vs ++ [u], by simp [h1], by rw [List.length_append]; exact ho, fun j u' xs' hj hx => ?_⟩
  by_cases hlt : j < vs.length
  · rw [List.getElem?_append_left hlt] at hj
    rw [List.getElem?_append_left (by omega)] at hx
    exact own_grow (h3 j u' xs' hj hx) h2 hg ht
  · have hl := (List.getElem?_eq_some_iff.1 hj).1
    rw [List.length_append, List.length_singleton] at hl
    have e : j = vs.length := by omega
    subst e
    rw [List.getElem?_append_right (Nat.le_refl _), Nat.sub_self] at hj
    rw [List.getElem?_append_right (by omega), h1, Nat.sub_self] at hx
    cases hj; cases hx
    exact own_grow hu h2 hg ht
section
variable {w : World} {ops : Array Oper} {rest : List Oper} {op : Oper} {a : Act} {Q : Exit → Act → World → Prop} {t T k by' : Nat} {z : Value}
end
theorem op_len (l : List Op5) : (l.flatMap op5L).length = l.length * 5 := by
  induction l with
  | nil => rfl
  | cons r l ih => rw [List.flatMap_cons, List.length_append, ih, List.length_cons]; simp [op5L]; omega
theorem ops_one (l : List Op5) : ∀ v ∈ l.flatMap op5L, v.oneCell' = true := fun v hv => by
  obtain ⟨r, _, h⟩ := List.mem_flatMap.1 hv; exact op_one r v h
set_option maxRecDepth 100000 in
set_option maxHeartbeats 4000000 in
theorem rcopy_any (ri : List (List Int)) (hi : ri.length ≤ 1048576) (hii : ri.flatten.length ≤ 1048576) (ai : Option Addr) (ci : Nat) (w : World) (hR : RowsV w (.slice ai ri.length ci) intE ri) :
    Calls Tryd.prog 44 #[.slice ai ri.length ci] w fun en w' => (∃ v, en = .returned v ∧ OwnRows w' w.heap.size 26 2 1 v intE ri) ∧ Below w.heap.size w w' := by
  have HI : Hid (RowsV w (.slice ai ri.length ci) intE ri) := hR
  have HII : Hid (ri.flatten.length ≤ 1048576) := hii
  obtain ⟨ni, hni⟩ : ∃ n, ri.length = n := ⟨_, rfl⟩
  have HNI : Hid (ri.length = ni) := hni
  rw [hni] at HI hi ⊢
  clear hR hii hni
  go_enter Tryd.func44, Tryd.ntmps44
  go_wp2_with fail
  go_loopw [3, 4] (fun v i wr => ∃ k : Nat, k ≤ ni ∧ i = .int .i64 k ∧ Hid (OwnRows wr w.heap.size 26 2 1 v intE (ri.take k)) ∧ Hid (Below w.heap.size w wr)) (fun _ i _ => ni - (intOf i).toNat)
  case atStart => exact ⟨0, Nat.zero_le _, rfl, by show OwnRows _ _ _ _ _ _ _ _; rw [List.take_zero]; exact OwnRows.nil _ _ _ _ _ _, Below.refl _ _⟩
  case round =>
    obtain ⟨k, hk, rfl, HO, HB⟩ := hrel
    by_cases hlt : k < ni
    · have hki : (k : Int) < ni := by omega
      obtain ⟨q, hq⟩ : ∃ q, ri[k]? = some q := ⟨_, List.getElem?_eq_getElem (by rw [HNI.out]; exact hlt)⟩
      obtain ⟨bi, oi, ai', ci', rfl, hbi, hci, hsegi, hnil⟩ := (HI.out.below HB.out).at k q hq
      have hql : q.length ≤ 1048576 := Nat.le_trans (by have := flat_at hq (Nat.le_refl _); rw [List.take_length, List.length_append] at this; omega) HII.out
      have HQ : Hid (ri.take (k + 1) = ri.take k ++ [q]) := take_at hq
      have HRV : Hid (RowV wr (.slice ai' q.length ci') q.length (q.flatMap intE)) := ⟨ai', ci', rfl, hsegi, hnil⟩
      obtain ⟨vs, ho1, ho2, ho3⟩ := HO.out
      have hkl : (ri.take k).length = k := by rw [List.length_take, HNI.out]; omega
      rw [hkl] at ho1 ho2
      obtain ⟨av, cv, hv⟩ := own_form ho2
      subst hv
      obtain ⟨qn, hqn⟩ : ∃ n, q.length = n := ⟨_, rfl⟩
      have HQN : Hid (q.length = qn) := hqn
      have H1 : Hid (vs.length = k) := ho1
      have H2 : Hid (wr.ownsRow w.heap.size 26 1 (.slice av k cv) k vs) := ho2
      have H3 : Hid (∀ (j : Nat) u xs, vs[j]? = some u → (ri.take k)[j]? = some xs → wr.ownsRow w.heap.size 2 1 u xs.length (xs.flatMap intE)) := ho3
      have HKL : Hid ((ri.take k).length = k) := hkl
      rw [hqn] at hci hql HRV
      clear hq hsegi hnil ho1 ho2 ho3 hkl hqn HO
      have t1 : True := trivial
      have t2 : True := trivial
      have t3 : True := trivial
      have t4 : True := trivial
      go_wp2_with (first
        | (clear t1; refine wpList_build0E eIntP rfl rfl ?_; intro W1 b1 F1 O1; have B1 := F1.trans HB.out HB.out.size; have Bx1 := F1.trans (Below.refl _ wr) (Nat.le_refl _); have hc1 : W1.cell? ⟨bi, oi + k, none⟩ = some (.slice ai' qn ci') := (by rw [Bx1.cell (p := ⟨bi, oi + k, none⟩) hbi]; exact hci); clear F1)
        | (clear t2; at_builtin; refine wpList_appM eIntP rfl _ _ rfl wr.heap.size _ 0 [] rfl O1 _ qn (q.flatMap intE) rfl (HRV.out.below Bx1) (by rw [int_len, HQN.out]) (int_one q) (by omega) Bx1.size ?_; intro v2 W2 O2x G2; have Bx2 := grown_below Bx1 Bx1.size O1 G2; have O2 : W2.ownsRow w.heap.size 2 1 v2 qn (q.flatMap intE) := (by have h := own_raise O2x HB.out.size; rw [Nat.zero_add, List.nil_append] at h; exact h); have B2 := Below.then HB.out Bx2; clear G2 O2x O1 hc1)
        | (clear t3; refine wpList_build1E eInts rfl _ rfl v2 rfl (own_cell O2) ?_; intro W3 b3 F3 C3; have Bx3 := F3.trans Bx2 Bx2.size; have B3 := F3.trans B2 B2.size; have O3 := own_below O2 (F3.trans (Below.refl _ _) (Nat.le_refl _)); have P3 := own_below H2.out Bx3; clear F3 O2)
        | (clear t4; at_builtin; refine wpList_appM eInts rfl _ _ rfl w.heap.size _ k vs rfl P3 _ 1 [v2] rfl (row_isS C3) rfl (by simp [own_cell O3]) (by omega) B3.size ?_; intro v4 W4 O4 G4; have B4 := grown_below B3 B3.size P3 G4))
      have HF : Hid (OwnRows W4 w.heap.size 26 2 1 v4 intE (ri.take (k + 1))) := (by
        show OwnRows _ _ _ _ _ _ _ _
        rw [HQ.out]
        refine OwnRows.snoc (vs := vs) (u := v2) (by rw [HKL.out]; exact H1.out) (by rw [HKL.out]; exact P3) (fun j u xs hu hx => own_below (H3.out j u xs hu hx) Bx3) (by rw [HQN.out]; exact O3) (by rw [HKL.out]; exact O4) G4 (by decide))
      clear G4 O4 P3 O3 C3
      go_wp2_with fail
      go_roundw
      case rel => exact ⟨k + 1, by omega, by go_num, HF, B4⟩
      case measure => simp [intOf]; omega
    · have hki : ¬ (k : Int) < ni := by omega
      have HF : Hid (OwnRows wr w.heap.size 26 2 1 u3 intE ri) := (by have := HO.out; rw [show k = ri.length by rw [HNI.out]; omega, List.take_length] at this; exact this)
      go_wp2_with fail
      go_ret
      exact ⟨⟨_, rfl, HF.out⟩, HB.out⟩
end Go.Proofs.YtdneaaegllpnlaaDoor
/- Appending to an empty slice makes a new row, and turns nothing. -/
namespace Go.Proofs.YtdneaaegllpnlaaDoor
open Go.RowKit M
set_option linter.unusedSimpArgs false
set_option linter.unusedVariables false
theorem run_app0 {w : World} {t T k by' : Nat} {z : Value} (E : Elt t T k z by') (B b : Nat) (hown : w.ownsRow B t k (.slice (some ⟨b, 0, none⟩) 0 0) 0 []) (u : Value) (m : Nat) (cs : List Value) (hu : RowV w u m cs) (hl : cs.length = m * k) (h1 : ∀ x ∈ cs, x.oneCell' = true) (hn : m ≤ 4194304) (hB : B ≤ w.heap.size) (ty : TypeId) :
    ∃ v' w', (Builtin.append_ #[T, T] ty #[.slice (some ⟨b, 0, none⟩) 0 0, u]).run Tryd.prog w = .ok v' w' ∧ w'.ownsRow B t k v' m cs ∧ Below w.heap.size w w' := by
  obtain ⟨i0, hi, hz, hs, hby⟩ := E.info
  have hfew := E.few
  obtain ⟨ad, c, rfl, hT, hnil⟩ := hu
  by_cases hm : m = 0
  · subst hm
    have hcs : cs = [] := List.length_eq_zero_iff.1 (by rw [hl, Nat.zero_mul])
    subst hcs
    refine ⟨_, w, ?_, hown, Below.refl _ _⟩
    have hld : ∀ (x : Addr), (loadCells x 0).run Tryd.prog w = .ok #[] w := fun x => by simpa using run_loadCells_list (P := Tryd.prog) w x [] (by simp)
    cases ad with
    | none => simp [Builtin.append_, run_underlying E.und, sizeOf, typeInfo, hi, Builtin.lenOf, Builtin.firstCells, storeCells]
    | some x => simp [Builtin.append_, run_underlying E.und, sizeOf, typeInfo, hi, Builtin.lenOf, Builtin.firstCells, storeCells, hld]
  · have hpos := E.pos
    have : 0 < cs.length := by rw [hl]; exact Nat.mul_pos (by omega) hpos
    obtain ⟨b0, o0, rfl, _⟩ := hT 0 cs[0] (List.getElem?_eq_getElem this)
    have hnews : ∀ j y, cs[j]? = some y → w.cell? ((⟨b0, o0, none⟩ : Addr).add j) = some y := fun j y hj => by
      obtain ⟨b', o', e, _, hc⟩ := hT j y hj
      cases e
      rw [Addr.add_mid]
      exact hc
    have hb : (0 + m) * by' ≤ 140737488355328 := Nat.le_trans (Nat.mul_le_mul (by omega : 0 + m ≤ 4194304) hfew) (by decide)
    obtain ⟨v', w', hr, ho, hg, _⟩ := run_append_own (P := Tryd.prog) w B T ty t i0 z k by' E.und hi hz hs hby E.cells E.pos _ 0 [] hown ⟨b0, o0, none⟩ m c cs hl hnews h1 (by unfold maxLen; omega) hb hB
    have hfit : Builtin.nextslicecap (0 + m) 0 * i0.bytes ≤ 281474976710656 := by rw [Nat.zero_add, nextslicecap_zero (by omega), hby]; have := hb; rw [Nat.zero_add] at this; omega
    have hr2 := run_append_grow (P := Tryd.prog) (w := w) T ty t i0 z E.und hi hz ⟨b, 0, none⟩ 0 0 [] (by simp) (by simp) ⟨b0, o0, none⟩ m c cs (by rw [hs]; exact hl) hnews (by omega) (by omega) hfit
    rw [hr] at hr2
    injection hr2 with h2 h3
    refine ⟨v', w', hr, by rw [Nat.zero_add, List.nil_append] at ho; exact ho, ?_⟩
    rw [h3]
    exact (below_drew (Below.refl _ w)).alloc (Nat.le_refl _) _
end Go.Proofs.YtdneaaegllpnlaaDoor
/- The same, the steps being told that those listed wait for none that is not. -/
namespace Go.Proofs.YtdneaaegllpnlaaDoor
open Go
set_option linter.unusedVariables false
set_option linter.unusedSimpArgs false

section
variable {P : Program} {ops : Array Oper} {Q : Exit → Act → World → Prop}
theorem any_invC {n g : Nat} (I : Array Bool → Act → World → Prop) (hs : Region.sinkB .any ops n = true) (hc : Region.chainB .any ops n = true) (hn : n < ops.size) (hf : fwdB ops n = true)
    (hstep : ∀ i listed a w, HeadInv .any ops n listed → i < n → i ∈ Region.ready .any ops listed → I listed a w → wpOp P ops Q i (fun a' w' => I (listed.setIfInBounds i true) a' w') a w)
    (hend : ∀ a w, I (fullB ops.size n) a w → wpAny P .any ops Q g (fullB ops.size n) a w) (f : Nat) :
    ∀ (listed : Array Bool) (a : Act) (w : World), HeadInv .any ops n listed → toCome listed n = f → I listed a w → wpAny P .any ops Q (f + g) listed a w := by
  induction f with
  | zero =>
    intro listed a w inv h0 hI
    have e := full_of h0 inv.size (Nat.le_of_lt hn) inv.tail
    rw [Nat.zero_add, e]
    exact hend a w (e ▸ hI)
  | succ f ih =>
    intro listed a w inv h0 hI
    obtain ⟨i0, hi0, hl0, hmin⟩ := some_unlisted (by omega : toCome listed n ≠ 0)
    have hl0' : listed.getD i0 true = false := getD_in (by rw [inv.size]; omega) hl0
    have e : f + 1 + g = f + g + 1 := Nat.add_right_comm f 1 g
    rw [e]
    have r0 : i0 ∈ Region.ready .any ops listed := mem_ready.2 ⟨hl0', ops[i0]'(by omega), Array.getElem?_eq_getElem (by omega), fun ed hed hb => hmin _ (fwd_spec hf hi0 (Array.getElem?_eq_getElem (by omega)) ed hed hb)⟩
    refine ⟨fun none => absurd r0 (by rw [none]; simp), fun i hi => ?_⟩
    have hin : i < n := by
      by_cases h : i < n
      · exact h
      · exact absurd hi (tail_waits hs hc hn inv _ i0 rfl hi0 hl0' i (by omega))
    have hun := (mem_ready.1 hi).1
    refine wpOp_mono (fun a' w' h' => ih _ a' w' (inv.set hi hin) ?_ h') (hstep i listed a w inv hin hi hI)
    have := toCome_set hin (by rw [inv.size]; omega) (getD_both hun)
    omega

/-- The region, its steps told what is closed. -/
theorem region_invC {id : Nat} {a : Act} {w : World} {l : List Oper} (n : Nat) (I : Array Bool → Act → World → Prop) (hm : P.follows .mixedOrders = true)
    (hB : (Region.sinkB .any l.toArray n && Region.chainB .any l.toArray n && decide (n < l.length) && fwdB l.toArray n && Region.seqB .any l.toArray (l.drop n).length n (fullB l.length n)) = true)
    (h0 : I (Array.replicate l.length false) a { w with drawn := w.drawn + 1 })
    (hstep : ∀ i listed a w, HeadInv .any l.toArray n listed → i < n → i ∈ Region.ready .any l.toArray listed → I listed a w → wpOp P l.toArray Q i (fun a' w' => I (listed.setIfInBounds i true) a' w') a w)
    (hend : ∀ a w, I (fullB l.length n) a w → wpList P l.toArray Q (l.drop n) a w) : (Code.region id l.toArray true).wp P Q a w := by
  rw [Bool.and_eq_true, Bool.and_eq_true, Bool.and_eq_true, Bool.and_eq_true, decide_eq_true_eq] at hB
  obtain ⟨⟨⟨⟨h1, h2⟩, h3⟩, h4⟩, h5⟩ := hB
  have hsz : l.toArray.size = l.length := by simp
  have inv0 : HeadInv .any l.toArray n (Array.replicate l.toArray.size false) := ⟨(by simp), (fun j oj _ hl => (by rw [getD_replicate_false] at hl; cases hl)), (fun t _ ht => (by simp at ht; simp [ht]))⟩
  have t0 : toCome (Array.replicate l.toArray.size false) n = n := by
    unfold toCome
    rw [List.filter_eq_self.2 (fun i _ => by rw [getD_replicate_false]; rfl), List.length_range]
  have whole := any_invC (g := (l.drop n).length) I h1 h2 (by rw [hsz]; exact h3) h4 hstep (fun a' w' hI => by
    rw [hsz] at hI ⊢
    exact wpAny_of_seq (l.drop n) n _ a' w' (fun j => by simp) h5 (hend a' w' hI)) n (Array.replicate l.toArray.size false) a { w with drawn := w.drawn + 1 } inv0 t0 (by rw [hsz]; exact h0)
  have total : n + (l.drop n).length = l.toArray.size := by rw [List.length_drop, hsz]; omega
  rw [total] at whole
  exact wp_region_any hm whole
theorem region_invAC {id : Nat} {a : Act} {w : World} {l : List Oper} (n : Nat) (I : Act → Array Bool → Act → World → Prop) (hm : P.follows .mixedOrders = true)
    (hB : (Region.sinkB .any l.toArray n && Region.chainB .any l.toArray n && decide (n < l.length) && fwdB l.toArray n && Region.seqB .any l.toArray (l.drop n).length n (fullB l.length n)) = true)
    (h0 : I a (Array.replicate l.length false) a { w with drawn := w.drawn + 1 })
    (hstep : ∀ i listed a' w', HeadInv .any l.toArray n listed → i < n → i ∈ Region.ready .any l.toArray listed → I a listed a' w' → wpOp P l.toArray Q i (fun a'' w'' => I a (listed.setIfInBounds i true) a'' w'') a' w')
    (hend : ∀ a' w', I a (fullB l.length n) a' w' → wpList P l.toArray Q (l.drop n) a' w') : (Code.region id l.toArray true).wp P Q a w :=
  region_invC n (I a) hm hB h0 hstep hend
theorem keepF {listed : Array Bool} {i j : Nat} (hij : i ≠ j) (h : (listed.setIfInBounds i true).getD j false = false) : listed.getD j false = false := by rw [getD_set_ne false hij] at h; exact h
theorem setF {listed : Array Bool} {i : Nat} (hl : listed.getD i true = false) (h : (listed.setIfInBounds i true).getD i false = false) : False := by
  have hlt : i < listed.size := by
    rcases Nat.lt_or_ge i listed.size with h' | h'
    · exact h'
    · simp [Array.getElem?_eq_none h'] at hl
  simp [hlt] at h
end
end Go.Proofs.YtdneaaegllpnlaaDoor
/- Final states: lists of at most 48 values; grown. -/
namespace Go.Proofs.YtdneaaegllpnlaaDoor
open Go.RowKit M
set_option linter.unusedSimpArgs false
set_option linter.unusedVariables false

/-- So many values: those that there are, then 0. -/
def padTo (m : Nat) (vals : List Int) : List Int := (List.range m).map fun i => vals.getD i 0
theorem padTo_len (m : Nat) (vals : List Int) : (padTo m vals).length = m := by simp [padTo]
theorem padTo_take (m n : Nat) (vals : List Int) (h : n ≤ m) : (padTo m vals).take n = padTo n vals := by
  refine List.ext_getElem (by rw [List.length_take, padTo_len, padTo_len]; omega) fun i h1 h2 => ?_
  simp [padTo]
def slA (b N : Nat) : Addr := if 48 = N then ⟨b, 1, none⟩ else ⟨b, 1 + N, none⟩
theorem infoI2 : (Tryd.prog.info? 2).map (·.size) = some 1 := by kernel_rfl
theorem int_map (vals : List Int) : vals.flatMap intE = vals.map (.int .i64) := flat1 _ vals
theorem run_cp (w : World) (ty : TypeId) (b t N n nv c : Nat) (cs : List Value) (vals : List Int) (hn : N + n ≤ 48) (hv : vals.length = nv) (a : Option Addr) (hC : IsS w b t cs) (hl : cs.length = 49) (hs : Seg w a (vals.flatMap intE)) :
    ∃ v W, (Builtin.copy_ #[26, 26] ty #[.slice (some (slA b N)) n (48 - N), .slice a nv c]).run Tryd.prog w = .ok v W ∧ Upd w W b ∧ IsS W b t (putL cs (1 + N) ((vals.take n).map (.int .i64))) := by
  by_cases h0 : Nat.min nv n = 0
  · refine ⟨_, w, run_copy_none (P := Tryd.prog) w _ _ ty 2 _ _ n (48 - N) nv c Tryd.underlying26 infoI2 h0, Upd.refl w b, ?_⟩
    have : vals.take n = [] := by
      rcases Nat.eq_zero_or_pos n with h | h
      · rw [h]; rfl
      · have : nv = 0 := by
          have h' : min nv n = 0 := h0
          omega
        have : vals = [] := List.length_eq_zero_iff.1 (by omega)
        rw [this]; simp
    rw [this]; exact hC
  · have h0' : min nv n ≠ 0 := h0
    have hsl : slA b N = ⟨b, 1 + N, none⟩ := by unfold slA; rw [if_neg (by omega)]
    rw [hsl]
    obtain ⟨v0, hv0⟩ : ∃ v, vals[0]? = some v := ⟨_, List.getElem?_eq_getElem (by omega)⟩
    obtain ⟨ba, oa, rfl, _, _⟩ := hs.int hv0
    have hlen : ((vals.take n).map (Value.int .i64)).length = Nat.min nv n := by
      rw [List.length_map, List.length_take, hv]; show min n nv = min nv n; omega
    have hle : min nv n ≤ n := Nat.min_le_right _ _
    refine ⟨_, _, run_copy_cells (P := Tryd.prog) w _ _ ty 2 b (1 + N) n (48 - N) ⟨ba, oa, none⟩ nv c ((vals.take n).map (.int .i64)) Tryd.underlying26 infoI2 hlen (fun j v hj => ?_) (fun j hj => ?_) (fun j hj => hC.frozen _) (fun v hv' => ?_), Upd.setCells b _ _ w, IsS.setL _ _ _ _ hC⟩
    · rw [Addr.add_mid]
      rw [List.getElem?_map, List.getElem?_take] at hj
      split at hj
      · cases hq : vals[j]? with
        | none => rw [hq] at hj; cases hj
        | some x =>
          rw [hq] at hj; cases hj
          obtain ⟨b', o', e', _, hc⟩ := hs.int hq
          cases e'; exact hc
      · cases hj
    · rw [hC.cell, List.getElem?_eq_getElem (by have h' : Nat.min nv n = min nv n := rfl; omega)]; rfl
    · obtain ⟨x, _, rfl⟩ := List.mem_map.1 hv'; rfl
theorem putL_len : ∀ (vs cs : List Value) (o : Nat), (putL cs o vs).length = cs.length
  | [], cs, o => rfl
  | v :: vs, cs, o => by show (putL (cs.set o v) (o + 1) vs).length = _; rw [putL_len vs, List.length_set]
theorem finL_get (vs : List Int) (hv : vs.length ≤ 48) (j : Nat) (hj : j < 48) : (finL vs)[j + 1]? = some (.int .i64 (vs.getD j 0)) := by
  unfold finL padI
  rw [List.getElem?_cons_succ, List.getElem?_map]
  by_cases h : j < vs.length
  · rw [List.getElem?_append_left h, List.getElem?_eq_getElem h]
    simp [h]
  · rw [List.getElem?_append_right (by omega), List.getElem?_replicate, if_pos (by omega)]
    simp [Nat.not_lt.1 h]
/-- The values are laid into the cells. -/
theorem put_fin (vs vals : List Int) (n : Nat) (h : vs.length + n ≤ 48) :
    ((putL (finL vs) (1 + vs.length) ((vals.take n).map (.int .i64))).set 0 (.int .i64 ((vs.length : Int) + (n : Int)))) = finL (vs ++ padTo n vals) := by
  have hL : (vs ++ padTo n vals).length = vs.length + n := by rw [List.length_append, padTo_len]
  have hml : ((vals.take n).map (Value.int .i64)).length ≤ n := by rw [List.length_map, List.length_take]; omega
  refine List.ext_getElem? fun j => ?_
  cases j with
  | zero =>
    rw [List.getElem?_set_self (by rw [putL_len, finL_len (by omega)]; omega)]
    unfold finL
    rw [List.getElem?_cons_zero, hL]
    simp
  | succ j =>
    rw [List.getElem?_set_ne (by omega), putL_get _ _ _ _ (by rw [finL_len (by omega)]; omega)]
    by_cases hj : j < 48
    · rw [finL_get (vs ++ padTo n vals) (by rw [hL]; exact h) j hj]
      by_cases h1 : 1 + vs.length ≤ j + 1 ∧ j + 1 < 1 + vs.length + ((vals.take n).map (Value.int .i64)).length
      · rw [if_pos h1]
        rw [List.length_map, List.length_take] at h1
        rw [List.getElem?_map, List.getElem?_take, if_pos (by omega)]
        have e : j + 1 - (1 + vs.length) = j - vs.length := by omega
        rw [e]
        obtain ⟨x, hx⟩ : ∃ x, vals[j - vs.length]? = some x := ⟨_, List.getElem?_eq_getElem (by omega)⟩
        rw [hx]
        have : (vs ++ padTo n vals).getD j 0 = x := by
          rw [List.getD_eq_getElem?_getD, List.getElem?_append_right (by omega)]
          unfold padTo
          rw [List.getElem?_map, List.getElem?_range (by omega)]
          simp [hx]
        rw [this]; rfl
      · rw [if_neg h1, finL_get vs (by omega) j hj]
        rw [List.length_map, List.length_take] at h1
        congr 2
        rw [List.getD_eq_getElem?_getD, List.getD_eq_getElem?_getD]
        by_cases h2 : j < vs.length
        · rw [List.getElem?_append_left h2]
        · rw [List.getElem?_eq_none (by omega), List.getElem?_append_right (by omega)]
          by_cases h3 : j - vs.length < n
          · unfold padTo
            rw [List.getElem?_map, List.getElem?_range h3]
            simp only [Option.map_some, Option.getD_some, Option.getD_none]
            rw [List.getD_eq_getElem?_getD, List.getElem?_eq_none (by omega)]; rfl
          · rw [List.getElem?_eq_none (by rw [padTo_len]; omega)]
    · rw [if_neg (by omega), List.getElem?_eq_none (l := finL vs) (by rw [finL_len (by omega)]; omega), List.getElem?_eq_none (by rw [finL_len (by rw [hL]; exact h)]; omega)]
theorem info3' : (Tryd.prog.info? 3).map (·.size) = some 1 := by kernel_rfl
section
variable {w : World} {b t o : Nat} {cs : List Value} {ops : Array Oper} {rest : List Oper} {op : Oper} {a : Act} {Q : Exit → Act → World → Prop}
end
end Go.Proofs.YtdneaaegllpnlaaDoor
/- First of a program: the program's side. -/
namespace Go.Proofs.YtdneaaegllpnlaaDoor
open Go.RowKit M
set_option linter.unusedSimpArgs false
set_option linter.unusedVariables false

def allR (rs : List (List ByteArray)) (ri : List (List Int)) (k : Nat) : List Int := ((List.range k).map fun i => padTo (rs.getD i []).length (ri.getD i [])).flatten
theorem allR_next (rs : List (List ByteArray)) (ri : List (List Int)) (k : Nat) : allR rs ri (k + 1) = allR rs ri k ++ padTo (rs.getD k []).length (ri.getD k []) := by
  unfold allR; rw [List.range_succ, List.map_append, List.flatten_append]; simp
def firstL (p : PG) : List Int := (allR p.regs p.regInit p.regs.length ++ padTo p.locs.length p.locInit).take 48
theorem take_more (A B : List Int) : (A ++ B).take 48 = A.take 48 ++ B.take (48 - (A.take 48).length) := by
  rw [List.take_append, List.length_take]
  congr 2
  omega
theorem take48 (A : List Int) : (A.take 48).length ≤ 48 := by rw [List.length_take]; omega
end Go.Proofs.YtdneaaegllpnlaaDoor
/- End: the reference's side. -/
namespace Go.Proofs.YtdneaaegllpnlaaDoor
open Go.RowKit M
set_option linter.unusedSimpArgs false
set_option linter.unusedVariables false

theorem grow_tailV {id : Nat} {Q : Exit → Act → World → Prop} {a : Act} {W : World} {l : List Oper} (n : Nat) (hm : Tryd.prog.follows .mixedOrders = true) (hB : Region.lexTailB .any l.toArray n = true)
    (h : WG l.toArray W (fun a' => ∀ w', Below W.heap.size W w' → wpList Tryd.prog l.toArray Q (l.drop n) a' w') (l.take n) a) : (Code.region id l.toArray true).wp Tryd.prog Q a W := grow_tail n hm hB h.out
theorem fin_snoc {vs : List Int} (h : vs.length < 48) (x : Int) : ((finL vs).set (1 + vs.length) (.int .i64 x)).set 0 (.int .i64 ((vs.length : Int) + 1)) = finL (vs ++ [x]) := put_fin vs [x] 1 (by omega)
theorem fin_snoc0 {vs : List Int} (h : vs.length < 48) : (finL vs).set 0 (.int .i64 ((vs.length : Int) + 1)) = finL (vs ++ [0]) := put_fin vs [] 1 (by omega)
theorem take_in {L : List Int} (h : (L.take 48).length < 48) (x : Int) : (L ++ [x]).take 48 = L.take 48 ++ [x] := by
  rw [List.length_take] at h
  rw [List.take_append, List.take_of_length_le (l := [x]) (by simp; omega)]
theorem take_out {L : List Int} (h : ¬ (L.take 48).length < 48) (x : Int) : (L ++ [x]).take 48 = L.take 48 := by
  rw [List.length_take] at h
  rw [List.take_append, show 48 - L.length = 0 by omega]; simp
theorem pad_at {m : Nat} {q : List Int} {j : Nat} (h : j < m) : (padTo m q).take (j + 1) = (padTo m q).take j ++ [q.getD j 0] := by
  rw [take_at (x := q.getD j 0)]
  unfold padTo
  rw [List.getElem?_map, List.getElem?_range h]; rfl
theorem ld3' {b o : Nat} {v : Value} (w : World) (h : w.cell? ⟨b, o, none⟩ = some v) : (Instr.loadAt 3 (.pointer (some ⟨b, o, none⟩))).run Tryd.prog w = .ok v w := by simp [go_sem, h]
theorem cell0 {w : World} {b t : Nat} {vs : List Int} (h : IsS w b t (finL vs)) : w.cell? ⟨b, 0, none⟩ = some (.int .i64 (vs.length : Int)) := h.cell 0
end Go.Proofs.YtdneaaegllpnlaaDoor
/- The law's Copy of a program. -/
namespace Go.Proofs.YtdneaaegllpnlaaDoor
open Go.RowKit M
set_option linter.unusedSimpArgs false
set_option linter.unusedVariables false

def z5 : List Value := [.slice none 0 0, .slice none 0 0, .slice none 0 0, .slice none 0 0, .slice none 0 0]
theorem zeroPg (w : World) : (zeroValue 28).run Tryd.prog w = .ok (.agg z5.toArray) w := Tryd.zeroValue28 w
/-- What stands beside the row that is made. -/
structure KT (w wr : World) (b1 b2 b3 : Nat) (P5 C5 : List Value) (v9 v13 v16 vo : Value) (xs : List (List Op5)) (p : PG) : Prop where
  c1 : IsS wr b1 28 P5
  c2 : IsS wr b2 28 z5
  c3 : IsS wr b3 28 C5
  hl : wr.ownsRow w.heap.size 9 1 v9 p.locs.length (p.locs.flatMap strE)
  hj : wr.ownsRow w.heap.size 2 1 v13 p.locInit.length (p.locInit.flatMap intE)
  hi : OwnRows wr w.heap.size 26 2 1 v16 intE p.regInit
  ot : OwnRows wr w.heap.size 73 75 5 vo op5L xs
theorem isS_grow {W W' : World} {B b t t' n s : Nat} {v : Value} {cs xs : List Value} (h : IsS W b t cs) (ho : W.ownsRow B t' s v n xs) (hg : W.grownBy W' v.ownBlock) (ht : t ≠ t') : IsS W' b t cs := by
  refine (hg.block b h.lt (fun e => ?_)).trans h
  rcases ho.2 with ⟨rfl, _⟩ | ⟨g', cap', cur', rfl, _, hh', _⟩
  · cases e
  · simp [Value.ownBlock] at e
    subst e
    have h' : W.heap[b]? = some (.cells cs.toArray t) := h
    rw [h'] at hh'
    simp at hh'
    exact ht hh'.2
theorem rows_grow {α : Type} {W W' : World} {B t tin k t' n s : Nat} {v v' : Value} {enc : α → List Value} {xss : List (List α)} {xs : List Value} (h : OwnRows W B t tin k v enc xss) (ho : W.ownsRow B t' s v' n xs) (hg : W.grownBy W' v'.ownBlock) (h1 : t ≠ t') (h2 : tin ≠ t') : OwnRows W' B t tin k v enc xss := by
  obtain ⟨vs, a1, a2, a3⟩ := h
  exact ⟨vs, a1, own_grow a2 ho hg h1, fun j u ys hu hy => own_grow (a3 j u ys hu hy) ho hg h2⟩
section
variable {w wr W' : World} {b1 b2 b3 : Nat} {P5 C5 : List Value} {v9 v13 v16 vo : Value} {xs : List (List Op5)} {p : PG}
theorem KT.below (h : KT w wr b1 b2 b3 P5 C5 v9 v13 v16 vo xs p) (hB : Below wr.heap.size wr W') : KT w W' b1 b2 b3 P5 C5 v9 v13 v16 vo xs p :=
  ⟨h.c1.grown hB, h.c2.grown hB, h.c3.grown hB, own_below h.hl hB, own_below h.hj hB, h.hi.below hB, h.ot.below hB⟩
theorem KT.grow1 {n : Nat} {v : Value} {ys : List Value} (h : KT w wr b1 b2 b3 P5 C5 v9 v13 v16 (.slice none 0 0) [] p) (ho : wr.ownsRow w.heap.size 73 1 v n ys) (hg : wr.grownBy W' v.ownBlock) : KT w W' b1 b2 b3 P5 C5 v9 v13 v16 (.slice none 0 0) [] p :=
  ⟨isS_grow h.c1 ho hg (by decide), isS_grow h.c2 ho hg (by decide), isS_grow h.c3 ho hg (by decide), own_grow h.hl ho hg (by decide), own_grow h.hj ho hg (by decide), rows_grow h.hi ho hg (by decide) (by decide), OwnRows.nil _ _ _ _ _ _⟩
theorem KT.grow2 {n : Nat} {v : Value} {ys : List Value} (h : KT w wr b1 b2 b3 P5 C5 v9 v13 v16 vo xs p) (ho : wr.ownsRow w.heap.size 24 1 v n ys) (hg : wr.grownBy W' v.ownBlock) : KT w W' b1 b2 b3 P5 C5 v9 v13 v16 vo xs p :=
  ⟨isS_grow h.c1 ho hg (by decide), isS_grow h.c2 ho hg (by decide), isS_grow h.c3 ho hg (by decide), own_grow h.hl ho hg (by decide), own_grow h.hj ho hg (by decide), rows_grow h.hi ho hg (by decide) (by decide), rows_grow h.ot ho hg (by decide) (by decide)⟩
theorem own_upd {W W1 : World} {B t s n b : Nat} {v : Value} {cs ys : List Value} {t' : Nat} (h : W.ownsRow B t s v n ys) (hc : IsS W b t' cs) (U : Upd W W1 b) (ht : t ≠ t') : W1.ownsRow B t s v n ys := by
  refine ⟨h.1, ?_⟩
  rcases h.2 with hn | ⟨g, cap, cur, rfl, hg1, hh, rest⟩
  · exact Or.inl hn
  · refine Or.inr ⟨g, cap, cur, rfl, hg1, (U.block g (fun e => ?_)).trans hh, rest⟩
    subst e
    have h' : W.heap[g]? = some (.cells cs.toArray t') := hc
    rw [h'] at hh
    simp at hh
    exact ht hh.2.symm
theorem rows_upd {α : Type} {W W1 : World} {B t tin k b t' : Nat} {v : Value} {enc : α → List Value} {xss : List (List α)} {cs : List Value} (h : OwnRows W B t tin k v enc xss) (hc : IsS W b t' cs) (U : Upd W W1 b) (h1 : t ≠ t') (h2 : tin ≠ t') : OwnRows W1 B t tin k v enc xss := by
  obtain ⟨vs, a1, a2, a3⟩ := h
  exact ⟨vs, a1, own_upd a2 hc U h1, fun j u ys hu hy => own_upd (a3 j u ys hu hy) hc U h2⟩
theorem KT.store {D5 : List Value} (h : KT w wr b1 b2 b3 P5 C5 v9 v13 v16 vo xs p) (U : Upd wr W' b3) (hD : IsS W' b3 28 D5) (h13 : b1 ≠ b3) (h23 : b2 ≠ b3) : KT w W' b1 b2 b3 P5 D5 v9 v13 v16 vo xs p :=
  ⟨h.c1.upd U h13, h.c2.upd U h23, hD, own_upd h.hl h.c3 U (by decide), own_upd h.hj h.c3 U (by decide), rows_upd h.hi h.c3 U (by decide) (by decide), rows_upd h.ot h.c3 U (by decide) (by decide)⟩
end
theorem infoT (t : Nat) (h : (Tryd.prog.info? t).map (·.size) = some 1) : (Tryd.prog.info? t).map (·.size) = some 1 := h
theorem info41 : (Tryd.prog.info? 22).map (·.size) = some 1 := by kernel_rfl
theorem info42 : (Tryd.prog.info? 23).map (·.size) = some 1 := by kernel_rfl
theorem rd1 {w : World} {b t o : Nat} {cs : List Value} {op : Oper} {a : Act} {ty : TypeId} {x : Operand} {v : Value} (hc : IsS w b t cs) (hv : cs[o]? = some v) (ho : op.op = .load ty x) (hx : a.eval x = .pointer (some ⟨b, o, none⟩)) (hl : ∀ w, w.cell? ⟨b, o, none⟩ = some v → (Instr.loadAt ty (.pointer (some ⟨b, o, none⟩))).run Tryd.prog w = .ok v w) : (execOp a.eval op).run Tryd.prog w = .ok (.value v) w := by
  unfold execOp
  simp only [ho, hx, Sem.run_bind, hl w ((hc.cell o).trans hv), Result.andThen_ok, Sem.run_pure]
theorem rdc {w : World} {b o : Nat} {op : Oper} {a : Act} {ty : TypeId} {x : Operand} {v : Value} (hc : w.cell? ⟨b, o, none⟩ = some v) (ho : op.op = .load ty x) (hx : a.eval x = .pointer (some ⟨b, o, none⟩)) (hl : ∀ w, w.cell? ⟨b, o, none⟩ = some v → (Instr.loadAt ty (.pointer (some ⟨b, o, none⟩))).run Tryd.prog w = .ok v w) : (execOp a.eval op).run Tryd.prog w = .ok (.value v) w := by
  unfold execOp
  simp only [ho, hx, Sem.run_bind, hl w hc, Result.andThen_ok, Sem.run_pure]
theorem run_b47 {w : World} {op : Oper} {a : Act} {x y z : Operand} {a1 a2 a3 : Option Addr} {n1 n2 n3 c1 c2 c3 : Nat} (ho : op.op = .build 28 #[(2, x), (4, y), (3, z)]) (hx : a.eval x = .slice a1 n1 c1) (hy : a.eval y = .slice a2 n2 c2) (hz : a.eval z = .slice a3 n3 c3) :
    (execOp a.eval op).run Tryd.prog w = .ok (.value (.agg #[.slice none 0 0, .slice none 0 0, .slice a1 n1 c1, .slice a3 n3 c3, .slice a2 n2 c2])) w := by
  generalize a.eval = ev at hx hy hz ⊢
  unfold execOp
  simp [ho, hx, hy, hz, go_sem]
theorem one5 {v0 v1 v2 v3 v4 : Value} (h0 : v0.oneCell' = true) (h1 : v1.oneCell' = true) (h2 : v2.oneCell' = true) (h3 : v3.oneCell' = true) (h4 : v4.oneCell' = true) : ∀ v ∈ [v0, v1, v2, v3, v4], v.oneCell' = true := by
  intro v hv
  simp only [List.mem_cons, List.not_mem_nil, or_false] at hv
  rcases hv with rfl | rfl | rfl | rfl | rfl <;> assumption
theorem OwnRows.raise {α : Type} {W : World} {B B' t tin k : Nat} {v : Value} {enc : α → List Value} {xss : List (List α)} (h : OwnRows W B' t tin k v enc xss) (hb : B ≤ B') : OwnRows W B t tin k v enc xss := by
  obtain ⟨vs, h1, h2, h3⟩ := h; exact ⟨vs, h1, own_raise h2 hb, fun j u xs hu hx => own_raise (h3 j u xs hu hx) hb⟩
theorem OwnRows.cell {α : Type} {W : World} {B t tin k : Nat} {v : Value} {enc : α → List Value} {xss : List (List α)} (h : OwnRows W B t tin k v enc xss) : v.oneCell' = true := by
  obtain ⟨vs, h1, h2, h3⟩ := h; exact own_cell h2
set_option maxRecDepth 100000 in
set_option maxHeartbeats 8000000 in
theorem copy_any (p : PG) (hf : p.Few) (vt vr vl vi vj : Value) (w : World) (hp : PGV w vt vr vl vi vj p) :
    Calls Tryd.prog 9 #[.agg #[vt, vr, vl, vi, vj]] w fun en w' => (∃ vt' vr' vl' vi' vj', en = .returned (.agg #[vt', vr', vl', vi', vj']) ∧ PGV w' vt' vr' vl' vi' vj' p) ∧ Below w.heap.size w w' := by
  obtain ⟨at', ct, rfl⟩ := hp.t.form
  obtain ⟨ar, cr, rfl⟩ := hp.r.form
  obtain ⟨ai, ci, rfl⟩ := hp.i.form
  obtain ⟨al, cl, rfl, hsl, hnl0⟩ := hp.l
  obtain ⟨aj, cj, rfl, hsj, hnj0⟩ := hp.j
  have HF : Hid p.Few := hf
  have HTw : Hid (RowsV w (.slice at' p.threads.length ct) op5L p.threads) := hp.t
  have HRw : Hid (RowsV w (.slice ar p.regs.length cr) strE p.regs) := hp.r
  have HIw : Hid (RowsV w (.slice ai p.regInit.length ci) intE p.regInit) := hp.i
  have HLw : Hid (RowV w (.slice al p.locs.length cl) p.locs.length (p.locs.flatMap strE)) := ⟨al, cl, rfl, hsl, hnl0⟩
  have HJw : Hid (RowV w (.slice aj p.locInit.length cj) p.locInit.length (p.locInit.flatMap intE)) := ⟨aj, cj, rfl, hsj, hnj0⟩
  have cC := fun W (h : RowsV W (.slice ai p.regInit.length ci) intE p.regInit) => rcopy_any p.regInit hf.i hf.ii ai ci W h
  clear hp hsl hsj hnl0 hnj0
  obtain ⟨nt, hnt⟩ : ∃ n, p.threads.length = n := ⟨_, rfl⟩
  obtain ⟨nr, hnr⟩ : ∃ n, p.regs.length = n := ⟨_, rfl⟩
  obtain ⟨nl, hnl⟩ : ∃ n, p.locs.length = n := ⟨_, rfl⟩
  obtain ⟨ni, hni⟩ : ∃ n, p.regInit.length = n := ⟨_, rfl⟩
  obtain ⟨nj, hnj⟩ : ∃ n, p.locInit.length = n := ⟨_, rfl⟩
  have HNT : Hid (p.threads.length = nt) := hnt
  have HNR : Hid (p.regs.length = nr) := hnr
  have HNL : Hid (p.locs.length = nl) := hnl
  have HNJ : Hid (p.locInit.length = nj) := hnj
  have hft := hf.t
  have hfr := hf.r
  have hfl := hf.l
  have hfj := hf.j
  rw [hnt] at HTw hft
  rw [hnr] at HRw hfr
  rw [hni] at HIw cC
  rw [hnl] at HLw hfl
  rw [hnj] at HJw hfj
  rw [hnt, hnr, hnl, hni, hnj]
  clear hnt hnr hnl hni hnj hf
  have t1 : True := trivial
  have t2 : True := trivial
  go_enter Tryd.func9, Tryd.ntmps9
  go_wp2_with (first
    | (clear t1; refine wpList_boxS rfl 28 _ rfl [.slice at' nt ct, .slice ar nr cr, .slice al nl cl, .slice ai ni ci, .slice aj nj cj] rfl ?_; intro W1 b1 F1 C1; have B1 : Below w.heap.size w W1 := F1.trans (Below.refl _ w) (Nat.le_refl _); clear F1)
    | (clear t2; refine wpList_allocS rfl 28 rfl z5 zeroPg ?_; intro W2 b2 F2 D2; have C2 := C1.fresh F2; have B2 := F2.trans B1 B1.size; have H1 : Hid (IsS W2 b1 28 [.slice at' nt ct, .slice ar nr cr, .slice al nl cl, .slice ai ni ci, .slice aj nj cj]) := C2; have H2 : Hid (IsS W2 b2 28 z5) := D2; have hb2 : w.heap.size ≤ b2 := Nat.le_trans B1.size (Nat.le_of_eq F2.at'.symm); clear F2 C1 C2 D2))
  have HLV : Hid (RowV W2 (.slice al nl cl) nl (p.locs.flatMap strE)) := HLw.out.below B2
  have HJV : Hid (RowV W2 (.slice aj nj cj) nj (p.locInit.flatMap intE)) := HJw.out.below B2
  have HIV : Hid (RowsV W2 (.slice ai ni ci) intE p.regInit) := HIw.out.below B2
  refine region_invA 13 (fun a0 listed a' w' => ∃ x6 x7 x8 x9 x10 x11 x12 x13 x14 x15 x16 x17 x3 : Value, a' = (((((((((((((a0.put (some 6) x6).put (some 7) x7).put (some 8) x8).put (some 9) x9).put (some 10) x10).put (some 11) x11).put (some 12) x12).put (some 13) x13).put (some 14) x14).put (some 15) x15).put (some 16) x16).put (some 17) x17).put (some 3) x3) ∧ Hid (Below W2.heap.size W2 w') ∧ (listed.getD 0 false = true → ∃ b, x6 = .slice (some ⟨b, 0, none⟩) 0 0 ∧ w'.ownsRow W2.heap.size 9 1 x6 0 []) ∧ (listed.getD 1 false = true → x7 = .pointer (some ⟨b1, 2, none⟩)) ∧ (listed.getD 2 false = true → x8 = .slice al nl cl) ∧ (listed.getD 3 false = true → w'.ownsRow W2.heap.size 9 1 x9 nl (p.locs.flatMap strE)) ∧ (listed.getD 4 false = true → ∃ b, x10 = .slice (some ⟨b, 0, none⟩) 0 0 ∧ w'.ownsRow W2.heap.size 2 1 x10 0 []) ∧ (listed.getD 5 false = true → x11 = .pointer (some ⟨b1, 4, none⟩)) ∧ (listed.getD 6 false = true → x12 = .slice aj nj cj) ∧ (listed.getD 7 false = true → w'.ownsRow W2.heap.size 2 1 x13 nj (p.locInit.flatMap intE)) ∧ (listed.getD 8 false = true → x14 = .pointer (some ⟨b1, 3, none⟩)) ∧ (listed.getD 9 false = true → x15 = .slice ai ni ci) ∧ (listed.getD 10 false = true → OwnRows w' W2.heap.size 26 2 1 x16 intE p.regInit) ∧ (listed.getD 11 false = true → ∃ v9 v13 v16, x17 = .agg #[.slice none 0 0, .slice none 0 0, v9, v16, v13] ∧ w'.ownsRow W2.heap.size 9 1 v9 nl (p.locs.flatMap strE) ∧ w'.ownsRow W2.heap.size 2 1 v13 nj (p.locInit.flatMap intE) ∧ OwnRows w' W2.heap.size 26 2 1 v16 intE p.regInit) ∧ (listed.getD 12 false = true → ∃ b, x3 = .pointer (some ⟨b, 0, none⟩) ∧ W2.heap.size ≤ b ∧ IsS w' b 28 z5)) (by kernel_rfl) (by kernel_rfl) ?i0 ?istep ?iend
  case i0 => exact ⟨undef, undef, undef, undef, undef, undef, undef, undef, undef, undef, undef, undef, undef, by first | (simp only [Act.put, List.setIfInBounds_toArray, List.set_cons_succ, List.set_cons_zero]; done) | (simp only [Act.put, List.setIfInBounds_toArray, List.set_cons_succ, List.set_cons_zero]; rfl) | rfl, below_drew (Below.refl _ _), fun h => (not_rep h).elim, fun h => (not_rep h).elim, fun h => (not_rep h).elim, fun h => (not_rep h).elim, fun h => (not_rep h).elim, fun h => (not_rep h).elim, fun h => (not_rep h).elim, fun h => (not_rep h).elim, fun h => (not_rep h).elim, fun h => (not_rep h).elim, fun h => (not_rep h).elim, fun h => (not_rep h).elim, fun h => (not_rep h).elim⟩
  case istep =>
    rintro i listed a' w' hi hr ⟨x6, x7, x8, x9, x10, x11, x12, x13, x14, x15, x16, x17, x3, rfl, HBw, d0, d1, d2, d3, d4, d5, d6, d7, d8, d9, d10, d11, d12⟩
    obtain ⟨hun, oj, hoj, hwt⟩ := mem_ready.1 hr
    simp only [Act.put, List.setIfInBounds_toArray, List.set_cons_succ, List.set_cons_zero]
    have hcase : i = 0 ∨ i = 1 ∨ i = 2 ∨ i = 3 ∨ i = 4 ∨ i = 5 ∨ i = 6 ∨ i = 7 ∨ i = 8 ∨ i = 9 ∨ i = 10 ∨ i = 11 ∨ i = 12 := by omega
    rcases hcase with rfl | rfl | rfl | rfl | rfl | rfl | rfl | rfl | rfl | rfl | rfl | rfl | rfl
    · have hoj2 := hoj
      obtain rfl := Option.some.inj hoj
      refine wpOp_value hoj2 rfl (exec_build0 eStr rfl) ?_
      have B' : Below w'.heap.size w' (w'.alloc (.cells #[] 9)) := (Fresh.alloc w' (.cells #[] 9)).trans (Below.refl _ _) (Nat.le_refl _)
      have O' := own_raise (own_build0 eStr w') HBw.out.size
      exact ⟨.slice (some ⟨w'.heap.size, 0, none⟩) 0 0, x7, x8, x9, x10, x11, x12, x13, x14, x15, x16, x17, x3, by first | (simp only [Act.put, List.setIfInBounds_toArray, List.set_cons_succ, List.set_cons_zero]; done) | (simp only [Act.put, List.setIfInBounds_toArray, List.set_cons_succ, List.set_cons_zero]; rfl) | rfl, Below.then HBw.out B', fun _ => ⟨_, rfl, O'⟩, fun h => (d1 (keep (by decide) h)), fun h => (d2 (keep (by decide) h)), fun h => own_below (d3 (keep (by decide) h)) B', fun h => Exists.elim (d4 (keep (by decide) h)) fun b h => ⟨b, h.1, own_below h.2 B'⟩, fun h => (d5 (keep (by decide) h)), fun h => (d6 (keep (by decide) h)), fun h => own_below (d7 (keep (by decide) h)) B', fun h => (d8 (keep (by decide) h)), fun h => (d9 (keep (by decide) h)), fun h => OwnRows.below (d10 (keep (by decide) h)) B', fun h => (by obtain ⟨y9, y13, y16, h1, h2, h3, h4⟩ := (d11 (keep (by decide) h)); exact ⟨y9, y13, y16, h1, own_below h2 B', own_below h3 B', OwnRows.below h4 B'⟩), fun h => Exists.elim (d12 (keep (by decide) h)) fun b h => ⟨b, h.1, h.2.1, h.2.2.grown B'⟩⟩
    · have hoj2 := hoj
      obtain rfl := Option.some.inj hoj
      refine wpOp_value hoj2 rfl (v := .pointer (some ⟨b1, 2, none⟩)) (w' := w') (by first | rfl | (go_simp; done) | (simp [go_sem]; done) | (simp [execOp, go_sem]; done)) ?_
      exact ⟨x6, .pointer (some ⟨b1, 2, none⟩), x8, x9, x10, x11, x12, x13, x14, x15, x16, x17, x3, by first | (simp only [Act.put, List.setIfInBounds_toArray, List.set_cons_succ, List.set_cons_zero]; done) | (simp only [Act.put, List.setIfInBounds_toArray, List.set_cons_succ, List.set_cons_zero]; rfl) | rfl, Below.then HBw.out (Below.refl _ _), fun h => Exists.elim (d0 (keep (by decide) h)) fun b h => ⟨b, h.1, own_below h.2 (Below.refl _ _)⟩, fun _ => rfl, fun h => (d2 (keep (by decide) h)), fun h => own_below (d3 (keep (by decide) h)) (Below.refl _ _), fun h => Exists.elim (d4 (keep (by decide) h)) fun b h => ⟨b, h.1, own_below h.2 (Below.refl _ _)⟩, fun h => (d5 (keep (by decide) h)), fun h => (d6 (keep (by decide) h)), fun h => own_below (d7 (keep (by decide) h)) (Below.refl _ _), fun h => (d8 (keep (by decide) h)), fun h => (d9 (keep (by decide) h)), fun h => OwnRows.below (d10 (keep (by decide) h)) (Below.refl _ _), fun h => (by obtain ⟨y9, y13, y16, h1, h2, h3, h4⟩ := (d11 (keep (by decide) h)); exact ⟨y9, y13, y16, h1, own_below h2 (Below.refl _ _), own_below h3 (Below.refl _ _), OwnRows.below h4 (Below.refl _ _)⟩), fun h => Exists.elim (d12 (keep (by decide) h)) fun b h => ⟨b, h.1, h.2.1, h.2.2.grown (Below.refl _ _)⟩⟩
    · have hoj2 := hoj
      obtain rfl := Option.some.inj hoj
      have e1 := d1 (hwt ⟨1, .data⟩ (by simp) rfl)
      subst e1
      have c1 := H1.out.grown HBw.out
      refine wpOp_value hoj2 rfl (v := .slice al nl cl) (w' := w') (by exact rd1 c1 rfl rfl rfl (fun w h => ld43 w h)) ?_
      exact ⟨x6, .pointer (some ⟨b1, 2, none⟩), .slice al nl cl, x9, x10, x11, x12, x13, x14, x15, x16, x17, x3, by first | (simp only [Act.put, List.setIfInBounds_toArray, List.set_cons_succ, List.set_cons_zero]; done) | (simp only [Act.put, List.setIfInBounds_toArray, List.set_cons_succ, List.set_cons_zero]; rfl) | rfl, Below.then HBw.out (Below.refl _ _), fun h => Exists.elim (d0 (keep (by decide) h)) fun b h => ⟨b, h.1, own_below h.2 (Below.refl _ _)⟩, fun h => (d1 (keep (by decide) h)), fun _ => rfl, fun h => own_below (d3 (keep (by decide) h)) (Below.refl _ _), fun h => Exists.elim (d4 (keep (by decide) h)) fun b h => ⟨b, h.1, own_below h.2 (Below.refl _ _)⟩, fun h => (d5 (keep (by decide) h)), fun h => (d6 (keep (by decide) h)), fun h => own_below (d7 (keep (by decide) h)) (Below.refl _ _), fun h => (d8 (keep (by decide) h)), fun h => (d9 (keep (by decide) h)), fun h => OwnRows.below (d10 (keep (by decide) h)) (Below.refl _ _), fun h => (by obtain ⟨y9, y13, y16, h1, h2, h3, h4⟩ := (d11 (keep (by decide) h)); exact ⟨y9, y13, y16, h1, own_below h2 (Below.refl _ _), own_below h3 (Below.refl _ _), OwnRows.below h4 (Below.refl _ _)⟩), fun h => Exists.elim (d12 (keep (by decide) h)) fun b h => ⟨b, h.1, h.2.1, h.2.2.grown (Below.refl _ _)⟩⟩
    · have hoj2 := hoj
      obtain rfl := Option.some.inj hoj
      have e0 := d0 (hwt ⟨0, .data⟩ (by simp) rfl)
      have e2 := d2 (hwt ⟨2, .data⟩ (by simp) rfl)
      obtain ⟨be, hbe, e0⟩ := e0
      subst hbe
      subst e2
      obtain ⟨v', W', hrun, O', B'⟩ := run_app0 eStr W2.heap.size be e0 _ nl (p.locs.flatMap strE) ((HLV.out).below HBw.out) (by rw [str_len, HNL.out]) (str_one _) (by omega) HBw.out.size _
      refine wpOp_value hoj2 rfl (exec_app _ _ rfl rfl rfl hrun) ?_
      exact ⟨.slice (some ⟨be, 0, none⟩) 0 0, x7, .slice al nl cl, v', x10, x11, x12, x13, x14, x15, x16, x17, x3, by first | (simp only [Act.put, List.setIfInBounds_toArray, List.set_cons_succ, List.set_cons_zero]; done) | (simp only [Act.put, List.setIfInBounds_toArray, List.set_cons_succ, List.set_cons_zero]; rfl) | rfl, Below.then HBw.out B', fun h => Exists.elim (d0 (keep (by decide) h)) fun b h => ⟨b, h.1, own_below h.2 B'⟩, fun h => (d1 (keep (by decide) h)), fun h => (d2 (keep (by decide) h)), fun _ => O', fun h => Exists.elim (d4 (keep (by decide) h)) fun b h => ⟨b, h.1, own_below h.2 B'⟩, fun h => (d5 (keep (by decide) h)), fun h => (d6 (keep (by decide) h)), fun h => own_below (d7 (keep (by decide) h)) B', fun h => (d8 (keep (by decide) h)), fun h => (d9 (keep (by decide) h)), fun h => OwnRows.below (d10 (keep (by decide) h)) B', fun h => (by obtain ⟨y9, y13, y16, h1, h2, h3, h4⟩ := (d11 (keep (by decide) h)); exact ⟨y9, y13, y16, h1, own_below h2 B', own_below h3 B', OwnRows.below h4 B'⟩), fun h => Exists.elim (d12 (keep (by decide) h)) fun b h => ⟨b, h.1, h.2.1, h.2.2.grown B'⟩⟩
    · have hoj2 := hoj
      obtain rfl := Option.some.inj hoj
      refine wpOp_value hoj2 rfl (exec_build0 eIntP rfl) ?_
      have B' : Below w'.heap.size w' (w'.alloc (.cells #[] 2)) := (Fresh.alloc w' (.cells #[] 2)).trans (Below.refl _ _) (Nat.le_refl _)
      have O' := own_raise (own_build0 eIntP w') HBw.out.size
      exact ⟨x6, x7, x8, x9, .slice (some ⟨w'.heap.size, 0, none⟩) 0 0, x11, x12, x13, x14, x15, x16, x17, x3, by first | (simp only [Act.put, List.setIfInBounds_toArray, List.set_cons_succ, List.set_cons_zero]; done) | (simp only [Act.put, List.setIfInBounds_toArray, List.set_cons_succ, List.set_cons_zero]; rfl) | rfl, Below.then HBw.out B', fun h => Exists.elim (d0 (keep (by decide) h)) fun b h => ⟨b, h.1, own_below h.2 B'⟩, fun h => (d1 (keep (by decide) h)), fun h => (d2 (keep (by decide) h)), fun h => own_below (d3 (keep (by decide) h)) B', fun _ => ⟨_, rfl, O'⟩, fun h => (d5 (keep (by decide) h)), fun h => (d6 (keep (by decide) h)), fun h => own_below (d7 (keep (by decide) h)) B', fun h => (d8 (keep (by decide) h)), fun h => (d9 (keep (by decide) h)), fun h => OwnRows.below (d10 (keep (by decide) h)) B', fun h => (by obtain ⟨y9, y13, y16, h1, h2, h3, h4⟩ := (d11 (keep (by decide) h)); exact ⟨y9, y13, y16, h1, own_below h2 B', own_below h3 B', OwnRows.below h4 B'⟩), fun h => Exists.elim (d12 (keep (by decide) h)) fun b h => ⟨b, h.1, h.2.1, h.2.2.grown B'⟩⟩
    · have hoj2 := hoj
      obtain rfl := Option.some.inj hoj
      refine wpOp_value hoj2 rfl (v := .pointer (some ⟨b1, 4, none⟩)) (w' := w') (by first | rfl | (go_simp; done) | (simp [go_sem]; done) | (simp [execOp, go_sem]; done)) ?_
      exact ⟨x6, x7, x8, x9, x10, .pointer (some ⟨b1, 4, none⟩), x12, x13, x14, x15, x16, x17, x3, by first | (simp only [Act.put, List.setIfInBounds_toArray, List.set_cons_succ, List.set_cons_zero]; done) | (simp only [Act.put, List.setIfInBounds_toArray, List.set_cons_succ, List.set_cons_zero]; rfl) | rfl, Below.then HBw.out (Below.refl _ _), fun h => Exists.elim (d0 (keep (by decide) h)) fun b h => ⟨b, h.1, own_below h.2 (Below.refl _ _)⟩, fun h => (d1 (keep (by decide) h)), fun h => (d2 (keep (by decide) h)), fun h => own_below (d3 (keep (by decide) h)) (Below.refl _ _), fun h => Exists.elim (d4 (keep (by decide) h)) fun b h => ⟨b, h.1, own_below h.2 (Below.refl _ _)⟩, fun _ => rfl, fun h => (d6 (keep (by decide) h)), fun h => own_below (d7 (keep (by decide) h)) (Below.refl _ _), fun h => (d8 (keep (by decide) h)), fun h => (d9 (keep (by decide) h)), fun h => OwnRows.below (d10 (keep (by decide) h)) (Below.refl _ _), fun h => (by obtain ⟨y9, y13, y16, h1, h2, h3, h4⟩ := (d11 (keep (by decide) h)); exact ⟨y9, y13, y16, h1, own_below h2 (Below.refl _ _), own_below h3 (Below.refl _ _), OwnRows.below h4 (Below.refl _ _)⟩), fun h => Exists.elim (d12 (keep (by decide) h)) fun b h => ⟨b, h.1, h.2.1, h.2.2.grown (Below.refl _ _)⟩⟩
    · have hoj2 := hoj
      obtain rfl := Option.some.inj hoj
      have e5 := d5 (hwt ⟨5, .data⟩ (by simp) rfl)
      subst e5
      have c1 := H1.out.grown HBw.out
      refine wpOp_value hoj2 rfl (v := .slice aj nj cj) (w' := w') (by exact rd1 c1 rfl rfl rfl (fun w h => ld45 w h)) ?_
      exact ⟨x6, x7, x8, x9, x10, .pointer (some ⟨b1, 4, none⟩), .slice aj nj cj, x13, x14, x15, x16, x17, x3, by first | (simp only [Act.put, List.setIfInBounds_toArray, List.set_cons_succ, List.set_cons_zero]; done) | (simp only [Act.put, List.setIfInBounds_toArray, List.set_cons_succ, List.set_cons_zero]; rfl) | rfl, Below.then HBw.out (Below.refl _ _), fun h => Exists.elim (d0 (keep (by decide) h)) fun b h => ⟨b, h.1, own_below h.2 (Below.refl _ _)⟩, fun h => (d1 (keep (by decide) h)), fun h => (d2 (keep (by decide) h)), fun h => own_below (d3 (keep (by decide) h)) (Below.refl _ _), fun h => Exists.elim (d4 (keep (by decide) h)) fun b h => ⟨b, h.1, own_below h.2 (Below.refl _ _)⟩, fun h => (d5 (keep (by decide) h)), fun _ => rfl, fun h => own_below (d7 (keep (by decide) h)) (Below.refl _ _), fun h => (d8 (keep (by decide) h)), fun h => (d9 (keep (by decide) h)), fun h => OwnRows.below (d10 (keep (by decide) h)) (Below.refl _ _), fun h => (by obtain ⟨y9, y13, y16, h1, h2, h3, h4⟩ := (d11 (keep (by decide) h)); exact ⟨y9, y13, y16, h1, own_below h2 (Below.refl _ _), own_below h3 (Below.refl _ _), OwnRows.below h4 (Below.refl _ _)⟩), fun h => Exists.elim (d12 (keep (by decide) h)) fun b h => ⟨b, h.1, h.2.1, h.2.2.grown (Below.refl _ _)⟩⟩
    · have hoj2 := hoj
      obtain rfl := Option.some.inj hoj
      have e4 := d4 (hwt ⟨4, .data⟩ (by simp) rfl)
      have e6 := d6 (hwt ⟨6, .data⟩ (by simp) rfl)
      obtain ⟨be, hbe, e4⟩ := e4
      subst hbe
      subst e6
      obtain ⟨v', W', hrun, O', B'⟩ := run_app0 eIntP W2.heap.size be e4 _ nj (p.locInit.flatMap intE) ((HJV.out).below HBw.out) (by rw [int_len, HNJ.out]) (int_one _) (by omega) HBw.out.size _
      refine wpOp_value hoj2 rfl (exec_app _ _ rfl rfl rfl hrun) ?_
      exact ⟨x6, x7, x8, x9, .slice (some ⟨be, 0, none⟩) 0 0, x11, .slice aj nj cj, v', x14, x15, x16, x17, x3, by first | (simp only [Act.put, List.setIfInBounds_toArray, List.set_cons_succ, List.set_cons_zero]; done) | (simp only [Act.put, List.setIfInBounds_toArray, List.set_cons_succ, List.set_cons_zero]; rfl) | rfl, Below.then HBw.out B', fun h => Exists.elim (d0 (keep (by decide) h)) fun b h => ⟨b, h.1, own_below h.2 B'⟩, fun h => (d1 (keep (by decide) h)), fun h => (d2 (keep (by decide) h)), fun h => own_below (d3 (keep (by decide) h)) B', fun h => Exists.elim (d4 (keep (by decide) h)) fun b h => ⟨b, h.1, own_below h.2 B'⟩, fun h => (d5 (keep (by decide) h)), fun h => (d6 (keep (by decide) h)), fun _ => O', fun h => (d8 (keep (by decide) h)), fun h => (d9 (keep (by decide) h)), fun h => OwnRows.below (d10 (keep (by decide) h)) B', fun h => (by obtain ⟨y9, y13, y16, h1, h2, h3, h4⟩ := (d11 (keep (by decide) h)); exact ⟨y9, y13, y16, h1, own_below h2 B', own_below h3 B', OwnRows.below h4 B'⟩), fun h => Exists.elim (d12 (keep (by decide) h)) fun b h => ⟨b, h.1, h.2.1, h.2.2.grown B'⟩⟩
    · have hoj2 := hoj
      obtain rfl := Option.some.inj hoj
      refine wpOp_value hoj2 rfl (v := .pointer (some ⟨b1, 3, none⟩)) (w' := w') (by first | rfl | (go_simp; done) | (simp [go_sem]; done) | (simp [execOp, go_sem]; done)) ?_
      exact ⟨x6, x7, x8, x9, x10, x11, x12, x13, .pointer (some ⟨b1, 3, none⟩), x15, x16, x17, x3, by first | (simp only [Act.put, List.setIfInBounds_toArray, List.set_cons_succ, List.set_cons_zero]; done) | (simp only [Act.put, List.setIfInBounds_toArray, List.set_cons_succ, List.set_cons_zero]; rfl) | rfl, Below.then HBw.out (Below.refl _ _), fun h => Exists.elim (d0 (keep (by decide) h)) fun b h => ⟨b, h.1, own_below h.2 (Below.refl _ _)⟩, fun h => (d1 (keep (by decide) h)), fun h => (d2 (keep (by decide) h)), fun h => own_below (d3 (keep (by decide) h)) (Below.refl _ _), fun h => Exists.elim (d4 (keep (by decide) h)) fun b h => ⟨b, h.1, own_below h.2 (Below.refl _ _)⟩, fun h => (d5 (keep (by decide) h)), fun h => (d6 (keep (by decide) h)), fun h => own_below (d7 (keep (by decide) h)) (Below.refl _ _), fun _ => rfl, fun h => (d9 (keep (by decide) h)), fun h => OwnRows.below (d10 (keep (by decide) h)) (Below.refl _ _), fun h => (by obtain ⟨y9, y13, y16, h1, h2, h3, h4⟩ := (d11 (keep (by decide) h)); exact ⟨y9, y13, y16, h1, own_below h2 (Below.refl _ _), own_below h3 (Below.refl _ _), OwnRows.below h4 (Below.refl _ _)⟩), fun h => Exists.elim (d12 (keep (by decide) h)) fun b h => ⟨b, h.1, h.2.1, h.2.2.grown (Below.refl _ _)⟩⟩
    · have hoj2 := hoj
      obtain rfl := Option.some.inj hoj
      have e8 := d8 (hwt ⟨8, .data⟩ (by simp) rfl)
      subst e8
      have c1 := H1.out.grown HBw.out
      refine wpOp_value hoj2 rfl (v := .slice ai ni ci) (w' := w') (by exact rd1 c1 rfl rfl rfl (fun w h => ld44 w h)) ?_
      exact ⟨x6, x7, x8, x9, x10, x11, x12, x13, .pointer (some ⟨b1, 3, none⟩), .slice ai ni ci, x16, x17, x3, by first | (simp only [Act.put, List.setIfInBounds_toArray, List.set_cons_succ, List.set_cons_zero]; done) | (simp only [Act.put, List.setIfInBounds_toArray, List.set_cons_succ, List.set_cons_zero]; rfl) | rfl, Below.then HBw.out (Below.refl _ _), fun h => Exists.elim (d0 (keep (by decide) h)) fun b h => ⟨b, h.1, own_below h.2 (Below.refl _ _)⟩, fun h => (d1 (keep (by decide) h)), fun h => (d2 (keep (by decide) h)), fun h => own_below (d3 (keep (by decide) h)) (Below.refl _ _), fun h => Exists.elim (d4 (keep (by decide) h)) fun b h => ⟨b, h.1, own_below h.2 (Below.refl _ _)⟩, fun h => (d5 (keep (by decide) h)), fun h => (d6 (keep (by decide) h)), fun h => own_below (d7 (keep (by decide) h)) (Below.refl _ _), fun h => (d8 (keep (by decide) h)), fun _ => rfl, fun h => OwnRows.below (d10 (keep (by decide) h)) (Below.refl _ _), fun h => (by obtain ⟨y9, y13, y16, h1, h2, h3, h4⟩ := (d11 (keep (by decide) h)); exact ⟨y9, y13, y16, h1, own_below h2 (Below.refl _ _), own_below h3 (Below.refl _ _), OwnRows.below h4 (Below.refl _ _)⟩), fun h => Exists.elim (d12 (keep (by decide) h)) fun b h => ⟨b, h.1, h.2.1, h.2.2.grown (Below.refl _ _)⟩⟩
    · have hoj2 := hoj
      obtain rfl := Option.some.inj hoj
      have e9 := d9 (hwt ⟨9, .data⟩ (by simp) rfl)
      subst e9
      refine wpOp_call hoj2 rfl (by first | rfl | (go_simp; done)) ((cC w' (HIV.out.below HBw.out)).mono ?_)
      rintro en W' ⟨⟨v, rfl, hv⟩, B'⟩
      refine ⟨v, rfl, ?_⟩
      exact ⟨x6, x7, x8, x9, x10, x11, x12, x13, x14, .slice ai ni ci, v, x17, x3, by first | (simp only [Act.put, List.setIfInBounds_toArray, List.set_cons_succ, List.set_cons_zero]; done) | (simp only [Act.put, List.setIfInBounds_toArray, List.set_cons_succ, List.set_cons_zero]; rfl) | rfl, Below.then HBw.out B', fun h => Exists.elim (d0 (keep (by decide) h)) fun b h => ⟨b, h.1, own_below h.2 B'⟩, fun h => (d1 (keep (by decide) h)), fun h => (d2 (keep (by decide) h)), fun h => own_below (d3 (keep (by decide) h)) B', fun h => Exists.elim (d4 (keep (by decide) h)) fun b h => ⟨b, h.1, own_below h.2 B'⟩, fun h => (d5 (keep (by decide) h)), fun h => (d6 (keep (by decide) h)), fun h => own_below (d7 (keep (by decide) h)) B', fun h => (d8 (keep (by decide) h)), fun h => (d9 (keep (by decide) h)), fun _ => OwnRows.raise hv HBw.out.size, fun h => (by obtain ⟨y9, y13, y16, h1, h2, h3, h4⟩ := (d11 (keep (by decide) h)); exact ⟨y9, y13, y16, h1, own_below h2 B', own_below h3 B', OwnRows.below h4 B'⟩), fun h => Exists.elim (d12 (keep (by decide) h)) fun b h => ⟨b, h.1, h.2.1, h.2.2.grown B'⟩⟩
    · have hoj2 := hoj
      obtain rfl := Option.some.inj hoj
      have e3 := d3 (hwt ⟨3, .data⟩ (by simp) rfl)
      have e7 := d7 (hwt ⟨7, .data⟩ (by simp) rfl)
      have e10 := d10 (hwt ⟨10, .data⟩ (by simp) rfl)
      obtain ⟨a9, c9, h9⟩ := own_form e3
      obtain ⟨a13, c13, h13⟩ := own_form e7
      obtain ⟨a16, c16, h16⟩ := (OwnRows.rows e10).form
      refine wpOp_value hoj2 rfl (v := .agg #[.slice none 0 0, .slice none 0 0, x9, x16, x13]) (w' := w') (by rw [h9, h13, h16]; exact run_b47 rfl rfl rfl rfl) ?_
      exact ⟨x6, x7, x8, x9, x10, x11, x12, x13, x14, x15, x16, .agg #[.slice none 0 0, .slice none 0 0, x9, x16, x13], x3, by first | (simp only [Act.put, List.setIfInBounds_toArray, List.set_cons_succ, List.set_cons_zero]; done) | (simp only [Act.put, List.setIfInBounds_toArray, List.set_cons_succ, List.set_cons_zero]; rfl) | rfl, Below.then HBw.out (Below.refl _ _), fun h => Exists.elim (d0 (keep (by decide) h)) fun b h => ⟨b, h.1, own_below h.2 (Below.refl _ _)⟩, fun h => (d1 (keep (by decide) h)), fun h => (d2 (keep (by decide) h)), fun h => own_below (d3 (keep (by decide) h)) (Below.refl _ _), fun h => Exists.elim (d4 (keep (by decide) h)) fun b h => ⟨b, h.1, own_below h.2 (Below.refl _ _)⟩, fun h => (d5 (keep (by decide) h)), fun h => (d6 (keep (by decide) h)), fun h => own_below (d7 (keep (by decide) h)) (Below.refl _ _), fun h => (d8 (keep (by decide) h)), fun h => (d9 (keep (by decide) h)), fun h => OwnRows.below (d10 (keep (by decide) h)) (Below.refl _ _), fun _ => ⟨_, _, _, rfl, e3, e7, e10⟩, fun h => Exists.elim (d12 (keep (by decide) h)) fun b h => ⟨b, h.1, h.2.1, h.2.2.grown (Below.refl _ _)⟩⟩
    · have hoj2 := hoj
      obtain rfl := Option.some.inj hoj
      refine wpOp_value hoj2 rfl (run_allocS 28 z5 zeroPg rfl _ w') ?_
      have F := Fresh.alloc w' (.cells z5.toArray 28)
      have B' := F.trans (Below.refl _ w') (Nat.le_refl _)
      exact ⟨x6, x7, x8, x9, x10, x11, x12, x13, x14, x15, x16, x17, .pointer (some ⟨w'.heap.size, 0, none⟩), by first | (simp only [Act.put, List.setIfInBounds_toArray, List.set_cons_succ, List.set_cons_zero]; done) | (simp only [Act.put, List.setIfInBounds_toArray, List.set_cons_succ, List.set_cons_zero]; rfl) | rfl, Below.then HBw.out B', fun h => Exists.elim (d0 (keep (by decide) h)) fun b h => ⟨b, h.1, own_below h.2 B'⟩, fun h => (d1 (keep (by decide) h)), fun h => (d2 (keep (by decide) h)), fun h => own_below (d3 (keep (by decide) h)) B', fun h => Exists.elim (d4 (keep (by decide) h)) fun b h => ⟨b, h.1, own_below h.2 B'⟩, fun h => (d5 (keep (by decide) h)), fun h => (d6 (keep (by decide) h)), fun h => own_below (d7 (keep (by decide) h)) B', fun h => (d8 (keep (by decide) h)), fun h => (d9 (keep (by decide) h)), fun h => OwnRows.below (d10 (keep (by decide) h)) B', fun h => (by obtain ⟨y9, y13, y16, h1, h2, h3, h4⟩ := (d11 (keep (by decide) h)); exact ⟨y9, y13, y16, h1, own_below h2 B', own_below h3 B', OwnRows.below h4 B'⟩), fun _ => ⟨_, rfl, HBw.out.size, IsS.new w' 28 z5⟩⟩
  case iend =>
    rintro a' w' ⟨x6, x7, x8, x9, x10, x11, x12, x13, x14, x15, x16, x17, x3, rfl, HBw, d0, d1, d2, d3, d4, d5, d6, d7, d8, d9, d10, d11, d12⟩
    replace d0 := d0 rfl
    replace d1 := d1 rfl
    replace d2 := d2 rfl
    replace d3 := d3 rfl
    replace d4 := d4 rfl
    replace d5 := d5 rfl
    replace d6 := d6 rfl
    replace d7 := d7 rfl
    replace d8 := d8 rfl
    replace d9 := d9 rfl
    replace d10 := d10 rfl
    replace d11 := d11 rfl
    replace d12 := d12 rfl
    simp only [Act.put, List.setIfInBounds_toArray, List.set_cons_succ, List.set_cons_zero]
    simp only [List.drop_succ_cons, List.drop_zero]
    obtain ⟨v9, v13, v16, hx17, O9, O13, O16⟩ := d11
    obtain ⟨b3, hx3, hb3, D3⟩ := d12
    subst hx17
    subst hx3
    have hc1 := H1.out.grown HBw.out
    have hc2 := H2.out.grown HBw.out
    have BB := Below.then B2 HBw.out
    clear d0 d1 d2 d3 d4 d5 d6 d7 d8 d9 d10
    have n13 : b1 ≠ b3 := (by have := H1.out.lt; omega)
    have n23 : b2 ≠ b3 := (by have := H2.out.lt; omega)
    have hwb : w.heap.size ≤ b3 := Nat.le_trans B2.size hb3
    have t3 : True := trivial
    have h9 := own_cell O9
    have h13 := own_cell O13
    have h16 := OwnRows.cell O16
    go_wp2_with (clear t3; refine wpList_storeW rfl 28 _ _ rfl rfl [.slice none 0 0, .slice none 0 0, v9, v16, v13] rfl D3 rfl infoPg (one5 rfl rfl h9 h16 h13) ?_; intro W4 U4 D4; have B4 := U4.trans BB hwb; have KK : Hid (KT w W4 b1 b2 b3 [.slice at' nt ct, .slice ar nr cr, .slice al nl cl, .slice ai ni ci, .slice aj nj cj] [.slice none 0 0, .slice none 0 0, v9, v16, v13] v9 v13 v16 (.slice none 0 0) [] p) := ⟨hc1.upd U4 n13, hc2.upd U4 n23, D4, own_raise (own_upd (by rw [HNL.out]; exact O9) D3 U4 (by decide)) B2.size, own_raise (own_upd (by rw [HNJ.out]; exact O13) D3 U4 (by decide)) B2.size, OwnRows.raise (rows_upd O16 D3 U4 (by decide) (by decide)) B2.size, OwnRows.nil _ _ _ _ _ _⟩; clear U4 D4 D3 hc1 hc2 O9 O13 O16 BB)
    clear HBw h9 h13 h16
    have HF0 := HF
    have hb3w := hwb
    have q1 := KK.out.c1
    obtain ⟨q0, q1, q2, q3, q4⟩ := five KK.out.c1
    go_wp2_with fail
    go_loopw [4] (fun i wr => ∃ k : Nat, k ≤ nt ∧ i = .int .i64 k ∧ (∃ v, Hid (OwnRows wr w.heap.size 73 75 5 v op5L (p.threads.take k)) ∧ Hid (KT w wr b1 b2 b3 [.slice at' nt ct, .slice ar nr cr, .slice al nl cl, .slice ai ni ci, .slice aj nj cj] [v, .slice none 0 0, v9, v16, v13] v9 v13 v16 (.slice none 0 0) [] p)) ∧ Hid (Below w.heap.size w wr)) (fun i _ => nt - (intOf i).toNat)
    case atStart => exact ⟨0, Nat.zero_le _, rfl, ⟨_, (by show OwnRows _ _ _ _ _ _ _ _; rw [List.take_zero]; exact OwnRows.nil _ _ _ _ _ _), KK⟩, B4⟩
    case round =>
      obtain ⟨k, hk, rfl, ⟨vrow, HO, HK⟩, HB⟩ := hrel
      obtain ⟨WR, eWR⟩ : ∃ W, W = wr := ⟨_, rfl⟩
      subst eWR
      obtain ⟨q0, q1, q2, q3, q4⟩ := five HK.out.c1
      by_cases hlt : k < nt
      · have hki : (k : Int) < nt := by omega
        obtain ⟨l, hl⟩ : ∃ l, p.threads[k]? = some l := ⟨_, List.getElem?_eq_getElem (by rw [HNT.out]; exact hlt)⟩
        obtain ⟨b, o, ax, cx, rfl, hb, hc, hseg, hnil⟩ := (HTw.out.below HB.out).at k l hl
        have hll : l.length ≤ 1048576 := Nat.le_trans (by have := flat_at hl (Nat.le_refl _); rw [List.take_length, List.length_append] at this; omega) HF0.out.tt
        have HQ : Hid (p.threads.take (k + 1) = p.threads.take k ++ [l]) := take_at hl
        obtain ⟨ln, hln⟩ : ∃ n, l.length = n := ⟨_, rfl⟩
        have HLN : Hid (l.length = ln) := hln
        have HRV : Hid (RowV WR (.slice ax ln cx) ln (l.flatMap op5L)) := (by rw [← hln]; exact ⟨ax, cx, rfl, hseg, hnil⟩)
        obtain ⟨vs, ho1, ho2, ho3⟩ := HO.out
        have hkl : (p.threads.take k).length = k := by rw [List.length_take, HNT.out]; omega
        rw [hkl] at ho1 ho2
        obtain ⟨av, cv, hv⟩ := own_form ho2
        subst hv
        have H1x : Hid (vs.length = k) := ho1
        have H2 : Hid (WR.ownsRow w.heap.size 73 1 (.slice av k cv) k vs) := ho2
        have H3 : Hid (∀ (j : Nat) u xs, vs[j]? = some u → (p.threads.take k)[j]? = some xs → WR.ownsRow w.heap.size 75 5 u xs.length (xs.flatMap op5L)) := ho3
        have HKL : Hid ((p.threads.take k).length = k) := hkl
        rw [hln] at hc hll
        clear hl hseg hnil ho1 ho2 ho3 hkl hln HO
        go_wp2_with fail
        clear q0 q1 q2 q3 q4
        refine region_invA 10 (fun a0 listed a' w' => ∃ x25 x26 x27 x28 x29 x30 x31 x32 x33 x34 : Value, a' = ((((((((((a0.put (some 25) x25).put (some 26) x26).put (some 27) x27).put (some 28) x28).put (some 29) x29).put (some 30) x30).put (some 31) x31).put (some 32) x32).put (some 33) x33).put (some 34) x34) ∧ Hid (Below WR.heap.size WR w') ∧ (listed.getD 0 false = true → x25 = .pointer (some ⟨b3, 0, none⟩)) ∧ (listed.getD 1 false = true → x26 = .slice av k cv) ∧ (listed.getD 2 false = true → ∃ b, x27 = .slice (some ⟨b, 0, none⟩) 0 0 ∧ w'.ownsRow WR.heap.size 75 5 x27 0 []) ∧ (listed.getD 3 false = true → x28 = .pointer (some ⟨b1, 0, none⟩)) ∧ (listed.getD 4 false = true → x29 = .slice (some ⟨b, o, none⟩) nt ct) ∧ (listed.getD 5 false = true → x30 = .int .i64 (k : Int)) ∧ (listed.getD 6 false = true → x31 = .pointer (some ⟨b, o + k, none⟩)) ∧ (listed.getD 7 false = true → x32 = .slice ax ln cx) ∧ (listed.getD 8 false = true → w'.ownsRow WR.heap.size 75 5 x33 ln (l.flatMap op5L)) ∧ (listed.getD 9 false = true → ∃ u b, x34 = .slice (some ⟨b, 0, none⟩) 1 1 ∧ IsS w' b 73 [u] ∧ w'.ownsRow WR.heap.size 75 5 u ln (l.flatMap op5L))) (by kernel_rfl) (by kernel_rfl) ?i0a ?istepa ?ienda
        case i0a => exact ⟨u25, u26, u27, u28, u29, u30, u31, u32, u33, u34, by first | (simp only [Act.put, List.setIfInBounds_toArray, List.set_cons_succ, List.set_cons_zero]; done) | (simp only [Act.put, List.setIfInBounds_toArray, List.set_cons_succ, List.set_cons_zero]; rfl) | rfl, below_drew (Below.refl _ _), fun h => (not_rep h).elim, fun h => (not_rep h).elim, fun h => (not_rep h).elim, fun h => (not_rep h).elim, fun h => (not_rep h).elim, fun h => (not_rep h).elim, fun h => (not_rep h).elim, fun h => (not_rep h).elim, fun h => (not_rep h).elim, fun h => (not_rep h).elim⟩
        case istepa =>
          rintro i listed a' w' hi hr ⟨x25, x26, x27, x28, x29, x30, x31, x32, x33, x34, rfl, HBw, d0, d1, d2, d3, d4, d5, d6, d7, d8, d9⟩
          obtain ⟨hun, oj, hoj, hwt⟩ := mem_ready.1 hr
          simp only [Act.put, List.setIfInBounds_toArray, List.set_cons_succ, List.set_cons_zero]
          have hcase : i = 0 ∨ i = 1 ∨ i = 2 ∨ i = 3 ∨ i = 4 ∨ i = 5 ∨ i = 6 ∨ i = 7 ∨ i = 8 ∨ i = 9 := by omega
          rcases hcase with rfl | rfl | rfl | rfl | rfl | rfl | rfl | rfl | rfl | rfl
          · have hoj2 := hoj
            obtain rfl := Option.some.inj hoj
            refine wpOp_value hoj2 rfl (v := .pointer (some ⟨b3, 0, none⟩)) (w' := w') (by first | rfl | (go_simp; done) | (simp [go_sem]; done) | (simp [execOp, go_sem]; done)) ?_
            exact ⟨.pointer (some ⟨b3, 0, none⟩), x26, x27, x28, x29, x30, x31, x32, x33, x34, by first | (simp only [Act.put, List.setIfInBounds_toArray, List.set_cons_succ, List.set_cons_zero]; done) | (simp only [Act.put, List.setIfInBounds_toArray, List.set_cons_succ, List.set_cons_zero]; rfl) | rfl, Below.then HBw.out (Below.refl _ _), fun _ => rfl, fun h => (d1 (keep (by decide) h)), fun h => Exists.elim (d2 (keep (by decide) h)) fun b h => ⟨b, h.1, own_below h.2 (Below.refl _ _)⟩, fun h => (d3 (keep (by decide) h)), fun h => (d4 (keep (by decide) h)), fun h => (d5 (keep (by decide) h)), fun h => (d6 (keep (by decide) h)), fun h => (d7 (keep (by decide) h)), fun h => own_below (d8 (keep (by decide) h)) (Below.refl _ _), fun h => (by obtain ⟨u0, b0, h1, h2, h3⟩ := (d9 (keep (by decide) h)); exact ⟨u0, b0, h1, h2.grown (Below.refl _ _), own_below h3 (Below.refl _ _)⟩)⟩
          · have hoj2 := hoj
            obtain rfl := Option.some.inj hoj
            have e0 := d0 (hwt ⟨0, .data⟩ (by simp) rfl)
            subst e0
            have kk := HK.out.below HBw.out
            refine wpOp_value hoj2 rfl (v := .slice av k cv) (w' := w') (by exact rd1 kk.c3 rfl rfl rfl (fun w h => ld41 w h)) ?_
            exact ⟨.pointer (some ⟨b3, 0, none⟩), .slice av k cv, x27, x28, x29, x30, x31, x32, x33, x34, by first | (simp only [Act.put, List.setIfInBounds_toArray, List.set_cons_succ, List.set_cons_zero]; done) | (simp only [Act.put, List.setIfInBounds_toArray, List.set_cons_succ, List.set_cons_zero]; rfl) | rfl, Below.then HBw.out (Below.refl _ _), fun h => (d0 (keep (by decide) h)), fun _ => rfl, fun h => Exists.elim (d2 (keep (by decide) h)) fun b h => ⟨b, h.1, own_below h.2 (Below.refl _ _)⟩, fun h => (d3 (keep (by decide) h)), fun h => (d4 (keep (by decide) h)), fun h => (d5 (keep (by decide) h)), fun h => (d6 (keep (by decide) h)), fun h => (d7 (keep (by decide) h)), fun h => own_below (d8 (keep (by decide) h)) (Below.refl _ _), fun h => (by obtain ⟨u0, b0, h1, h2, h3⟩ := (d9 (keep (by decide) h)); exact ⟨u0, b0, h1, h2.grown (Below.refl _ _), own_below h3 (Below.refl _ _)⟩)⟩
          · have hoj2 := hoj
            obtain rfl := Option.some.inj hoj
            refine wpOp_value hoj2 rfl (exec_build0 eOp rfl) ?_
            have B' : Below w'.heap.size w' (w'.alloc (.cells #[] 75)) := (Fresh.alloc w' (.cells #[] 75)).trans (Below.refl _ _) (Nat.le_refl _)
            have O' := own_raise (own_build0 eOp w') HBw.out.size
            exact ⟨x25, x26, .slice (some ⟨w'.heap.size, 0, none⟩) 0 0, x28, x29, x30, x31, x32, x33, x34, by first | (simp only [Act.put, List.setIfInBounds_toArray, List.set_cons_succ, List.set_cons_zero]; done) | (simp only [Act.put, List.setIfInBounds_toArray, List.set_cons_succ, List.set_cons_zero]; rfl) | rfl, Below.then HBw.out B', fun h => (d0 (keep (by decide) h)), fun h => (d1 (keep (by decide) h)), fun _ => ⟨_, rfl, O'⟩, fun h => (d3 (keep (by decide) h)), fun h => (d4 (keep (by decide) h)), fun h => (d5 (keep (by decide) h)), fun h => (d6 (keep (by decide) h)), fun h => (d7 (keep (by decide) h)), fun h => own_below (d8 (keep (by decide) h)) B', fun h => (by obtain ⟨u0, b0, h1, h2, h3⟩ := (d9 (keep (by decide) h)); exact ⟨u0, b0, h1, h2.grown B', own_below h3 B'⟩)⟩
          · have hoj2 := hoj
            obtain rfl := Option.some.inj hoj
            refine wpOp_value hoj2 rfl (v := .pointer (some ⟨b1, 0, none⟩)) (w' := w') (by first | rfl | (go_simp; done) | (simp [go_sem]; done) | (simp [execOp, go_sem]; done)) ?_
            exact ⟨x25, x26, x27, .pointer (some ⟨b1, 0, none⟩), x29, x30, x31, x32, x33, x34, by first | (simp only [Act.put, List.setIfInBounds_toArray, List.set_cons_succ, List.set_cons_zero]; done) | (simp only [Act.put, List.setIfInBounds_toArray, List.set_cons_succ, List.set_cons_zero]; rfl) | rfl, Below.then HBw.out (Below.refl _ _), fun h => (d0 (keep (by decide) h)), fun h => (d1 (keep (by decide) h)), fun h => Exists.elim (d2 (keep (by decide) h)) fun b h => ⟨b, h.1, own_below h.2 (Below.refl _ _)⟩, fun _ => rfl, fun h => (d4 (keep (by decide) h)), fun h => (d5 (keep (by decide) h)), fun h => (d6 (keep (by decide) h)), fun h => (d7 (keep (by decide) h)), fun h => own_below (d8 (keep (by decide) h)) (Below.refl _ _), fun h => (by obtain ⟨u0, b0, h1, h2, h3⟩ := (d9 (keep (by decide) h)); exact ⟨u0, b0, h1, h2.grown (Below.refl _ _), own_below h3 (Below.refl _ _)⟩)⟩
          · have hoj2 := hoj
            obtain rfl := Option.some.inj hoj
            have e3 := d3 (hwt ⟨3, .data⟩ (by simp) rfl)
            subst e3
            have kk := HK.out.below HBw.out
            refine wpOp_value hoj2 rfl (v := .slice (some ⟨b, o, none⟩) nt ct) (w' := w') (by exact rd1 kk.c1 rfl rfl rfl (fun w h => ld41 w h)) ?_
            exact ⟨x25, x26, x27, .pointer (some ⟨b1, 0, none⟩), .slice (some ⟨b, o, none⟩) nt ct, x30, x31, x32, x33, x34, by first | (simp only [Act.put, List.setIfInBounds_toArray, List.set_cons_succ, List.set_cons_zero]; done) | (simp only [Act.put, List.setIfInBounds_toArray, List.set_cons_succ, List.set_cons_zero]; rfl) | rfl, Below.then HBw.out (Below.refl _ _), fun h => (d0 (keep (by decide) h)), fun h => (d1 (keep (by decide) h)), fun h => Exists.elim (d2 (keep (by decide) h)) fun b h => ⟨b, h.1, own_below h.2 (Below.refl _ _)⟩, fun h => (d3 (keep (by decide) h)), fun _ => rfl, fun h => (d5 (keep (by decide) h)), fun h => (d6 (keep (by decide) h)), fun h => (d7 (keep (by decide) h)), fun h => own_below (d8 (keep (by decide) h)) (Below.refl _ _), fun h => (by obtain ⟨u0, b0, h1, h2, h3⟩ := (d9 (keep (by decide) h)); exact ⟨u0, b0, h1, h2.grown (Below.refl _ _), own_below h3 (Below.refl _ _)⟩)⟩
          · have hoj2 := hoj
            obtain rfl := Option.some.inj hoj
            refine wpOp_value hoj2 rfl (v := .int .i64 (k : Int)) (w' := w') (by first | rfl | (go_simp; done) | (simp [go_sem]; done) | (simp [execOp, go_sem]; done)) ?_
            exact ⟨x25, x26, x27, x28, x29, .int .i64 (k : Int), x31, x32, x33, x34, by first | (simp only [Act.put, List.setIfInBounds_toArray, List.set_cons_succ, List.set_cons_zero]; done) | (simp only [Act.put, List.setIfInBounds_toArray, List.set_cons_succ, List.set_cons_zero]; rfl) | rfl, Below.then HBw.out (Below.refl _ _), fun h => (d0 (keep (by decide) h)), fun h => (d1 (keep (by decide) h)), fun h => Exists.elim (d2 (keep (by decide) h)) fun b h => ⟨b, h.1, own_below h.2 (Below.refl _ _)⟩, fun h => (d3 (keep (by decide) h)), fun h => (d4 (keep (by decide) h)), fun _ => rfl, fun h => (d6 (keep (by decide) h)), fun h => (d7 (keep (by decide) h)), fun h => own_below (d8 (keep (by decide) h)) (Below.refl _ _), fun h => (by obtain ⟨u0, b0, h1, h2, h3⟩ := (d9 (keep (by decide) h)); exact ⟨u0, b0, h1, h2.grown (Below.refl _ _), own_below h3 (Below.refl _ _)⟩)⟩
          · have hoj2 := hoj
            obtain rfl := Option.some.inj hoj
            have e4 := d4 (hwt ⟨4, .data⟩ (by simp) rfl)
            have e5 := d5 (hwt ⟨5, .data⟩ (by simp) rfl)
            subst e4
            subst e5
            refine wpOp_value hoj2 rfl (v := .pointer (some ⟨b, o + k, none⟩)) (w' := w') (by first | rfl | (go_simp; done) | (simp [go_sem]; done) | (simp [execOp, go_sem]; done)) ?_
            exact ⟨x25, x26, x27, x28, .slice (some ⟨b, o, none⟩) nt ct, .int .i64 (k : Int), .pointer (some ⟨b, o + k, none⟩), x32, x33, x34, by first | (simp only [Act.put, List.setIfInBounds_toArray, List.set_cons_succ, List.set_cons_zero]; done) | (simp only [Act.put, List.setIfInBounds_toArray, List.set_cons_succ, List.set_cons_zero]; rfl) | rfl, Below.then HBw.out (Below.refl _ _), fun h => (d0 (keep (by decide) h)), fun h => (d1 (keep (by decide) h)), fun h => Exists.elim (d2 (keep (by decide) h)) fun b h => ⟨b, h.1, own_below h.2 (Below.refl _ _)⟩, fun h => (d3 (keep (by decide) h)), fun h => (d4 (keep (by decide) h)), fun h => (d5 (keep (by decide) h)), fun _ => rfl, fun h => (d7 (keep (by decide) h)), fun h => own_below (d8 (keep (by decide) h)) (Below.refl _ _), fun h => (by obtain ⟨u0, b0, h1, h2, h3⟩ := (d9 (keep (by decide) h)); exact ⟨u0, b0, h1, h2.grown (Below.refl _ _), own_below h3 (Below.refl _ _)⟩)⟩
          · have hoj2 := hoj
            obtain rfl := Option.some.inj hoj
            have e6 := d6 (hwt ⟨6, .data⟩ (by simp) rfl)
            subst e6
            have hcw : w'.cell? ⟨b, o + k, none⟩ = some (.slice ax ln cx) := by rw [HBw.out.cell (p := ⟨b, o + k, none⟩) hb]; exact hc
            refine wpOp_value hoj2 rfl (v := .slice ax ln cx) (w' := w') (by exact rdc hcw rfl rfl (fun w h => ld54 w h)) ?_
            exact ⟨x25, x26, x27, x28, x29, x30, .pointer (some ⟨b, o + k, none⟩), .slice ax ln cx, x33, x34, by first | (simp only [Act.put, List.setIfInBounds_toArray, List.set_cons_succ, List.set_cons_zero]; done) | (simp only [Act.put, List.setIfInBounds_toArray, List.set_cons_succ, List.set_cons_zero]; rfl) | rfl, Below.then HBw.out (Below.refl _ _), fun h => (d0 (keep (by decide) h)), fun h => (d1 (keep (by decide) h)), fun h => Exists.elim (d2 (keep (by decide) h)) fun b h => ⟨b, h.1, own_below h.2 (Below.refl _ _)⟩, fun h => (d3 (keep (by decide) h)), fun h => (d4 (keep (by decide) h)), fun h => (d5 (keep (by decide) h)), fun h => (d6 (keep (by decide) h)), fun _ => rfl, fun h => own_below (d8 (keep (by decide) h)) (Below.refl _ _), fun h => (by obtain ⟨u0, b0, h1, h2, h3⟩ := (d9 (keep (by decide) h)); exact ⟨u0, b0, h1, h2.grown (Below.refl _ _), own_below h3 (Below.refl _ _)⟩)⟩
          · have hoj2 := hoj
            obtain rfl := Option.some.inj hoj
            have e2 := d2 (hwt ⟨2, .data⟩ (by simp) rfl)
            have e7 := d7 (hwt ⟨7, .data⟩ (by simp) rfl)
            obtain ⟨be, hbe, e2⟩ := e2
            subst hbe
            subst e7
            obtain ⟨v', W', hrun, O', B'⟩ := run_app0 eOp WR.heap.size be e2 _ ln (l.flatMap op5L) (HRV.out.below HBw.out) (by rw [op_len, HLN.out]) (ops_one l) (by omega) HBw.out.size _
            refine wpOp_value hoj2 rfl (exec_app _ _ rfl rfl rfl hrun) ?_
            exact ⟨x25, x26, .slice (some ⟨be, 0, none⟩) 0 0, x28, x29, x30, x31, .slice ax ln cx, v', x34, by first | (simp only [Act.put, List.setIfInBounds_toArray, List.set_cons_succ, List.set_cons_zero]; done) | (simp only [Act.put, List.setIfInBounds_toArray, List.set_cons_succ, List.set_cons_zero]; rfl) | rfl, Below.then HBw.out B', fun h => (d0 (keep (by decide) h)), fun h => (d1 (keep (by decide) h)), fun h => Exists.elim (d2 (keep (by decide) h)) fun b h => ⟨b, h.1, own_below h.2 B'⟩, fun h => (d3 (keep (by decide) h)), fun h => (d4 (keep (by decide) h)), fun h => (d5 (keep (by decide) h)), fun h => (d6 (keep (by decide) h)), fun h => (d7 (keep (by decide) h)), fun _ => O', fun h => (by obtain ⟨u0, b0, h1, h2, h3⟩ := (d9 (keep (by decide) h)); exact ⟨u0, b0, h1, h2.grown B', own_below h3 B'⟩)⟩
          · have hoj2 := hoj
            obtain rfl := Option.some.inj hoj
            have e8 := d8 (hwt ⟨8, .data⟩ (by simp) rfl)
            refine wpOp_value hoj2 rfl (exec_build1 eOps _ rfl x33 rfl (own_cell e8)) ?_
            have B' : Below w'.heap.size w' (w'.alloc (.cells #[x33] 73)) := (Fresh.alloc w' (.cells #[x33] 73)).trans (Below.refl _ _) (Nat.le_refl _)
            exact ⟨x25, x26, x27, x28, x29, x30, x31, x32, x33, .slice (some ⟨w'.heap.size, 0, none⟩) 1 1, by first | (simp only [Act.put, List.setIfInBounds_toArray, List.set_cons_succ, List.set_cons_zero]; done) | (simp only [Act.put, List.setIfInBounds_toArray, List.set_cons_succ, List.set_cons_zero]; rfl) | rfl, Below.then HBw.out B', fun h => (d0 (keep (by decide) h)), fun h => (d1 (keep (by decide) h)), fun h => Exists.elim (d2 (keep (by decide) h)) fun b h => ⟨b, h.1, own_below h.2 B'⟩, fun h => (d3 (keep (by decide) h)), fun h => (d4 (keep (by decide) h)), fun h => (d5 (keep (by decide) h)), fun h => (d6 (keep (by decide) h)), fun h => (d7 (keep (by decide) h)), fun h => own_below (d8 (keep (by decide) h)) B', fun _ => ⟨_, _, rfl, IsS.new w' 73 [x33], own_below e8 B'⟩⟩
        case ienda =>
          rintro a' w' ⟨x25, x26, x27, x28, x29, x30, x31, x32, x33, x34, rfl, HBw, d0, d1, d2, d3, d4, d5, d6, d7, d8, d9⟩
          replace d0 := d0 rfl
          replace d1 := d1 rfl
          replace d2 := d2 rfl
          replace d3 := d3 rfl
          replace d4 := d4 rfl
          replace d5 := d5 rfl
          replace d6 := d6 rfl
          replace d7 := d7 rfl
          replace d8 := d8 rfl
          replace d9 := d9 rfl
          simp only [Act.put, List.setIfInBounds_toArray, List.set_cons_succ, List.set_cons_zero]
          simp only [List.drop_succ_cons, List.drop_zero]
          subst d1
          obtain ⟨u, bu, hx9, hIu, hOu⟩ := d9
          subst hx9
          clear d0 d2 d3 d4 d5 d6 d7 d8
          have kk := HK.out.below HBw.out
          have P5' := own_below H2.out HBw.out
          have B5 := Below.then HB.out HBw.out
          have u1 := own_cell hOu
          have O5 := own_raise hOu HB.out.size
          have t5 : True := trivial
          have t6 : True := trivial
          go_wp2_with (first
            | (clear t5; at_builtin; refine wpList_appM eOps rfl _ _ rfl w.heap.size _ k vs rfl P5' _ 1 [u] rfl (row_isS hIu) rfl (by simp only [List.mem_singleton]; rintro x rfl; exact u1) (by omega) B5.size ?_; intro v6 W6 O6 G6; have B6 := grown_below B5 B5.size P5' G6; have K6 := KT.grow1 kk P5' G6; have h6 := own_cell O6)
            | (clear t6; refine wpList_store1 rfl 22 _ _ rfl rfl v6 rfl K6.c3 (by simp) info41 h6 ?_; intro W7 U7 D7; have B7 := U7.trans B6 hb3w))
          have HF : Hid (OwnRows W7 w.heap.size 73 75 5 v6 op5L (p.threads.take (k + 1))) := (by
            show OwnRows _ _ _ _ _ _ _ _
            rw [HQ.out]
            refine rows_upd (OwnRows.snoc (vs := vs) (u := u) (by rw [HKL.out]; exact H1x.out) (by rw [HKL.out]; exact P5') (fun j u xs hu hx => own_below (H3.out j u xs hu hx) HBw.out) (by rw [HLN.out]; exact O5) (by rw [HKL.out]; exact O6) G6 (by decide)) K6.c3 U7 (by decide) (by decide))
          have HK7 : Hid (KT w W7 b1 b2 b3 [.slice (some ⟨b, o, none⟩) nt ct, .slice ar nr cr, .slice al nl cl, .slice ai ni ci, .slice aj nj cj] [v6, .slice none 0 0, v9, v16, v13] v9 v13 v16 (.slice none 0 0) [] p) := K6.store U7 D7 n13 n23
          clear G6 O6 P5' hOu hIu K6 U7 D7 kk O5
          go_wp2_with fail
          go_roundw
          case rel => exact ⟨k + 1, by omega, by go_num, ⟨v6, HF, HK7⟩, B7⟩
          case measure => simp [intOf]; omega
      · have hki : ¬ (k : Int) < nt := by omega
        have HOF : Hid (OwnRows WR w.heap.size 73 75 5 vrow op5L p.threads) := (by have := HO.out; rw [show k = p.threads.length by rw [HNT.out]; omega, List.take_length] at this; exact this)
        clear HO
        obtain ⟨vt1, hvt1⟩ : ∃ v, v = vrow := ⟨_, rfl⟩
        subst hvt1
        have HK1 : Hid (KT w WR b1 b2 b3 [.slice at' nt ct, .slice ar nr cr, .slice al nl cl, .slice ai ni ci, .slice aj nj cj] [vt1, .slice none 0 0, v9, v16, v13] v9 v13 v16 vt1 p.threads p) := ⟨HK.out.c1, HK.out.c2, HK.out.c3, HK.out.hl, HK.out.hj, HK.out.hi, HOF.out⟩
        clear HK HOF
        go_wp2_with fail
        go_loopw [5] (fun i wr => ∃ k : Nat, k ≤ nr ∧ i = .int .i64 k ∧ (∃ v, Hid (OwnRows wr w.heap.size 24 9 1 v strE (p.regs.take k)) ∧ Hid (KT w wr b1 b2 b3 [.slice at' nt ct, .slice ar nr cr, .slice al nl cl, .slice ai ni ci, .slice aj nj cj] [vt1, v, v9, v16, v13] v9 v13 v16 vt1 p.threads p)) ∧ Hid (Below w.heap.size w wr)) (fun i _ => nr - (intOf i).toNat)
        case atStart => exact ⟨0, Nat.zero_le _, rfl, ⟨_, (by show OwnRows _ _ _ _ _ _ _ _; rw [List.take_zero]; exact OwnRows.nil _ _ _ _ _ _), HK1⟩, HB⟩
        case round =>
          obtain ⟨k, hk, rfl, ⟨vrow, HO, HK⟩, HB⟩ := hrel
          obtain ⟨WR, eWR⟩ : ∃ W, W = wr := ⟨_, rfl⟩
          subst eWR
          obtain ⟨q0, q1, q2, q3, q4⟩ := five HK.out.c1
          by_cases hlt : k < nr
          · have hki : (k : Int) < nr := by omega
            obtain ⟨l, hl⟩ : ∃ l, p.regs[k]? = some l := ⟨_, List.getElem?_eq_getElem (by rw [HNR.out]; exact hlt)⟩
            obtain ⟨b, o, ax, cx, rfl, hb, hc, hseg, hnil⟩ := (HRw.out.below HB.out).at k l hl
            have hll : l.length ≤ 1048576 := Nat.le_trans (by have := flat_at hl (Nat.le_refl _); rw [List.take_length, List.length_append] at this; omega) HF0.out.rr
            have HQ : Hid (p.regs.take (k + 1) = p.regs.take k ++ [l]) := take_at hl
            obtain ⟨ln, hln⟩ : ∃ n, l.length = n := ⟨_, rfl⟩
            have HLN : Hid (l.length = ln) := hln
            have HRV : Hid (RowV WR (.slice ax ln cx) ln (l.flatMap strE)) := (by rw [← hln]; exact ⟨ax, cx, rfl, hseg, hnil⟩)
            obtain ⟨vs, ho1, ho2, ho3⟩ := HO.out
            have hkl : (p.regs.take k).length = k := by rw [List.length_take, HNR.out]; omega
            rw [hkl] at ho1 ho2
            obtain ⟨av, cv, hv⟩ := own_form ho2
            subst hv
            have H1x : Hid (vs.length = k) := ho1
            have H2 : Hid (WR.ownsRow w.heap.size 24 1 (.slice av k cv) k vs) := ho2
            have H3 : Hid (∀ (j : Nat) u xs, vs[j]? = some u → (p.regs.take k)[j]? = some xs → WR.ownsRow w.heap.size 9 1 u xs.length (xs.flatMap strE)) := ho3
            have HKL : Hid ((p.regs.take k).length = k) := hkl
            rw [hln] at hc hll
            clear hl hseg hnil ho1 ho2 ho3 hkl hln HO
            go_wp2_with fail
            clear q0 q1 q2 q3 q4
            refine region_invA 10 (fun a0 listed a' w' => ∃ x44 x45 x46 x47 x48 x49 x50 x51 x52 x53 : Value, a' = ((((((((((a0.put (some 44) x44).put (some 45) x45).put (some 46) x46).put (some 47) x47).put (some 48) x48).put (some 49) x49).put (some 50) x50).put (some 51) x51).put (some 52) x52).put (some 53) x53) ∧ Hid (Below WR.heap.size WR w') ∧ (listed.getD 0 false = true → x44 = .pointer (some ⟨b3, 1, none⟩)) ∧ (listed.getD 1 false = true → x45 = .slice av k cv) ∧ (listed.getD 2 false = true → ∃ b, x46 = .slice (some ⟨b, 0, none⟩) 0 0 ∧ w'.ownsRow WR.heap.size 9 1 x46 0 []) ∧ (listed.getD 3 false = true → x47 = .pointer (some ⟨b1, 1, none⟩)) ∧ (listed.getD 4 false = true → x48 = .slice (some ⟨b, o, none⟩) nr cr) ∧ (listed.getD 5 false = true → x49 = .int .i64 (k : Int)) ∧ (listed.getD 6 false = true → x50 = .pointer (some ⟨b, o + k, none⟩)) ∧ (listed.getD 7 false = true → x51 = .slice ax ln cx) ∧ (listed.getD 8 false = true → w'.ownsRow WR.heap.size 9 1 x52 ln (l.flatMap strE)) ∧ (listed.getD 9 false = true → ∃ u b, x53 = .slice (some ⟨b, 0, none⟩) 1 1 ∧ IsS w' b 24 [u] ∧ w'.ownsRow WR.heap.size 9 1 u ln (l.flatMap strE))) (by kernel_rfl) (by kernel_rfl) ?i0b ?istepb ?iendb
            case i0b => exact ⟨u44, u45, u46, u47, u48, u49, u50, u51, u52, u53, by first | (simp only [Act.put, List.setIfInBounds_toArray, List.set_cons_succ, List.set_cons_zero]; done) | (simp only [Act.put, List.setIfInBounds_toArray, List.set_cons_succ, List.set_cons_zero]; rfl) | rfl, below_drew (Below.refl _ _), fun h => (not_rep h).elim, fun h => (not_rep h).elim, fun h => (not_rep h).elim, fun h => (not_rep h).elim, fun h => (not_rep h).elim, fun h => (not_rep h).elim, fun h => (not_rep h).elim, fun h => (not_rep h).elim, fun h => (not_rep h).elim, fun h => (not_rep h).elim⟩
            case istepb =>
              rintro i listed a' w' hi hr ⟨x44, x45, x46, x47, x48, x49, x50, x51, x52, x53, rfl, HBw, d0, d1, d2, d3, d4, d5, d6, d7, d8, d9⟩
              obtain ⟨hun, oj, hoj, hwt⟩ := mem_ready.1 hr
              simp only [Act.put, List.setIfInBounds_toArray, List.set_cons_succ, List.set_cons_zero]
              have hcase : i = 0 ∨ i = 1 ∨ i = 2 ∨ i = 3 ∨ i = 4 ∨ i = 5 ∨ i = 6 ∨ i = 7 ∨ i = 8 ∨ i = 9 := by omega
              rcases hcase with rfl | rfl | rfl | rfl | rfl | rfl | rfl | rfl | rfl | rfl
              · have hoj2 := hoj
                obtain rfl := Option.some.inj hoj
                refine wpOp_value hoj2 rfl (v := .pointer (some ⟨b3, 1, none⟩)) (w' := w') (by first | rfl | (go_simp; done) | (simp [go_sem]; done) | (simp [execOp, go_sem]; done)) ?_
                exact ⟨.pointer (some ⟨b3, 1, none⟩), x45, x46, x47, x48, x49, x50, x51, x52, x53, by first | (simp only [Act.put, List.setIfInBounds_toArray, List.set_cons_succ, List.set_cons_zero]; done) | (simp only [Act.put, List.setIfInBounds_toArray, List.set_cons_succ, List.set_cons_zero]; rfl) | rfl, Below.then HBw.out (Below.refl _ _), fun _ => rfl, fun h => (d1 (keep (by decide) h)), fun h => Exists.elim (d2 (keep (by decide) h)) fun b h => ⟨b, h.1, own_below h.2 (Below.refl _ _)⟩, fun h => (d3 (keep (by decide) h)), fun h => (d4 (keep (by decide) h)), fun h => (d5 (keep (by decide) h)), fun h => (d6 (keep (by decide) h)), fun h => (d7 (keep (by decide) h)), fun h => own_below (d8 (keep (by decide) h)) (Below.refl _ _), fun h => (by obtain ⟨u0, b0, h1, h2, h3⟩ := (d9 (keep (by decide) h)); exact ⟨u0, b0, h1, h2.grown (Below.refl _ _), own_below h3 (Below.refl _ _)⟩)⟩
              · have hoj2 := hoj
                obtain rfl := Option.some.inj hoj
                have e0 := d0 (hwt ⟨0, .data⟩ (by simp) rfl)
                subst e0
                have kk := HK.out.below HBw.out
                refine wpOp_value hoj2 rfl (v := .slice av k cv) (w' := w') (by exact rd1 kk.c3 rfl rfl rfl (fun w h => ld42 w h)) ?_
                exact ⟨.pointer (some ⟨b3, 1, none⟩), .slice av k cv, x46, x47, x48, x49, x50, x51, x52, x53, by first | (simp only [Act.put, List.setIfInBounds_toArray, List.set_cons_succ, List.set_cons_zero]; done) | (simp only [Act.put, List.setIfInBounds_toArray, List.set_cons_succ, List.set_cons_zero]; rfl) | rfl, Below.then HBw.out (Below.refl _ _), fun h => (d0 (keep (by decide) h)), fun _ => rfl, fun h => Exists.elim (d2 (keep (by decide) h)) fun b h => ⟨b, h.1, own_below h.2 (Below.refl _ _)⟩, fun h => (d3 (keep (by decide) h)), fun h => (d4 (keep (by decide) h)), fun h => (d5 (keep (by decide) h)), fun h => (d6 (keep (by decide) h)), fun h => (d7 (keep (by decide) h)), fun h => own_below (d8 (keep (by decide) h)) (Below.refl _ _), fun h => (by obtain ⟨u0, b0, h1, h2, h3⟩ := (d9 (keep (by decide) h)); exact ⟨u0, b0, h1, h2.grown (Below.refl _ _), own_below h3 (Below.refl _ _)⟩)⟩
              · have hoj2 := hoj
                obtain rfl := Option.some.inj hoj
                refine wpOp_value hoj2 rfl (exec_build0 eStr rfl) ?_
                have B' : Below w'.heap.size w' (w'.alloc (.cells #[] 9)) := (Fresh.alloc w' (.cells #[] 9)).trans (Below.refl _ _) (Nat.le_refl _)
                have O' := own_raise (own_build0 eStr w') HBw.out.size
                exact ⟨x44, x45, .slice (some ⟨w'.heap.size, 0, none⟩) 0 0, x47, x48, x49, x50, x51, x52, x53, by first | (simp only [Act.put, List.setIfInBounds_toArray, List.set_cons_succ, List.set_cons_zero]; done) | (simp only [Act.put, List.setIfInBounds_toArray, List.set_cons_succ, List.set_cons_zero]; rfl) | rfl, Below.then HBw.out B', fun h => (d0 (keep (by decide) h)), fun h => (d1 (keep (by decide) h)), fun _ => ⟨_, rfl, O'⟩, fun h => (d3 (keep (by decide) h)), fun h => (d4 (keep (by decide) h)), fun h => (d5 (keep (by decide) h)), fun h => (d6 (keep (by decide) h)), fun h => (d7 (keep (by decide) h)), fun h => own_below (d8 (keep (by decide) h)) B', fun h => (by obtain ⟨u0, b0, h1, h2, h3⟩ := (d9 (keep (by decide) h)); exact ⟨u0, b0, h1, h2.grown B', own_below h3 B'⟩)⟩
              · have hoj2 := hoj
                obtain rfl := Option.some.inj hoj
                refine wpOp_value hoj2 rfl (v := .pointer (some ⟨b1, 1, none⟩)) (w' := w') (by first | rfl | (go_simp; done) | (simp [go_sem]; done) | (simp [execOp, go_sem]; done)) ?_
                exact ⟨x44, x45, x46, .pointer (some ⟨b1, 1, none⟩), x48, x49, x50, x51, x52, x53, by first | (simp only [Act.put, List.setIfInBounds_toArray, List.set_cons_succ, List.set_cons_zero]; done) | (simp only [Act.put, List.setIfInBounds_toArray, List.set_cons_succ, List.set_cons_zero]; rfl) | rfl, Below.then HBw.out (Below.refl _ _), fun h => (d0 (keep (by decide) h)), fun h => (d1 (keep (by decide) h)), fun h => Exists.elim (d2 (keep (by decide) h)) fun b h => ⟨b, h.1, own_below h.2 (Below.refl _ _)⟩, fun _ => rfl, fun h => (d4 (keep (by decide) h)), fun h => (d5 (keep (by decide) h)), fun h => (d6 (keep (by decide) h)), fun h => (d7 (keep (by decide) h)), fun h => own_below (d8 (keep (by decide) h)) (Below.refl _ _), fun h => (by obtain ⟨u0, b0, h1, h2, h3⟩ := (d9 (keep (by decide) h)); exact ⟨u0, b0, h1, h2.grown (Below.refl _ _), own_below h3 (Below.refl _ _)⟩)⟩
              · have hoj2 := hoj
                obtain rfl := Option.some.inj hoj
                have e3 := d3 (hwt ⟨3, .data⟩ (by simp) rfl)
                subst e3
                have kk := HK.out.below HBw.out
                refine wpOp_value hoj2 rfl (v := .slice (some ⟨b, o, none⟩) nr cr) (w' := w') (by exact rd1 kk.c1 rfl rfl rfl (fun w h => ld42 w h)) ?_
                exact ⟨x44, x45, x46, .pointer (some ⟨b1, 1, none⟩), .slice (some ⟨b, o, none⟩) nr cr, x49, x50, x51, x52, x53, by first | (simp only [Act.put, List.setIfInBounds_toArray, List.set_cons_succ, List.set_cons_zero]; done) | (simp only [Act.put, List.setIfInBounds_toArray, List.set_cons_succ, List.set_cons_zero]; rfl) | rfl, Below.then HBw.out (Below.refl _ _), fun h => (d0 (keep (by decide) h)), fun h => (d1 (keep (by decide) h)), fun h => Exists.elim (d2 (keep (by decide) h)) fun b h => ⟨b, h.1, own_below h.2 (Below.refl _ _)⟩, fun h => (d3 (keep (by decide) h)), fun _ => rfl, fun h => (d5 (keep (by decide) h)), fun h => (d6 (keep (by decide) h)), fun h => (d7 (keep (by decide) h)), fun h => own_below (d8 (keep (by decide) h)) (Below.refl _ _), fun h => (by obtain ⟨u0, b0, h1, h2, h3⟩ := (d9 (keep (by decide) h)); exact ⟨u0, b0, h1, h2.grown (Below.refl _ _), own_below h3 (Below.refl _ _)⟩)⟩
              · have hoj2 := hoj
                obtain rfl := Option.some.inj hoj
                refine wpOp_value hoj2 rfl (v := .int .i64 (k : Int)) (w' := w') (by first | rfl | (go_simp; done) | (simp [go_sem]; done) | (simp [execOp, go_sem]; done)) ?_
                exact ⟨x44, x45, x46, x47, x48, .int .i64 (k : Int), x50, x51, x52, x53, by first | (simp only [Act.put, List.setIfInBounds_toArray, List.set_cons_succ, List.set_cons_zero]; done) | (simp only [Act.put, List.setIfInBounds_toArray, List.set_cons_succ, List.set_cons_zero]; rfl) | rfl, Below.then HBw.out (Below.refl _ _), fun h => (d0 (keep (by decide) h)), fun h => (d1 (keep (by decide) h)), fun h => Exists.elim (d2 (keep (by decide) h)) fun b h => ⟨b, h.1, own_below h.2 (Below.refl _ _)⟩, fun h => (d3 (keep (by decide) h)), fun h => (d4 (keep (by decide) h)), fun _ => rfl, fun h => (d6 (keep (by decide) h)), fun h => (d7 (keep (by decide) h)), fun h => own_below (d8 (keep (by decide) h)) (Below.refl _ _), fun h => (by obtain ⟨u0, b0, h1, h2, h3⟩ := (d9 (keep (by decide) h)); exact ⟨u0, b0, h1, h2.grown (Below.refl _ _), own_below h3 (Below.refl _ _)⟩)⟩
              · have hoj2 := hoj
                obtain rfl := Option.some.inj hoj
                have e4 := d4 (hwt ⟨4, .data⟩ (by simp) rfl)
                have e5 := d5 (hwt ⟨5, .data⟩ (by simp) rfl)
                subst e4
                subst e5
                refine wpOp_value hoj2 rfl (v := .pointer (some ⟨b, o + k, none⟩)) (w' := w') (by first | rfl | (go_simp; done) | (simp [go_sem]; done) | (simp [execOp, go_sem]; done)) ?_
                exact ⟨x44, x45, x46, x47, .slice (some ⟨b, o, none⟩) nr cr, .int .i64 (k : Int), .pointer (some ⟨b, o + k, none⟩), x51, x52, x53, by first | (simp only [Act.put, List.setIfInBounds_toArray, List.set_cons_succ, List.set_cons_zero]; done) | (simp only [Act.put, List.setIfInBounds_toArray, List.set_cons_succ, List.set_cons_zero]; rfl) | rfl, Below.then HBw.out (Below.refl _ _), fun h => (d0 (keep (by decide) h)), fun h => (d1 (keep (by decide) h)), fun h => Exists.elim (d2 (keep (by decide) h)) fun b h => ⟨b, h.1, own_below h.2 (Below.refl _ _)⟩, fun h => (d3 (keep (by decide) h)), fun h => (d4 (keep (by decide) h)), fun h => (d5 (keep (by decide) h)), fun _ => rfl, fun h => (d7 (keep (by decide) h)), fun h => own_below (d8 (keep (by decide) h)) (Below.refl _ _), fun h => (by obtain ⟨u0, b0, h1, h2, h3⟩ := (d9 (keep (by decide) h)); exact ⟨u0, b0, h1, h2.grown (Below.refl _ _), own_below h3 (Below.refl _ _)⟩)⟩
              · have hoj2 := hoj
                obtain rfl := Option.some.inj hoj
                have e6 := d6 (hwt ⟨6, .data⟩ (by simp) rfl)
                subst e6
                have hcw : w'.cell? ⟨b, o + k, none⟩ = some (.slice ax ln cx) := by rw [HBw.out.cell (p := ⟨b, o + k, none⟩) hb]; exact hc
                refine wpOp_value hoj2 rfl (v := .slice ax ln cx) (w' := w') (by exact rdc hcw rfl rfl (fun w h => ld43 w h)) ?_
                exact ⟨x44, x45, x46, x47, x48, x49, .pointer (some ⟨b, o + k, none⟩), .slice ax ln cx, x52, x53, by first | (simp only [Act.put, List.setIfInBounds_toArray, List.set_cons_succ, List.set_cons_zero]; done) | (simp only [Act.put, List.setIfInBounds_toArray, List.set_cons_succ, List.set_cons_zero]; rfl) | rfl, Below.then HBw.out (Below.refl _ _), fun h => (d0 (keep (by decide) h)), fun h => (d1 (keep (by decide) h)), fun h => Exists.elim (d2 (keep (by decide) h)) fun b h => ⟨b, h.1, own_below h.2 (Below.refl _ _)⟩, fun h => (d3 (keep (by decide) h)), fun h => (d4 (keep (by decide) h)), fun h => (d5 (keep (by decide) h)), fun h => (d6 (keep (by decide) h)), fun _ => rfl, fun h => own_below (d8 (keep (by decide) h)) (Below.refl _ _), fun h => (by obtain ⟨u0, b0, h1, h2, h3⟩ := (d9 (keep (by decide) h)); exact ⟨u0, b0, h1, h2.grown (Below.refl _ _), own_below h3 (Below.refl _ _)⟩)⟩
              · have hoj2 := hoj
                obtain rfl := Option.some.inj hoj
                have e2 := d2 (hwt ⟨2, .data⟩ (by simp) rfl)
                have e7 := d7 (hwt ⟨7, .data⟩ (by simp) rfl)
                obtain ⟨be, hbe, e2⟩ := e2
                subst hbe
                subst e7
                obtain ⟨v', W', hrun, O', B'⟩ := run_app0 eStr WR.heap.size be e2 _ ln (l.flatMap strE) (HRV.out.below HBw.out) (by rw [str_len, HLN.out]) (str_one l) (by omega) HBw.out.size _
                refine wpOp_value hoj2 rfl (exec_app _ _ rfl rfl rfl hrun) ?_
                exact ⟨x44, x45, .slice (some ⟨be, 0, none⟩) 0 0, x47, x48, x49, x50, .slice ax ln cx, v', x53, by first | (simp only [Act.put, List.setIfInBounds_toArray, List.set_cons_succ, List.set_cons_zero]; done) | (simp only [Act.put, List.setIfInBounds_toArray, List.set_cons_succ, List.set_cons_zero]; rfl) | rfl, Below.then HBw.out B', fun h => (d0 (keep (by decide) h)), fun h => (d1 (keep (by decide) h)), fun h => Exists.elim (d2 (keep (by decide) h)) fun b h => ⟨b, h.1, own_below h.2 B'⟩, fun h => (d3 (keep (by decide) h)), fun h => (d4 (keep (by decide) h)), fun h => (d5 (keep (by decide) h)), fun h => (d6 (keep (by decide) h)), fun h => (d7 (keep (by decide) h)), fun _ => O', fun h => (by obtain ⟨u0, b0, h1, h2, h3⟩ := (d9 (keep (by decide) h)); exact ⟨u0, b0, h1, h2.grown B', own_below h3 B'⟩)⟩
              · have hoj2 := hoj
                obtain rfl := Option.some.inj hoj
                have e8 := d8 (hwt ⟨8, .data⟩ (by simp) rfl)
                refine wpOp_value hoj2 rfl (exec_build1 eStrs _ rfl x52 rfl (own_cell e8)) ?_
                have B' : Below w'.heap.size w' (w'.alloc (.cells #[x52] 24)) := (Fresh.alloc w' (.cells #[x52] 24)).trans (Below.refl _ _) (Nat.le_refl _)
                exact ⟨x44, x45, x46, x47, x48, x49, x50, x51, x52, .slice (some ⟨w'.heap.size, 0, none⟩) 1 1, by first | (simp only [Act.put, List.setIfInBounds_toArray, List.set_cons_succ, List.set_cons_zero]; done) | (simp only [Act.put, List.setIfInBounds_toArray, List.set_cons_succ, List.set_cons_zero]; rfl) | rfl, Below.then HBw.out B', fun h => (d0 (keep (by decide) h)), fun h => (d1 (keep (by decide) h)), fun h => Exists.elim (d2 (keep (by decide) h)) fun b h => ⟨b, h.1, own_below h.2 B'⟩, fun h => (d3 (keep (by decide) h)), fun h => (d4 (keep (by decide) h)), fun h => (d5 (keep (by decide) h)), fun h => (d6 (keep (by decide) h)), fun h => (d7 (keep (by decide) h)), fun h => own_below (d8 (keep (by decide) h)) B', fun _ => ⟨_, _, rfl, IsS.new w' 24 [x52], own_below e8 B'⟩⟩
            case iendb =>
              rintro a' w' ⟨x44, x45, x46, x47, x48, x49, x50, x51, x52, x53, rfl, HBw, d0, d1, d2, d3, d4, d5, d6, d7, d8, d9⟩
              replace d0 := d0 rfl
              replace d1 := d1 rfl
              replace d2 := d2 rfl
              replace d3 := d3 rfl
              replace d4 := d4 rfl
              replace d5 := d5 rfl
              replace d6 := d6 rfl
              replace d7 := d7 rfl
              replace d8 := d8 rfl
              replace d9 := d9 rfl
              simp only [Act.put, List.setIfInBounds_toArray, List.set_cons_succ, List.set_cons_zero]
              simp only [List.drop_succ_cons, List.drop_zero]
              subst d1
              obtain ⟨u, bu, hx9, hIu, hOu⟩ := d9
              subst hx9
              clear d0 d2 d3 d4 d5 d6 d7 d8
              have kk := HK.out.below HBw.out
              have P5' := own_below H2.out HBw.out
              have B5 := Below.then HB.out HBw.out
              have u1 := own_cell hOu
              have O5 := own_raise hOu HB.out.size
              have t5 : True := trivial
              have t6 : True := trivial
              go_wp2_with (first
                | (clear t5; at_builtin; refine wpList_appM eStrs rfl _ _ rfl w.heap.size _ k vs rfl P5' _ 1 [u] rfl (row_isS hIu) rfl (by simp only [List.mem_singleton]; rintro x rfl; exact u1) (by omega) B5.size ?_; intro v6 W6 O6 G6; have B6 := grown_below B5 B5.size P5' G6; have K6 := KT.grow2 kk P5' G6; have h6 := own_cell O6)
                | (clear t6; refine wpList_store1 rfl 23 _ _ rfl rfl v6 rfl K6.c3 (by simp) info42 h6 ?_; intro W7 U7 D7; have B7 := U7.trans B6 hb3w))
              have HF : Hid (OwnRows W7 w.heap.size 24 9 1 v6 strE (p.regs.take (k + 1))) := (by
                show OwnRows _ _ _ _ _ _ _ _
                rw [HQ.out]
                refine rows_upd (OwnRows.snoc (vs := vs) (u := u) (by rw [HKL.out]; exact H1x.out) (by rw [HKL.out]; exact P5') (fun j u xs hu hx => own_below (H3.out j u xs hu hx) HBw.out) (by rw [HLN.out]; exact O5) (by rw [HKL.out]; exact O6) G6 (by decide)) K6.c3 U7 (by decide) (by decide))
              have HK7 : Hid (KT w W7 b1 b2 b3 [.slice at' nt ct, .slice (some ⟨b, o, none⟩) nr cr, .slice al nl cl, .slice ai ni ci, .slice aj nj cj] [vt1, v6, v9, v16, v13] v9 v13 v16 vt1 p.threads p) := K6.store U7 D7 n13 n23
              clear G6 O6 P5' hOu hIu K6 U7 D7 kk O5
              go_wp2_with fail
              go_roundw
              case rel => exact ⟨k + 1, by omega, by go_num, ⟨v6, HF, HK7⟩, B7⟩
              case measure => simp [intOf]; omega
          · have hki : ¬ (k : Int) < nr := by omega
            have HOF : Hid (OwnRows WR w.heap.size 24 9 1 vrow strE p.regs) := (by have := HO.out; rw [show k = p.regs.length by rw [HNR.out]; omega, List.take_length] at this; exact this)
            clear HO
            have k1 := HK.out
            have t7 : True := trivial
            have t8 : True := trivial
            have hb2w : w.heap.size ≤ b2 := hb2
            have h1 := own_cell k1.hl
            have h2 := own_cell k1.hj
            have h3 := OwnRows.cell k1.hi
            have h4 := OwnRows.cell k1.ot
            have h5 := OwnRows.cell HOF.out
            go_wp2_with (first
              | (clear t7; refine wpList_loadW rfl 28 _ rfl rfl k1.c3 _ Tryd.underlying28 rfl infoPg ?_)
              | (clear t8; refine wpList_storeW rfl 28 _ _ rfl rfl [vt1, vrow, v9, v16, v13] rfl k1.c2 rfl infoPg (one5 h4 h5 h1 h3 h2) ?_; intro W8 U8 D8; have B8 := U8.trans HB.out hb2w))
            refine ret_S (cs := [vt1, vrow, v9, v16, v13]) rfl rfl rfl D8 _ Tryd.underlying28 rfl infoPg ⟨⟨vt1, vrow, v9, v16, v13, rfl, ?_⟩, B8⟩
            exact ⟨(rows_upd k1.ot k1.c2 U8 (by decide) (by decide)).rows, (rows_upd HOF.out k1.c2 U8 (by decide) (by decide)).rows, own_row (own_upd k1.hl k1.c2 U8 (by decide)), (rows_upd k1.hi k1.c2 U8 (by decide) (by decide)).rows, own_row (own_upd k1.hj k1.c2 U8 (by decide))⟩
end Go.Proofs.YtdneaaegllpnlaaDoor

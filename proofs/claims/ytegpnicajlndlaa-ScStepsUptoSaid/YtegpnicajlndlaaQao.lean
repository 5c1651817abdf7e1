/- RC, SC1 -/
import Derived.Test.YtegpnicajlndlaaQag
import Derived.Test.YtegpnicajlndlaaSDX
import Derived.Test.YtegpnicajlndlaaQae
import Derived.Lib.LazyBuf
namespace Go.Proofs.Ytegpnicajlndlaa
open Go.RowKit M
set_option linter.unusedSimpArgs false
set_option linter.unusedVariables false
def OwnRows {α : Type} (W : World) (B t tin k : Nat) (v : Value) (enc : α → List Value) (xss : List (List α)) : Prop :=
 ∃ vs : List Value, vs.length = xss.length ∧ W.ownsRow B t 1 v xss.length vs ∧ ∀ (j : Nat) u xs, vs[j]? = some u → xss[j]? = some xs → W.ownsRow B tin k u xs.length (xs.flatMap enc)
theorem OwnRows.rows {α : Type} {W : World} {B t tin k : Nat} {v : Value} {enc : α → List Value} {xss : List (List α)} (h : OwnRows W B t tin k v enc xss) : RowsV W v enc xss := by
 obtain ⟨vs, h1, h2, h3⟩ := h; exact ⟨vs, h1, own_row h2, fun j u xs hu hx => own_row (h3 j u xs hu hx)⟩
theorem OwnRows.below {α : Type} {W W' : World} {B t tin k : Nat} {v : Value} {enc : α → List Value} {xss : List (List α)} (h : OwnRows W B t tin k v enc xss) (hB : Below W.heap.size W W') : OwnRows W' B t tin k v enc xss := by
 obtain ⟨vs, h1, h2, h3⟩ := h; exact ⟨vs, h1, own_below h2 hB, fun j u xs hu hx => own_below (h3 j u xs hu hx) hB⟩
theorem OwnRows.nil {α : Type} (W : World) (B t tin k : Nat) (enc : α → List Value) : OwnRows W B t tin k (.slice none 0 0) enc ([] : List (List α)) := ⟨[], rfl, own_nil _ _ _ _, fun j u xs hu => by simp at hu⟩
theorem own_grow {W W' : World} {B t tin k n m s : Nat} {v u : Value} {xs ys : List Value} (h : W.ownsRow B tin k u n xs) (ho : W.ownsRow B t s v m ys) (hg : W.grownBy W' v.ownBlock) (ht : tin ≠ t) : W'.ownsRow B tin k u n xs := by
 refine ⟨h.1, ?_⟩
 rcases h.2 with hn | ⟨g, cap, cur, rfl, hg1, hh, rest⟩
 · exact Or.inl hn
 · refine Or.inr ⟨g, cap, cur, rfl, hg1, (hg.block g (Array.getElem?_eq_some_iff.1 hh).1 (fun e => ?_)).trans hh, rest⟩
   rcases ho.2 with ⟨rfl, _⟩ | ⟨g', cap', cur', rfl, _, hh', _⟩
   · cases e
   · simp [Value.ownBlock] at e
     subst e
     rw [hh] at hh'
     simp at hh'
     exact ht hh'.2
theorem OwnRows.snoc {α : Type} {W W' : World} {B t tin k : Nat} {v v' u : Value} {enc : α → List Value} {xss : List (List α)} {xs : List α} {vs : List Value} (h1 : vs.length = xss.length) (h2 : W.ownsRow B t 1 v xss.length vs)
    (h3 : ∀ (j : Nat) u xs, vs[j]? = some u → xss[j]? = some xs → W.ownsRow B tin k u xs.length (xs.flatMap enc)) (hu : W.ownsRow B tin k u xs.length (xs.flatMap enc)) (ho : W'.ownsRow B t 1 v' (xss.length + 1) (vs ++ [u])) (hg : W.grownBy W' v.ownBlock) (ht : tin ≠ t) : OwnRows W' B t tin k v' enc (xss ++ [xs]) := by
 refine ⟨vs ++ [u], by simp [h1], by rw [List.length_append]; exact ho, fun j u' xs' hj hx => ?_⟩
 by_cases hlt : j < vs.length
 · rw [List.getElem?_append_left hlt] at hj
   rw [List.getElem?_append_left (by omega)] at hx
   exact own_grow (h3 j u' xs' hj hx) h2 hg ht
 · have hl := (List.getElem?_eq_some_iff.1 hj).1
   rw [List.length_append, List.length_singleton] at hl
   have e : j = vs.length := by omega
   subst e
   rw [List.getElem?_append_right (Nat.le_refl _), Nat.sub_self] at hj
   rw [List.getElem?_append_right (by omega), h1, Nat.sub_self] at hx
   cases hj; cases hx
   exact own_grow hu h2 hg ht
section
variable {w : World} {ops : Array Oper} {rest : List Oper} {op : Oper} {a : Act} {Q : Exit → Act → World → Prop} {t T k by' : Nat} {z : Value}
theorem wpList_build0E (E : Elt t T k z by') (hgd : op.guard = none) (ho : op.op = .buildSlice T 0 #[])
    (h : ∀ W b, Fresh w W b → W.ownsRow w.heap.size t k (.slice (some ⟨b, 0, none⟩) 0 0) 0 [] → wpList Try.prog ops Q rest (a.put op.dst (.slice (some ⟨b, 0, none⟩) 0 0)) W) : wpList Try.prog ops Q (op :: rest) a w := by
 refine wpList_plain hgd fun K hK => ?_
 unfold Oper.wp
 rw [exec_build0 E ho]
 exact hK _ _ (h _ _ (Fresh.alloc w _) (own_build0 E w))
theorem wpList_build1E (E : Elt t T 1 z by') (hgd : op.guard = none) (x : Operand) (ho : op.op = .buildSlice T 1 #[(0, x)]) (u : Value) (hx : a.eval x = u) (hc : u.oneCell' = true)
    (h : ∀ W b, Fresh w W b → IsS W b t [u] → wpList Try.prog ops Q rest (a.put op.dst (.slice (some ⟨b, 0, none⟩) 1 1)) W) : wpList Try.prog ops Q (op :: rest) a w := by
 refine wpList_plain hgd fun K hK => ?_
 unfold Oper.wp
 rw [exec_build1 E x ho u hx hc]
 exact hK _ _ (h _ _ (Fresh.alloc w _) (IsS.new w t [u]))
end
theorem own_raise {W : World} {B B' t s n : Nat} {v : Value} {xs : List Value} (h : W.ownsRow B' t s v n xs) (hb : B ≤ B') : W.ownsRow B t s v n xs := by
 refine ⟨h.1, ?_⟩
 rcases h.2 with hn | ⟨g, cap, cur, rfl, hg, rest⟩
 · exact Or.inl hn
 · exact Or.inr ⟨g, cap, cur, rfl, Nat.le_trans hb hg, rest⟩
theorem int_len (l : List Int) : (l.flatMap intE).length = l.length * 1 := by rw [show l.flatMap intE = l.map (Value.int .i64) from flat1 _ l]; simp
theorem str_len (l : List ByteArray) : (l.flatMap strE).length = l.length * 1 := by rw [show l.flatMap strE = l.map Value.string from flat1 _ l]; simp
theorem op_len (l : List Op5) : (l.flatMap op5L).length = l.length * 5 := by
 induction l with
 | nil => rfl
 | cons r l ih => rw [List.flatMap_cons, List.length_append, ih, List.length_cons]; simp [op5L]; omega
theorem int_one (l : List Int) : ∀ v ∈ l.flatMap intE, v.oneCell' = true := fun v hv => by
 obtain ⟨r, _, h⟩ := List.mem_flatMap.1 hv; simp [intE] at h; subst h; rfl
theorem str_one (l : List ByteArray) : ∀ v ∈ l.flatMap strE, v.oneCell' = true := fun v hv => by
 obtain ⟨r, _, h⟩ := List.mem_flatMap.1 hv; simp [strE] at h; subst h; rfl
theorem ops_one (l : List Op5) : ∀ v ∈ l.flatMap op5L, v.oneCell' = true := fun v hv => by
 obtain ⟨r, _, h⟩ := List.mem_flatMap.1 hv; exact op_one r v h
theorem own_cell {W : World} {B t s n : Nat} {v : Value} {xs : List Value} (h : W.ownsRow B t s v n xs) : v.oneCell' = true := by
 rcases h.2 with ⟨rfl, _⟩ | ⟨g, cap, cur, rfl, _⟩ <;> rfl
set_option maxRecDepth 100000 in
set_option maxHeartbeats 4000000 in
theorem rcopy_any (ri : List (List Int)) (hi : ri.length ≤ 1048576) (hii : ri.flatten.length ≤ 1048576) (ai : Option Addr) (ci : Nat) (w : World) (hR : RowsV w (.slice ai ri.length ci) intE ri) :
    Calls Try.prog 40 #[.slice ai ri.length ci] w fun en w' => (∃ v, en = .returned v ∧ OwnRows w' w.heap.size 26 2 1 v intE ri) ∧ Below w.heap.size w w' := by
 have HI : Hid (RowsV w (.slice ai ri.length ci) intE ri) := hR
 have HII : Hid (ri.flatten.length ≤ 1048576) := hii
 obtain ⟨ni, hni⟩ : ∃ n, ri.length = n := ⟨_, rfl⟩
 have HNI : Hid (ri.length = ni) := hni
 rw [hni] at HI hi ⊢
 clear hR hii hni
 go_enter Try.func40, Try.ntmps40
 go_wp2_with fail
 go_loopw [3, 4] (fun v i wr => ∃ k : Nat, k ≤ ni ∧ i = .int .i64 k ∧ Hid (OwnRows wr w.heap.size 26 2 1 v intE (ri.take k)) ∧ Hid (Below w.heap.size w wr)) (fun _ i _ => ni - (intOf i).toNat)
 case atStart => exact ⟨0, Nat.zero_le _, rfl, by show OwnRows _ _ _ _ _ _ _ _; rw [List.take_zero]; exact OwnRows.nil _ _ _ _ _ _, Below.refl _ _⟩
 case round =>
  obtain ⟨k, hk, rfl, HO, HB⟩ := hrel
  by_cases hlt : k < ni
  · have hki : (k : Int) < ni := by omega
    obtain ⟨q, hq⟩ : ∃ q, ri[k]? = some q := ⟨_, List.getElem?_eq_getElem (by rw [HNI.out]; exact hlt)⟩
    obtain ⟨bi, oi, ai', ci', rfl, hbi, hci, hsegi, hnil⟩ := (HI.out.below HB.out).at k q hq
    have hql : q.length ≤ 1048576 := Nat.le_trans (by have := flat_at hq (Nat.le_refl _); rw [List.take_length, List.length_append] at this; omega) HII.out
    have HQ : Hid (ri.take (k + 1) = ri.take k ++ [q]) := take_at hq
    have HRV : Hid (RowV wr (.slice ai' q.length ci') q.length (q.flatMap intE)) := ⟨ai', ci', rfl, hsegi, hnil⟩
    obtain ⟨vs, ho1, ho2, ho3⟩ := HO.out
    have hkl : (ri.take k).length = k := by rw [List.length_take, HNI.out]; omega
    rw [hkl] at ho1 ho2
    obtain ⟨av, cv, hv⟩ := own_form ho2
    subst hv
    obtain ⟨qn, hqn⟩ : ∃ n, q.length = n := ⟨_, rfl⟩
    have HQN : Hid (q.length = qn) := hqn
    have H1 : Hid (vs.length = k) := ho1
    have H2 : Hid (wr.ownsRow w.heap.size 26 1 (.slice av k cv) k vs) := ho2
    have H3 : Hid (∀ (j : Nat) u xs, vs[j]? = some u → (ri.take k)[j]? = some xs → wr.ownsRow w.heap.size 2 1 u xs.length (xs.flatMap intE)) := ho3
    have HKL : Hid ((ri.take k).length = k) := hkl
    rw [hqn] at hci hql HRV
    clear hq hsegi hnil ho1 ho2 ho3 hkl hqn HO
    have t1 : True := trivial
    have t2 : True := trivial
    have t3 : True := trivial
    have t4 : True := trivial
    go_wp2_with (first
     | (clear t1; refine wpList_build0E eInt rfl rfl ?_; intro W1 b1 F1 O1; have B1 := F1.trans HB.out HB.out.size; have Bx1 := F1.trans (Below.refl _ wr) (Nat.le_refl _); have hc1 : W1.cell? ⟨bi, oi + k, none⟩ = some (.slice ai' qn ci') := (by rw [Bx1.cell (p := ⟨bi, oi + k, none⟩) hbi]; exact hci); clear F1)
     | (clear t2; at_builtin; refine wpList_appM eInt rfl _ _ rfl wr.heap.size _ 0 [] rfl O1 _ qn (q.flatMap intE) rfl (HRV.out.below Bx1) (by rw [int_len, HQN.out]) (int_one q) (by omega) Bx1.size ?_; intro v2 W2 O2x G2; have Bx2 := grown_below Bx1 Bx1.size O1 G2; have O2 : W2.ownsRow w.heap.size 2 1 v2 qn (q.flatMap intE) := (by have h := own_raise O2x HB.out.size; rw [Nat.zero_add, List.nil_append] at h; exact h); have B2 := Below.then HB.out Bx2; clear G2 O2x O1 hc1)
     | (clear t3; refine wpList_build1E eInts rfl _ rfl v2 rfl (own_cell O2) ?_; intro W3 b3 F3 C3; have Bx3 := F3.trans Bx2 Bx2.size; have B3 := F3.trans B2 B2.size; have O3 := own_below O2 (F3.trans bR (Nat.le_refl _)); have P3 := own_below H2.out Bx3; clear F3 O2)
     | (clear t4; at_builtin; refine wpList_appM eInts rfl _ _ rfl w.heap.size _ k vs rfl P3 _ 1 [v2] rfl (row_isS C3) rfl (by simp [own_cell O3]) (by omega) B3.size ?_; intro v4 W4 O4 G4; have B4 := grown_below B3 B3.size P3 G4))
    have HF : Hid (OwnRows W4 w.heap.size 26 2 1 v4 intE (ri.take (k + 1))) := (by
     show OwnRows _ _ _ _ _ _ _ _
     rw [HQ.out]
     refine OwnRows.snoc (vs := vs) (u := v2) (by rw [HKL.out]; exact H1.out) (by rw [HKL.out]; exact P3) (fun j u xs hu hx => own_below (H3.out j u xs hu hx) Bx3) (by rw [HQN.out]; exact O3) (by rw [HKL.out]; exact O4) G4 (by decide))
    clear G4 O4 P3 O3 C3
    go_wp2_with fail
    go_roundw
    case rel => exact ⟨k + 1, by omega, by go_num, HF, B4⟩
    case measure => simp [intOf]; omega
  · have hki : ¬ (k : Int) < ni := by omega
    have HF : Hid (OwnRows wr w.heap.size 26 2 1 u3 intE ri) := (by have := HO.out; rw [show k = ri.length by rw [HNI.out]; omega, List.take_length] at this; exact this)
    go_wp2_with fail
    go_ret
    exact ⟨⟨_, rfl, HF.out⟩, HB.out⟩
theorem own_opn {w : World} {B t n : Nat} {v : Value} {xs : List Value} (h : w.ownsRow B t 1 v n xs) (h0 : 0 < n) :
    ∃ g c cs, v = .slice (some ⟨g, 0, none⟩) n c ∧ B ≤ g ∧ IsS w g t cs ∧ cs.take n = xs ∧ n ≤ c ∧ c ≤ maxLen ∧ cs.length = c := by
 rcases h.2 with ⟨_, h1⟩ | ⟨g, cap, cur, hv, hg, hh, hc, hm, hs, ht⟩
 · omega
 · exact ⟨g, cap, cur.toList, hv, hg, by unfold IsS; rw [hh], by rw [Nat.mul_one] at ht; exact ht, hc, hm, by simpa using hs⟩
theorem own_cls {w : World} {B g t n c : Nat} {cs xs : List Value} (hg : B ≤ g) (I : IsS w g t cs) (ht : cs.take n = xs) (hc : n ≤ c) (hm : c ≤ maxLen) (hs : cs.length = c) : w.ownsRow B t 1 (.slice (some ⟨g, 0, none⟩) n c) n xs := by
 refine ⟨?_, .inr ⟨g, c, cs.toArray, rfl, hg, I, hc, hm, by simp [hs], by rw [Nat.mul_one]; simpa using ht⟩⟩
 rw [← ht, List.length_take]; omega
theorem own_len {w : World} {B t n : Nat} {v : Value} {xs : List Value} (h : w.ownsRow B t 1 v n xs) : xs.length = n := by have := h.1; omega
theorem take_set {α : Type} (cs : List α) (n i : Nat) (x : α) : (cs.set i x).take n = (cs.take n).set i x := by
 refine List.ext_getElem? fun j => ?_
 by_cases hj : j < n
 · rw [List.getElem?_take, if_pos hj, List.getElem?_set, List.getElem?_set]
   split
   · rename_i h; subst h
     by_cases h2 : i < cs.length
     · rw [if_pos h2, if_pos (by rw [List.length_take]; omega)]
     · rw [if_neg h2, if_neg (by rw [List.length_take]; omega)]
   · rw [List.getElem?_take, if_pos hj]
 · rw [List.getElem?_take, if_neg hj, List.getElem?_eq_none (by rw [List.length_set, List.length_take]; omega)]
theorem int_set (xs : List Int) (i : Nat) (x : Int) : (xs.set i x).flatMap intE = (xs.flatMap intE).set i (.int .i64 x) := by
 rw [int_map, int_map, List.map_set]
theorem int_get {xs : List Int} {i : Nat} {x : Int} (h : xs[i]? = some x) : (xs.flatMap intE)[i]? = some (.int .i64 x) := int_at h
theorem own_same {w W : World} {B t s n : Nat} {v : Value} {xs : List Value} (h : w.ownsRow B t s v n xs) (hb : ∀ k, v.ownBlock = some k → W.heap[k]? = w.heap[k]?) : W.ownsRow B t s v n xs := by
 refine ⟨h.1, ?_⟩
 rcases h.2 with hn | ⟨g, cap, cur, rfl, hg, hh, rest⟩
 · exact Or.inl hn
 · exact Or.inr ⟨g, cap, cur, rfl, hg, (hb g rfl).trans hh, rest⟩
theorem own_lt {w : World} {B t s n k : Nat} {v : Value} {xs : List Value} (h : w.ownsRow B t s v n xs) (hk : v.ownBlock = some k) : B ≤ k ∧ k < w.heap.size := h.lt k hk
theorem made_one (z : Value) (n : Nat) : madeCells #[z] (n * 1) = (List.replicate n z).toArray := by
 apply Array.ext_getElem?
 intro t
 by_cases ht : t < n
 · have h1 : t < n * 1 := by omega
   simp [madeCells, ht, Nat.mod_one]
 · rw [Array.getElem?_eq_none (by simp [size_madeCells]; omega), Array.getElem?_eq_none (by simp; omega)]
section
variable {w : World} {ops : Array Oper} {rest : List Oper} {op : Oper} {a : Act} {Q : Exit → Act → World → Prop} {t T by' : Nat} {z : Value}
theorem exec_make1 (E : Elt t T 1 z by') (hz : z.cells = #[z]) (l c : Operand) (ho : op.op = .makeSlice T l c) (n : Nat) (hn : n ≤ 1048576) (hl : a.eval l = .int .i64 (n : Int)) (hc : a.eval c = .int .i64 (n : Int)) :
    (execOp a.eval op).run Try.prog w = .ok (.value (.slice (some ⟨w.heap.size, 0, none⟩) n n)) (w.alloc (.cells (List.replicate n z).toArray t)) := by
 obtain ⟨i0, hi, hz0, hz1, hz2⟩ := E.info
 have hfew := E.few
 have hb : (by' : Int) * (n : Int) ≤ 281474976710656 := by
  have h : by' * n ≤ 1024 * 1048576 := Nat.mul_le_mul hfew hn
  rw [← Int.natCast_mul]
  omega
 have hr := run_make (P := Try.prog) w T t i0 _ E.und hi hz0 .i64 .i64 n n (by omega) (by omega) (by rw [hz2]; exact hb) (by omega)
 unfold execOp
 simp only [ho, hl, hc, Sem.run_bind, hr, Result.andThen_ok, Sem.run_pure, hz1, Int.toNat_natCast, hz, made_one]
theorem wpList_make1 (E : Elt t T 1 z by') (hz : z.cells = #[z]) (hgd : op.guard = none) (l c : Operand) (ho : op.op = .makeSlice T l c) (n : Nat) (hn : n ≤ 1048576) (hl : a.eval l = .int .i64 (n : Int)) (hc : a.eval c = .int .i64 (n : Int))
    (h : ∀ W b, Fresh w W b → IsS W b t (List.replicate n z) → wpList Try.prog ops Q rest (a.put op.dst (.slice (some ⟨b, 0, none⟩) n n)) W) : wpList Try.prog ops Q (op :: rest) a w := by
 refine wpList_plain hgd fun K hK => ?_
 unfold Oper.wp
 rw [exec_make1 E hz l c ho n hn hl hc]
 exact hK _ _ (h _ _ (Fresh.alloc w _) (IsS.new w _ _))
end
theorem seg_none {w : World} {cs : List Value} (h : Seg w none cs) : cs = [] := by
 cases cs with
 | nil => rfl
 | cons v cs => obtain ⟨_, _, e, _⟩ := h 0 v rfl; cases e
set_option maxRecDepth 100000 in
set_option maxHeartbeats 2000000 in
theorem clone64_any (xs : List Int) (n c : Nat) (a : Option Addr) (hl : xs.length = n) (hn : n ≤ 1048576) (w : World) (hS : Seg w a (xs.flatMap intE)) (hz : a = none → c = 0) :
    Calls Try.prog 98 #[.slice a n c] w fun e w' => ∃ v, e = .returned v ∧ w'.ownsRow w.heap.size 2 1 v n (xs.flatMap intE) ∧ Below w.heap.size w w' := by
 have HL : Hid (xs.length = n) := hl
 cases a with
 | none =>
  have h0 := seg_none hS
  have hx : xs = [] := by
   cases xs with
   | nil => rfl
   | cons x xs => simp [intE] at h0
  subst hx
  have e1 : n = 0 := hl.symm
  subst e1
  have e2 := hz rfl
  subst e2
  clear hS hz hl
  have hq : ∀ w, (binOp .eql 26 (.slice none 0 0) (.slice none 0 0)).run Try.prog w = .ok (.bool true) w := fun w => Lib.run_eql_slice_nil w _ _ none 0 0 0 0 Try.underlying26
  go_enter Try.func98, Try.ntmps98
  go_wp2
  go_ret
  exact ⟨_, rfl, own_nil _ _ _ _, Below.refl _ _⟩
 | some ad =>
  have HRV : Hid (RowV w (.slice (some ad) n c) n (xs.flatMap intE)) := ⟨some ad, c, rfl, hS, hz⟩
  clear hS hz hl
  have t1 : True := trivial
  have t2 : True := trivial
  have hq : ∀ w, (binOp .eql 26 (.slice (some ad) n c) (.slice none 0 0)).run Try.prog w = .ok (.bool false) w := fun w => Lib.run_eql_slice_nil w _ _ (some ad) n c 0 0 Try.underlying26
  go_enter Try.func98, Try.ntmps98
  go_wp2_with (first
   | (clear t1; refine wpList_build0E eInt rfl rfl ?_; intro W1 b1 F1 O1; have B1 := F1.trans (Below.refl _ w) (Nat.le_refl _); clear F1)
   | (clear t2; at_builtin; refine wpList_appM eInt rfl _ _ rfl w.heap.size _ 0 [] rfl O1 _ n (xs.flatMap intE) rfl (HRV.out.below B1) (by rw [int_len, HL.out]) (int_one xs) (by omega) B1.size ?_; intro v2 W2 O2 G2; have B2 := grown_below B1 B1.size O1 G2; rw [Nat.zero_add, List.nil_append] at O2))
  go_ret
  exact ⟨_, rfl, O2, B2⟩
structure OwnA (w : World) (B : Nat) (v : Value) (vs : List Value) (xss : List (List Int)) : Prop where
 len : vs.length = xss.length
 out : w.ownsRow B 26 1 v xss.length vs
 row : ∀ (j : Nat) u xs, vs[j]? = some u → xss[j]? = some xs → w.ownsRow B 2 1 u xs.length (xs.flatMap intE)
 apart : ∀ (i j : Nat) u u' k, i ≠ j → vs[i]? = some u → vs[j]? = some u' → u.ownBlock = some k → u'.ownBlock ≠ some k
theorem info26 : (Try.prog.info? 26).map (·.size) = some 1 := by kernel_rfl
set_option maxRecDepth 100000 in
set_option maxHeartbeats 4000000 in
theorem clones64_any (ri : List (List Int)) (hi : ri.length ≤ 1048576) (hii : ri.flatten.length ≤ 1048576) (ai : Option Addr) (ci : Nat) (w : World) (hR : RowsV w (.slice ai ri.length ci) intE ri) :
    Calls Try.prog 97 #[.slice ai ri.length ci] w fun en w' => ∃ v, en = .returned v ∧ (∃ vs, OwnA w' w.heap.size v vs ri) ∧ Below w.heap.size w w' := by
 have HI : Hid (RowsV w (.slice ai ri.length ci) intE ri) := hR
 have HII : Hid (ri.flatten.length ≤ 1048576) := hii
 obtain ⟨ni, hni⟩ : ∃ n, ri.length = n := ⟨_, rfl⟩
 have HNI : Hid (ri.length = ni) := hni
 rw [hni] at HI hi ⊢
 clear hR hii hni
 have t1 : True := trivial
 go_enter Try.func97, Try.ntmps97
 go_wp2_with (first
  | (clear t1; refine wpList_make1 eInts rfl rfl _ _ rfl ni hi rfl rfl ?_; intro W1 g F1 I1; have B1 := F1.trans (Below.refl _ w) (Nat.le_refl _); have hg : w.heap.size ≤ g := Nat.le_of_eq F1.at'.symm; clear F1))
 have HI1 : Hid (IsS W1 g 26 (List.replicate ni (.slice none 0 0))) := I1
 clear I1
 go_loopw [10] (fun i wr => ∃ (k : Nat) (vs : List Value), k ≤ ni ∧ i = .int .i64 (k : Int) ∧ Hid (vs.length = k) ∧ Hid (IsS wr g 26 (vs ++ List.replicate (ni - k) (.slice none 0 0))) ∧ Hid (∀ (j : Nat) u xs, vs[j]? = some u → ri[j]? = some xs → wr.ownsRow w.heap.size 2 1 u xs.length (xs.flatMap intE)) ∧ Hid (∀ (i j : Nat) u u' k, i ≠ j → vs[i]? = some u → vs[j]? = some u' → u.ownBlock = some k → u'.ownBlock ≠ some k) ∧ Hid (∀ (j : Nat) u k, vs[j]? = some u → u.ownBlock = some k → k < wr.heap.size) ∧ Below w.heap.size w wr) (fun i _ => ni - (intOf i).toNat)
 case atStart => exact ⟨0, [], Nat.zero_le _, rfl, rfl, by rw [List.nil_append]; exact HI1, fun j u xs h => by simp at h, fun i j u u' k _ h => by simp at h, fun j u k h => by simp at h, B1⟩
 case round =>
  obtain ⟨k, vs, hk, rfl, HV, HG, HO, HA, HT, HB⟩ := hrel
  by_cases hlt : k < ni
  · have hki : (k : Int) < ni := by omega
    obtain ⟨q, hq⟩ : ∃ q, ri[k]? = some q := ⟨_, List.getElem?_eq_getElem (by rw [HNI.out]; exact hlt)⟩
    obtain ⟨bi, oi, ai', ci', rfl, hbi, hci, hsegi, hnil⟩ := (HI.out.below HB).at k q hq
    have hql : q.length ≤ 1048576 := Nat.le_trans (by have := flat_at hq (Nat.le_refl _); rw [List.take_length, List.length_append] at this; omega) HII.out
    have hcl := clone64_any q q.length ci' ai' rfl hql wr hsegi hnil
    obtain ⟨qn, hqn⟩ : ∃ n, q.length = n := ⟨_, rfl⟩
    have HQN : Hid (q.length = qn) := hqn
    have HQ : Hid (ri[k]? = some q) := hq
    rw [hqn] at hci hql hcl
    clear hq hsegi hnil hqn
    go_wp2_with (first
     | (go_at_call 98; refine hcl.mono ?_; rintro e W2 ⟨v2, rfl, O2, B2⟩; have G2 := HG.out.grown B2; clear hci)
     | (refine wpList_store1 rfl 26 _ _ rfl rfl v2 rfl G2 (by rw [List.length_append, HV.out, List.length_replicate]; omega) info26 (own_cell O2) ?_; intro W3 U3 G3))
    have hset : (vs ++ List.replicate (ni - k) (Value.slice none 0 0)).set k v2 = (vs ++ [v2]) ++ List.replicate (ni - (k + 1)) (Value.slice none 0 0) := by
     have hv := HV.out
     rw [show ni - k = (ni - (k + 1)) + 1 by omega, List.replicate_succ, List.set_append_right _ _ (by omega), hv, Nat.sub_self]
     simp
    have hne : ∀ (u : Value) (n : Nat) (xs : List Value) (W : World), W.ownsRow w.heap.size 2 1 u n xs → IsS W g 26 (vs ++ List.replicate (ni - k) (.slice none 0 0)) → u.ownBlock ≠ some g := fun u n xs W ho hi he => by
     rcases ho.2 with ⟨rfl, _⟩ | ⟨g', cap', cur', rfl, _, hh', _⟩
     · cases he
     · simp [Value.ownBlock] at he
       subst he
       unfold IsS at hi
       rw [hi] at hh'
       simp at hh'
    go_roundw
    case rel =>
     have hz2 := B2.size
     refine ⟨k + 1, vs ++ [v2], by omega, by go_num, by show _ = _; simp [HV.out], by show IsS _ _ _ _; rw [← hset]; exact G3, fun j u xs hu hx => ?_, fun i j u u' k' hij hu hu' hk' => ?_, fun j u k' hu hk' => ?_, U3.trans (Below.then HB B2) hg⟩
     · by_cases hj : j < vs.length
       · rw [List.getElem?_append_left hj] at hu
         have h1 := own_below (HO.out j u xs hu hx) B2
         exact own_same h1 fun k' hk' => U3.block k' (fun e => hne u _ _ W2 h1 G2 (by rw [hk', e]))
       · have hl := (List.getElem?_eq_some_iff.1 hu).1
         rw [List.length_append, List.length_singleton] at hl
         have ej : j = k := by have := HV.out; omega
         rw [List.getElem?_append_right (by omega), show j - vs.length = 0 by have := HV.out; omega] at hu
         simp at hu
         subst hu
         rw [ej, HQ.out] at hx
         cases hx
         have h1 := own_raise O2 HB.size
         rw [HQN.out]
         exact own_same h1 fun k' hk' => U3.block k' (fun e => hne v2 _ _ W2 h1 G2 (by rw [hk', e]))
     · have hv := HV.out
       have hi' := (List.getElem?_eq_some_iff.1 hu).1
       have hj' := (List.getElem?_eq_some_iff.1 hu').1
       rw [List.length_append, List.length_singleton] at hi' hj'
       intro hk2
       by_cases h1 : i < vs.length
       · rw [List.getElem?_append_left h1] at hu
         by_cases h2 : j < vs.length
         · rw [List.getElem?_append_left h2] at hu'
           exact HA.out i j u u' k' hij hu hu' hk' hk2
         · rw [List.getElem?_append_right (by omega), show j - vs.length = 0 by omega] at hu'
           simp at hu'
           subst hu'
           have := HT.out i u k' hu hk'
           have := (own_lt O2 hk2).1
           omega
       · rw [List.getElem?_append_right (by omega), show i - vs.length = 0 by omega] at hu
         simp at hu
         subst hu
         have h2 : j < vs.length := by omega
         rw [List.getElem?_append_left h2] at hu'
         have := HT.out j u' k' hu' hk2
         have := (own_lt O2 hk').1
         omega
     · have hv := HV.out
       have hj' := (List.getElem?_eq_some_iff.1 hu).1
       rw [List.length_append, List.length_singleton] at hj'
       rw [U3.size]
       by_cases h1 : j < vs.length
       · rw [List.getElem?_append_left h1] at hu
         have := HT.out j u k' hu hk'
         omega
       · rw [List.getElem?_append_right (by omega), show j - vs.length = 0 by omega] at hu
         simp at hu
         subst hu
         exact (own_lt O2 hk').2
    case measure => simp [intOf]; omega
  · have ek : k = ni := by omega
    subst ek
    have hki : ¬ ((k : Int) < k) := by omega
    have hG := HG.out
    rw [Nat.sub_self, List.replicate_zero, List.append_nil] at hG
    have HG' : Hid (IsS wr g 26 vs) := hG
    clear HG hG
    go_wp2
    go_ret
    refine ⟨_, rfl, ⟨vs, by rw [HNI.out]; exact HV.out, ?_, HO.out, HA.out⟩, HB⟩
    rw [HNI.out]
    exact own_cls hg HG'.out (by rw [List.take_of_length_le (by rw [HV.out]; exact Nat.le_refl _)]) (Nat.le_refl _) (by unfold maxLen; omega) HV.out
end Go.Proofs.Ytegpnicajlndlaa

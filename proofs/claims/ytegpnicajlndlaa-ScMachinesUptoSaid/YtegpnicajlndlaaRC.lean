/- RC -/
import Derived.Test.YtegpnicajlndlaaQak
namespace Go.Proofs.Ytegpnicajlndlaa
open Go.RowKit M
set_option linter.unusedSimpArgs false
set_option linter.unusedVariables false
def OwnRows {α : Type} (W : World) (B t tin k : Nat) (v : Value) (enc : α → List Value) (xss : List (List α)) : Prop :=
 ∃ vs : List Value, vs.length = xss.length ∧ W.ownsRow B t 1 v xss.length vs ∧ ∀ (j : Nat) u xs, vs[j]? = some u → xss[j]? = some xs → W.ownsRow B tin k u xs.length (xs.flatMap enc)
theorem OwnRows.rows {α : Type} {W : World} {B t tin k : Nat} {v : Value} {enc : α → List Value} {xss : List (List α)} (h : OwnRows W B t tin k v enc xss) : RowsV W v enc xss := by
 obtain ⟨vs, h1, h2, h3⟩ := h; exact ⟨vs, h1, own_row h2, fun j u xs hu hx => own_row (h3 j u xs hu hx)⟩
theorem OwnRows.below {α : Type} {W W' : World} {B t tin k : Nat} {v : Value} {enc : α → List Value} {xss : List (List α)} (h : OwnRows W B t tin k v enc xss) (hB : Below W.heap.size W W') : OwnRows W' B t tin k v enc xss := by
 obtain ⟨vs, h1, h2, h3⟩ := h; exact ⟨vs, h1, own_below h2 hB, fun j u xs hu hx => own_below (h3 j u xs hu hx) hB⟩
theorem OwnRows.nil {α : Type} (W : World) (B t tin k : Nat) (enc : α → List Value) : OwnRows W B t tin k (.slice none 0 0) enc ([] : List (List α)) := ⟨[], rfl, own_nil _ _ _ _, fun j u xs hu => by simp at hu⟩
theorem own_grow {W W' : World} {B t tin k n m s : Nat} {v u : Value} {xs ys : List Value} (h : W.ownsRow B tin k u n xs) (ho : W.ownsRow B t s v m ys) (hg : W.grownBy W' v.ownBlock) (ht : tin ≠ t) : W'.ownsRow B tin k u n xs := by
 refine ⟨h.1, ?_⟩
 rcases h.2 with hn | ⟨g, cap, cur, rfl, hg1, hh, rest⟩
 · exact Or.inl hn
 · refine Or.inr ⟨g, cap, cur, rfl, hg1, (hg.block g (Array.getElem?_eq_some_iff.1 hh).1 (fun e => ?_)).trans hh, rest⟩
   rcases ho.2 with ⟨rfl, _⟩ | ⟨g', cap', cur', rfl, _, hh', _⟩
   · cases e
   · simp [Value.ownBlock] at e
     subst e
     rw [hh] at hh'
     simp at hh'
     exact ht hh'.2
theorem OwnRows.snoc {α : Type} {W W' : World} {B t tin k : Nat} {v v' u : Value} {enc : α → List Value} {xss : List (List α)} {xs : List α} {vs : List Value} (h1 : vs.length = xss.length) (h2 : W.ownsRow B t 1 v xss.length vs)
    (h3 : ∀ (j : Nat) u xs, vs[j]? = some u → xss[j]? = some xs → W.ownsRow B tin k u xs.length (xs.flatMap enc)) (hu : W.ownsRow B tin k u xs.length (xs.flatMap enc)) (ho : W'.ownsRow B t 1 v' (xss.length + 1) (vs ++ [u])) (hg : W.grownBy W' v.ownBlock) (ht : tin ≠ t) : OwnRows W' B t tin k v' enc (xss ++ [xs]) := by
 refine ⟨vs ++ [u], by simp [h1], by rw [List.length_append]; exact ho, fun j u' xs' hj hx => ?_⟩
 by_cases hlt : j < vs.length
 · rw [List.getElem?_append_left hlt] at hj
   rw [List.getElem?_append_left (by omega)] at hx
   exact own_grow (h3 j u' xs' hj hx) h2 hg ht
 · have hl := (List.getElem?_eq_some_iff.1 hj).1
   rw [List.length_append, List.length_singleton] at hl
   have e : j = vs.length := by omega
   subst e
   rw [List.getElem?_append_right (Nat.le_refl _), Nat.sub_self] at hj
   rw [List.getElem?_append_right (by omega), h1, Nat.sub_self] at hx
   cases hj; cases hx
   exact own_grow hu h2 hg ht
section
variable {w : World} {ops : Array Oper} {rest : List Oper} {op : Oper} {a : Act} {Q : Exit → Act → World → Prop} {t T k by' : Nat} {z : Value}
theorem wpList_build0E (E : Elt t T k z by') (hgd : op.guard = none) (ho : op.op = .buildSlice T 0 #[])
    (h : ∀ W b, Fresh w W b → W.ownsRow w.heap.size t k (.slice (some ⟨b, 0, none⟩) 0 0) 0 [] → wpList Try.prog ops Q rest (a.put op.dst (.slice (some ⟨b, 0, none⟩) 0 0)) W) : wpList Try.prog ops Q (op :: rest) a w := by
 refine wpList_plain hgd fun K hK => ?_
 unfold Oper.wp
 rw [exec_build0 E ho]
 exact hK _ _ (h _ _ (Fresh.alloc w _) (own_build0 E w))
theorem wpList_build1E (E : Elt t T 1 z by') (hgd : op.guard = none) (x : Operand) (ho : op.op = .buildSlice T 1 #[(0, x)]) (u : Value) (hx : a.eval x = u) (hc : u.oneCell' = true)
    (h : ∀ W b, Fresh w W b → IsS W b t [u] → wpList Try.prog ops Q rest (a.put op.dst (.slice (some ⟨b, 0, none⟩) 1 1)) W) : wpList Try.prog ops Q (op :: rest) a w := by
 refine wpList_plain hgd fun K hK => ?_
 unfold Oper.wp
 rw [exec_build1 E x ho u hx hc]
 exact hK _ _ (h _ _ (Fresh.alloc w _) (IsS.new w t [u]))
end
theorem own_raise {W : World} {B B' t s n : Nat} {v : Value} {xs : List Value} (h : W.ownsRow B' t s v n xs) (hb : B ≤ B') : W.ownsRow B t s v n xs := by
 refine ⟨h.1, ?_⟩
 rcases h.2 with hn | ⟨g, cap, cur, rfl, hg, rest⟩
 · exact Or.inl hn
 · exact Or.inr ⟨g, cap, cur, rfl, Nat.le_trans hb hg, rest⟩
theorem int_len (l : List Int) : (l.flatMap intE).length = l.length * 1 := by rw [show l.flatMap intE = l.map (Value.int .i64) from flat1 _ l]; simp
theorem str_len (l : List ByteArray) : (l.flatMap strE).length = l.length * 1 := by rw [show l.flatMap strE = l.map Value.string from flat1 _ l]; simp
theorem op_len (l : List Op5) : (l.flatMap op5L).length = l.length * 5 := by
 induction l with
 | nil => rfl
 | cons r l ih => rw [List.flatMap_cons, List.length_append, ih, List.length_cons]; simp [op5L]; omega
theorem int_one (l : List Int) : ∀ v ∈ l.flatMap intE, v.oneCell' = true := fun v hv => by
 obtain ⟨r, _, h⟩ := List.mem_flatMap.1 hv; simp [intE] at h; subst h; rfl
theorem str_one (l : List ByteArray) : ∀ v ∈ l.flatMap strE, v.oneCell' = true := fun v hv => by
 obtain ⟨r, _, h⟩ := List.mem_flatMap.1 hv; simp [strE] at h; subst h; rfl
theorem ops_one (l : List Op5) : ∀ v ∈ l.flatMap op5L, v.oneCell' = true := fun v hv => by
 obtain ⟨r, _, h⟩ := List.mem_flatMap.1 hv; exact op_one r v h
theorem own_cell {W : World} {B t s n : Nat} {v : Value} {xs : List Value} (h : W.ownsRow B t s v n xs) : v.oneCell' = true := by
 rcases h.2 with ⟨rfl, _⟩ | ⟨g, cap, cur, rfl, _⟩ <;> rfl
set_option maxRecDepth 100000 in
set_option maxHeartbeats 4000000 in
theorem rcopy_any (ri : List (List Int)) (hi : ri.length ≤ 1048576) (hii : ri.flatten.length ≤ 1048576) (ai : Option Addr) (ci : Nat) (w : World) (hR : RowsV w (.slice ai ri.length ci) intE ri) :
    Calls Try.prog 40 #[.slice ai ri.length ci] w fun en w' => (∃ v, en = .returned v ∧ OwnRows w' w.heap.size 26 2 1 v intE ri) ∧ Below w.heap.size w w' := by
 have HI : Hid (RowsV w (.slice ai ri.length ci) intE ri) := hR
 have HII : Hid (ri.flatten.length ≤ 1048576) := hii
 obtain ⟨ni, hni⟩ : ∃ n, ri.length = n := ⟨_, rfl⟩
 have HNI : Hid (ri.length = ni) := hni
 rw [hni] at HI hi ⊢
 clear hR hii hni
 go_enter Try.func40, Try.ntmps40
 go_wp2_with fail
 go_loopw [3, 4] (fun v i wr => ∃ k : Nat, k ≤ ni ∧ i = .int .i64 k ∧ Hid (OwnRows wr w.heap.size 26 2 1 v intE (ri.take k)) ∧ Hid (Below w.heap.size w wr)) (fun _ i _ => ni - (intOf i).toNat)
 case atStart => exact ⟨0, Nat.zero_le _, rfl, by show OwnRows _ _ _ _ _ _ _ _; rw [List.take_zero]; exact OwnRows.nil _ _ _ _ _ _, Below.refl _ _⟩
 case round =>
  obtain ⟨k, hk, rfl, HO, HB⟩ := hrel
  by_cases hlt : k < ni
  · have hki : (k : Int) < ni := by omega
    obtain ⟨q, hq⟩ : ∃ q, ri[k]? = some q := ⟨_, List.getElem?_eq_getElem (by rw [HNI.out]; exact hlt)⟩
    obtain ⟨bi, oi, ai', ci', rfl, hbi, hci, hsegi, hnil⟩ := (HI.out.below HB.out).at k q hq
    have hql : q.length ≤ 1048576 := Nat.le_trans (by have := flat_at hq (Nat.le_refl _); rw [List.take_length, List.length_append] at this; omega) HII.out
    have HQ : Hid (ri.take (k + 1) = ri.take k ++ [q]) := take_at hq
    have HRV : Hid (RowV wr (.slice ai' q.length ci') q.length (q.flatMap intE)) := ⟨ai', ci', rfl, hsegi, hnil⟩
    obtain ⟨vs, ho1, ho2, ho3⟩ := HO.out
    have hkl : (ri.take k).length = k := by rw [List.length_take, HNI.out]; omega
    rw [hkl] at ho1 ho2
    obtain ⟨av, cv, hv⟩ := own_form ho2
    subst hv
    obtain ⟨qn, hqn⟩ : ∃ n, q.length = n := ⟨_, rfl⟩
    have HQN : Hid (q.length = qn) := hqn
    have H1 : Hid (vs.length = k) := ho1
    have H2 : Hid (wr.ownsRow w.heap.size 26 1 (.slice av k cv) k vs) := ho2
    have H3 : Hid (∀ (j : Nat) u xs, vs[j]? = some u → (ri.take k)[j]? = some xs → wr.ownsRow w.heap.size 2 1 u xs.length (xs.flatMap intE)) := ho3
    have HKL : Hid ((ri.take k).length = k) := hkl
    rw [hqn] at hci hql HRV
    clear hq hsegi hnil ho1 ho2 ho3 hkl hqn HO
    have t1 : True := trivial
    have t2 : True := trivial
    have t3 : True := trivial
    have t4 : True := trivial
    go_wp2_with (first
     | (clear t1; refine wpList_build0E eInt rfl rfl ?_; intro W1 b1 F1 O1; have B1 := F1.trans HB.out HB.out.size; have Bx1 := F1.trans (Below.refl _ wr) (Nat.le_refl _); have hc1 : W1.cell? ⟨bi, oi + k, none⟩ = some (.slice ai' qn ci') := (by rw [Bx1.cell (p := ⟨bi, oi + k, none⟩) hbi]; exact hci); clear F1)
     | (clear t2; at_builtin; refine wpList_appM eInt rfl _ _ rfl wr.heap.size _ 0 [] rfl O1 _ qn (q.flatMap intE) rfl (HRV.out.below Bx1) (by rw [int_len, HQN.out]) (int_one q) (by omega) Bx1.size ?_; intro v2 W2 O2x G2; have Bx2 := grown_below Bx1 Bx1.size O1 G2; have O2 : W2.ownsRow w.heap.size 2 1 v2 qn (q.flatMap intE) := (by have h := own_raise O2x HB.out.size; rw [Nat.zero_add, List.nil_append] at h; exact h); have B2 := Below.then HB.out Bx2; clear G2 O2x O1 hc1)
     | (clear t3; refine wpList_build1E eInts rfl _ rfl v2 rfl (own_cell O2) ?_; intro W3 b3 F3 C3; have Bx3 := F3.trans Bx2 Bx2.size; have B3 := F3.trans B2 B2.size; have O3 := own_below O2 (F3.trans bR (Nat.le_refl _)); have P3 := own_below H2.out Bx3; clear F3 O2)
     | (clear t4; at_builtin; refine wpList_appM eInts rfl _ _ rfl w.heap.size _ k vs rfl P3 _ 1 [v2] rfl (row_isS C3) rfl (by simp [own_cell O3]) (by omega) B3.size ?_; intro v4 W4 O4 G4; have B4 := grown_below B3 B3.size P3 G4))
    have HF : Hid (OwnRows W4 w.heap.size 26 2 1 v4 intE (ri.take (k + 1))) := (by
     show OwnRows _ _ _ _ _ _ _ _
     rw [HQ.out]
     refine OwnRows.snoc (vs := vs) (u := v2) (by rw [HKL.out]; exact H1.out) (by rw [HKL.out]; exact P3) (fun j u xs hu hx => own_below (H3.out j u xs hu hx) Bx3) (by rw [HQN.out]; exact O3) (by rw [HKL.out]; exact O4) G4 (by decide))
    clear G4 O4 P3 O3 C3
    go_wp2_with fail
    go_roundw
    case rel => exact ⟨k + 1, by omega, by go_num, HF, B4⟩
    case measure => simp [intOf]; omega
  · have hki : ¬ (k : Int) < ni := by omega
    have HF : Hid (OwnRows wr w.heap.size 26 2 1 u3 intE ri) := (by have := HO.out; rw [show k = ri.length by rw [HNI.out]; omega, List.take_length] at this; exact this)
    go_wp2_with fail
    go_ret
    exact ⟨⟨_, rfl, HF.out⟩, HB.out⟩
end Go.Proofs.Ytegpnicajlndlaa

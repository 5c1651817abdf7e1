/- SC1, SC2, SC3, SC4 -/
import Derived.Test.YtegpnicajlndlaaQap
import Derived.Test.YtegpnicajlndlaaRC
import Derived.Test.YtegpnicajlndlaaQag
import Derived.Lib.LazyBuf
namespace Go.Proofs.Ytegpnicajlndlaa
open Go.RowKit M
set_option linter.unusedSimpArgs false
set_option linter.unusedVariables false
theorem own_opn {w : World} {B t n : Nat} {v : Value} {xs : List Value} (h : w.ownsRow B t 1 v n xs) (h0 : 0 < n) :
    ∃ g c cs, v = .slice (some ⟨g, 0, none⟩) n c ∧ B ≤ g ∧ IsS w g t cs ∧ cs.take n = xs ∧ n ≤ c ∧ c ≤ maxLen ∧ cs.length = c := by
 rcases h.2 with ⟨_, h1⟩ | ⟨g, cap, cur, hv, hg, hh, hc, hm, hs, ht⟩
 · omega
 · exact ⟨g, cap, cur.toList, hv, hg, by unfold IsS; rw [hh], by rw [Nat.mul_one] at ht; exact ht, hc, hm, by simpa using hs⟩
theorem own_cls {w : World} {B g t n c : Nat} {cs xs : List Value} (hg : B ≤ g) (I : IsS w g t cs) (ht : cs.take n = xs) (hc : n ≤ c) (hm : c ≤ maxLen) (hs : cs.length = c) : w.ownsRow B t 1 (.slice (some ⟨g, 0, none⟩) n c) n xs := by
 refine ⟨?_, .inr ⟨g, c, cs.toArray, rfl, hg, I, hc, hm, by simp [hs], by rw [Nat.mul_one]; simpa using ht⟩⟩
 rw [← ht, List.length_take]; omega
theorem take_set {α : Type} (cs : List α) (n i : Nat) (x : α) : (cs.set i x).take n = (cs.take n).set i x := by
 refine List.ext_getElem? fun j => ?_
 by_cases hj : j < n
 · rw [List.getElem?_take, if_pos hj, List.getElem?_set, List.getElem?_set]
   split
   · rename_i h; subst h
     by_cases h2 : i < cs.length
     · rw [if_pos h2, if_pos (by rw [List.length_take]; omega)]
     · rw [if_neg h2, if_neg (by rw [List.length_take]; omega)]
   · rw [List.getElem?_take, if_pos hj]
 · rw [List.getElem?_take, if_neg hj, List.getElem?_eq_none (by rw [List.length_set, List.length_take]; omega)]
theorem int_set (xs : List Int) (i : Nat) (x : Int) : (xs.set i x).flatMap intE = (xs.flatMap intE).set i (.int .i64 x) := by
 rw [int_map, int_map, List.map_set]
theorem own_same {w W : World} {B t s n : Nat} {v : Value} {xs : List Value} (h : w.ownsRow B t s v n xs) (hb : ∀ k, v.ownBlock = some k → W.heap[k]? = w.heap[k]?) : W.ownsRow B t s v n xs := by
 refine ⟨h.1, ?_⟩
 rcases h.2 with hn | ⟨g, cap, cur, rfl, hg, hh, rest⟩
 · exact Or.inl hn
 · exact Or.inr ⟨g, cap, cur, rfl, hg, (hb g rfl).trans hh, rest⟩
theorem own_lt {w : World} {B t s n k : Nat} {v : Value} {xs : List Value} (h : w.ownsRow B t s v n xs) (hk : v.ownBlock = some k) : B ≤ k ∧ k < w.heap.size := h.lt k hk
theorem made_one (z : Value) (n : Nat) : madeCells #[z] (n * 1) = (List.replicate n z).toArray := by
 apply Array.ext_getElem?
 intro t
 by_cases ht : t < n
 · have h1 : t < n * 1 := by omega
   simp [madeCells, ht, Nat.mod_one]
 · rw [Array.getElem?_eq_none (by simp [size_madeCells]; omega), Array.getElem?_eq_none (by simp; omega)]
section
variable {w : World} {ops : Array Oper} {rest : List Oper} {op : Oper} {a : Act} {Q : Exit → Act → World → Prop} {t T by' : Nat} {z : Value}
theorem exec_make1 (E : Elt t T 1 z by') (hz : z.cells = #[z]) (l c : Operand) (ho : op.op = .makeSlice T l c) (n : Nat) (hn : n ≤ 1048576) (hl : a.eval l = .int .i64 (n : Int)) (hc : a.eval c = .int .i64 (n : Int)) :
    (execOp a.eval op).run Try.prog w = .ok (.value (.slice (some ⟨w.heap.size, 0, none⟩) n n)) (w.alloc (.cells (List.replicate n z).toArray t)) := by
 obtain ⟨i0, hi, hz0, hz1, hz2⟩ := E.info
 have hfew := E.few
 have hb : (by' : Int) * (n : Int) ≤ 281474976710656 := by
  have h : by' * n ≤ 1024 * 1048576 := Nat.mul_le_mul hfew hn
  rw [← Int.natCast_mul]
  omega
 have hr := run_make (P := Try.prog) w T t i0 _ E.und hi hz0 .i64 .i64 n n (by omega) (by omega) (by rw [hz2]; exact hb) (by omega)
 unfold execOp
 simp only [ho, hl, hc, Sem.run_bind, hr, Result.andThen_ok, Sem.run_pure, hz1, Int.toNat_natCast, hz, made_one]
theorem wpList_make1 (E : Elt t T 1 z by') (hz : z.cells = #[z]) (hgd : op.guard = none) (l c : Operand) (ho : op.op = .makeSlice T l c) (n : Nat) (hn : n ≤ 1048576) (hl : a.eval l = .int .i64 (n : Int)) (hc : a.eval c = .int .i64 (n : Int))
    (h : ∀ W b, Fresh w W b → IsS W b t (List.replicate n z) → wpList Try.prog ops Q rest (a.put op.dst (.slice (some ⟨b, 0, none⟩) n n)) W) : wpList Try.prog ops Q (op :: rest) a w := by
 refine wpList_plain hgd fun K hK => ?_
 unfold Oper.wp
 rw [exec_make1 E hz l c ho n hn hl hc]
 exact hK _ _ (h _ _ (Fresh.alloc w _) (IsS.new w _ _))
end
theorem seg_none {w : World} {cs : List Value} (h : Seg w none cs) : cs = [] := by
 cases cs with
 | nil => rfl
 | cons v cs => obtain ⟨_, _, e, _⟩ := h 0 v rfl; cases e
set_option maxRecDepth 100000 in
set_option maxHeartbeats 2000000 in
theorem clone64_any (xs : List Int) (n c : Nat) (a : Option Addr) (hl : xs.length = n) (hn : n ≤ 1048576) (w : World) (hS : Seg w a (xs.flatMap intE)) (hz : a = none → c = 0) :
    Calls Try.prog 98 #[.slice a n c] w fun e w' => ∃ v, e = .returned v ∧ w'.ownsRow w.heap.size 2 1 v n (xs.flatMap intE) ∧ Below w.heap.size w w' := by
 have HL : Hid (xs.length = n) := hl
 cases a with
 | none =>
  have h0 := seg_none hS
  have hx : xs = [] := by
   cases xs with
   | nil => rfl
   | cons x xs => simp [intE] at h0
  subst hx
  have e1 : n = 0 := hl.symm
  subst e1
  have e2 := hz rfl
  subst e2
  clear hS hz hl
  have hq : ∀ w, (binOp .eql 26 (.slice none 0 0) (.slice none 0 0)).run Try.prog w = .ok (.bool true) w := fun w => Lib.run_eql_slice_nil w _ _ none 0 0 0 0 Try.underlying26
  go_enter Try.func98, Try.ntmps98
  go_wp2
  go_ret
  exact ⟨_, rfl, own_nil _ _ _ _, Below.refl _ _⟩
 | some ad =>
  have HRV : Hid (RowV w (.slice (some ad) n c) n (xs.flatMap intE)) := ⟨some ad, c, rfl, hS, hz⟩
  clear hS hz hl
  have t1 : True := trivial
  have t2 : True := trivial
  have hq : ∀ w, (binOp .eql 26 (.slice (some ad) n c) (.slice none 0 0)).run Try.prog w = .ok (.bool false) w := fun w => Lib.run_eql_slice_nil w _ _ (some ad) n c 0 0 Try.underlying26
  go_enter Try.func98, Try.ntmps98
  go_wp2_with (first
   | (clear t1; refine wpList_build0E eInt rfl rfl ?_; intro W1 b1 F1 O1; have B1 := F1.trans (Below.refl _ w) (Nat.le_refl _); clear F1)
   | (clear t2; at_builtin; refine wpList_appM eInt rfl _ _ rfl w.heap.size _ 0 [] rfl O1 _ n (xs.flatMap intE) rfl (HRV.out.below B1) (by rw [int_len, HL.out]) (int_one xs) (by omega) B1.size ?_; intro v2 W2 O2 G2; have B2 := grown_below B1 B1.size O1 G2; rw [Nat.zero_add, List.nil_append] at O2))
  go_ret
  exact ⟨_, rfl, O2, B2⟩
structure OwnA (w : World) (B : Nat) (v : Value) (vs : List Value) (xss : List (List Int)) : Prop where
 len : vs.length = xss.length
 out : w.ownsRow B 26 1 v xss.length vs
 row : ∀ (j : Nat) u xs, vs[j]? = some u → xss[j]? = some xs → w.ownsRow B 2 1 u xs.length (xs.flatMap intE)
 apart : ∀ (i j : Nat) u u' k, i ≠ j → vs[i]? = some u → vs[j]? = some u' → u.ownBlock = some k → u'.ownBlock ≠ some k
theorem info26 : (Try.prog.info? 26).map (·.size) = some 1 := by kernel_rfl
set_option maxRecDepth 100000 in
set_option maxHeartbeats 4000000 in
theorem clones64_any (ri : List (List Int)) (hi : ri.length ≤ 1048576) (hii : ri.flatten.length ≤ 1048576) (ai : Option Addr) (ci : Nat) (w : World) (hR : RowsV w (.slice ai ri.length ci) intE ri) :
    Calls Try.prog 97 #[.slice ai ri.length ci] w fun en w' => ∃ v, en = .returned v ∧ (∃ vs, OwnA w' w.heap.size v vs ri) ∧ Below w.heap.size w w' := by
 have HI : Hid (RowsV w (.slice ai ri.length ci) intE ri) := hR
 have HII : Hid (ri.flatten.length ≤ 1048576) := hii
 obtain ⟨ni, hni⟩ : ∃ n, ri.length = n := ⟨_, rfl⟩
 have HNI : Hid (ri.length = ni) := hni
 rw [hni] at HI hi ⊢
 clear hR hii hni
 have t1 : True := trivial
 go_enter Try.func97, Try.ntmps97
 go_wp2_with (first
  | (clear t1; refine wpList_make1 eInts rfl rfl _ _ rfl ni hi rfl rfl ?_; intro W1 g F1 I1; have B1 := F1.trans (Below.refl _ w) (Nat.le_refl _); have hg : w.heap.size ≤ g := Nat.le_of_eq F1.at'.symm; clear F1))
 have HI1 : Hid (IsS W1 g 26 (List.replicate ni (.slice none 0 0))) := I1
 clear I1
 go_loopw [10] (fun i wr => ∃ (k : Nat) (vs : List Value), k ≤ ni ∧ i = .int .i64 (k : Int) ∧ Hid (vs.length = k) ∧ Hid (IsS wr g 26 (vs ++ List.replicate (ni - k) (.slice none 0 0))) ∧ Hid (∀ (j : Nat) u xs, vs[j]? = some u → ri[j]? = some xs → wr.ownsRow w.heap.size 2 1 u xs.length (xs.flatMap intE)) ∧ Hid (∀ (i j : Nat) u u' k, i ≠ j → vs[i]? = some u → vs[j]? = some u' → u.ownBlock = some k → u'.ownBlock ≠ some k) ∧ Hid (∀ (j : Nat) u k, vs[j]? = some u → u.ownBlock = some k → k < wr.heap.size) ∧ Below w.heap.size w wr) (fun i _ => ni - (intOf i).toNat)
 case atStart => exact ⟨0, [], Nat.zero_le _, rfl, rfl, by rw [List.nil_append]; exact HI1, fun j u xs h => by simp at h, fun i j u u' k _ h => by simp at h, fun j u k h => by simp at h, B1⟩
 case round =>
  obtain ⟨k, vs, hk, rfl, HV, HG, HO, HA, HT, HB⟩ := hrel
  by_cases hlt : k < ni
  · have hki : (k : Int) < ni := by omega
    obtain ⟨q, hq⟩ : ∃ q, ri[k]? = some q := ⟨_, List.getElem?_eq_getElem (by rw [HNI.out]; exact hlt)⟩
    obtain ⟨bi, oi, ai', ci', rfl, hbi, hci, hsegi, hnil⟩ := (HI.out.below HB).at k q hq
    have hql : q.length ≤ 1048576 := Nat.le_trans (by have := flat_at hq (Nat.le_refl _); rw [List.take_length, List.length_append] at this; omega) HII.out
    have hcl := clone64_any q q.length ci' ai' rfl hql wr hsegi hnil
    obtain ⟨qn, hqn⟩ : ∃ n, q.length = n := ⟨_, rfl⟩
    have HQN : Hid (q.length = qn) := hqn
    have HQ : Hid (ri[k]? = some q) := hq
    rw [hqn] at hci hql hcl
    clear hq hsegi hnil hqn
    go_wp2_with (first
     | (go_at_call 98; refine hcl.mono ?_; rintro e W2 ⟨v2, rfl, O2, B2⟩; have G2 := HG.out.grown B2; clear hci)
     | (refine wpList_store1 rfl 26 _ _ rfl rfl v2 rfl G2 (by rw [List.length_append, HV.out, List.length_replicate]; omega) info26 (own_cell O2) ?_; intro W3 U3 G3))
    have hset : (vs ++ List.replicate (ni - k) (Value.slice none 0 0)).set k v2 = (vs ++ [v2]) ++ List.replicate (ni - (k + 1)) (Value.slice none 0 0) := by
     have hv := HV.out
     rw [show ni - k = (ni - (k + 1)) + 1 by omega, List.replicate_succ, List.set_append_right _ _ (by omega), hv, Nat.sub_self]
     simp
    have hne : ∀ (u : Value) (n : Nat) (xs : List Value) (W : World), W.ownsRow w.heap.size 2 1 u n xs → IsS W g 26 (vs ++ List.replicate (ni - k) (.slice none 0 0)) → u.ownBlock ≠ some g := fun u n xs W ho hi he => by
     rcases ho.2 with ⟨rfl, _⟩ | ⟨g', cap', cur', rfl, _, hh', _⟩
     · cases he
     · simp [Value.ownBlock] at he
       subst he
       unfold IsS at hi
       rw [hi] at hh'
       simp at hh'
    go_roundw
    case rel =>
     have hz2 := B2.size
     refine ⟨k + 1, vs ++ [v2], by omega, by go_num, by show _ = _; simp [HV.out], by show IsS _ _ _ _; rw [← hset]; exact G3, fun j u xs hu hx => ?_, fun i j u u' k' hij hu hu' hk' => ?_, fun j u k' hu hk' => ?_, U3.trans (Below.then HB B2) hg⟩
     · by_cases hj : j < vs.length
       · rw [List.getElem?_append_left hj] at hu
         have h1 := own_below (HO.out j u xs hu hx) B2
         exact own_same h1 fun k' hk' => U3.block k' (fun e => hne u _ _ W2 h1 G2 (by rw [hk', e]))
       · have hl := (List.getElem?_eq_some_iff.1 hu).1
         rw [List.length_append, List.length_singleton] at hl
         have ej : j = k := by have := HV.out; omega
         rw [List.getElem?_append_right (by omega), show j - vs.length = 0 by have := HV.out; omega] at hu
         simp at hu
         subst hu
         rw [ej, HQ.out] at hx
         cases hx
         have h1 := own_raise O2 HB.size
         rw [HQN.out]
         exact own_same h1 fun k' hk' => U3.block k' (fun e => hne v2 _ _ W2 h1 G2 (by rw [hk', e]))
     · have hv := HV.out
       have hi' := (List.getElem?_eq_some_iff.1 hu).1
       have hj' := (List.getElem?_eq_some_iff.1 hu').1
       rw [List.length_append, List.length_singleton] at hi' hj'
       intro hk2
       by_cases h1 : i < vs.length
       · rw [List.getElem?_append_left h1] at hu
         by_cases h2 : j < vs.length
         · rw [List.getElem?_append_left h2] at hu'
           exact HA.out i j u u' k' hij hu hu' hk' hk2
         · rw [List.getElem?_append_right (by omega), show j - vs.length = 0 by omega] at hu'
           simp at hu'
           subst hu'
           have := HT.out i u k' hu hk'
           have := (own_lt O2 hk2).1
           omega
       · rw [List.getElem?_append_right (by omega), show i - vs.length = 0 by omega] at hu
         simp at hu
         subst hu
         have h2 : j < vs.length := by omega
         rw [List.getElem?_append_left h2] at hu'
         have := HT.out j u' k' hu' hk2
         have := (own_lt O2 hk').1
         omega
     · have hv := HV.out
       have hj' := (List.getElem?_eq_some_iff.1 hu).1
       rw [List.length_append, List.length_singleton] at hj'
       rw [U3.size]
       by_cases h1 : j < vs.length
       · rw [List.getElem?_append_left h1] at hu
         have := HT.out j u k' hu hk'
         omega
       · rw [List.getElem?_append_right (by omega), show j - vs.length = 0 by omega] at hu
         simp at hu
         subst hu
         exact (own_lt O2 hk').2
    case measure => simp [intOf]; omega
  · have ek : k = ni := by omega
    subst ek
    have hki : ¬ ((k : Int) < k) := by omega
    have hG := HG.out
    rw [Nat.sub_self, List.replicate_zero, List.append_nil] at hG
    have HG' : Hid (IsS wr g 26 vs) := hG
    clear HG hG
    go_wp2
    go_ret
    refine ⟨_, rfl, ⟨vs, by rw [HNI.out]; exact HV.out, ?_, HO.out, HA.out⟩, HB⟩
    rw [HNI.out]
    exact own_cls hg HG'.out (by rw [List.take_of_length_le (by rw [HV.out]; exact Nat.le_refl _)]) (Nat.le_refl _) (by unfold maxLen; omega) HV.out
theorem put_own {W : World} {B g t n c i : Nat} {cs : List Value} {xs : List Int} {x : Int} (hg : B ≤ g) (I : IsS W g t (cs.set (0 + i) (.int .i64 x))) (ht : cs.take n = xs.flatMap intE) (hc : n ≤ c) (hm : c ≤ maxLen) (hs : cs.length = c) : W.ownsRow B t 1 (.slice (some ⟨g, 0, none⟩) n c) n ((xs.set i x).flatMap intE) :=
 own_cls hg I (by rw [Nat.zero_add, take_set, ht, int_set]) hc hm (by rw [List.length_set]; exact hs)
theorem nat_of {x : Int} {n : Nat} (h : 0 ≤ x ∧ x < n) : ∃ i : Nat, x = (i : Int) ∧ i < n := ⟨x.toNat, by omega, by omega⟩
theorem ldcIs {b o : Nat} {v : Value} (w : World) (h : w.cell? ⟨b, o, none⟩ = some v) : (Instr.loadAt 29 (.pointer (some ⟨b, o, none⟩))).run Try.prog w = .ok v w := by simp [go_sem, h]
theorem ldcRr {b o : Nat} {v : Value} (w : World) (h : w.cell? ⟨b, o, none⟩ = some v) : (Instr.loadAt 25 (.pointer (some ⟨b, o, none⟩))).run Try.prog w = .ok v w := by simp [go_sem, h]
theorem ldcR {b o : Nat} {v : Value} (w : World) (h : w.cell? ⟨b, o, none⟩ = some v) : (Instr.loadAt 26 (.pointer (some ⟨b, o, none⟩))).run Try.prog w = .ok v w := by simp [go_sem, h]
theorem ldcI {b o : Nat} {v : Value} (w : World) (h : w.cell? ⟨b, o, none⟩ = some v) : (Instr.loadAt 3 (.pointer (some ⟨b, o, none⟩))).run Try.prog w = .ok v w := by simp [go_sem, h]
theorem own_diff {w : World} {B B' t t' s s' n n' k : Nat} {v v' : Value} {xs xs' : List Value} (h : w.ownsRow B t s v n xs) (h' : w.ownsRow B' t' s' v' n' xs') (ht : t ≠ t') (hk : v.ownBlock = some k) : v'.ownBlock ≠ some k := by
 intro hk'
 rcases h.2 with ⟨rfl, _⟩ | ⟨g, cap, cur, rfl, _, hh, _⟩
 · cases hk
 · rcases h'.2 with ⟨rfl, _⟩ | ⟨g', cap', cur', rfl, _, hh', _⟩
   · cases hk'
   · simp [Value.ownBlock] at hk hk'
     subst hk hk'
     rw [hh] at hh'
     simp at hh'
     exact ht hh'.2
structure StO (w : World) (B : Nat) (vpc vrg vmm : Value) (vs : List Value) (pc : List Int) (regs : List (List Int)) (mem : List Int) : Prop where
 pc : w.ownsRow B 3 1 vpc pc.length (pc.flatMap intE)
 rg : OwnA w B vrg vs regs
 mm : w.ownsRow B 2 1 vmm mem.length (mem.flatMap intE)
 am : ∀ (j : Nat) u k, vs[j]? = some u → u.ownBlock = some k → vmm.ownBlock ≠ some k
theorem OwnA.below {w W : World} {B : Nat} {v : Value} {vs : List Value} {xss : List (List Int)} (h : OwnA w B v vs xss) (hB : Below w.heap.size w W) : OwnA W B v vs xss :=
 ⟨h.len, own_below h.out hB, fun j u xs hu hx => own_below (h.row j u xs hu hx) hB, h.apart⟩
theorem st6 {v0 v1 v2 v3 v4 v5 : Value} {W : World} {b t : Nat} (h : IsS W b t [v0, v1, v2, v3, v4, v5]) : W.cell? ⟨b, 0, none⟩ = some v0 ∧ W.cell? ⟨b, 1, none⟩ = some v1 ∧ W.cell? ⟨b, 2, none⟩ = some v2 ∧ W.cell? ⟨b, 3, none⟩ = some v3 ∧ W.cell? ⟨b, 4, none⟩ = some v4 ∧ W.cell? ⟨b, 5, none⟩ = some v5 := ⟨h.cell 0, h.cell 1, h.cell 2, h.cell 3, h.cell 4, h.cell 5⟩
theorem run_append_zero {P : Program} {w : World} (t u ty e : TypeId) (i : TypeInfo) (z : Value) (kk : IntKind) (ht : P.underlying t = some (.slice e)) (hu : P.underlying u = some (.int kk)) (hi : P.info? e = some i) (hz : i.zero = some z) (hsz : i.size = 1) (hby : i.bytes = 8) (hzc : z.cells = #[z])
    (n : Nat) (h0 : 0 < n) (hn : n ≤ 1048576) :
    (Builtin.append_ #[t, u] ty #[.slice none 0 0, .int .i64 (n : Int)]).run P w =
     .ok (.slice (some ⟨w.heap.size, 0, none⟩) n (grownCap w n 0 e)) (w.drew.alloc (.cells (Builtin.zeroCells #[z] n ++ Builtin.zeroCells #[z] (grownCap w n 0 e - n)) e)) := by
 have hn0 : n ≠ 0 := by omega
 have hw : IntKind.i64.wrap (n : Int) = (n : Int) := by rw [IntKind.wrap_i64]; omega
 have h1 : ¬ ((n : Int) < 0) := by omega
 have h2 : ¬ ((281474976710656 : Int) < (n : Int) * 8) := by omega
 have h63' : ¬ (9223372036854775807 < (n : Int)) := by omega
 have h48' : ¬ (281474976710656 < Builtin.nextslicecap n 0 * 8) := by rw [nextslicecap_zero h0]; omega
 simp [Builtin.append_, run_underlying ht, run_underlying hu, sizeOf, typeInfo, zeroValue, hi, hz, Builtin.lenOf, hn0, hw, h1, h2, h63', h48', hsz, hby, hzc, Question.forced, run_firstCells_none, newRow, grownCap, asInt, asIntOf]
end Go.Proofs.Ytegpnicajlndlaa

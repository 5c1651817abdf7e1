/- RA1, RA2, CS0 -/
import Derived.Test.YtegpnicajlndlaaQat
import Derived.Test.YtegpnicajlndlaaQab
import Derived.Test.YtegpnicajlndlaaSC7
namespace Go.Proofs.Ytegpnicajlndlaa
open Go.RowKit M
set_option linter.unusedSimpArgs false
set_option linter.unusedVariables false
def memB (k : Int) : Bool := decide (k = 3 ∨ k = 4 ∨ k = 5 ∨ k = 7 ∨ k = 8 ∨ k = 9)
set_option maxRecDepth 100000 in
theorem rmemory_any (k : Int) (w : World) : Calls Try.prog 62 #[.int .i64 k] w fun e w' => e = .returned (.bool (memB k)) ∧ w' = w := by
 have hw := weight_any k w
 by_cases h0 : 0 < evOf k
 · by_cases h6 : k = 6
   · subst h6
     have e : memB 6 = false := by decide
     rw [e]
     have e2 : evOf 6 = 1 := by decide
     rw [e2] at hw
     clear h0
     go_enter Try.func62, Try.ntmps62
     go_wp2_with (first
      | (go_at_call 102; refine hw.mono ?_; rintro e w' ⟨rfl, hw'⟩; replace hw' := hw'.symm; subst hw'))
     go_ret
     exact ⟨rfl, rfl⟩
   · have e : memB k = true := by
      unfold memB evOf at *
      apply decide_eq_true
      split at h0
      · rename_i h; omega
      · split at h0
        · rename_i h; omega
        · omega
     rw [e]
     have hne : (k != 6) = true := by simpa using h6
     generalize evOf k = q at *
     go_enter Try.func62, Try.ntmps62
     go_wp2_with (first
      | (go_at_call 102; refine hw.mono ?_; rintro e w' ⟨rfl, hw'⟩; replace hw' := hw'.symm; subst hw'))
     go_ret
     exact ⟨by simp [hne], rfl⟩
 · have e : memB k = false := by
    unfold memB evOf at *
    apply decide_eq_false
    intro h
    apply h0
    split
    · omega
    · split
      · omega
      · omega
   rw [e]
   generalize evOf k = q at *
   go_enter Try.func62, Try.ntmps62
   go_wp2_with (first
    | (go_at_call 102; refine hw.mono ?_; rintro e w' ⟨rfl, hw'⟩; replace hw' := hw'.symm; subst hw'))
   go_ret
   exact ⟨rfl, rfl⟩
set_option maxRecDepth 100000 in
theorem atomic_imm0 (reg src loc imm old : Int) (nr c : Nat) (a : Option Addr) (w : World) :
    Calls Try.prog 63 #[.agg #[.int .i64 4, .int .i64 reg, .int .i64 src, .int .i64 loc, .int .i64 imm], .slice a nr c, .int .i64 old] w fun en w' => en = .returned (.tuple #[.int .i64 imm, .bool true]) ∧ Below w.heap.size w w' := by
 have t1 : True := trivial
 go_enter Try.func63, Try.ntmps63
 go_wp2_with (first
  | (clear t1; refine wpList_boxS rfl 63 _ rfl [.int .i64 4, .int .i64 reg, .int .i64 src, .int .i64 loc, .int .i64 imm] rfl ?_; intro W1 bb F1 C1; have B1 : Below w.heap.size w W1 := F1.trans (Below.refl _ w) (Nat.le_refl _); obtain ⟨x0, x1, x2, x3, x4⟩ := five C1; clear F1))
 exact ⟨rfl, .tuple #[.int .i64 imm, .bool true], (by simp [results, Try.results63, go_sem]), rfl, B1⟩
theorem set_same (m : List Int) (l : Nat) (h : l < m.length) : m.set l (m.getD l 0) = m := by
 refine List.ext_getElem? fun j => ?_
 rw [List.getElem?_set]
 split
 · rename_i e; subst e; simp [h]
 · rfl
set_option maxHeartbeats 2000000 in
theorem atomic_own (o : Op5) (r m : List Int) (B : Nat) (u : Value) (ho : OpIn o r.length m.length) (hk : memB o.kind = true) (hnr : r.length ≤ 1048576) (w : World) (hu : w.ownsRow B 2 1 u r.length (r.flatMap intE)) :
    Calls Try.prog 63 #[.agg (op5L o).toArray, u, .int .i64 (m.getD o.loc.toNat 0)] w fun e w' => (∃ v b, e = .returned (.tuple #[.int .i64 v, .bool b]) ∧ m.set o.loc.toNat v = doM o r m) ∧ w'.ownsRow B 2 1 u r.length ((doR o r m).flatMap intE) ∧ Fr w w' [u] := by
 obtain ⟨k, reg, src, loc, imm⟩ := o
 have hk' : k = 3 ∨ k = 4 ∨ k = 5 ∨ k = 7 ∨ k = 8 ∨ k = 9 := of_decide_eq_true hk
 rcases hk' with rfl | rfl | rfl | rfl | rfl | rfl
 · obtain ⟨i, rfl, hi⟩ := nat_of (ho.reg (by simp))
   obtain ⟨l, rfl, hl⟩ := nat_of (ho.loc (by simp))
   obtain ⟨g, c, cs, rfl, hg, hI, ht, hc, hm, hs⟩ := own_opn hu (Nat.lt_of_le_of_lt (Nat.zero_le _) hi)
   have hlb : 0 + r.length ≤ cs.length := by rw [hs]; omega
   refine (atomic_load src l imm (m.getD l 0) i 0 r.length c 2 g 0 cs hi hlb hnr w hI).mono ?_
   rintro e w' ⟨rfl, E, T⟩
   exact ⟨⟨(m.getD l 0), false, rfl, by simp [doM]; exact set_same m l hl⟩, put_own hg E ht hc hm hs, fr_one (n := r.length) (c := c) (o := 0) T _ (by simp)⟩
 · obtain ⟨l, rfl, hl⟩ := nat_of (ho.loc (by simp))
   obtain ⟨ar, cr, rfl⟩ := own_form hu
   refine (atomic_imm0 reg src l imm (m.getD l 0) r.length cr ar w).mono ?_
   rintro e w' ⟨rfl, Bw⟩
   exact ⟨⟨imm, true, rfl, by simp [doM]⟩, own_below hu Bw, Fr.of_below Bw _⟩
 · obtain ⟨j, rfl, hj⟩ := nat_of (ho.src (by simp))
   obtain ⟨l, rfl, hl⟩ := nat_of (ho.loc (by simp))
   obtain ⟨g, c, cs, rfl, hg, hI, ht, hc, hm, hs⟩ := own_opn hu (Nat.lt_of_le_of_lt (Nat.zero_le _) hj)
   have hlb : 0 + r.length ≤ cs.length := by rw [hs]; omega
   refine (atomic_reg reg l (r.getD j 0) imm (m.getD l 0) 0 j r.length c 2 g 0 cs hj (cell_of ht (get_of hj)) hlb hnr w hI).mono ?_
   rintro e w' ⟨rfl, Bw⟩
   exact ⟨⟨(r.getD j 0), true, rfl, by simp [doM]⟩, own_below hu Bw, Fr.of_below Bw _⟩
 · obtain ⟨i, rfl, hi⟩ := nat_of (ho.reg (by simp))
   obtain ⟨l, rfl, hl⟩ := nat_of (ho.loc (by simp))
   obtain ⟨g, c, cs, rfl, hg, hI, ht, hc, hm, hs⟩ := own_opn hu (Nat.lt_of_le_of_lt (Nat.zero_le _) hi)
   have hlb : 0 + r.length ≤ cs.length := by rw [hs]; omega
   refine (atomic_xchg src l (r.getD i 0) imm (m.getD l 0) i 0 r.length c 2 g 0 cs hi (cell_of ht (get_of hi)) hlb hnr w hI).mono ?_
   rintro e w' ⟨rfl, E, T⟩
   exact ⟨⟨(r.getD i 0), true, rfl, by simp [doM]⟩, put_own hg E ht hc hm hs, fr_one (n := r.length) (c := c) (o := 0) T _ (by simp)⟩
 · obtain ⟨i, rfl, hi⟩ := nat_of (ho.reg (by simp))
   obtain ⟨j, rfl, hj⟩ := nat_of (ho.src (by simp))
   obtain ⟨l, rfl, hl⟩ := nat_of (ho.loc (by simp))
   obtain ⟨g, c, cs, rfl, hg, hI, ht, hc, hm, hs⟩ := own_opn hu (Nat.lt_of_le_of_lt (Nat.zero_le _) hi)
   have hlb : 0 + r.length ≤ cs.length := by rw [hs]; omega
   by_cases hq : m.getD l 0 = r.getD i 0
   · have e1 : doR ⟨8, i, j, l, imm⟩ r m = r := by unfold doR; rw [if_neg (by simp), if_neg (by simp), if_neg (by simp), if_pos rfl]; exact if_pos hq
     have e2 : doM ⟨8, i, j, l, imm⟩ r m = m.set l (r.getD j 0) := by unfold doM; rw [if_neg (by simp), if_neg (by simp), if_neg (by simp), if_pos rfl]; exact if_pos hq
     rw [e1, e2]
     refine (atomic_cmp l (r.getD j 0) imm (m.getD l 0) i j r.length c 2 g 0 cs hi hj (by rw [hq]; exact cell_of ht (get_of hi)) (cell_of ht (get_of hj)) hlb hnr w hI).mono ?_
     rintro e w' ⟨rfl, Bw⟩
     exact ⟨⟨(r.getD j 0), true, rfl, rfl⟩, own_below hu Bw, Fr.of_below Bw _⟩
   · have e1 : doR ⟨8, i, j, l, imm⟩ r m = r.set i (m.getD l 0) := by unfold doR; rw [if_neg (by simp), if_neg (by simp), if_neg (by simp), if_pos rfl]; exact if_neg hq
     have e2 : doM ⟨8, i, j, l, imm⟩ r m = m := by unfold doM; rw [if_neg (by simp), if_neg (by simp), if_neg (by simp), if_pos rfl]; exact if_neg hq
     rw [e1, e2]
     refine (atomic_ncmp l (r.getD i 0) imm (m.getD l 0) i j r.length c 2 g 0 cs hi (cell_of ht (get_of hi)) hq hlb hnr w hI).mono ?_
     rintro e w' ⟨rfl, E, T⟩
     exact ⟨⟨(m.getD l 0), false, rfl, set_same m l hl⟩, put_own hg E ht hc hm hs, fr_one (n := r.length) (c := c) (o := 0) T _ (by simp)⟩
 · obtain ⟨i, rfl, hi⟩ := nat_of (ho.reg (by simp))
   obtain ⟨l, rfl, hl⟩ := nat_of (ho.loc (by simp))
   obtain ⟨g, c, cs, rfl, hg, hI, ht, hc, hm, hs⟩ := own_opn hu (Nat.lt_of_le_of_lt (Nat.zero_le _) hi)
   have hlb : 0 + r.length ≤ cs.length := by rw [hs]; omega
   refine (atomic_xadd src l (r.getD i 0) imm (m.getD l 0) i 0 r.length c 2 g 0 cs hi (cell_of ht (get_of hi)) hlb hnr w hI).mono ?_
   rintro e w' ⟨rfl, E, T⟩
   exact ⟨⟨(wrap64 (m.getD l 0 + r.getD i 0)), true, rfl, by simp [doM]⟩, put_own hg E ht hc hm hs, fr_one (n := r.length) (c := c) (o := 0) T _ (by simp)⟩
set_option maxHeartbeats 2000000 in
theorem local_own (o : Op5) (r m : List Int) (B : Nat) (u : Value) (ho : OpIn o r.length m.length) (hk : memB o.kind = false) (hnr : r.length ≤ 1048576) (w : World) (hu : w.ownsRow B 2 1 u r.length (r.flatMap intE)) :
    Calls Try.prog 64 #[.agg (op5L o).toArray, u] w fun e w' => e = .returned (.tuple #[]) ∧ w'.ownsRow B 2 1 u r.length ((doR o r m).flatMap intE) ∧ Fr w w' [u] := by
 obtain ⟨k, reg, src, loc, imm⟩ := o
 have hk' : ¬ (k = 3 ∨ k = 4 ∨ k = 5 ∨ k = 7 ∨ k = 8 ∨ k = 9) := of_decide_eq_false hk
 by_cases h1 : k = 1
 · subst h1
   obtain ⟨i, rfl, hi⟩ := nat_of (ho.reg (by simp))
   obtain ⟨g, c, cs, rfl, hg, hI, ht, hc, hm, hs⟩ := own_opn hu (Nat.lt_of_le_of_lt (Nat.zero_le _) hi)
   have hlb : 0 + r.length ≤ cs.length := by rw [hs]; omega
   refine (local_one src loc imm i r.length c 2 g 0 cs hi hlb hnr w hI).mono ?_
   rintro e w' ⟨rfl, E, T⟩
   exact ⟨rfl, put_own hg E ht hc hm hs, fr_one (n := r.length) (c := c) (o := 0) T _ (by simp)⟩
 by_cases h2 : k = 2
 · subst h2
   obtain ⟨i, rfl, hi⟩ := nat_of (ho.reg (by simp))
   obtain ⟨j, rfl, hj⟩ := nat_of (ho.src (by simp))
   obtain ⟨g, c, cs, rfl, hg, hI, ht, hc, hm, hs⟩ := own_opn hu (Nat.lt_of_le_of_lt (Nat.zero_le _) hi)
   have hlb : 0 + r.length ≤ cs.length := by rw [hs]; omega
   refine (local_two loc imm (r.getD j 0) i j r.length c 2 g 0 cs hi hj hlb hnr (cell_of ht (get_of hj)) w hI).mono ?_
   rintro e w' ⟨rfl, E, T⟩
   exact ⟨rfl, put_own hg E ht hc hm hs, fr_one (n := r.length) (c := c) (o := 0) T _ (by simp)⟩
 have e1 : doR ⟨k, reg, src, loc, imm⟩ r m = r := by
  unfold doR
  simp only [not_or] at hk'
  simp [h1, h2, hk']
 rw [e1]
 obtain ⟨ar, cr, rfl⟩ := own_form hu
 refine (local_none k reg src loc imm ar r.length cr h1 h2 w).mono ?_
 rintro e w' ⟨rfl, Bw⟩
 exact ⟨rfl, own_below hu Bw, Fr.of_below Bw _⟩
theorem run_app0L {w : World} {t T k by' : Nat} {z : Value} (E : Elt t T k z by') (B b : Nat) (hown : w.ownsRow B t k (.slice (some ⟨b, 0, none⟩) 0 0) 0 []) (u : Value) (m : Nat) (cs : List Value) (hu : RowV w u m cs) (hl : cs.length = m * k) (h1 : ∀ x ∈ cs, x.oneCell' = true) (hn : m ≤ 4194304) (hB : B ≤ w.heap.size) (ty : TypeId) :
    ∃ v' w', (Builtin.append_ #[T, T] ty #[.slice (some ⟨b, 0, none⟩) 0 0, u]).run Try.prog w = .ok v' w' ∧ w'.ownsRow B t k v' m cs ∧ Below w.heap.size w w' ∧ ((m = 0 ∧ v' = .slice (some ⟨b, 0, none⟩) 0 0) ∨ ∀ k, v'.ownBlock = some k → w.heap.size ≤ k) := by
 obtain ⟨i0, hi, hz, hs, hby⟩ := E.info
 have hfew := E.few
 obtain ⟨ad, c, rfl, hT, hnil⟩ := hu
 by_cases hm : m = 0
 · subst hm
   have hcs : cs = [] := List.length_eq_zero_iff.1 (by rw [hl, Nat.zero_mul])
   subst hcs
   refine ⟨_, w, ?_, hown, Below.refl _ _, .inl ⟨rfl, rfl⟩⟩
   have hld : ∀ (x : Addr), (loadCells x 0).run Try.prog w = .ok #[] w := fun x => by simpa using run_loadCells_list (P := Try.prog) w x [] (by simp)
   cases ad with
   | none => simp [Builtin.append_, run_underlying E.und, sizeOf, typeInfo, hi, Builtin.lenOf, Builtin.firstCells, storeCells]
   | some x => simp [Builtin.append_, run_underlying E.und, sizeOf, typeInfo, hi, Builtin.lenOf, Builtin.firstCells, storeCells, hld]
 · have hpos := E.pos
   have : 0 < cs.length := by rw [hl]; exact Nat.mul_pos (by omega) hpos
   obtain ⟨b0, o0, rfl, _⟩ := hT 0 cs[0] (List.getElem?_eq_getElem this)
   have hnews : ∀ j y, cs[j]? = some y → w.cell? ((⟨b0, o0, none⟩ : Addr).add j) = some y := fun j y hj => by
    obtain ⟨b', o', e, _, hc⟩ := hT j y hj
    cases e
    rw [Addr.add_mid]
    exact hc
   have hb : (0 + m) * by' ≤ 140737488355328 := Nat.le_trans (Nat.mul_le_mul (by omega : 0 + m ≤ 4194304) hfew) (by decide)
   obtain ⟨v', w', hr, ho, hg, _⟩ := run_append_own (P := Try.prog) w B T ty t i0 z k by' E.und hi hz hs hby E.cells E.pos _ 0 [] hown ⟨b0, o0, none⟩ m c cs hl hnews h1 (by unfold maxLen; omega) hb hB
   have hfit : Builtin.nextslicecap (0 + m) 0 * i0.bytes ≤ 281474976710656 := by rw [Nat.zero_add, nextslicecap_zero (by omega), hby]; have := hb; rw [Nat.zero_add] at this; omega
   have hr2 := run_append_grow (P := Try.prog) (w := w) T ty t i0 z E.und hi hz ⟨b, 0, none⟩ 0 0 [] (by simp) (by simp) ⟨b0, o0, none⟩ m c cs (by rw [hs]; exact hl) hnews (by omega) (by omega) hfit
   rw [hr] at hr2
   injection hr2 with h2 h3
   refine ⟨v', w', hr, by rw [Nat.zero_add, List.nil_append] at ho; exact ho, ?_, .inr fun kk hkk => ?_⟩
   · rw [h3]
     exact (below_drew (Below.refl _ w)).alloc (Nat.le_refl _) _
   · rw [h2] at hkk
     simp [Value.ownBlock] at hkk
     omega
theorem OwnA.snoc {W W' : World} {B H : Nat} {v v' u : Value} {vs : List Value} {xss : List (List Int)} {xs : List Int} (h1 : vs.length = xss.length) (h2 : W.ownsRow B 26 1 v xss.length vs)
    (h3 : ∀ (j : Nat) u xs, vs[j]? = some u → xss[j]? = some xs → W.ownsRow B 2 1 u xs.length (xs.flatMap intE)) (h4 : ∀ (i j : Nat) u u' k, i ≠ j → vs[i]? = some u → vs[j]? = some u' → u.ownBlock = some k → u'.ownBlock ≠ some k) (h5 : ∀ (j : Nat) u xs k, vs[j]? = some u → xss[j]? = some xs → u.ownBlock = some k → k < H)
    (hu : W.ownsRow B 2 1 u xs.length (xs.flatMap intE)) (hlo : ∀ k, u.ownBlock = some k → H ≤ k) (ho : W'.ownsRow B 26 1 v' (xss.length + 1) (vs ++ [u])) (hg : W.grownBy W' v.ownBlock) : OwnA W' B v' (vs ++ [u]) (xss ++ [xs]) := by
 obtain ⟨vs', e1, e2, e3⟩ := OwnRows.snoc (enc := intE) h1 h2 h3 hu ho hg (by decide)
 have get : ∀ (j : Nat) x, (vs ++ [u])[j]? = some x → (∃ xs', vs[j]? = some x ∧ xss[j]? = some xs') ∨ (j = vs.length ∧ x = u) := fun j x hj => by
  by_cases hlt : j < vs.length
  · rw [List.getElem?_append_left hlt] at hj
    exact .inl ⟨xss[j]'(by omega), hj, List.getElem?_eq_getElem (by omega)⟩
  · have hl := (List.getElem?_eq_some_iff.1 hj).1
    rw [List.length_append, List.length_singleton] at hl
    have e : j = vs.length := by omega
    subst e
    rw [List.getElem?_append_right (Nat.le_refl _), Nat.sub_self] at hj
    simp at hj
    exact .inr ⟨rfl, hj.symm⟩
 refine ⟨by simp [h1], by rw [List.length_append]; exact ho, fun j u' xs' hj hx => ?_, fun i j x y k hij hi hj hk hk2 => ?_⟩
 · by_cases hlt : j < vs.length
   · rw [List.getElem?_append_left hlt] at hj
     rw [List.getElem?_append_left (by omega)] at hx
     exact own_grow (h3 j u' xs' hj hx) h2 hg (by decide)
   · have hl := (List.getElem?_eq_some_iff.1 hj).1
     rw [List.length_append, List.length_singleton] at hl
     have e : j = vs.length := by omega
     subst e
     rw [List.getElem?_append_right (Nat.le_refl _), Nat.sub_self] at hj
     rw [List.getElem?_append_right (by omega), h1, Nat.sub_self] at hx
     cases hj; cases hx
     exact own_grow hu h2 hg (by decide)
 · rcases get i x hi with ⟨xi, hi1, hi2⟩ | ⟨hi1, hi2⟩
   · rcases get j y hj with ⟨xj, hj1, hj2⟩ | ⟨hj1, hj2⟩
     · exact h4 i j x y k hij hi1 hj1 hk hk2
     · subst hj2
       have := h5 i x xi k hi1 hi2 hk
       have := hlo k hk2
       omega
   · subst hi2
     rcases get j y hj with ⟨xj, hj1, hj2⟩ | ⟨hj1, hj2⟩
     · have := h5 j y xj k hj1 hj2 hk2
       have := hlo k hk
       omega
     · omega
set_option maxRecDepth 100000 in
set_option maxHeartbeats 4000000 in
theorem rcopyA_any (ri : List (List Int)) (hi : ri.length ≤ 1048576) (hii : ri.flatten.length ≤ 1048576) (ai : Option Addr) (ci : Nat) (w : World) (hR : RowsV w (.slice ai ri.length ci) intE ri) :
    Calls Try.prog 40 #[.slice ai ri.length ci] w fun en w' => ∃ v, en = .returned v ∧ (∃ vs, OwnA w' w.heap.size v vs ri) ∧ Below w.heap.size w w' := by
 have HI : Hid (RowsV w (.slice ai ri.length ci) intE ri) := hR
 have HII : Hid (ri.flatten.length ≤ 1048576) := hii
 obtain ⟨ni, hni⟩ : ∃ n, ri.length = n := ⟨_, rfl⟩
 have HNI : Hid (ri.length = ni) := hni
 rw [hni] at HI hi ⊢
 clear hR hii hni
 go_enter Try.func40, Try.ntmps40
 go_wp2_with fail
 go_loopw [3, 4] (fun v i wr => ∃ k : Nat, k ≤ ni ∧ i = .int .i64 k ∧ Hid (∃ vs, OwnA wr w.heap.size v vs (ri.take k)) ∧ Hid (Below w.heap.size w wr)) (fun _ i _ => ni - (intOf i).toNat)
 case atStart => exact ⟨0, Nat.zero_le _, rfl, ⟨[], by rw [List.take_zero]; rfl, by rw [List.take_zero]; exact own_nil _ _ _ _, fun j u xs hu => by simp at hu, fun i j u u' k _ hu => by simp at hu⟩, Below.refl _ _⟩
 case round =>
  obtain ⟨k, hk, rfl, HO, HB⟩ := hrel
  by_cases hlt : k < ni
  · have hki : (k : Int) < ni := by omega
    obtain ⟨q, hq⟩ : ∃ q, ri[k]? = some q := ⟨_, List.getElem?_eq_getElem (by rw [HNI.out]; exact hlt)⟩
    obtain ⟨bi, oi, ai', ci', rfl, hbi, hci, hsegi, hnil⟩ := (HI.out.below HB.out).at k q hq
    have hql : q.length ≤ 1048576 := Nat.le_trans (by have := flat_at hq (Nat.le_refl _); rw [List.take_length, List.length_append] at this; omega) HII.out
    have HQ : Hid (ri.take (k + 1) = ri.take k ++ [q]) := take_at hq
    have HRV : Hid (RowV wr (.slice ai' q.length ci') q.length (q.flatMap intE)) := ⟨ai', ci', rfl, hsegi, hnil⟩
    obtain ⟨vs, ho1, ho2, ho3, ho4⟩ := HO.out
    have H4 : Hid (∀ (i j : Nat) u u' k, i ≠ j → vs[i]? = some u → vs[j]? = some u' → u.ownBlock = some k → u'.ownBlock ≠ some k) := ho4
    have hkl : (ri.take k).length = k := by rw [List.length_take, HNI.out]; omega
    rw [hkl] at ho1 ho2
    obtain ⟨av, cv, hv⟩ := own_form ho2
    subst hv
    obtain ⟨qn, hqn⟩ : ∃ n, q.length = n := ⟨_, rfl⟩
    have HQN : Hid (q.length = qn) := hqn
    have H1 : Hid (vs.length = k) := ho1
    have H2 : Hid (wr.ownsRow w.heap.size 26 1 (.slice av k cv) k vs) := ho2
    have H3 : Hid (∀ (j : Nat) u xs, vs[j]? = some u → (ri.take k)[j]? = some xs → wr.ownsRow w.heap.size 2 1 u xs.length (xs.flatMap intE)) := ho3
    have HKL : Hid ((ri.take k).length = k) := hkl
    rw [hqn] at hci hql HRV
    clear hq hsegi hnil ho1 ho2 ho3 ho4 hkl hqn HO
    have t1 : True := trivial
    have t2 : True := trivial
    have t3 : True := trivial
    have t4 : True := trivial
    go_wp2_with (first
     | (clear t1; refine wpList_build0E eInt rfl rfl ?_; intro W1 b1 F1 O1; have B1 := F1.trans HB.out HB.out.size; have Bx1 := F1.trans (Below.refl _ wr) (Nat.le_refl _); have hc1 : W1.cell? ⟨bi, oi + k, none⟩ = some (.slice ai' qn ci') := (by rw [Bx1.cell (p := ⟨bi, oi + k, none⟩) hbi]; exact hci); clear F1)
     | (clear t2; at_builtin; refine wpList_appM eInt rfl _ _ rfl wr.heap.size _ 0 [] rfl O1 _ qn (q.flatMap intE) rfl (HRV.out.below Bx1) (by rw [int_len, HQN.out]) (int_one q) (by omega) Bx1.size ?_; intro v2 W2 O2x G2; have Bx2 := grown_below Bx1 Bx1.size O1 G2; have hlo : ∀ k, v2.ownBlock = some k → wr.heap.size ≤ k := (fun k hk => (own_lt O2x hk).1); have O2 : W2.ownsRow w.heap.size 2 1 v2 qn (q.flatMap intE) := (by have h := own_raise O2x HB.out.size; rw [Nat.zero_add, List.nil_append] at h; exact h); have B2 := Below.then HB.out Bx2; clear G2 O2x O1 hc1)
     | (clear t3; refine wpList_build1E eInts rfl _ rfl v2 rfl (own_cell O2) ?_; intro W3 b3 F3 C3; have Bx3 := F3.trans Bx2 Bx2.size; have B3 := F3.trans B2 B2.size; have O3 := own_below O2 (F3.trans bR (Nat.le_refl _)); have P3 := own_below H2.out Bx3; clear F3 O2)
     | (clear t4; at_builtin; refine wpList_appM eInts rfl _ _ rfl w.heap.size _ k vs rfl P3 _ 1 [v2] rfl (row_isS C3) rfl (by simp [own_cell O3]) (by omega) B3.size ?_; intro v4 W4 O4 G4; have B4 := grown_below B3 B3.size P3 G4))
    have HF : Hid (∃ vs, OwnA W4 w.heap.size v4 vs (ri.take (k + 1))) := (by
     rw [HQ.out]
     refine ⟨vs ++ [v2], OwnA.snoc (H := wr.heap.size) (by rw [HKL.out]; exact H1.out) (by rw [HKL.out]; exact P3) (fun j u xs hu hx => own_below (H3.out j u xs hu hx) Bx3) H4.out (fun j u xs k hu hx hk => (own_lt (H3.out j u xs hu hx) hk).2) (by rw [HQN.out]; exact O3) hlo (by rw [HKL.out]; exact O4) G4⟩)
    clear G4 O4 P3 O3 C3
    go_wp2_with fail
    go_roundw
    case rel => exact ⟨k + 1, by omega, by go_num, HF, B4⟩
    case measure => simp [intOf]; omega
  · have hki : ¬ (k : Int) < ni := by omega
    have HF : Hid (∃ vs, OwnA wr w.heap.size u3 vs ri) := (by have := HO.out; rw [show k = ri.length by rw [HNI.out]; omega, List.take_length] at this; exact this)
    go_wp2_with fail
    go_ret
    exact ⟨_, rfl, HF.out, HB.out⟩
def wrE (x : Int × Int) : List Value := [.int .i64 x.1, .int .i64 x.2]
structure RS (w : World) (vpc vph vrg vmm vbf : Value) (n : Nat) (pc : List Int) (regs : List (List Int)) (mem : List Int) : Prop where
 pc : RowV w vpc n (pc.flatMap intE)
 ph : RowV w vph n ((List.replicate n (0 : Int)).flatMap intE)
 rg : RowsV w vrg intE regs
 mm : RowV w vmm mem.length (mem.flatMap intE)
 bf : RowsV w vbf wrE (List.replicate n ([] : List (Int × Int)))
theorem RS.below {w W : World} {vpc vph vrg vmm vbf : Value} {n : Nat} {pc : List Int} {regs : List (List Int)} {mem : List Int} (h : RS w vpc vph vrg vmm vbf n pc regs mem) (hB : Below w.heap.size w W) : RS W vpc vph vrg vmm vbf n pc regs mem :=
 ⟨h.pc.below hB, h.ph.below hB, h.rg.below hB, h.mm.below hB, h.bf.below hB⟩
theorem rep_row {W : World} {g n : Nat} (I : IsS W g 3 (List.replicate n (.int .i64 0))) : RowV W (.slice (some ⟨g, 0, none⟩) n n) n ((List.replicate n (0 : Int)).flatMap intE) := by
 rw [int_map, List.map_replicate]; exact row_isS I
theorem rep_rows {W : World} {g n : Nat} (I : IsS W g 48 (List.replicate n (.slice none 0 0))) : RowsV W (.slice (some ⟨g, 0, none⟩) n n) wrE (List.replicate n ([] : List (Int × Int))) := by
 refine ⟨List.replicate n (.slice none 0 0), by simp, by rw [List.length_replicate]; exact row_isS I, fun j u xs hu hx => ?_⟩
 rw [List.getElem?_replicate] at hu hx
 split at hu
 · rw [if_pos ‹_›] at hx
   cases hu; cases hx
   exact ⟨none, 0, rfl, Seg.nil _ _, fun _ => rfl⟩
 · cases hu
structure STV (w : World) (s : ST) (vpc vph vrg vmm vbf : Value) : Prop where
 pc : RowV w vpc s.pc.length (s.pc.flatMap intE)
 ph : RowV w vph s.ph.length (s.ph.flatMap intE)
 rg : RowsV w vrg intE s.regs
 mm : RowV w vmm s.mem.length (s.mem.flatMap intE)
 bf : RowsV w vbf wrE s.buf
theorem STV.below {w W : World} {s : ST} {vpc vph vrg vmm vbf : Value} (h : STV w s vpc vph vrg vmm vbf) (hB : Below w.heap.size w W) : STV W s vpc vph vrg vmm vbf :=
 ⟨h.pc.below hB, h.ph.below hB, h.rg.below hB, h.mm.below hB, h.bf.below hB⟩
structure ST.Few (s : ST) : Prop where
 pc : s.pc.length ≤ 1048576
 ph : s.ph.length ≤ 1048576
 rg : s.regs.length ≤ 1048576
 rr : s.regs.flatten.length ≤ 1048576
 mm : s.mem.length ≤ 1048576
 bf : s.buf.length ≤ 1048576
 bb : s.buf.flatten.length ≤ 1048576
def bufB (nl : Nat) (b : List (Int × Int)) : Bool := b.all (fun w => decide (0 ≤ w.1 ∧ w.1 ≤ (nl : Int) - 1)) && decide (b.length ≤ 64)
theorem bufB_iff (nl : Nat) (b : List (Int × Int)) : bufB nl b = true ↔ bufOk nl b := by
 unfold bufB bufOk
 simp only [Bool.and_eq_true, List.all_eq_true, decide_eq_true_eq]
 constructor
 · rintro ⟨h1, h2⟩; exact ⟨h2, fun w hw => ⟨(h1 w hw).1, by have := (h1 w hw).2; omega⟩⟩
 · rintro ⟨h1, h2⟩; exact ⟨fun w hw => ⟨(h2 w hw).1, by have := (h2 w hw).2; omega⟩, h1⟩
def lensB (z : Shp) (s : ST) : Bool := decide (s.pc.length = z.ins.length) && (decide (s.ph.length = z.ins.length) && (decide (s.regs.length = z.ins.length) && (decide (s.buf.length = z.ins.length) && decide (s.mem.length = z.locs))))
def thB (z : Shp) (s : ST) (i : Nat) : Bool := decide ((s.regs.getD i []).length = z.rgs.getD i 0) && (decide (0 ≤ s.pc.getD i 0 ∧ s.pc.getD i 0 ≤ (z.ins.getD i 0 : Nat)) && (decide (0 ≤ s.ph.getD i 0 ∧ s.ph.getD i 0 ≤ 2) && bufB z.locs (s.buf.getD i [])))
def fitsB (z : Shp) (s : ST) : Bool := lensB z s && ((List.range z.ins.length).all (thB z s) && decide (-1 ≤ s.lock ∧ s.lock ≤ (z.ins.length : Int) - 1))
theorem fitsB_iff (z : Shp) (s : ST) : fitsB z s = true ↔ Fits z s := by
 unfold fitsB lensB thB
 simp only [Bool.and_eq_true, List.all_eq_true, decide_eq_true_eq, List.mem_range, bufB_iff]
 constructor
 · rintro ⟨⟨h1, h2, h3, h4, h5⟩, h6, h7⟩
   exact ⟨h1, h2, h3, h4, h5, fun i hi => h6 i hi, h7⟩
 · rintro ⟨h1, h2, h3, h4, h5, h6, h7⟩
   exact ⟨⟨h1, h2, h3, h4, h5⟩, fun i hi => h6 i hi, h7⟩
theorem fits_len {z : Shp} {s : ST} (h : lensB z s = false) : fitsB z s = false := by unfold fitsB; rw [h]; rfl
theorem fits_th {z : Shp} {s : ST} {i : Nat} (hi : i < z.ins.length) (h : thB z s i = false) : fitsB z s = false := by
 unfold fitsB
 have : (List.range z.ins.length).all (thB z s) = false := by
  rw [List.all_eq_false]
  exact ⟨i, List.mem_range.2 hi, by rw [h]; simp⟩
 rw [this]; simp
theorem fits_end {z : Shp} {s : ST} (h : lensB z s = true) (ht : ∀ i, i < z.ins.length → thB z s i = true) : fitsB z s = decide (-1 ≤ s.lock ∧ s.lock ≤ (z.ins.length : Int) - 1) := by
 unfold fitsB
 have : (List.range z.ins.length).all (thB z s) = true := by
  rw [List.all_eq_true]
  exact fun i hi => ht i (List.mem_range.1 hi)
 rw [this, h]; simp
def natI (l : List Nat) : List Int := l.map Int.ofNat
theorem natI_get {l : List Nat} {i x : Nat} (h : l[i]? = some x) : (natI l)[i]? = some (x : Int) := by simp [natI, h]
section
variable {w : World} {ops : Array Oper} {rest : List Oper} {op : Oper} {a : Act} {Q : Exit → Act → World → Prop}
theorem wpList_loadX (hgd : op.guard = none) (ty : TypeId) (x : Operand) (ho : op.op = .load ty x) {b o : Nat} (hx : a.eval x = .pointer (some ⟨b, o, none⟩)) (sub : List Value) (hc : ∀ (i : Nat) u, sub[i]? = some u → w.cell? ⟨b, o + i, none⟩ = some u) (d : TypeDesc)
    (hu : Try.prog.underlying ty = some d) (hd : d.isRow = true) (hi : (Try.prog.info? ty).map (·.size) = some sub.length)
    (h : wpList Try.prog ops Q rest (a.put op.dst (.agg sub.toArray)) w) : wpList Try.prog ops Q (op :: rest) a w := by
 refine wpList_plain hgd fun K hK => ?_
 have hr := run_loadAt_mid (P := Try.prog) w b o ty sub d hc hu hd hi
 unfold Oper.wp execOp
 simp only [ho, hx, Sem.run_bind, hr, Result.andThen_ok, Sem.run_pure]
 exact hK _ _ h
end
theorem flat2 (l : List (Int × Int)) (j : Nat) (x : Int × Int) (h : l[j]? = some x) : ∀ (i : Nat) u, (wrE x)[i]? = some u → (l.flatMap wrE)[2 * j + i]? = some u := by
 induction l generalizing j with
 | nil => simp at h
 | cons y l ih =>
  intro i u hu
  have hi : i < 2 := (List.getElem?_eq_some_iff.1 hu).1
  cases j with
  | zero =>
   simp only [List.getElem?_cons_zero, Option.some.injEq] at h
   subst h
   rw [List.flatMap_cons, Nat.mul_zero, Nat.zero_add, List.getElem?_append_left (by simpa [wrE] using hi)]
   exact hu
  | succ j =>
   rw [List.getElem?_cons_succ] at h
   have := ih j h i u hu
   rw [List.flatMap_cons, List.getElem?_append_right (by simp [wrE]; omega)]
   rw [show 2 * (j + 1) + i - (wrE y).length = 2 * j + i by simp [wrE]; omega]
   exact this
theorem Seg.wr {w : World} {a : Option Addr} {l : List (Int × Int)} {j : Nat} {x : Int × Int} (h : Seg w a (l.flatMap wrE)) (hx : l[j]? = some x) : ∃ b o, a = some ⟨b, o, none⟩ ∧ b < w.heap.size ∧ ∀ (i : Nat) u, (wrE x)[i]? = some u → w.cell? ⟨b, o + j * 2 + i, none⟩ = some u := by
 obtain ⟨b, o, e, hb, _⟩ := h (2 * j + 0) _ (flat2 l j x hx 0 _ rfl)
 refine ⟨b, o, e, hb, fun i u hu => ?_⟩
 obtain ⟨b', o', e', _, hc⟩ := h (2 * j + i) u (flat2 l j x hx i u hu)
 rw [e] at e'
 cases e'
 rw [show o + j * 2 + i = o + (2 * j + i) by omega]
 exact hc
theorem infoWr : (Try.prog.info? 50).map (·.size) = some 2 := by kernel_rfl
theorem zeroWr (w : World) : (zeroValue 50).run Try.prog w = .ok (.agg #[.int .i64 0, .int .i64 0]) w := Try.zeroValue50 w
theorem infoShp : (Try.prog.info? 105).map (·.size) = some 3 := by kernel_rfl
theorem zeroShp (w : World) : (zeroValue 105).run Try.prog w = .ok (.agg #[.slice none 0 0, .slice none 0 0, .int .i64 0]) w := Try.zeroValue105 w
theorem two_cells {v0 v1 : Value} {W : World} {b t : Nat} (h : IsS W b t [v0, v1]) : W.cell? ⟨b, 0, none⟩ = some v0 ∧ W.cell? ⟨b, 1, none⟩ = some v1 := ⟨h.cell 0, h.cell 1⟩
theorem three_last {v0 v1 v2 : Value} {W : World} {b t : Nat} (h : IsS W b t [v0, v1, v2]) : W.cell? ⟨b, 2, none⟩ = some v2 := h.cell 2
theorem three_cells {v0 v1 v2 : Value} {W : World} {b t : Nat} (h : IsS W b t [v0, v1, v2]) : W.cell? ⟨b, 0, none⟩ = some v0 ∧ W.cell? ⟨b, 1, none⟩ = some v1 ∧ W.cell? ⟨b, 2, none⟩ = some v2 := ⟨h.cell 0, h.cell 1, h.cell 2⟩
end Go.Proofs.Ytegpnicajlndlaa

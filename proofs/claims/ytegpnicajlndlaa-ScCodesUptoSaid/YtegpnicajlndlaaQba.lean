/- Several texts in one: RA1, RA2. -/
import Derived.Test.YtegpnicajlndlaaQaz
/- The reference's Memory, Atomic and Local on rows of one's own; its Copy, with rows apart; an append to nothing, and where it lies. -/
namespace Go.Proofs.Ytegpnicajlndlaa
open Go.RowKit M
set_option linter.unusedSimpArgs false
set_option linter.unusedVariables false

def memB (k : Int) : Bool := decide (k = 3 ∨ k = 4 ∨ k = 5 ∨ k = 7 ∨ k = 8 ∨ k = 9)
set_option maxRecDepth 100000 in
theorem rmemory_any (k : Int) (w : World) : Calls Try.prog 62 #[.int .i64 k] w fun e w' => e = .returned (.bool (memB k)) ∧ w' = w := by
  have hw := weight_any k w
  by_cases h0 : 0 < evOf k
  · by_cases h6 : k = 6
    · subst h6
      have e : memB 6 = false := by decide
      rw [e]
      have e2 : evOf 6 = 1 := by decide
      rw [e2] at hw
      clear h0
      go_enter Try.func62, Try.ntmps62
      go_wp2_with (first
        | (go_at_call 102; refine hw.mono ?_; rintro e w' ⟨rfl, hw'⟩; replace hw' := hw'.symm; subst hw'))
      go_ret
      exact ⟨rfl, rfl⟩
    · have e : memB k = true := by
        unfold memB evOf at *
        apply decide_eq_true
        split at h0
        · rename_i h; omega
        · split at h0
          · rename_i h; omega
          · omega
      rw [e]
      have hne : (k != 6) = true := by simpa using h6
      generalize evOf k = q at *
      go_enter Try.func62, Try.ntmps62
      go_wp2_with (first
        | (go_at_call 102; refine hw.mono ?_; rintro e w' ⟨rfl, hw'⟩; replace hw' := hw'.symm; subst hw'))
      go_ret
      exact ⟨by simp [hne], rfl⟩
  · have e : memB k = false := by
      unfold memB evOf at *
      apply decide_eq_false
      intro h
      apply h0
      split
      · omega
      · split
        · omega
        · omega
    rw [e]
    generalize evOf k = q at *
    go_enter Try.func62, Try.ntmps62
    go_wp2_with (first
      | (go_at_call 102; refine hw.mono ?_; rintro e w' ⟨rfl, hw'⟩; replace hw' := hw'.symm; subst hw'))
    go_ret
    exact ⟨rfl, rfl⟩
set_option maxRecDepth 100000 in
theorem atomic_imm0 (reg src loc imm old : Int) (nr c : Nat) (a : Option Addr) (w : World) :
    Calls Try.prog 63 #[.agg #[.int .i64 4, .int .i64 reg, .int .i64 src, .int .i64 loc, .int .i64 imm], .slice a nr c, .int .i64 old] w fun en w' => en = .returned (.tuple #[.int .i64 imm, .bool true]) ∧ Below w.heap.size w w' := by
  have t1 : True := trivial
  go_enter Try.func63, Try.ntmps63
  go_wp2_with (first
    | (clear t1; refine wpList_boxS rfl 63 _ rfl [.int .i64 4, .int .i64 reg, .int .i64 src, .int .i64 loc, .int .i64 imm] rfl ?_; intro W1 bb F1 C1; have B1 : Below w.heap.size w W1 := F1.trans (Below.refl _ w) (Nat.le_refl _); obtain ⟨x0, x1, x2, x3, x4⟩ := five C1; clear F1))
  exact ⟨rfl, .tuple #[.int .i64 imm, .bool true], (by simp [results, Try.results63, go_sem]), rfl, B1⟩
theorem set_same (m : List Int) (l : Nat) (h : l < m.length) : m.set l (m.getD l 0) = m := by
  refine List.ext_getElem? fun j => ?_
  rw [List.getElem?_set]
  split
  · rename_i e; subst e; simp [h]
  · rfl
set_option maxHeartbeats 2000000 in
/-- What an instruction that asks memory does: the registers, and the value that memory then has there. -/
theorem atomic_own (o : Op5) (r m : List Int) (B : Nat) (u : Value) (ho : OpIn o r.length m.length) (hk : memB o.kind = true) (hnr : r.length ≤ 1048576) (w : World) (hu : w.ownsRow B 2 1 u r.length (r.flatMap intE)) :
    Calls Try.prog 63 #[.agg (op5L o).toArray, u, .int .i64 (m.getD o.loc.toNat 0)] w fun e w' => (∃ v b, e = .returned (.tuple #[.int .i64 v, .bool b]) ∧ m.set o.loc.toNat v = doM o r m) ∧ w'.ownsRow B 2 1 u r.length ((doR o r m).flatMap intE) ∧ Fr w w' [u] := by
  obtain ⟨k, reg, src, loc, imm⟩ := o
  have hk' : k = 3 ∨ k = 4 ∨ k = 5 ∨ k = 7 ∨ k = 8 ∨ k = 9 := of_decide_eq_true hk
  rcases hk' with rfl | rfl | rfl | rfl | rfl | rfl
  · obtain ⟨i, rfl, hi⟩ := nat_of (ho.reg (by simp))
    obtain ⟨l, rfl, hl⟩ := nat_of (ho.loc (by simp))
    obtain ⟨g, c, cs, rfl, hg, hI, ht, hc, hm, hs⟩ := own_opn hu (Nat.lt_of_le_of_lt (Nat.zero_le _) hi)
    have hlb : 0 + r.length ≤ cs.length := by rw [hs]; omega
    refine (atomic_load src l imm (m.getD l 0) i 0 r.length c 2 g 0 cs hi hlb hnr w hI).mono ?_
    rintro e w' ⟨rfl, E, T⟩
    exact ⟨⟨(m.getD l 0), false, rfl, by simp [doM]; exact set_same m l hl⟩, put_own hg E ht hc hm hs, fr_one (n := r.length) (c := c) (o := 0) T _ (by simp)⟩
  · obtain ⟨l, rfl, hl⟩ := nat_of (ho.loc (by simp))
    obtain ⟨ar, cr, rfl⟩ := own_form hu
    refine (atomic_imm0 reg src l imm (m.getD l 0) r.length cr ar w).mono ?_
    rintro e w' ⟨rfl, Bw⟩
    exact ⟨⟨imm, true, rfl, by simp [doM]⟩, own_below hu Bw, Fr.of_below Bw _⟩
  · obtain ⟨j, rfl, hj⟩ := nat_of (ho.src (by simp))
    obtain ⟨l, rfl, hl⟩ := nat_of (ho.loc (by simp))
    obtain ⟨g, c, cs, rfl, hg, hI, ht, hc, hm, hs⟩ := own_opn hu (Nat.lt_of_le_of_lt (Nat.zero_le _) hj)
    have hlb : 0 + r.length ≤ cs.length := by rw [hs]; omega
    refine (atomic_reg reg l (r.getD j 0) imm (m.getD l 0) 0 j r.length c 2 g 0 cs hj (cell_of ht (get_of hj)) hlb hnr w hI).mono ?_
    rintro e w' ⟨rfl, Bw⟩
    exact ⟨⟨(r.getD j 0), true, rfl, by simp [doM]⟩, own_below hu Bw, Fr.of_below Bw _⟩
  · obtain ⟨i, rfl, hi⟩ := nat_of (ho.reg (by simp))
    obtain ⟨l, rfl, hl⟩ := nat_of (ho.loc (by simp))
    obtain ⟨g, c, cs, rfl, hg, hI, ht, hc, hm, hs⟩ := own_opn hu (Nat.lt_of_le_of_lt (Nat.zero_le _) hi)
    have hlb : 0 + r.length ≤ cs.length := by rw [hs]; omega
    refine (atomic_xchg src l (r.getD i 0) imm (m.getD l 0) i 0 r.length c 2 g 0 cs hi (cell_of ht (get_of hi)) hlb hnr w hI).mono ?_
    rintro e w' ⟨rfl, E, T⟩
    exact ⟨⟨(r.getD i 0), true, rfl, by simp [doM]⟩, put_own hg E ht hc hm hs, fr_one (n := r.length) (c := c) (o := 0) T _ (by simp)⟩
  · obtain ⟨i, rfl, hi⟩ := nat_of (ho.reg (by simp))
    obtain ⟨j, rfl, hj⟩ := nat_of (ho.src (by simp))
    obtain ⟨l, rfl, hl⟩ := nat_of (ho.loc (by simp))
    obtain ⟨g, c, cs, rfl, hg, hI, ht, hc, hm, hs⟩ := own_opn hu (Nat.lt_of_le_of_lt (Nat.zero_le _) hi)
    have hlb : 0 + r.length ≤ cs.length := by rw [hs]; omega
    by_cases hq : m.getD l 0 = r.getD i 0
    · have e1 : doR ⟨8, i, j, l, imm⟩ r m = r := by unfold doR; rw [if_neg (by simp), if_neg (by simp), if_neg (by simp), if_pos rfl]; exact if_pos hq
      have e2 : doM ⟨8, i, j, l, imm⟩ r m = m.set l (r.getD j 0) := by unfold doM; rw [if_neg (by simp), if_neg (by simp), if_neg (by simp), if_pos rfl]; exact if_pos hq
      rw [e1, e2]
      refine (atomic_cmp l (r.getD j 0) imm (m.getD l 0) i j r.length c 2 g 0 cs hi hj (by rw [hq]; exact cell_of ht (get_of hi)) (cell_of ht (get_of hj)) hlb hnr w hI).mono ?_
      rintro e w' ⟨rfl, Bw⟩
      exact ⟨⟨(r.getD j 0), true, rfl, rfl⟩, own_below hu Bw, Fr.of_below Bw _⟩
    · have e1 : doR ⟨8, i, j, l, imm⟩ r m = r.set i (m.getD l 0) := by unfold doR; rw [if_neg (by simp), if_neg (by simp), if_neg (by simp), if_pos rfl]; exact if_neg hq
      have e2 : doM ⟨8, i, j, l, imm⟩ r m = m := by unfold doM; rw [if_neg (by simp), if_neg (by simp), if_neg (by simp), if_pos rfl]; exact if_neg hq
      rw [e1, e2]
      refine (atomic_ncmp l (r.getD i 0) imm (m.getD l 0) i j r.length c 2 g 0 cs hi (cell_of ht (get_of hi)) hq hlb hnr w hI).mono ?_
      rintro e w' ⟨rfl, E, T⟩
      exact ⟨⟨(m.getD l 0), false, rfl, set_same m l hl⟩, put_own hg E ht hc hm hs, fr_one (n := r.length) (c := c) (o := 0) T _ (by simp)⟩
  · obtain ⟨i, rfl, hi⟩ := nat_of (ho.reg (by simp))
    obtain ⟨l, rfl, hl⟩ := nat_of (ho.loc (by simp))
    obtain ⟨g, c, cs, rfl, hg, hI, ht, hc, hm, hs⟩ := own_opn hu (Nat.lt_of_le_of_lt (Nat.zero_le _) hi)
    have hlb : 0 + r.length ≤ cs.length := by rw [hs]; omega
    refine (atomic_xadd src l (r.getD i 0) imm (m.getD l 0) i 0 r.length c 2 g 0 cs hi (cell_of ht (get_of hi)) hlb hnr w hI).mono ?_
    rintro e w' ⟨rfl, E, T⟩
    exact ⟨⟨(wrap64 (m.getD l 0 + r.getD i 0)), true, rfl, by simp [doM]⟩, put_own hg E ht hc hm hs, fr_one (n := r.length) (c := c) (o := 0) T _ (by simp)⟩
set_option maxHeartbeats 2000000 in
theorem local_own (o : Op5) (r m : List Int) (B : Nat) (u : Value) (ho : OpIn o r.length m.length) (hk : memB o.kind = false) (hnr : r.length ≤ 1048576) (w : World) (hu : w.ownsRow B 2 1 u r.length (r.flatMap intE)) :
    Calls Try.prog 64 #[.agg (op5L o).toArray, u] w fun e w' => e = .returned (.tuple #[]) ∧ w'.ownsRow B 2 1 u r.length ((doR o r m).flatMap intE) ∧ Fr w w' [u] := by
  obtain ⟨k, reg, src, loc, imm⟩ := o
  have hk' : ¬ (k = 3 ∨ k = 4 ∨ k = 5 ∨ k = 7 ∨ k = 8 ∨ k = 9) := of_decide_eq_false hk
  by_cases h1 : k = 1
  · subst h1
    obtain ⟨i, rfl, hi⟩ := nat_of (ho.reg (by simp))
    obtain ⟨g, c, cs, rfl, hg, hI, ht, hc, hm, hs⟩ := own_opn hu (Nat.lt_of_le_of_lt (Nat.zero_le _) hi)
    have hlb : 0 + r.length ≤ cs.length := by rw [hs]; omega
    refine (local_one src loc imm i r.length c 2 g 0 cs hi hlb hnr w hI).mono ?_
    rintro e w' ⟨rfl, E, T⟩
    exact ⟨rfl, put_own hg E ht hc hm hs, fr_one (n := r.length) (c := c) (o := 0) T _ (by simp)⟩
  by_cases h2 : k = 2
  · subst h2
    obtain ⟨i, rfl, hi⟩ := nat_of (ho.reg (by simp))
    obtain ⟨j, rfl, hj⟩ := nat_of (ho.src (by simp))
    obtain ⟨g, c, cs, rfl, hg, hI, ht, hc, hm, hs⟩ := own_opn hu (Nat.lt_of_le_of_lt (Nat.zero_le _) hi)
    have hlb : 0 + r.length ≤ cs.length := by rw [hs]; omega
    refine (local_two loc imm (r.getD j 0) i j r.length c 2 g 0 cs hi hj hlb hnr (cell_of ht (get_of hj)) w hI).mono ?_
    rintro e w' ⟨rfl, E, T⟩
    exact ⟨rfl, put_own hg E ht hc hm hs, fr_one (n := r.length) (c := c) (o := 0) T _ (by simp)⟩
  have e1 : doR ⟨k, reg, src, loc, imm⟩ r m = r := by
    unfold doR
    simp only [not_or] at hk'
    simp [h1, h2, hk']
  rw [e1]
  obtain ⟨ar, cr, rfl⟩ := own_form hu
  refine (local_none k reg src loc imm ar r.length cr h1 h2 w).mono ?_
  rintro e w' ⟨rfl, Bw⟩
  exact ⟨rfl, own_below hu Bw, Fr.of_below Bw _⟩
theorem doM_local {o : Op5} {r m : List Int} (hk : memB o.kind = false) : doM o r m = m := by
  have hk' : ¬ (o.kind = 3 ∨ o.kind = 4 ∨ o.kind = 5 ∨ o.kind = 7 ∨ o.kind = 8 ∨ o.kind = 9) := of_decide_eq_false hk
  unfold doM
  simp only [not_or] at hk'
  simp [hk']
theorem run_app0L {w : World} {t T k by' : Nat} {z : Value} (E : Elt t T k z by') (B b : Nat) (hown : w.ownsRow B t k (.slice (some ⟨b, 0, none⟩) 0 0) 0 []) (u : Value) (m : Nat) (cs : List Value) (hu : RowV w u m cs) (hl : cs.length = m * k) (h1 : ∀ x ∈ cs, x.oneCell' = true) (hn : m ≤ 4194304) (hB : B ≤ w.heap.size) (ty : TypeId) :
    ∃ v' w', (Builtin.append_ #[T, T] ty #[.slice (some ⟨b, 0, none⟩) 0 0, u]).run Try.prog w = .ok v' w' ∧ w'.ownsRow B t k v' m cs ∧ Below w.heap.size w w' ∧ ((m = 0 ∧ v' = .slice (some ⟨b, 0, none⟩) 0 0) ∨ ∀ k, v'.ownBlock = some k → w.heap.size ≤ k) := by
  obtain ⟨i0, hi, hz, hs, hby⟩ := E.info
  have hfew := E.few
  obtain ⟨ad, c, rfl, hT, hnil⟩ := hu
  by_cases hm : m = 0
  · subst hm
    have hcs : cs = [] := List.length_eq_zero_iff.1 (by rw [hl, Nat.zero_mul])
    subst hcs
    refine ⟨_, w, ?_, hown, Below.refl _ _, .inl ⟨rfl, rfl⟩⟩
    have hld : ∀ (x : Addr), (loadCells x 0).run Try.prog w = .ok #[] w := fun x => by simpa using run_loadCells_list (P := Try.prog) w x [] (by simp)
    cases ad with
    | none => simp [Builtin.append_, run_underlying E.und, sizeOf, typeInfo, hi, Builtin.lenOf, Builtin.firstCells, storeCells]
    | some x => simp [Builtin.append_, run_underlying E.und, sizeOf, typeInfo, hi, Builtin.lenOf, Builtin.firstCells, storeCells, hld]
  · have hpos := E.pos
    have : 0 < cs.length := by rw [hl]; exact Nat.mul_pos (by omega) hpos
    obtain ⟨b0, o0, rfl, _⟩ := hT 0 cs[0] (List.getElem?_eq_getElem this)
    have hnews : ∀ j y, cs[j]? = some y → w.cell? ((⟨b0, o0, none⟩ : Addr).add j) = some y := fun j y hj => by
      obtain ⟨b', o', e, _, hc⟩ := hT j y hj
      cases e
      rw [Addr.add_mid]
      exact hc
    have hb : (0 + m) * by' ≤ 140737488355328 := Nat.le_trans (Nat.mul_le_mul (by omega : 0 + m ≤ 4194304) hfew) (by decide)
    obtain ⟨v', w', hr, ho, hg, _⟩ := run_append_own (P := Try.prog) w B T ty t i0 z k by' E.und hi hz hs hby E.cells E.pos _ 0 [] hown ⟨b0, o0, none⟩ m c cs hl hnews h1 (by unfold maxLen; omega) hb hB
    have hfit : Builtin.nextslicecap (0 + m) 0 * i0.bytes ≤ 281474976710656 := by rw [Nat.zero_add, nextslicecap_zero (by omega), hby]; have := hb; rw [Nat.zero_add] at this; omega
    have hr2 := run_append_grow (P := Try.prog) (w := w) T ty t i0 z E.und hi hz ⟨b, 0, none⟩ 0 0 [] (by simp) (by simp) ⟨b0, o0, none⟩ m c cs (by rw [hs]; exact hl) hnews (by omega) (by omega) hfit
    rw [hr] at hr2
    injection hr2 with h2 h3
    refine ⟨v', w', hr, by rw [Nat.zero_add, List.nil_append] at ho; exact ho, ?_, .inr fun kk hkk => ?_⟩
    · rw [h3]
      exact (below_drew (Below.refl _ w)).alloc (Nat.le_refl _) _
    · rw [h2] at hkk
      simp [Value.ownBlock] at hkk
      omega
/-- One row more, whose block lies above the others'. -/
theorem OwnA.snoc {W W' : World} {B H : Nat} {v v' u : Value} {vs : List Value} {xss : List (List Int)} {xs : List Int} (h1 : vs.length = xss.length) (h2 : W.ownsRow B 26 1 v xss.length vs)
    (h3 : ∀ (j : Nat) u xs, vs[j]? = some u → xss[j]? = some xs → W.ownsRow B 2 1 u xs.length (xs.flatMap intE)) (h4 : ∀ (i j : Nat) u u' k, i ≠ j → vs[i]? = some u → vs[j]? = some u' → u.ownBlock = some k → u'.ownBlock ≠ some k) (h5 : ∀ (j : Nat) u xs k, vs[j]? = some u → xss[j]? = some xs → u.ownBlock = some k → k < H)
    (hu : W.ownsRow B 2 1 u xs.length (xs.flatMap intE)) (hlo : ∀ k, u.ownBlock = some k → H ≤ k) (ho : W'.ownsRow B 26 1 v' (xss.length + 1) (vs ++ [u])) (hg : W.grownBy W' v.ownBlock) : OwnA W' B v' (vs ++ [u]) (xss ++ [xs]) := by
  obtain ⟨vs', e1, e2, e3⟩ := OwnRows.snoc (enc := intE) h1 h2 h3 hu ho hg (by decide)
  have get : ∀ (j : Nat) x, (vs ++ [u])[j]? = some x → (∃ xs', vs[j]? = some x ∧ xss[j]? = some xs') ∨ (j = vs.length ∧ x = u) := fun j x hj => by
    by_cases hlt : j < vs.length
    · rw [List.getElem?_append_left hlt] at hj
      exact .inl ⟨xss[j]'(by omega), hj, List.getElem?_eq_getElem (by omega)⟩
    · have hl := (List.getElem?_eq_some_iff.1 hj).1
      rw [List.length_append, List.length_singleton] at hl
      have e : j = vs.length := by omega
      subst e
      rw [List.getElem?_append_right (Nat.le_refl _), Nat.sub_self] at hj
      simp at hj
      exact .inr ⟨rfl, hj.symm⟩
  refine ⟨by simp [h1], by rw [List.length_append]; exact ho, fun j u' xs' hj hx => ?_, fun i j x y k hij hi hj hk hk2 => ?_⟩
  · by_cases hlt : j < vs.length
    · rw [List.getElem?_append_left hlt] at hj
      rw [List.getElem?_append_left (by omega)] at hx
      exact own_grow (h3 j u' xs' hj hx) h2 hg (by decide)
    · have hl := (List.getElem?_eq_some_iff.1 hj).1
      rw [List.length_append, List.length_singleton] at hl
      have e : j = vs.length := by omega
      subst e
      rw [List.getElem?_append_right (Nat.le_refl _), Nat.sub_self] at hj
      rw [List.getElem?_append_right (by omega), h1, Nat.sub_self] at hx
      cases hj; cases hx
      exact own_grow hu h2 hg (by decide)
  · rcases get i x hi with ⟨xi, hi1, hi2⟩ | ⟨hi1, hi2⟩
    · rcases get j y hj with ⟨xj, hj1, hj2⟩ | ⟨hj1, hj2⟩
      · exact h4 i j x y k hij hi1 hj1 hk hk2
      · subst hj2
        have := h5 i x xi k hi1 hi2 hk
        have := hlo k hk2
        omega
    · subst hi2
      rcases get j y hj with ⟨xj, hj1, hj2⟩ | ⟨hj1, hj2⟩
      · have := h5 j y xj k hj1 hj2 hk2
        have := hlo k hk
        omega
      · omega
set_option maxRecDepth 100000 in
set_option maxHeartbeats 4000000 in
theorem rcopyA_any (ri : List (List Int)) (hi : ri.length ≤ 1048576) (hii : ri.flatten.length ≤ 1048576) (ai : Option Addr) (ci : Nat) (w : World) (hR : RowsV w (.slice ai ri.length ci) intE ri) :
    Calls Try.prog 40 #[.slice ai ri.length ci] w fun en w' => ∃ v, en = .returned v ∧ (∃ vs, OwnA w' w.heap.size v vs ri) ∧ Below w.heap.size w w' := by
  have HI : Hid (RowsV w (.slice ai ri.length ci) intE ri) := hR
  have HII : Hid (ri.flatten.length ≤ 1048576) := hii
  obtain ⟨ni, hni⟩ : ∃ n, ri.length = n := ⟨_, rfl⟩
  have HNI : Hid (ri.length = ni) := hni
  rw [hni] at HI hi ⊢
  clear hR hii hni
  go_enter Try.func40, Try.ntmps40
  go_wp2_with fail
  go_loopw [3, 4] (fun v i wr => ∃ k : Nat, k ≤ ni ∧ i = .int .i64 k ∧ Hid (∃ vs, OwnA wr w.heap.size v vs (ri.take k)) ∧ Hid (Below w.heap.size w wr)) (fun _ i _ => ni - (intOf i).toNat)
  case atStart => exact ⟨0, Nat.zero_le _, rfl, ⟨[], by rw [List.take_zero]; rfl, by rw [List.take_zero]; exact own_nil _ _ _ _, fun j u xs hu => by simp at hu, fun i j u u' k _ hu => by simp at hu⟩, Below.refl _ _⟩
  case round =>
    obtain ⟨k, hk, rfl, HO, HB⟩ := hrel
    by_cases hlt : k < ni
    · have hki : (k : Int) < ni := by omega
      obtain ⟨q, hq⟩ : ∃ q, ri[k]? = some q := ⟨_, List.getElem?_eq_getElem (by rw [HNI.out]; exact hlt)⟩
      obtain ⟨bi, oi, ai', ci', rfl, hbi, hci, hsegi, hnil⟩ := (HI.out.below HB.out).at k q hq
      have hql : q.length ≤ 1048576 := Nat.le_trans (by have := flat_at hq (Nat.le_refl _); rw [List.take_length, List.length_append] at this; omega) HII.out
      have HQ : Hid (ri.take (k + 1) = ri.take k ++ [q]) := take_at hq
      have HRV : Hid (RowV wr (.slice ai' q.length ci') q.length (q.flatMap intE)) := ⟨ai', ci', rfl, hsegi, hnil⟩
      obtain ⟨vs, ho1, ho2, ho3, ho4⟩ := HO.out
      have H4 : Hid (∀ (i j : Nat) u u' k, i ≠ j → vs[i]? = some u → vs[j]? = some u' → u.ownBlock = some k → u'.ownBlock ≠ some k) := ho4
      have hkl : (ri.take k).length = k := by rw [List.length_take, HNI.out]; omega
      rw [hkl] at ho1 ho2
      obtain ⟨av, cv, hv⟩ := own_form ho2
      subst hv
      obtain ⟨qn, hqn⟩ : ∃ n, q.length = n := ⟨_, rfl⟩
      have HQN : Hid (q.length = qn) := hqn
      have H1 : Hid (vs.length = k) := ho1
      have H2 : Hid (wr.ownsRow w.heap.size 26 1 (.slice av k cv) k vs) := ho2
      have H3 : Hid (∀ (j : Nat) u xs, vs[j]? = some u → (ri.take k)[j]? = some xs → wr.ownsRow w.heap.size 2 1 u xs.length (xs.flatMap intE)) := ho3
      have HKL : Hid ((ri.take k).length = k) := hkl
      rw [hqn] at hci hql HRV
      clear hq hsegi hnil ho1 ho2 ho3 ho4 hkl hqn HO
      have t1 : True := trivial
      have t2 : True := trivial
      have t3 : True := trivial
      have t4 : True := trivial
      go_wp2_with (first
        | (clear t1; refine wpList_build0E eInt rfl rfl ?_; intro W1 b1 F1 O1; have B1 := F1.trans HB.out HB.out.size; have Bx1 := F1.trans (Below.refl _ wr) (Nat.le_refl _); have hc1 : W1.cell? ⟨bi, oi + k, none⟩ = some (.slice ai' qn ci') := (by rw [Bx1.cell (p := ⟨bi, oi + k, none⟩) hbi]; exact hci); clear F1)
        | (clear t2; at_builtin; refine wpList_appM eInt rfl _ _ rfl wr.heap.size _ 0 [] rfl O1 _ qn (q.flatMap intE) rfl (HRV.out.below Bx1) (by rw [int_len, HQN.out]) (int_one q) (by omega) Bx1.size ?_; intro v2 W2 O2x G2; have Bx2 := grown_below Bx1 Bx1.size O1 G2; have hlo : ∀ k, v2.ownBlock = some k → wr.heap.size ≤ k := (fun k hk => (own_lt O2x hk).1); have O2 : W2.ownsRow w.heap.size 2 1 v2 qn (q.flatMap intE) := (by have h := own_raise O2x HB.out.size; rw [Nat.zero_add, List.nil_append] at h; exact h); have B2 := Below.then HB.out Bx2; clear G2 O2x O1 hc1)
        | (clear t3; refine wpList_build1E eInts rfl _ rfl v2 rfl (own_cell O2) ?_; intro W3 b3 F3 C3; have Bx3 := F3.trans Bx2 Bx2.size; have B3 := F3.trans B2 B2.size; have O3 := own_below O2 (F3.trans (Below.refl _ _) (Nat.le_refl _)); have P3 := own_below H2.out Bx3; clear F3 O2)
        | (clear t4; at_builtin; refine wpList_appM eInts rfl _ _ rfl w.heap.size _ k vs rfl P3 _ 1 [v2] rfl (row_isS C3) rfl (by simp [own_cell O3]) (by omega) B3.size ?_; intro v4 W4 O4 G4; have B4 := grown_below B3 B3.size P3 G4))
      have HF : Hid (∃ vs, OwnA W4 w.heap.size v4 vs (ri.take (k + 1))) := (by
        rw [HQ.out]
        refine ⟨vs ++ [v2], OwnA.snoc (H := wr.heap.size) (by rw [HKL.out]; exact H1.out) (by rw [HKL.out]; exact P3) (fun j u xs hu hx => own_below (H3.out j u xs hu hx) Bx3) H4.out (fun j u xs k hu hx hk => (own_lt (H3.out j u xs hu hx) hk).2) (by rw [HQN.out]; exact O3) hlo (by rw [HKL.out]; exact O4) G4⟩)
      clear G4 O4 P3 O3 C3
      go_wp2_with fail
      go_roundw
      case rel => exact ⟨k + 1, by omega, by go_num, HF, B4⟩
      case measure => simp [intOf]; omega
    · have hki : ¬ (k : Int) < ni := by omega
      have HF : Hid (∃ vs, OwnA wr w.heap.size u3 vs ri) := (by have := HO.out; rw [show k = ri.length by rw [HNI.out]; omega, List.take_length] at this; exact this)
      go_wp2_with fail
      go_ret
      exact ⟨_, rfl, HF.out, HB.out⟩
end Go.Proofs.Ytegpnicajlndlaa
/- The reference's First: the state in which a program begins. -/
namespace Go.Proofs.Ytegpnicajlndlaa
open Go.RowKit M
set_option linter.unusedSimpArgs false
set_option linter.unusedVariables false

def wrE (x : Int × Int) : List Value := [.int .i64 x.1, .int .i64 x.2]
/-- A state of the machine of sequential consistency, as it is read. -/
structure RS (w : World) (vpc vph vrg vmm vbf : Value) (n : Nat) (pc : List Int) (regs : List (List Int)) (mem : List Int) : Prop where
  pc : RowV w vpc n (pc.flatMap intE)
  ph : RowV w vph n ((List.replicate n (0 : Int)).flatMap intE)
  rg : RowsV w vrg intE regs
  mm : RowV w vmm mem.length (mem.flatMap intE)
  bf : RowsV w vbf wrE (List.replicate n ([] : List (Int × Int)))
theorem RS.below {w W : World} {vpc vph vrg vmm vbf : Value} {n : Nat} {pc : List Int} {regs : List (List Int)} {mem : List Int} (h : RS w vpc vph vrg vmm vbf n pc regs mem) (hB : Below w.heap.size w W) : RS W vpc vph vrg vmm vbf n pc regs mem :=
  ⟨h.pc.below hB, h.ph.below hB, h.rg.below hB, h.mm.below hB, h.bf.below hB⟩
theorem rep_row {W : World} {g n : Nat} (I : IsS W g 3 (List.replicate n (.int .i64 0))) : RowV W (.slice (some ⟨g, 0, none⟩) n n) n ((List.replicate n (0 : Int)).flatMap intE) := by
  rw [int_map, List.map_replicate]; exact row_isS I
theorem rep_rows {W : World} {g n : Nat} (I : IsS W g 48 (List.replicate n (.slice none 0 0))) : RowsV W (.slice (some ⟨g, 0, none⟩) n n) wrE (List.replicate n ([] : List (Int × Int))) := by
  refine ⟨List.replicate n (.slice none 0 0), by simp, by rw [List.length_replicate]; exact row_isS I, fun j u xs hu hx => ?_⟩
  rw [List.getElem?_replicate] at hu hx
  split at hu
  · rw [if_pos ‹_›] at hx
    cases hu; cases hx
    exact ⟨none, 0, rfl, Seg.nil _ _, fun _ => rfl⟩
  · cases hu
set_option maxRecDepth 100000 in
set_option maxHeartbeats 4000000 in
theorem rfirst_any (p : PG) (n : Nat) (hf : p.Few) (hn0 : p.threads.length = n) (vt vr vl vi vj : Value) (w : World) (hp : PGV w vt vr vl vi vj p) :
    Calls Try.prog 29 #[.agg #[vt, vr, vl, vi, vj]] w fun e w' => ∃ vpc vph vrg vmm vbf, e = .returned (.agg #[vpc, vph, vrg, vmm, vbf, .int .i64 (-1)]) ∧ RS w' vpc vph vrg vmm vbf n (List.replicate n 0) p.regInit p.locInit ∧ Below w.heap.size w w' := by
  have hn : n ≤ 1048576 := by rw [← hn0]; exact hf.t
  obtain ⟨at', ct, rfl⟩ := hp.t.form
  obtain ⟨ai, ci, rfl⟩ := hp.i.form
  have hjf := hf.j
  obtain ⟨aj, cj, rfl, hsj, hzj⟩ := hp.j
  have hC1 := fun W (h : RowsV W (.slice ai p.regInit.length ci) intE p.regInit) => rcopyA_any p.regInit hf.i hf.ii ai ci W h
  have HI : Hid (RowsV w (.slice ai p.regInit.length ci) intE p.regInit) := hp.i
  have HRV : Hid (RowV w (.slice aj p.locInit.length cj) p.locInit.length (p.locInit.flatMap intE)) := ⟨aj, cj, rfl, hsj, hzj⟩
  obtain ⟨ri, hri⟩ : ∃ r, p.regInit = r := ⟨_, rfl⟩
  obtain ⟨lj, hlj⟩ : ∃ r, p.locInit = r := ⟨_, rfl⟩
  rw [hri] at hC1 HI
  rw [hlj] at HRV hjf
  simp only [hri, hlj, hn0]
  obtain ⟨ni, hni⟩ : ∃ k, ri.length = k := ⟨_, rfl⟩
  obtain ⟨nj, hnj⟩ : ∃ k, lj.length = k := ⟨_, rfl⟩
  have HNI : Hid (ri.length = ni) := hni
  have HNJ : Hid (lj.length = nj) := hnj
  rw [hni] at hC1 HI
  rw [hnj] at HRV hjf
  simp only [hni, hnj]
  clear hp hsj hri hlj hni hnj hf hn0
  have hnI : (n : Int) ≤ 1048576 := by omega
  have t1 : True := trivial
  have t2 : True := trivial
  have t3 : True := trivial
  go_enter Try.func29, Try.ntmps29
  go_wp2_with (first
    | (clear t1; refine wpList_boxS rfl 28 _ rfl [.slice at' n ct, vr, vl, .slice ai ni ci, .slice aj nj cj] rfl ?_; intro W0 b1 F0 C0; have B0 := F_b F0)
    | (clear t2; refine wpList_allocS rfl 32 rfl [.slice none 0 0, .slice none 0 0, .slice none 0 0, .slice none 0 0, .slice none 0 0, .int .i64 0] zeroSt ?_; intro W1 b2 F1 D1; have C1 := C0.fresh F1; have B1 := F1.trans B0 B0.size; have hb2 : w.heap.size ≤ b2 := Nat.le_trans B0.size (Nat.le_of_eq F1.at'.symm); have n12 : b1 ≠ b2 := (by have := C0.lt; have := F1.at'; omega); have x0 : W1.cell? ⟨b1, 0, none⟩ = some (.slice at' n ct) := C1.cell 0; clear F0 F1 C0))
  clear x0
  refine region_invA 13 (fun a0 listed a' w' => ∃ x7 x8 x9 x10 x11 x12 x13 x14 x15 x16 x17 x18 x19 : Value, a' = (((((((((((((a0.put (some 7) x7).put (some 8) x8).put (some 9) x9).put (some 10) x10).put (some 11) x11).put (some 12) x12).put (some 13) x13).put (some 14) x14).put (some 15) x15).put (some 16) x16).put (some 17) x17).put (some 18) x18).put (some 19) x19) ∧ Hid (Below W1.heap.size W1 w') ∧ (listed.getD 0 false = true → x7 = (.int .i64 (n : Int))) ∧ (listed.getD 1 false = true → ∃ g, x8 = .slice (some ⟨g, 0, none⟩) n n ∧ W1.heap.size ≤ g ∧ IsS w' g 3 (List.replicate n (.int .i64 0))) ∧ (listed.getD 2 false = true → x9 = (.int .i64 (n : Int))) ∧ (listed.getD 3 false = true → ∃ g, x10 = .slice (some ⟨g, 0, none⟩) n n ∧ W1.heap.size ≤ g ∧ IsS w' g 3 (List.replicate n (.int .i64 0))) ∧ (listed.getD 4 false = true → x11 = (.pointer (some ⟨b1, 3, none⟩))) ∧ (listed.getD 5 false = true → x12 = (.slice ai ni ci)) ∧ (listed.getD 6 false = true → ∃ vs, OwnA w' W1.heap.size x13 vs ri) ∧ (listed.getD 7 false = true → ∃ g, x14 = .slice (some ⟨g, 0, none⟩) 0 0 ∧ w'.ownsRow W1.heap.size 2 1 (.slice (some ⟨g, 0, none⟩) 0 0) 0 []) ∧ (listed.getD 8 false = true → x15 = (.pointer (some ⟨b1, 4, none⟩))) ∧ (listed.getD 9 false = true → x16 = (.slice aj nj cj)) ∧ (listed.getD 10 false = true → w'.ownsRow W1.heap.size 2 1 x17 nj (lj.flatMap intE)) ∧ (listed.getD 11 false = true → x18 = (.int .i64 (n : Int))) ∧ (listed.getD 12 false = true → ∃ g, x19 = .slice (some ⟨g, 0, none⟩) n n ∧ W1.heap.size ≤ g ∧ IsS w' g 48 (List.replicate n (.slice none 0 0)))) (by kernel_rfl) (by kernel_rfl) ?i0 ?istep ?iend
  case i0 => exact ⟨_, _, _, _, _, _, _, _, _, _, _, _, _, by first | (simp only [Act.put, List.setIfInBounds_toArray, List.set_cons_succ, List.set_cons_zero]; done) | (simp only [Act.put, List.setIfInBounds_toArray, List.set_cons_succ, List.set_cons_zero]; rfl) | rfl, below_drew (Below.refl _ _), fun h => (not_rep h).elim, fun h => (not_rep h).elim, fun h => (not_rep h).elim, fun h => (not_rep h).elim, fun h => (not_rep h).elim, fun h => (not_rep h).elim, fun h => (not_rep h).elim, fun h => (not_rep h).elim, fun h => (not_rep h).elim, fun h => (not_rep h).elim, fun h => (not_rep h).elim, fun h => (not_rep h).elim, fun h => (not_rep h).elim⟩
  case istep =>
    rintro i listed a' w' hi hr ⟨x7, x8, x9, x10, x11, x12, x13, x14, x15, x16, x17, x18, x19, rfl, HBw, d0, d1, d2, d3, d4, d5, d6, d7, d8, d9, d10, d11, d12⟩
    obtain ⟨hun, oj, hoj, hwt⟩ := mem_ready.1 hr
    simp only [Act.put, List.setIfInBounds_toArray, List.set_cons_succ, List.set_cons_zero]
    have hcase : i = 0 ∨ i = 1 ∨ i = 2 ∨ i = 3 ∨ i = 4 ∨ i = 5 ∨ i = 6 ∨ i = 7 ∨ i = 8 ∨ i = 9 ∨ i = 10 ∨ i = 11 ∨ i = 12 := by omega
    rcases hcase with rfl | rfl | rfl | rfl | rfl | rfl | rfl | rfl | rfl | rfl | rfl | rfl | rfl
    · have hoj2 := hoj
      obtain rfl := Option.some.inj hoj
      refine wpOp_value hoj2 rfl (v := (.int .i64 (n : Int))) (w' := w') (by first | rfl | (go_simp; done) | (simp [go_sem]; done) | (simp [execOp, go_sem]; done)) ?_
      exact ⟨(.int .i64 (n : Int)), x8, x9, x10, x11, x12, x13, x14, x15, x16, x17, x18, x19, by first | (simp only [Act.put, List.setIfInBounds_toArray, List.set_cons_succ, List.set_cons_zero]; done) | (simp only [Act.put, List.setIfInBounds_toArray, List.set_cons_succ, List.set_cons_zero]; rfl) | rfl, Below.then HBw.out (Below.refl _ _), fun _ => rfl, fun h => (Exists.elim (d1 (keep (by decide) h)) fun g h => ⟨g, h.1, h.2.1, h.2.2.grown (Below.refl _ _)⟩), fun h => (d2 (keep (by decide) h)), fun h => (Exists.elim (d3 (keep (by decide) h)) fun g h => ⟨g, h.1, h.2.1, h.2.2.grown (Below.refl _ _)⟩), fun h => (d4 (keep (by decide) h)), fun h => (d5 (keep (by decide) h)), fun h => (Exists.elim (d6 (keep (by decide) h)) fun vs h => ⟨vs, h.below (Below.refl _ _)⟩), fun h => (Exists.elim (d7 (keep (by decide) h)) fun g h => ⟨g, h.1, own_below h.2 (Below.refl _ _)⟩), fun h => (d8 (keep (by decide) h)), fun h => (d9 (keep (by decide) h)), fun h => (own_below (d10 (keep (by decide) h)) (Below.refl _ _)), fun h => (d11 (keep (by decide) h)), fun h => (Exists.elim (d12 (keep (by decide) h)) fun g h => ⟨g, h.1, h.2.1, h.2.2.grown (Below.refl _ _)⟩)⟩
    · have hoj2 := hoj
      obtain rfl := Option.some.inj hoj
      have e0 := d0 (hwt ⟨0, .data⟩ (by simp) rfl)
      subst e0
      refine wpOp_value hoj2 rfl (exec_make1 eIntI rfl _ _ rfl n hn rfl rfl) ?_
      have B9 := F_b (Fresh.alloc w' (.cells (List.replicate n (.int .i64 0)).toArray 3))
      exact ⟨(.int .i64 (n : Int)), _, x9, x10, x11, x12, x13, x14, x15, x16, x17, x18, x19, by first | (simp only [Act.put, List.setIfInBounds_toArray, List.set_cons_succ, List.set_cons_zero]; done) | (simp only [Act.put, List.setIfInBounds_toArray, List.set_cons_succ, List.set_cons_zero]; rfl) | rfl, Below.then HBw.out B9, fun h => (d0 (keep (by decide) h)), fun _ => ⟨_, rfl, HBw.out.size, IsS.new w' 3 (List.replicate n (.int .i64 0))⟩, fun h => (d2 (keep (by decide) h)), fun h => (Exists.elim (d3 (keep (by decide) h)) fun g h => ⟨g, h.1, h.2.1, h.2.2.grown B9⟩), fun h => (d4 (keep (by decide) h)), fun h => (d5 (keep (by decide) h)), fun h => (Exists.elim (d6 (keep (by decide) h)) fun vs h => ⟨vs, h.below B9⟩), fun h => (Exists.elim (d7 (keep (by decide) h)) fun g h => ⟨g, h.1, own_below h.2 B9⟩), fun h => (d8 (keep (by decide) h)), fun h => (d9 (keep (by decide) h)), fun h => (own_below (d10 (keep (by decide) h)) B9), fun h => (d11 (keep (by decide) h)), fun h => (Exists.elim (d12 (keep (by decide) h)) fun g h => ⟨g, h.1, h.2.1, h.2.2.grown B9⟩)⟩
    · have hoj2 := hoj
      obtain rfl := Option.some.inj hoj
      refine wpOp_value hoj2 rfl (v := (.int .i64 (n : Int))) (w' := w') (by first | rfl | (go_simp; done) | (simp [go_sem]; done) | (simp [execOp, go_sem]; done)) ?_
      exact ⟨x7, x8, (.int .i64 (n : Int)), x10, x11, x12, x13, x14, x15, x16, x17, x18, x19, by first | (simp only [Act.put, List.setIfInBounds_toArray, List.set_cons_succ, List.set_cons_zero]; done) | (simp only [Act.put, List.setIfInBounds_toArray, List.set_cons_succ, List.set_cons_zero]; rfl) | rfl, Below.then HBw.out (Below.refl _ _), fun h => (d0 (keep (by decide) h)), fun h => (Exists.elim (d1 (keep (by decide) h)) fun g h => ⟨g, h.1, h.2.1, h.2.2.grown (Below.refl _ _)⟩), fun _ => rfl, fun h => (Exists.elim (d3 (keep (by decide) h)) fun g h => ⟨g, h.1, h.2.1, h.2.2.grown (Below.refl _ _)⟩), fun h => (d4 (keep (by decide) h)), fun h => (d5 (keep (by decide) h)), fun h => (Exists.elim (d6 (keep (by decide) h)) fun vs h => ⟨vs, h.below (Below.refl _ _)⟩), fun h => (Exists.elim (d7 (keep (by decide) h)) fun g h => ⟨g, h.1, own_below h.2 (Below.refl _ _)⟩), fun h => (d8 (keep (by decide) h)), fun h => (d9 (keep (by decide) h)), fun h => (own_below (d10 (keep (by decide) h)) (Below.refl _ _)), fun h => (d11 (keep (by decide) h)), fun h => (Exists.elim (d12 (keep (by decide) h)) fun g h => ⟨g, h.1, h.2.1, h.2.2.grown (Below.refl _ _)⟩)⟩
    · have hoj2 := hoj
      obtain rfl := Option.some.inj hoj
      have e2 := d2 (hwt ⟨2, .data⟩ (by simp) rfl)
      subst e2
      refine wpOp_value hoj2 rfl (exec_make1 eIntI rfl _ _ rfl n hn rfl rfl) ?_
      have B9 := F_b (Fresh.alloc w' (.cells (List.replicate n (.int .i64 0)).toArray 3))
      exact ⟨x7, x8, (.int .i64 (n : Int)), _, x11, x12, x13, x14, x15, x16, x17, x18, x19, by first | (simp only [Act.put, List.setIfInBounds_toArray, List.set_cons_succ, List.set_cons_zero]; done) | (simp only [Act.put, List.setIfInBounds_toArray, List.set_cons_succ, List.set_cons_zero]; rfl) | rfl, Below.then HBw.out B9, fun h => (d0 (keep (by decide) h)), fun h => (Exists.elim (d1 (keep (by decide) h)) fun g h => ⟨g, h.1, h.2.1, h.2.2.grown B9⟩), fun h => (d2 (keep (by decide) h)), fun _ => ⟨_, rfl, HBw.out.size, IsS.new w' 3 (List.replicate n (.int .i64 0))⟩, fun h => (d4 (keep (by decide) h)), fun h => (d5 (keep (by decide) h)), fun h => (Exists.elim (d6 (keep (by decide) h)) fun vs h => ⟨vs, h.below B9⟩), fun h => (Exists.elim (d7 (keep (by decide) h)) fun g h => ⟨g, h.1, own_below h.2 B9⟩), fun h => (d8 (keep (by decide) h)), fun h => (d9 (keep (by decide) h)), fun h => (own_below (d10 (keep (by decide) h)) B9), fun h => (d11 (keep (by decide) h)), fun h => (Exists.elim (d12 (keep (by decide) h)) fun g h => ⟨g, h.1, h.2.1, h.2.2.grown B9⟩)⟩
    · have hoj2 := hoj
      obtain rfl := Option.some.inj hoj
      refine wpOp_value hoj2 rfl (v := (.pointer (some ⟨b1, 3, none⟩))) (w' := w') (by first | rfl | (go_simp; done) | (simp [go_sem]; done) | (simp [execOp, go_sem]; done)) ?_
      exact ⟨x7, x8, x9, x10, (.pointer (some ⟨b1, 3, none⟩)), x12, x13, x14, x15, x16, x17, x18, x19, by first | (simp only [Act.put, List.setIfInBounds_toArray, List.set_cons_succ, List.set_cons_zero]; done) | (simp only [Act.put, List.setIfInBounds_toArray, List.set_cons_succ, List.set_cons_zero]; rfl) | rfl, Below.then HBw.out (Below.refl _ _), fun h => (d0 (keep (by decide) h)), fun h => (Exists.elim (d1 (keep (by decide) h)) fun g h => ⟨g, h.1, h.2.1, h.2.2.grown (Below.refl _ _)⟩), fun h => (d2 (keep (by decide) h)), fun h => (Exists.elim (d3 (keep (by decide) h)) fun g h => ⟨g, h.1, h.2.1, h.2.2.grown (Below.refl _ _)⟩), fun _ => rfl, fun h => (d5 (keep (by decide) h)), fun h => (Exists.elim (d6 (keep (by decide) h)) fun vs h => ⟨vs, h.below (Below.refl _ _)⟩), fun h => (Exists.elim (d7 (keep (by decide) h)) fun g h => ⟨g, h.1, own_below h.2 (Below.refl _ _)⟩), fun h => (d8 (keep (by decide) h)), fun h => (d9 (keep (by decide) h)), fun h => (own_below (d10 (keep (by decide) h)) (Below.refl _ _)), fun h => (d11 (keep (by decide) h)), fun h => (Exists.elim (d12 (keep (by decide) h)) fun g h => ⟨g, h.1, h.2.1, h.2.2.grown (Below.refl _ _)⟩)⟩
    · have hoj2 := hoj
      obtain rfl := Option.some.inj hoj
      have e4 := d4 (hwt ⟨4, .data⟩ (by simp) rfl)
      subst e4
      refine wpOp_cell hoj2 rfl 25 _ rfl rfl (v := (.slice ai ni ci)) (ldcRr w' ((IsS.cell (C1.grown HBw.out) 3).trans rfl)) ?_
      exact ⟨x7, x8, x9, x10, (.pointer (some ⟨b1, 3, none⟩)), (.slice ai ni ci), x13, x14, x15, x16, x17, x18, x19, by first | (simp only [Act.put, List.setIfInBounds_toArray, List.set_cons_succ, List.set_cons_zero]; done) | (simp only [Act.put, List.setIfInBounds_toArray, List.set_cons_succ, List.set_cons_zero]; rfl) | rfl, Below.then HBw.out (Below.refl _ _), fun h => (d0 (keep (by decide) h)), fun h => (Exists.elim (d1 (keep (by decide) h)) fun g h => ⟨g, h.1, h.2.1, h.2.2.grown (Below.refl _ _)⟩), fun h => (d2 (keep (by decide) h)), fun h => (Exists.elim (d3 (keep (by decide) h)) fun g h => ⟨g, h.1, h.2.1, h.2.2.grown (Below.refl _ _)⟩), fun h => (d4 (keep (by decide) h)), fun _ => rfl, fun h => (Exists.elim (d6 (keep (by decide) h)) fun vs h => ⟨vs, h.below (Below.refl _ _)⟩), fun h => (Exists.elim (d7 (keep (by decide) h)) fun g h => ⟨g, h.1, own_below h.2 (Below.refl _ _)⟩), fun h => (d8 (keep (by decide) h)), fun h => (d9 (keep (by decide) h)), fun h => (own_below (d10 (keep (by decide) h)) (Below.refl _ _)), fun h => (d11 (keep (by decide) h)), fun h => (Exists.elim (d12 (keep (by decide) h)) fun g h => ⟨g, h.1, h.2.1, h.2.2.grown (Below.refl _ _)⟩)⟩
    · have hoj2 := hoj
      obtain rfl := Option.some.inj hoj
      have e5 := d5 (hwt ⟨5, .data⟩ (by simp) rfl)
      subst e5
      refine wpOp_call hoj2 rfl (f := 40) (args := #[.slice ai ni ci]) (by first | rfl | (go_simp; done) | (simp [go_sem]; done) | (simp [execOp, go_sem]; done)) ?_
      refine (hC1 w' (HI.out.below (Below.then B1 HBw.out))).mono ?_
      rintro e w4 ⟨v7, rfl, ⟨vs, O7⟩, B4⟩
      refine ⟨_, rfl, ?_⟩
      exact ⟨x7, x8, x9, x10, x11, (.slice ai ni ci), v7, x14, x15, x16, x17, x18, x19, by first | (simp only [Act.put, List.setIfInBounds_toArray, List.set_cons_succ, List.set_cons_zero]; done) | (simp only [Act.put, List.setIfInBounds_toArray, List.set_cons_succ, List.set_cons_zero]; rfl) | rfl, Below.then HBw.out B4, fun h => (d0 (keep (by decide) h)), fun h => (Exists.elim (d1 (keep (by decide) h)) fun g h => ⟨g, h.1, h.2.1, h.2.2.grown B4⟩), fun h => (d2 (keep (by decide) h)), fun h => (Exists.elim (d3 (keep (by decide) h)) fun g h => ⟨g, h.1, h.2.1, h.2.2.grown B4⟩), fun h => (d4 (keep (by decide) h)), fun h => (d5 (keep (by decide) h)), fun _ => ⟨vs, O7.raise HBw.out.size⟩, fun h => (Exists.elim (d7 (keep (by decide) h)) fun g h => ⟨g, h.1, own_below h.2 B4⟩), fun h => (d8 (keep (by decide) h)), fun h => (d9 (keep (by decide) h)), fun h => (own_below (d10 (keep (by decide) h)) B4), fun h => (d11 (keep (by decide) h)), fun h => (Exists.elim (d12 (keep (by decide) h)) fun g h => ⟨g, h.1, h.2.1, h.2.2.grown B4⟩)⟩
    · have hoj2 := hoj
      obtain rfl := Option.some.inj hoj
      refine wpOp_value hoj2 rfl (exec_build0 eInt rfl) ?_
      have B9 := F_b (Fresh.alloc w' (.cells #[] 2))
      exact ⟨x7, x8, x9, x10, x11, x12, x13, _, x15, x16, x17, x18, x19, by first | (simp only [Act.put, List.setIfInBounds_toArray, List.set_cons_succ, List.set_cons_zero]; done) | (simp only [Act.put, List.setIfInBounds_toArray, List.set_cons_succ, List.set_cons_zero]; rfl) | rfl, Below.then HBw.out B9, fun h => (d0 (keep (by decide) h)), fun h => (Exists.elim (d1 (keep (by decide) h)) fun g h => ⟨g, h.1, h.2.1, h.2.2.grown B9⟩), fun h => (d2 (keep (by decide) h)), fun h => (Exists.elim (d3 (keep (by decide) h)) fun g h => ⟨g, h.1, h.2.1, h.2.2.grown B9⟩), fun h => (d4 (keep (by decide) h)), fun h => (d5 (keep (by decide) h)), fun h => (Exists.elim (d6 (keep (by decide) h)) fun vs h => ⟨vs, h.below B9⟩), fun _ => ⟨_, rfl, own_raise (own_build0 eInt w') HBw.out.size⟩, fun h => (d8 (keep (by decide) h)), fun h => (d9 (keep (by decide) h)), fun h => (own_below (d10 (keep (by decide) h)) B9), fun h => (d11 (keep (by decide) h)), fun h => (Exists.elim (d12 (keep (by decide) h)) fun g h => ⟨g, h.1, h.2.1, h.2.2.grown B9⟩)⟩
    · have hoj2 := hoj
      obtain rfl := Option.some.inj hoj
      refine wpOp_value hoj2 rfl (v := (.pointer (some ⟨b1, 4, none⟩))) (w' := w') (by first | rfl | (go_simp; done) | (simp [go_sem]; done) | (simp [execOp, go_sem]; done)) ?_
      exact ⟨x7, x8, x9, x10, x11, x12, x13, x14, (.pointer (some ⟨b1, 4, none⟩)), x16, x17, x18, x19, by first | (simp only [Act.put, List.setIfInBounds_toArray, List.set_cons_succ, List.set_cons_zero]; done) | (simp only [Act.put, List.setIfInBounds_toArray, List.set_cons_succ, List.set_cons_zero]; rfl) | rfl, Below.then HBw.out (Below.refl _ _), fun h => (d0 (keep (by decide) h)), fun h => (Exists.elim (d1 (keep (by decide) h)) fun g h => ⟨g, h.1, h.2.1, h.2.2.grown (Below.refl _ _)⟩), fun h => (d2 (keep (by decide) h)), fun h => (Exists.elim (d3 (keep (by decide) h)) fun g h => ⟨g, h.1, h.2.1, h.2.2.grown (Below.refl _ _)⟩), fun h => (d4 (keep (by decide) h)), fun h => (d5 (keep (by decide) h)), fun h => (Exists.elim (d6 (keep (by decide) h)) fun vs h => ⟨vs, h.below (Below.refl _ _)⟩), fun h => (Exists.elim (d7 (keep (by decide) h)) fun g h => ⟨g, h.1, own_below h.2 (Below.refl _ _)⟩), fun _ => rfl, fun h => (d9 (keep (by decide) h)), fun h => (own_below (d10 (keep (by decide) h)) (Below.refl _ _)), fun h => (d11 (keep (by decide) h)), fun h => (Exists.elim (d12 (keep (by decide) h)) fun g h => ⟨g, h.1, h.2.1, h.2.2.grown (Below.refl _ _)⟩)⟩
    · have hoj2 := hoj
      obtain rfl := Option.some.inj hoj
      have e8 := d8 (hwt ⟨8, .data⟩ (by simp) rfl)
      subst e8
      refine wpOp_cell hoj2 rfl 26 _ rfl rfl (v := (.slice aj nj cj)) (ldcR w' ((IsS.cell (C1.grown HBw.out) 4).trans rfl)) ?_
      exact ⟨x7, x8, x9, x10, x11, x12, x13, x14, (.pointer (some ⟨b1, 4, none⟩)), (.slice aj nj cj), x17, x18, x19, by first | (simp only [Act.put, List.setIfInBounds_toArray, List.set_cons_succ, List.set_cons_zero]; done) | (simp only [Act.put, List.setIfInBounds_toArray, List.set_cons_succ, List.set_cons_zero]; rfl) | rfl, Below.then HBw.out (Below.refl _ _), fun h => (d0 (keep (by decide) h)), fun h => (Exists.elim (d1 (keep (by decide) h)) fun g h => ⟨g, h.1, h.2.1, h.2.2.grown (Below.refl _ _)⟩), fun h => (d2 (keep (by decide) h)), fun h => (Exists.elim (d3 (keep (by decide) h)) fun g h => ⟨g, h.1, h.2.1, h.2.2.grown (Below.refl _ _)⟩), fun h => (d4 (keep (by decide) h)), fun h => (d5 (keep (by decide) h)), fun h => (Exists.elim (d6 (keep (by decide) h)) fun vs h => ⟨vs, h.below (Below.refl _ _)⟩), fun h => (Exists.elim (d7 (keep (by decide) h)) fun g h => ⟨g, h.1, own_below h.2 (Below.refl _ _)⟩), fun h => (d8 (keep (by decide) h)), fun _ => rfl, fun h => (own_below (d10 (keep (by decide) h)) (Below.refl _ _)), fun h => (d11 (keep (by decide) h)), fun h => (Exists.elim (d12 (keep (by decide) h)) fun g h => ⟨g, h.1, h.2.1, h.2.2.grown (Below.refl _ _)⟩)⟩
    · have hoj2 := hoj
      obtain rfl := Option.some.inj hoj
      have e7 := d7 (hwt ⟨7, .data⟩ (by simp) rfl)
      have e9 := d9 (hwt ⟨9, .data⟩ (by simp) rfl)
      have e6 := d6 (hwt ⟨6, .chain⟩ (by simp) rfl)
      obtain ⟨g0, rfl, O0⟩ := e7
      subst e9
      obtain ⟨v', W', hrun, O', B', HW'⟩ := run_app0L eInt W1.heap.size g0 O0 (.slice aj nj cj) nj (lj.flatMap intE) (HRV.out.below (Below.then B1 HBw.out)) (by rw [int_len, HNJ.out]) (int_one lj) (by omega) HBw.out.size 26
      refine wpOp_value hoj2 rfl (exec_app _ _ rfl rfl rfl hrun) ?_
      exact ⟨x7, x8, x9, x10, x11, x12, x13, (.slice (some ⟨g0, 0, none⟩) 0 0), x15, (.slice aj nj cj), v', x18, x19, by first | (simp only [Act.put, List.setIfInBounds_toArray, List.set_cons_succ, List.set_cons_zero]; done) | (simp only [Act.put, List.setIfInBounds_toArray, List.set_cons_succ, List.set_cons_zero]; rfl) | rfl, Below.then HBw.out B', fun h => (d0 (keep (by decide) h)), fun h => (Exists.elim (d1 (keep (by decide) h)) fun g h => ⟨g, h.1, h.2.1, h.2.2.grown B'⟩), fun h => (d2 (keep (by decide) h)), fun h => (Exists.elim (d3 (keep (by decide) h)) fun g h => ⟨g, h.1, h.2.1, h.2.2.grown B'⟩), fun h => (d4 (keep (by decide) h)), fun h => (d5 (keep (by decide) h)), fun h => (Exists.elim (d6 (keep (by decide) h)) fun vs h => ⟨vs, h.below B'⟩), fun h => (Exists.elim (d7 (keep (by decide) h)) fun g h => ⟨g, h.1, own_below h.2 B'⟩), fun h => (d8 (keep (by decide) h)), fun h => (d9 (keep (by decide) h)), fun _ => O', fun h => (d11 (keep (by decide) h)), fun h => (Exists.elim (d12 (keep (by decide) h)) fun g h => ⟨g, h.1, h.2.1, h.2.2.grown B'⟩)⟩
    · have hoj2 := hoj
      obtain rfl := Option.some.inj hoj
      refine wpOp_value hoj2 rfl (v := (.int .i64 (n : Int))) (w' := w') (by first | rfl | (go_simp; done) | (simp [go_sem]; done) | (simp [execOp, go_sem]; done)) ?_
      exact ⟨x7, x8, x9, x10, x11, x12, x13, x14, x15, x16, x17, (.int .i64 (n : Int)), x19, by first | (simp only [Act.put, List.setIfInBounds_toArray, List.set_cons_succ, List.set_cons_zero]; done) | (simp only [Act.put, List.setIfInBounds_toArray, List.set_cons_succ, List.set_cons_zero]; rfl) | rfl, Below.then HBw.out (Below.refl _ _), fun h => (d0 (keep (by decide) h)), fun h => (Exists.elim (d1 (keep (by decide) h)) fun g h => ⟨g, h.1, h.2.1, h.2.2.grown (Below.refl _ _)⟩), fun h => (d2 (keep (by decide) h)), fun h => (Exists.elim (d3 (keep (by decide) h)) fun g h => ⟨g, h.1, h.2.1, h.2.2.grown (Below.refl _ _)⟩), fun h => (d4 (keep (by decide) h)), fun h => (d5 (keep (by decide) h)), fun h => (Exists.elim (d6 (keep (by decide) h)) fun vs h => ⟨vs, h.below (Below.refl _ _)⟩), fun h => (Exists.elim (d7 (keep (by decide) h)) fun g h => ⟨g, h.1, own_below h.2 (Below.refl _ _)⟩), fun h => (d8 (keep (by decide) h)), fun h => (d9 (keep (by decide) h)), fun h => (own_below (d10 (keep (by decide) h)) (Below.refl _ _)), fun _ => rfl, fun h => (Exists.elim (d12 (keep (by decide) h)) fun g h => ⟨g, h.1, h.2.1, h.2.2.grown (Below.refl _ _)⟩)⟩
    · have hoj2 := hoj
      obtain rfl := Option.some.inj hoj
      have e11 := d11 (hwt ⟨11, .data⟩ (by simp) rfl)
      subst e11
      refine wpOp_value hoj2 rfl (exec_make1 eWrs rfl _ _ rfl n hn rfl rfl) ?_
      have B9 := F_b (Fresh.alloc w' (.cells (List.replicate n (.slice none 0 0)).toArray 48))
      exact ⟨x7, x8, x9, x10, x11, x12, x13, x14, x15, x16, x17, (.int .i64 (n : Int)), _, by first | (simp only [Act.put, List.setIfInBounds_toArray, List.set_cons_succ, List.set_cons_zero]; done) | (simp only [Act.put, List.setIfInBounds_toArray, List.set_cons_succ, List.set_cons_zero]; rfl) | rfl, Below.then HBw.out B9, fun h => (d0 (keep (by decide) h)), fun h => (Exists.elim (d1 (keep (by decide) h)) fun g h => ⟨g, h.1, h.2.1, h.2.2.grown B9⟩), fun h => (d2 (keep (by decide) h)), fun h => (Exists.elim (d3 (keep (by decide) h)) fun g h => ⟨g, h.1, h.2.1, h.2.2.grown B9⟩), fun h => (d4 (keep (by decide) h)), fun h => (d5 (keep (by decide) h)), fun h => (Exists.elim (d6 (keep (by decide) h)) fun vs h => ⟨vs, h.below B9⟩), fun h => (Exists.elim (d7 (keep (by decide) h)) fun g h => ⟨g, h.1, own_below h.2 B9⟩), fun h => (d8 (keep (by decide) h)), fun h => (d9 (keep (by decide) h)), fun h => (own_below (d10 (keep (by decide) h)) B9), fun h => (d11 (keep (by decide) h)), fun _ => ⟨_, rfl, HBw.out.size, IsS.new w' 48 (List.replicate n (.slice none 0 0))⟩⟩
  case iend =>
    rintro a' w' ⟨x7, x8, x9, x10, x11, x12, x13, x14, x15, x16, x17, x18, x19, rfl, HBw, d0, d1, d2, d3, d4, d5, d6, d7, d8, d9, d10, d11, d12⟩
    replace d0 := d0 rfl
    replace d1 := d1 rfl
    replace d2 := d2 rfl
    replace d3 := d3 rfl
    replace d4 := d4 rfl
    replace d5 := d5 rfl
    replace d6 := d6 rfl
    replace d7 := d7 rfl
    replace d8 := d8 rfl
    replace d9 := d9 rfl
    replace d10 := d10 rfl
    replace d11 := d11 rfl
    replace d12 := d12 rfl
    simp only [Act.put, List.setIfInBounds_toArray, List.set_cons_succ, List.set_cons_zero]
    simp only [List.drop_succ_cons, List.drop_zero]
    obtain ⟨gp, e8, hgp, I8⟩ := d1
    obtain ⟨gh, e10, hgh, I10⟩ := d3
    obtain ⟨gb, e18, hgb, I18⟩ := d12
    obtain ⟨vs, O13⟩ := d6
    obtain ⟨ar, cr, hvr⟩ := own_form O13.out
    have O16 := d10
    obtain ⟨am, cm, hvm⟩ := own_form O16
    subst e8 e10 e18 d0 d2 d4 d5 d8 d9 d11
    have B12 := HBw.out
    have D2 := D1.grown B12
    clear HBw d10 d7
    subst hvr hvm
    rw [HNI.out] at O13
    simp only [HNI.out]
    go_wp2_with (first
      | (clear t3; refine wpList_storeW rfl 32 _ _ rfl rfl [.slice (some ⟨gp, 0, none⟩) n n, .slice (some ⟨gh, 0, none⟩) n n, .slice ar ni cr, .slice am nj cm, .slice (some ⟨gb, 0, none⟩) n n, .int .i64 (-1)] rfl D2 rfl infoSt (by simp [Value.oneCell']) ?_; intro W3 U3 D3))
    have hb2l := D1.lt
    have hW13 : Below W1.heap.size W1 w' := B12
    have hUb : Below w'.heap.size w' W3 ∨ True := .inr trivial
    have hS : ∀ k, W1.heap.size ≤ k → W3.heap[k]? = w'.heap[k]? := fun k hk => U3.block k (by omega)
    refine ret_S (cs := [.slice (some ⟨gp, 0, none⟩) n n, .slice (some ⟨gh, 0, none⟩) n n, .slice ar ni cr, .slice am nj cm, .slice (some ⟨gb, 0, none⟩) n n, .int .i64 (-1)]) rfl rfl rfl D3 _ Try.underlying32 rfl infoSt ⟨_, _, _, _, _, rfl, ⟨?_, ?_, ?_, ?_, ?_⟩, U3.trans (Below.then B1 B12) hb2⟩
    · exact rep_row ((hS gp hgp).trans I8)
    · exact rep_row ((hS gh hgh).trans I10)
    · exact (O13.same hS).rows
    · rw [HNJ.out]; exact own_row (own_same O16 fun k hk => hS k (own_lt O16 hk).1)
    · exact rep_rows ((hS gb hgb).trans I18)
end Go.Proofs.Ytegpnicajlndlaa

/- SC2 -/
import Derived.Test.YtegpnicajlndlaaQao
namespace Go.Proofs.Ytegpnicajlndlaa
open Go.RowKit M
set_option linter.unusedSimpArgs false
set_option linter.unusedVariables false
structure OpIn (o : Op5) (nr nm : Nat) : Prop where
 reg : o.kind = 1 ∨ o.kind = 2 ∨ o.kind = 3 ∨ o.kind = 7 ∨ o.kind = 8 ∨ o.kind = 9 → 0 ≤ o.reg ∧ o.reg < nr
 src : o.kind = 2 ∨ o.kind = 5 ∨ o.kind = 8 → 0 ≤ o.src ∧ o.src < nr
 loc : o.kind = 3 ∨ o.kind = 4 ∨ o.kind = 5 ∨ o.kind = 7 ∨ o.kind = 8 ∨ o.kind = 9 → 0 ≤ o.loc ∧ o.loc < nm
def doR (o : Op5) (r m : List Int) : List Int :=
 if o.kind = 1 then r.set o.reg.toNat o.imm else if o.kind = 2 then r.set o.reg.toNat (r.getD o.src.toNat 0) else if o.kind = 3 ∨ o.kind = 7 ∨ o.kind = 9 then r.set o.reg.toNat (m.getD o.loc.toNat 0)
 else if o.kind = 8 then (if m.getD o.loc.toNat 0 = r.getD o.reg.toNat 0 then r else r.set o.reg.toNat (m.getD o.loc.toNat 0)) else r
def doM (o : Op5) (r m : List Int) : List Int :=
 if o.kind = 4 then m.set o.loc.toNat o.imm else if o.kind = 5 then m.set o.loc.toNat (r.getD o.src.toNat 0) else if o.kind = 7 then m.set o.loc.toNat (r.getD o.reg.toNat 0)
 else if o.kind = 8 then (if m.getD o.loc.toNat 0 = r.getD o.reg.toNat 0 then m.set o.loc.toNat (r.getD o.src.toNat 0) else m) else if o.kind = 9 then m.set o.loc.toNat (wrap64 (m.getD o.loc.toNat 0 + r.getD o.reg.toNat 0)) else m
theorem doR_len (o : Op5) (r m : List Int) : (doR o r m).length = r.length := by unfold doR; (repeat' split) <;> simp
theorem doM_len (o : Op5) (r m : List Int) : (doM o r m).length = m.length := by unfold doM; (repeat' split) <;> simp
structure Fr (w W : World) (vs : List Value) : Prop where
 os : W.os = w.os
 tape : W.tape = w.tape
 output : W.output = w.output
 size : w.heap.size ≤ W.heap.size
 block : ∀ k, k < w.heap.size → (∀ v ∈ vs, v.ownBlock ≠ some k) → W.heap[k]? = w.heap[k]?
theorem Fr.of_below {w W : World} (h : Below w.heap.size w W) (vs : List Value) : Fr w W vs := ⟨h.os, h.tape, h.output, h.size, fun k hk _ => h.block k hk⟩
theorem Fr.trans {w W W' : World} {vs : List Value} (h : Fr w W vs) (h' : Fr W W' vs) : Fr w W' vs :=
 ⟨h'.os.trans h.os, h'.tape.trans h.tape, h'.output.trans h.output, Nat.le_trans h.size h'.size, fun k hk hv => (h'.block k (Nat.lt_of_lt_of_le hk h.size) hv).trans (h.block k hk hv)⟩
theorem Fr.more {w W : World} {vs us : List Value} (h : Fr w W vs) (hs : ∀ v ∈ vs, v ∈ us) : Fr w W us := ⟨h.os, h.tape, h.output, h.size, fun k hk hv => h.block k hk fun v hm => hv v (hs v hm)⟩
theorem Fr.own {w W : World} {vs : List Value} {B t s n : Nat} {v : Value} {xs : List Value} (h : Fr w W vs) (ho : w.ownsRow B t s v n xs) (hd : ∀ k, v.ownBlock = some k → ∀ u ∈ vs, u.ownBlock ≠ some k) : W.ownsRow B t s v n xs :=
 own_same ho fun k hk => h.block k (own_lt ho hk).2 (hd k hk)
theorem Fr.below {w0 w W : World} {vs : List Value} {B : Nat} (h : Fr w W vs) (hb : Below B w0 w) (hB : B ≤ w.heap.size) (hv : ∀ v ∈ vs, ∀ k, v.ownBlock = some k → B ≤ k) : Below B w0 W := by
 refine ⟨h.os.trans hb.os, h.tape.trans hb.tape, h.output.trans hb.output, Nat.le_trans hb.size h.size, fun k hk => (h.block k (Nat.lt_of_lt_of_le hk hB) fun v hm he => ?_).trans (hb.block k hk)⟩
 have := hv v hm k he
 omega
theorem fr_one {w W : World} {g n c : Nat} {o : Nat} (h : One w W g) (us : List Value) (hm : Value.slice (some ⟨g, 0, none⟩) n c ∈ us) : Fr w W us :=
 ⟨h.os, h.tape, h.output, h.size, fun k hk hv => h.block k hk fun e => by subst e; exact hv _ hm rfl⟩
theorem fr_two {w W : World} {g g' n c n' c' : Nat} (h : Two w W g g') : Fr w W [.slice (some ⟨g, 0, none⟩) n c, .slice (some ⟨g', 0, none⟩) n' c'] :=
 ⟨h.os, h.tape, h.output, h.size, fun k hk hv => h.block k hk (fun e => by subst e; exact hv (.slice (some ⟨k, 0, none⟩) n c) (by simp) rfl) (fun e => by subst e; exact hv (.slice (some ⟨k, 0, none⟩) n' c') (by simp) rfl)⟩
theorem cell_of {cs : List Value} {xs : List Int} {n i : Nat} {x : Int} (ht : cs.take n = xs.flatMap intE) (hx : xs[i]? = some x) : cs[0 + i]? = some (.int .i64 x) := by
 rw [Nat.zero_add]
 have h := int_get hx
 rw [← ht, List.getElem?_take] at h
 split at h
 · exact h
 · cases h
theorem get_of {xs : List Int} {i : Nat} (h : i < xs.length) : xs[i]? = some (xs.getD i 0) := by simp [h]
theorem put_own {W : World} {B g t n c i : Nat} {cs : List Value} {xs : List Int} {x : Int} (hg : B ≤ g) (I : IsS W g t (cs.set (0 + i) (.int .i64 x))) (ht : cs.take n = xs.flatMap intE) (hc : n ≤ c) (hm : c ≤ maxLen) (hs : cs.length = c) : W.ownsRow B t 1 (.slice (some ⟨g, 0, none⟩) n c) n ((xs.set i x).flatMap intE) :=
 own_cls hg I (by rw [Nat.zero_add, take_set, ht, int_set]) hc hm (by rw [List.length_set]; exact hs)
theorem nat_of {x : Int} {n : Nat} (h : 0 ≤ x ∧ x < n) : ∃ i : Nat, x = (i : Int) ∧ i < n := ⟨x.toNat, by omega, by omega⟩
set_option maxHeartbeats 2000000 in
theorem do_own (o : Op5) (r m : List Int) (B : Nat) (u vm : Value) (ho : OpIn o r.length m.length) (hnr : r.length ≤ 1048576) (hnm : m.length ≤ 1048576) (w : World) (hu : w.ownsRow B 2 1 u r.length (r.flatMap intE)) (hv : w.ownsRow B 2 1 vm m.length (m.flatMap intE)) (had : ∀ k, u.ownBlock = some k → vm.ownBlock ≠ some k) :
    Calls Try.prog 108 #[.agg (op5L o).toArray, u, vm] w fun e w' => e = .returned (.tuple #[]) ∧ w'.ownsRow B 2 1 u r.length ((doR o r m).flatMap intE) ∧ w'.ownsRow B 2 1 vm m.length ((doM o r m).flatMap intE) ∧ Fr w w' [u, vm] := by
 obtain ⟨k, reg, src, loc, imm⟩ := o
 by_cases h1 : k = 1
 · subst h1
   obtain ⟨i, rfl, hi⟩ := nat_of (ho.reg (by simp))
   obtain ⟨g, c, cs, rfl, hg, hI, ht, hc, hm, hs⟩ := own_opn hu (Nat.lt_of_le_of_lt (Nat.zero_le _) hi)
   have hlb : 0 + r.length ≤ cs.length := by rw [hs]; omega
   obtain ⟨am, cm, rfl⟩ := own_form hv
   refine (sdo_imm src loc imm i 0 0 r.length c m.length cm 2 2 g 0 0 0 none am cs [] hi hlb hnr hnm w hI).mono ?_
   rintro e w' ⟨rfl, E, T⟩
   exact ⟨rfl, (put_own hg E ht hc hm hs), (Fr.own (fr_one (n := r.length) (c := c) (o := 0) T [.slice (some ⟨g, 0, none⟩) r.length c] (by simp)) hv (fun k hk v hm2 => by simp at hm2; subst hm2; intro he; exact had k he hk)), (fr_one (n := r.length) (c := c) (o := 0) T _ (by simp))⟩
 by_cases h2 : k = 2
 · subst h2
   obtain ⟨i, rfl, hi⟩ := nat_of (ho.reg (by simp))
   obtain ⟨j, rfl, hj⟩ := nat_of (ho.src (by simp))
   obtain ⟨g, c, cs, rfl, hg, hI, ht, hc, hm, hs⟩ := own_opn hu (Nat.lt_of_le_of_lt (Nat.zero_le _) hi)
   have hlb : 0 + r.length ≤ cs.length := by rw [hs]; omega
   obtain ⟨am, cm, rfl⟩ := own_form hv
   refine (sdo_reg loc imm (r.getD j 0) i j 0 r.length c m.length cm 2 2 g 0 0 0 none am cs [] hi hj (cell_of ht (get_of hj)) hlb hnr hnm w hI).mono ?_
   rintro e w' ⟨rfl, E, T⟩
   exact ⟨rfl, (put_own hg E ht hc hm hs), (Fr.own (fr_one (n := r.length) (c := c) (o := 0) T [.slice (some ⟨g, 0, none⟩) r.length c] (by simp)) hv (fun k hk v hm2 => by simp at hm2; subst hm2; intro he; exact had k he hk)), (fr_one (n := r.length) (c := c) (o := 0) T _ (by simp))⟩
 by_cases h3 : k = 3
 · subst h3
   obtain ⟨i, rfl, hi⟩ := nat_of (ho.reg (by simp))
   obtain ⟨l, rfl, hl⟩ := nat_of (ho.loc (by simp))
   obtain ⟨g, c, cs, rfl, hg, hI, ht, hc, hm, hs⟩ := own_opn hu (Nat.lt_of_le_of_lt (Nat.zero_le _) hi)
   obtain ⟨g', c', ds, rfl, hg', hI', ht', hc', hm', hs'⟩ := own_opn hv (Nat.lt_of_le_of_lt (Nat.zero_le _) hl)
   have hne : g ≠ g' := fun e => had g rfl (by rw [e]; rfl)
   have hlb : 0 + r.length ≤ cs.length := by rw [hs]; omega
   have hlm : 0 + m.length ≤ ds.length := by rw [hs']; omega
   refine (sdo_load src imm (m.getD l 0) i 0 l r.length c m.length c' 2 2 g g' 0 0 none none cs ds hi hl (cell_of ht' (get_of hl)) hlb hlm hne hnr hnm w hI hI').mono ?_
   rintro e w' ⟨rfl, E, E', T⟩
   exact ⟨rfl, (put_own hg E ht hc hm hs), (own_cls hg' E' ht' hc' hm' hs'), (fr_one (n := r.length) (c := c) (o := 0) T _ (by simp))⟩
 by_cases h4 : k = 4
 · subst h4
   obtain ⟨l, rfl, hl⟩ := nat_of (ho.loc (by simp))
   obtain ⟨g', c', ds, rfl, hg', hI', ht', hc', hm', hs'⟩ := own_opn hv (Nat.lt_of_le_of_lt (Nat.zero_le _) hl)
   have hlm : 0 + m.length ≤ ds.length := by rw [hs']; omega
   obtain ⟨ar, cr, rfl⟩ := own_form hu
   refine (sdo_store reg src imm 0 0 l r.length cr m.length c' 2 2 0 g' 0 0 ar none [] ds hl hlm hnr hnm w hI').mono ?_
   rintro e w' ⟨rfl, E', T⟩
   exact ⟨rfl, (Fr.own (fr_one (n := m.length) (c := c') (o := 0) T [.slice (some ⟨g', 0, none⟩) m.length c'] (by simp)) hu (fun k hk v hm2 => by simp at hm2; subst hm2; intro he; exact had k hk he)), (put_own hg' E' ht' hc' hm' hs'), (fr_one (n := m.length) (c := c') (o := 0) T _ (by simp))⟩
 by_cases h5 : k = 5
 · subst h5
   obtain ⟨j, rfl, hj⟩ := nat_of (ho.src (by simp))
   obtain ⟨l, rfl, hl⟩ := nat_of (ho.loc (by simp))
   obtain ⟨g, c, cs, rfl, hg, hI, ht, hc, hm, hs⟩ := own_opn hu (Nat.lt_of_le_of_lt (Nat.zero_le _) hj)
   obtain ⟨g', c', ds, rfl, hg', hI', ht', hc', hm', hs'⟩ := own_opn hv (Nat.lt_of_le_of_lt (Nat.zero_le _) hl)
   have hne : g ≠ g' := fun e => had g rfl (by rw [e]; rfl)
   have hlb : 0 + r.length ≤ cs.length := by rw [hs]; omega
   have hlm : 0 + m.length ≤ ds.length := by rw [hs']; omega
   refine (sdo_storer reg imm (r.getD j 0) 0 j l r.length c m.length c' 2 2 g g' 0 0 none none cs ds hj hl (cell_of ht (get_of hj)) hlb hlm hne hnr hnm w hI hI').mono ?_
   rintro e w' ⟨rfl, E, E', T⟩
   exact ⟨rfl, (own_cls hg E ht hc hm hs), (put_own hg' E' ht' hc' hm' hs'), (fr_one (n := m.length) (c := c') (o := 0) T _ (by simp))⟩
 by_cases h7 : k = 7
 · subst h7
   obtain ⟨i, rfl, hi⟩ := nat_of (ho.reg (by simp))
   obtain ⟨l, rfl, hl⟩ := nat_of (ho.loc (by simp))
   obtain ⟨g, c, cs, rfl, hg, hI, ht, hc, hm, hs⟩ := own_opn hu (Nat.lt_of_le_of_lt (Nat.zero_le _) hi)
   obtain ⟨g', c', ds, rfl, hg', hI', ht', hc', hm', hs'⟩ := own_opn hv (Nat.lt_of_le_of_lt (Nat.zero_le _) hl)
   have hne : g ≠ g' := fun e => had g rfl (by rw [e]; rfl)
   have hlb : 0 + r.length ≤ cs.length := by rw [hs]; omega
   have hlm : 0 + m.length ≤ ds.length := by rw [hs']; omega
   refine (sdo_xchg src imm (r.getD i 0) (m.getD l 0) i l r.length c m.length c' 2 2 g g' 0 0 cs ds hi hl (cell_of ht (get_of hi)) (cell_of ht' (get_of hl)) hlb hlm hne hnr hnm w hI hI').mono ?_
   rintro e w' ⟨rfl, E, E', T⟩
   exact ⟨rfl, (put_own hg E ht hc hm hs), (put_own hg' E' ht' hc' hm' hs'), fr_two T⟩
 by_cases h8 : k = 8
 · subst h8
   obtain ⟨i, rfl, hi⟩ := nat_of (ho.reg (by simp))
   obtain ⟨j, rfl, hj⟩ := nat_of (ho.src (by simp))
   obtain ⟨l, rfl, hl⟩ := nat_of (ho.loc (by simp))
   obtain ⟨g, c, cs, rfl, hg, hI, ht, hc, hm, hs⟩ := own_opn hu (Nat.lt_of_le_of_lt (Nat.zero_le _) hi)
   obtain ⟨g', c', ds, rfl, hg', hI', ht', hc', hm', hs'⟩ := own_opn hv (Nat.lt_of_le_of_lt (Nat.zero_le _) hl)
   have hne : g ≠ g' := fun e => had g rfl (by rw [e]; rfl)
   have hlb : 0 + r.length ≤ cs.length := by rw [hs]; omega
   have hlm : 0 + m.length ≤ ds.length := by rw [hs']; omega
   by_cases hq : m.getD l 0 = r.getD i 0
   · have e1 : doR ⟨8, i, j, l, imm⟩ r m = r := by unfold doR; rw [if_neg (by simp), if_neg (by simp), if_neg (by simp), if_pos rfl]; exact if_pos hq
     have e2 : doM ⟨8, i, j, l, imm⟩ r m = m.set l (r.getD j 0) := by unfold doM; rw [if_neg (by simp), if_neg (by simp), if_neg (by simp), if_pos rfl]; exact if_pos hq
     rw [e1, e2]
     refine (sdo_cmp imm (r.getD i 0) (r.getD j 0) i j l r.length c m.length c' 2 2 g g' 0 0 none none cs ds hi hj hl (cell_of ht (get_of hi)) (by rw [← hq]; exact cell_of ht' (get_of hl)) (cell_of ht (get_of hj)) hlb hlm hne hnr hnm w hI hI').mono ?_
     rintro e w' ⟨rfl, E, E', T⟩
     exact ⟨rfl, (own_cls hg E ht hc hm hs), (put_own hg' E' ht' hc' hm' hs'), (fr_one (n := m.length) (c := c') (o := 0) T _ (by simp))⟩
   · have e1 : doR ⟨8, i, j, l, imm⟩ r m = r.set i (m.getD l 0) := by unfold doR; rw [if_neg (by simp), if_neg (by simp), if_neg (by simp), if_pos rfl]; exact if_neg hq
     have e2 : doM ⟨8, i, j, l, imm⟩ r m = m := by unfold doM; rw [if_neg (by simp), if_neg (by simp), if_neg (by simp), if_pos rfl]; exact if_neg hq
     rw [e1, e2]
     refine (sdo_ncmp (j : Int) imm (r.getD i 0) (m.getD l 0) i 0 l r.length c m.length c' 2 2 g g' 0 0 none none cs ds hi hl (cell_of ht (get_of hi)) (cell_of ht' (get_of hl)) hq hlb hlm hne hnr hnm w hI hI').mono ?_
     rintro e w' ⟨rfl, E, E', T⟩
     exact ⟨rfl, (put_own hg E ht hc hm hs), (own_cls hg' E' ht' hc' hm' hs'), (fr_one (n := r.length) (c := c) (o := 0) T _ (by simp))⟩
 by_cases h9 : k = 9
 · subst h9
   obtain ⟨i, rfl, hi⟩ := nat_of (ho.reg (by simp))
   obtain ⟨l, rfl, hl⟩ := nat_of (ho.loc (by simp))
   obtain ⟨g, c, cs, rfl, hg, hI, ht, hc, hm, hs⟩ := own_opn hu (Nat.lt_of_le_of_lt (Nat.zero_le _) hi)
   obtain ⟨g', c', ds, rfl, hg', hI', ht', hc', hm', hs'⟩ := own_opn hv (Nat.lt_of_le_of_lt (Nat.zero_le _) hl)
   have hne : g ≠ g' := fun e => had g rfl (by rw [e]; rfl)
   have hlb : 0 + r.length ≤ cs.length := by rw [hs]; omega
   have hlm : 0 + m.length ≤ ds.length := by rw [hs']; omega
   refine (sdo_xadd src imm (r.getD i 0) (m.getD l 0) i l r.length c m.length c' 2 2 g g' 0 0 cs ds hi hl (cell_of ht (get_of hi)) (cell_of ht' (get_of hl)) hlb hlm hne hnr hnm w hI hI').mono ?_
   rintro e w' ⟨rfl, E, E', T⟩
   exact ⟨rfl, (put_own hg E ht hc hm hs), (put_own hg' E' ht' hc' hm' hs'), fr_two T⟩
 have e1 : doR ⟨k, reg, src, loc, imm⟩ r m = r := by simp [doR, h1, h2, h3, h7, h8, h9]
 have e2 : doM ⟨k, reg, src, loc, imm⟩ r m = m := by simp [doM, h4, h5, h7, h8, h9]
 rw [e1, e2]
 obtain ⟨ar, cr, rfl⟩ := own_form hu
 obtain ⟨am, cm, rfl⟩ := own_form hv
 refine (sdo_none k reg src loc imm ar am r.length cr m.length cm h1 h2 h3 h4 h5 h7 h8 h9 w).mono ?_
 rintro e w' ⟨rfl, Bw⟩
 exact ⟨rfl, own_below hu Bw, own_below hv Bw, Fr.of_below Bw _⟩
end Go.Proofs.Ytegpnicajlndlaa

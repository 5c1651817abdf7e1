/- Index of both sides. -/
import Derived.Test.YtichcopjdfdnkaaPN
import Derived.Test.YtichcopjdfdnkaaRJ
namespace Go.Proofs.Ytichcopjdfdnkaa
open Go.RowKit M
set_option linter.unusedSimpArgs false
set_option linter.unusedVariables false

def refB (a b : RF) : Bool := (a.1 == b.1) && (a.2.toList == b.2.toList)
theorem refB_comm (a b : RF) : refB a b = refB b a := by
  unfold refB
  rw [Bool.eq_iff_iff]
  simp only [Bool.and_eq_true, beq_iff_eq]
  exact ⟨fun h => ⟨h.1.symm, h.2.symm⟩, fun h => ⟨h.1.symm, h.2.symm⟩⟩
def idxF (ns : List RF) (r : RF) : Option Nat := ns.findIdx? fun x => refB x r
def idxO : Option Nat → Int
  | some j => j
  | none => -1
def idxI (ns : List RF) (r : RF) : Int := idxO (idxF ns r)
theorem idx_hit {ns : List RF} {r g : RF} {j : Nat} (hg : ns[j]? = some g) (h : refB g r = true) (hno : ∀ i, i < j → ∀ x, ns[i]? = some x → refB x r = false) : idxF ns r = some j := by
  obtain ⟨hj, e⟩ := List.getElem?_eq_some_iff.1 hg
  unfold idxF
  rw [List.findIdx?_eq_some_iff_getElem]
  refine ⟨hj, by rw [e]; exact h, fun i hi => ?_⟩
  rw [hno i hi _ (List.getElem?_eq_getElem (by omega))]; simp
theorem idx_miss {ns : List RF} {r : RF} (hno : ∀ i, i < ns.length → ∀ x, ns[i]? = some x → refB x r = false) : idxF ns r = none := by
  unfold idxF
  rw [List.findIdx?_eq_none_iff]
  intro x hx
  obtain ⟨i, hi⟩ := List.getElem?_of_mem hx
  exact hno i (List.getElem?_eq_some_iff.1 hi).1 x hi
theorem ref_at : ∀ (gs : List RF) (j : Nat) (g : RF), gs[j]? = some g → ∀ (i : Nat) (v : Value), (refL g)[i]? = some v → (gs.flatMap refL)[j * 2 + i]? = some v
  | [], j, g, h, i, v, hv => by simp at h
  | x :: gs, 0, g, h, i, v, hv => by
    simp at h; subst h
    have hi : i < (refL x).length := (List.getElem?_eq_some_iff.1 hv).1
    show (refL x ++ gs.flatMap refL)[0 * 2 + i]? = some v
    rw [Nat.zero_mul, Nat.zero_add, List.getElem?_append_left hi]; exact hv
  | x :: gs, j + 1, g, h, i, v, hv => by
    have := ref_at gs j g (by simpa using h) i v hv
    show (refL x ++ gs.flatMap refL)[(j + 1) * 2 + i]? = some v
    have e : (refL x).length = 2 := rfl
    rw [List.getElem?_append_right (by omega), e, show (j + 1) * 2 + i - 2 = j * 2 + i by omega]
    exact this
theorem Seg.ref {w : World} {a : Option Addr} {gs : List RF} (h : Seg w a (gs.flatMap refL)) {j : Nat} {g : RF} (hg : gs[j]? = some g) : ∃ b o, a = some ⟨b, o, none⟩ ∧ b < w.heap.size ∧ w.rangeAt b (o + j * 2) (refL g) := by
  obtain ⟨b, o, e, hb, _⟩ := h (j * 2 + 0) _ (ref_at gs j g hg 0 _ rfl)
  refine ⟨b, o, e, hb, fun i v hv => ?_⟩
  obtain ⟨b', o', e', _, hc⟩ := h (j * 2 + i) v (ref_at gs j g hg i v hv)
  rw [e] at e'; cases e'
  rw [Nat.add_assoc]; exact hc
theorem infoRef : (Try.prog.info? 59).map (·.size) = some 2 := by kernel_rfl
set_option maxRecDepth 100000 in
set_option maxHeartbeats 4000000 in
theorem sindex_any (ns : List RF) (hn : ns.length ≤ 4194304) (r : RF) (a : Option Addr) (c : Nat) (w : World) (hs : Seg w a (ns.flatMap refL)) :
    Calls Try.prog 57 #[.slice a ns.length c, .agg (refL r).toArray] w fun en w' => en = .returned (.int .i64 (idxI ns r)) ∧ Below w.heap.size w w' := by
  have HS : Hid (Seg w a (ns.flatMap refL)) := hs
  obtain ⟨nn, hnn⟩ : ∃ n, ns.length = n := ⟨_, rfl⟩
  have HN : Hid (ns.length = nn) := hnn
  rw [hnn] at hn ⊢
  clear hs hnn
  have t1 : True := trivial
  go_enter Try.func57, Try.ntmps57
  go_wp2_with (clear t1; refine wpList_boxS rfl 59 _ rfl (refL r) rfl ?_; intro W1 b1 F1 C1; have B1 : Below w.heap.size w W1 := F1.trans (Below.refl _ w) (Nat.le_refl _); clear F1)
  go_loopw [8] (fun i wr => ∃ j : Nat, j ≤ nn ∧ i = .int .i64 j ∧ Hid (∀ i, i < j → ∀ x, ns[i]? = some x → refB x r = false) ∧ Hid (Below W1.heap.size W1 wr)) (fun i _ => nn - (intOf i).toNat)
  case atStart => exact ⟨0, Nat.zero_le _, rfl, fun i hi => absurd hi (by omega), Below.refl _ _⟩
  case round =>
    obtain ⟨j, hj, rfl, HNO, HB⟩ := hrel
    by_cases hlt : j < nn
    · have hji : (j : Int) < nn := by omega
      obtain ⟨g, hg⟩ : ∃ g, ns[j]? = some g := ⟨_, List.getElem?_eq_getElem (by rw [HN.out]; exact hlt)⟩
      obtain ⟨b, o, rfl, hb, hr⟩ := (HS.out.below (Below.then B1 HB.out)).ref hg
      have HG : Hid (ns[j]? = some g) := hg
      have C1' := C1.grown HB.out
      obtain ⟨q, hq⟩ : ∃ q, refB r g = q := ⟨_, rfl⟩
      have HQ : Hid (refB g r = q) := (by show _ = _; rw [refB_comm]; exact hq)
      have hq1 : (r.1 == g.1 && r.2.toList == g.2.toList) = q := hq
      clear hg hq
      go_wp2_with fail
      refine grow_allW (by kernel_rfl) (by kernel_rfl) ?_
      refine WG.row rfl 59 _ rfl rfl C1' (refL r) rfl _ Try.underlying59 rfl infoRef ?_
      simp only [Act.put, List.setIfInBounds_toArray, List.set_cons_succ, List.set_cons_zero]
      refine WG.put rfl (v := .slice (some ⟨b, o, none⟩) nn c) (fun w => by first | rfl | (go_simp; done) | (simp [go_sem]; done)) ?_
      simp only [Act.put, List.setIfInBounds_toArray, List.set_cons_succ, List.set_cons_zero]
      refine WG.put rfl (v := .int .i64 (j : Int)) (fun w => by first | rfl | (go_simp; done) | (simp [go_sem]; done)) ?_
      simp only [Act.put, List.setIfInBounds_toArray, List.set_cons_succ, List.set_cons_zero]
      refine WG.put rfl (v := .pointer (some ⟨b, o + j * 2, none⟩)) (fun w => by first | rfl | (go_simp; done) | (simp [go_sem]; done)) ?_
      simp only [Act.put, List.setIfInBounds_toArray, List.set_cons_succ, List.set_cons_zero]
      refine WG.range rfl 59 _ rfl rfl (refL g) hb hr _ Try.underlying59 rfl infoRef ?_
      simp only [Act.put, List.setIfInBounds_toArray, List.set_cons_succ, List.set_cons_zero]
      refine WG.put rfl (v := .bool q) (fun w => by rw [← hq1]; simp [execOp, go_sem, refL]; by_cases h1 : r.1 = g.1 <;> by_cases h2 : r.2.toList = g.2.toList <;> simp [h1, h2]) ?_
      simp only [Act.put, List.setIfInBounds_toArray, List.set_cons_succ, List.set_cons_zero]
      refine WG.nil ?_
      intro W3 B3
      have B4 : Hid (Below W1.heap.size W1 W3) := Below.then HB.out B3
      clear hq1 C1'
      cases q with
      | true =>
        have HR : Hid (idxI ns r = j) := (by show _ = _; unfold idxI; rw [idx_hit HG.out HQ.out HNO.out]; rfl)
        go_wp2_with fail
        go_ret
        exact ⟨by rw [HR.out]; rfl, Below.then B1 B4.out⟩
      | false =>
        go_wp2_with fail
        go_roundw
        case rel => exact ⟨j + 1, by omega, by go_num, fun i hi x hx => by
          rcases Nat.lt_or_ge i j with h | h
          · exact HNO.out i h x hx
          · have : i = j := by omega
            subst this
            rw [HG.out] at hx; cases hx; exact HQ.out, B4⟩
        case measure => simp [intOf]; omega
    · have hji : ¬ (j : Int) < nn := by omega
      have HR : Hid (idxI ns r = -1) := (by
        show _ = _
        unfold idxI
        rw [idx_miss fun i hi => HNO.out i (by have := HN.out; omega)]; rfl)
      go_wp2_with fail
      go_ret
      exact ⟨by rw [HR.out]; rfl, Below.then B1 HB.out⟩

def idxV (o : Option Nat) : Value := match o with
  | some j => .tuple #[.int .i64 (j : Int), .bool true]
  | none => .tuple #[.int .i64 0, .bool false]
theorem run_row {w : World} {b t : Nat} {cs : List Value} {op : Oper} {a : Act} {ty : TypeId} {x : Operand} (hc : IsS w b t cs) (ho : op.op = .load ty x) (hx : a.eval x = .pointer (some ⟨b, 0, none⟩) := by rfl) {d : TypeDesc} (hu : Try.prog.underlying ty = some d := by first | exact Try.underlying47 | exact Try.underlying59) (hd : d.isRow = true := by rfl) (hi : (Try.prog.info? ty).map (·.size) = some cs.length := by first | exact infoPg | exact infoRef) : (execOp a.eval op).run Try.prog w = .ok (.value (.agg cs.toArray)) w := by
  have hr := hc.range 0 cs.length
  rw [List.drop_zero, List.take_length] at hr
  unfold execOp
  simp only [ho, hx, Instr.loadAt, Instr.sureAddr, Sem.run_bind, Sem.run_pure, Result.andThen_ok, run_loadVar_mid w b 0 ty cs d hr hu hd hi]
set_option maxRecDepth 100000 in
set_option maxHeartbeats 4000000 in
theorem index_any (p : PG) (hf : p.Few) (vt vr vl vi vj : Value) (r : RF) (w : World) (hp : PGV w vt vr vl vi vj p) :
    Calls Try.prog 23 #[.agg #[vt, vr, vl, vi, vj], .agg (refL r).toArray] w fun en w' => en = .returned (idxV (idxF (namesP p) r)) ∧ Below w.heap.size w w' := by
  have HF : Hid p.Few := hf
  have HNM : Hid ((namesP p).length ≤ 4194304) := (by
    show _ ≤ _
    unfold namesP lcOf
    rw [List.length_append, namesR_len, List.length_map]
    have := hf.rr; have := hf.l; omega)
  have t1 : True := trivial
  have t2 : True := trivial
  go_enter Try.func23, Try.ntmps23
  go_wp2_with (first
    | (clear t1; refine wpList_boxS rfl 47 _ rfl [vt, vr, vl, vi, vj] rfl ?_; intro W1 b1 F1 C1; have B1 : Below w.heap.size w W1 := F1.trans (Below.refl _ w) (Nat.le_refl _); clear F1)
    | (clear t2; refine wpList_boxS rfl 59 _ rfl (refL r) rfl ?_; intro W2 b2 F2 D2; have B2 : Below w.heap.size w W2 := F2.trans B1 B1.size; have C2 := C1.fresh F2; have H1 : Hid (IsS W2 b1 47 [vt, vr, vl, vi, vj]) := C2; have H2 : Hid (IsS W2 b2 59 (refL r)) := D2; clear F2 C1 C2 D2))
  have HP : Hid (PGV W2 vt vr vl vi vj p) := hp.below B2
  clear hp hf
  refine region_invA 4 (fun a0 listed a' w' => ∃ x7 x8 x9 x10 : Value, a' = ((((a0.put (some 7) x7).put (some 8) x8).put (some 9) x9).put (some 10) x10) ∧ Hid (Below W2.heap.size W2 w') ∧ (listed.getD 0 false = true → x7 = .agg #[vt, vr, vl, vi, vj]) ∧ (listed.getD 1 false = true → ∃ B, NRow w' B x8 (namesP p)) ∧ (listed.getD 2 false = true → x9 = .agg (refL r).toArray) ∧ (listed.getD 3 false = true → x10 = .int .i64 (idxI (namesP p) r))) (by kernel_rfl) (by kernel_rfl) ?i0 ?istep ?iend
  case i0 => exact ⟨undef, undef, undef, undef, by first | rfl | (simp only [Act.put, List.setIfInBounds_toArray, List.set_cons_succ, List.set_cons_zero]), below_drew (Below.refl _ _), fun h => (not_rep h).elim, fun h => (not_rep h).elim, fun h => (not_rep h).elim, fun h => (not_rep h).elim⟩
  case istep =>
    rintro i listed a' w' hi hr ⟨x7, x8, x9, x10, rfl, HBw, d0, d1, d2, d3⟩
    obtain ⟨hun, oj, hoj, hwt⟩ := mem_ready.1 hr
    simp only [Act.put, List.setIfInBounds_toArray, List.set_cons_succ, List.set_cons_zero]
    have hcase : i = 0 ∨ i = 1 ∨ i = 2 ∨ i = 3 := by omega
    rcases hcase with rfl | rfl | rfl | rfl
    · have hoj2 := hoj
      obtain rfl := Option.some.inj hoj
      have C2 := H1.out.grown HBw.out
      refine wpOp_value hoj2 rfl (v := .agg #[vt, vr, vl, vi, vj]) (w' := w') (by exact run_row C2 rfl) ?_
      exact ⟨.agg #[vt, vr, vl, vi, vj], x8, x9, x10, by first | rfl | (simp only [Act.put, List.setIfInBounds_toArray, List.set_cons_succ, List.set_cons_zero]), Below.then HBw.out (Below.refl _ _), fun _ => rfl, fun h => Exists.elim (d1 (keep (by decide) h)) fun b h => ⟨b, own_below h (Below.refl _ _)⟩, fun h => (d2 (keep (by decide) h)), fun h => (d3 (keep (by decide) h))⟩
    · have hoj2 := hoj
      obtain rfl := Option.some.inj hoj
      have e0 := d0 (hwt ⟨0, .data⟩ (by simp) rfl)
      subst e0
      refine wpOp_call hoj2 rfl (by first | rfl | (go_simp; done)) ((names_any p HF.out vt vr vl vi vj w' (HP.out.below HBw.out)).mono ?_)
      rintro en W' ⟨⟨v, rfl, hv⟩, B'⟩
      refine ⟨v, rfl, ?_⟩
      exact ⟨.agg #[vt, vr, vl, vi, vj], v, x9, x10, by first | rfl | (simp only [Act.put, List.setIfInBounds_toArray, List.set_cons_succ, List.set_cons_zero]), Below.then HBw.out B', fun h => (d0 (keep (by decide) h)), fun _ => ⟨_, hv⟩, fun h => (d2 (keep (by decide) h)), fun h => (d3 (keep (by decide) h))⟩
    · have hoj2 := hoj
      obtain rfl := Option.some.inj hoj
      have C2 := H2.out.grown HBw.out
      refine wpOp_value hoj2 rfl (v := .agg (refL r).toArray) (w' := w') (by exact run_row C2 rfl) ?_
      exact ⟨x7, x8, .agg (refL r).toArray, x10, by first | rfl | (simp only [Act.put, List.setIfInBounds_toArray, List.set_cons_succ, List.set_cons_zero]), Below.then HBw.out (Below.refl _ _), fun h => (d0 (keep (by decide) h)), fun h => Exists.elim (d1 (keep (by decide) h)) fun b h => ⟨b, own_below h (Below.refl _ _)⟩, fun _ => rfl, fun h => (d3 (keep (by decide) h))⟩
    · have hoj2 := hoj
      obtain rfl := Option.some.inj hoj
      have e1 := d1 (hwt ⟨1, .data⟩ (by simp) rfl)
      have e2 := d2 (hwt ⟨2, .data⟩ (by simp) rfl)
      subst e2
      obtain ⟨B0, e1⟩ := e1
      obtain ⟨aa, cc, hx, hseg, _⟩ := own_row e1
      subst hx
      refine wpOp_call hoj2 rfl (by first | rfl | (go_simp; done)) ((sindex_any (namesP p) HNM.out r aa cc w' hseg).mono ?_)
      rintro en W' ⟨rfl, B'⟩
      refine ⟨_, rfl, ?_⟩
      exact ⟨x7, .slice aa (namesP p).length cc, .agg (refL r).toArray, .int .i64 (idxI (namesP p) r), by first | rfl | (simp only [Act.put, List.setIfInBounds_toArray, List.set_cons_succ, List.set_cons_zero]), Below.then HBw.out B', fun h => (d0 (keep (by decide) h)), fun h => Exists.elim (d1 (keep (by decide) h)) fun b h => ⟨b, own_below h B'⟩, fun h => (d2 (keep (by decide) h)), fun _ => rfl⟩
  case iend =>
    rintro a' w' ⟨x7, x8, x9, x10, rfl, HBw, d0, d1, d2, d3⟩
    replace d0 := d0 rfl
    replace d1 := d1 rfl
    replace d2 := d2 rfl
    replace d3 := d3 rfl
    simp only [Act.put, List.setIfInBounds_toArray, List.set_cons_succ, List.set_cons_zero]
    simp only [List.drop_succ_cons, List.drop_zero]
    subst d3
    clear d0 d1 d2
    have BB := Below.then B2 HBw.out
    obtain ⟨q, hq⟩ : ∃ q, idxF (namesP p) r = q := ⟨_, rfl⟩
    have HQ : Hid (idxF (namesP p) r = q) := hq
    have HJ : Hid (idxI (namesP p) r = idxO q) := (by show _ = _; unfold idxI; rw [hq])
    clear hq
    cases q with
    | some j =>
      have hj : idxI (namesP p) r = (j : Int) := HJ.out
      rw [hj]
      clear hj
      go_wp2_with fail
      go_ret2
      exact ⟨by rw [HQ.out]; rfl, BB⟩
    | none =>
      have hj : idxI (namesP p) r = -1 := HJ.out
      rw [hj]
      clear hj
      go_wp2_with fail
      go_ret2
      exact ⟨by rw [HQ.out]; rfl, BB⟩
set_option maxRecDepth 100000 in
set_option maxHeartbeats 4000000 in
theorem rindex_any (p : PG) (hf : p.Few) (vt vr vl vi vj : Value) (r : RF) (w : World) (hp : PGV w vt vr vl vi vj p) :
    Calls Try.prog 24 #[.agg #[vt, vr, vl, vi, vj], .agg (refL r).toArray] w fun en w' => en = .returned (idxV (idxF (namesP p) r)) ∧ Below w.heap.size w w' := by
  have HF : Hid p.Few := hf
  obtain ⟨ns, hns⟩ : ∃ ns, namesP p = ns := ⟨_, rfl⟩
  have hnm : ns.length ≤ 4194304 := (by
    rw [← hns]
    unfold namesP lcOf
    rw [List.length_append, namesR_len, List.length_map]
    have := hf.rr; have := hf.l; omega)
  have cN := fun W (h : PGV W vt vr vl vi vj p) => rnames_any p hf vt vr vl vi vj W h
  rw [hns] at cN ⊢
  clear hns
  obtain ⟨nn, hnn⟩ : ∃ n, ns.length = n := ⟨_, rfl⟩
  have HN : Hid (ns.length = nn) := hnn
  rw [hnn] at hnm
  clear hnn
  have t1 : True := trivial
  have t2 : True := trivial
  have t3 : True := trivial
  go_enter Try.func24, Try.ntmps24
  go_wp2_with (first
    | (clear t1; refine wpList_boxS rfl 47 _ rfl [vt, vr, vl, vi, vj] rfl ?_; intro W1 b1 F1 C1; have B1 : Below w.heap.size w W1 := F1.trans (Below.refl _ w) (Nat.le_refl _); clear F1)
    | (clear t2; refine wpList_boxS rfl 59 _ rfl (refL r) rfl ?_; intro W2 b2 F2 D2; have B2 : Below w.heap.size w W2 := F2.trans B1 B1.size; have C2 := C1.fresh F2; clear F2 C1)
    | (clear t3; refine wpList_loadS rfl 47 _ rfl rfl C2 5 _ Try.underlying47 rfl infoPg ?_)
    | (go_at_call 22; refine (cN _ (hp.below B2)).mono ?_; rintro en W3 ⟨⟨v, rfl, O3⟩, B3x⟩; have B3 := Below.then B2 B3x; have D3 := D2.grown B3x; obtain ⟨aa, cc, hx, hseg, _⟩ := own_row O3; subst hx; have HS : Hid (Seg W3 aa (ns.flatMap refL)) := hseg; rw [HN.out]; clear hseg O3 cN B3x hp C2 D2))
  go_loopw [7] (fun i wr => ∃ j : Nat, j ≤ nn ∧ i = .int .i64 j ∧ Hid (∀ i, i < j → ∀ x, ns[i]? = some x → refB x r = false) ∧ Hid (Below W3.heap.size W3 wr)) (fun i _ => nn - (intOf i).toNat)
  case atStart => exact ⟨0, Nat.zero_le _, rfl, fun i hi => absurd hi (by omega), Below.refl _ _⟩
  case round =>
    obtain ⟨j, hj, rfl, HNO, HB⟩ := hrel
    by_cases hlt : j < nn
    · have hji : (j : Int) < nn := by omega
      obtain ⟨g, hg⟩ : ∃ g, ns[j]? = some g := ⟨_, List.getElem?_eq_getElem (by rw [HN.out]; exact hlt)⟩
      obtain ⟨b, o, rfl, hb, hr⟩ := (HS.out.below HB.out).ref hg
      have HG : Hid (ns[j]? = some g) := hg
      have C1' := D3.grown HB.out
      obtain ⟨q, hq⟩ : ∃ q, refB g r = q := ⟨_, rfl⟩
      have HQ : Hid (refB g r = q) := hq
      have hq1 : (g.1 == r.1 && g.2.toList == r.2.toList) = q := hq
      clear hg hq
      go_wp2_with fail
      refine grow_allW (by kernel_rfl) (by kernel_rfl) ?_
      refine WG.put rfl (v := .slice (some ⟨b, o, none⟩) nn cc) (fun w => by first | rfl | (go_simp; done) | (simp [go_sem]; done)) ?_
      simp only [Act.put, List.setIfInBounds_toArray, List.set_cons_succ, List.set_cons_zero]
      refine WG.put rfl (v := .int .i64 (j : Int)) (fun w => by first | rfl | (go_simp; done) | (simp [go_sem]; done)) ?_
      simp only [Act.put, List.setIfInBounds_toArray, List.set_cons_succ, List.set_cons_zero]
      refine WG.put rfl (v := .pointer (some ⟨b, o + j * 2, none⟩)) (fun w => by first | rfl | (go_simp; done) | (simp [go_sem]; done)) ?_
      simp only [Act.put, List.setIfInBounds_toArray, List.set_cons_succ, List.set_cons_zero]
      refine WG.range rfl 59 _ rfl rfl (refL g) hb hr _ Try.underlying59 rfl infoRef ?_
      simp only [Act.put, List.setIfInBounds_toArray, List.set_cons_succ, List.set_cons_zero]
      refine WG.row rfl 59 _ rfl rfl C1' (refL r) rfl _ Try.underlying59 rfl infoRef ?_
      simp only [Act.put, List.setIfInBounds_toArray, List.set_cons_succ, List.set_cons_zero]
      refine WG.put rfl (v := .bool q) (fun w => by rw [← hq1]; simp [execOp, go_sem, refL]; by_cases h1 : g.1 = r.1 <;> by_cases h2 : g.2.toList = r.2.toList <;> simp [h1, h2]) ?_
      simp only [Act.put, List.setIfInBounds_toArray, List.set_cons_succ, List.set_cons_zero]
      refine WG.nil ?_
      intro W4 B4x
      have B4 : Hid (Below W3.heap.size W3 W4) := Below.then HB.out B4x
      clear hq1 C1'
      cases q with
      | true =>
        have HR : Hid (idxF ns r = some j) := idx_hit HG.out HQ.out HNO.out
        go_wp2_with fail
        go_ret2
        exact ⟨by rw [HR.out]; rfl, Below.then B3 B4.out⟩
      | false =>
        go_wp2_with fail
        go_roundw
        case rel => exact ⟨j + 1, by omega, by go_num, fun i hi x hx => by
          rcases Nat.lt_or_ge i j with h | h
          · exact HNO.out i h x hx
          · have : i = j := by omega
            subst this
            rw [HG.out] at hx; cases hx; exact HQ.out, B4⟩
        case measure => simp [intOf]; omega
    · have hji : ¬ (j : Int) < nn := by omega
      have HR : Hid (idxF ns r = none) := idx_miss fun i hi => HNO.out i (by have := HN.out; omega)
      go_wp2_with fail
      go_ret2
      exact ⟨by rw [HR.out]; rfl, Below.then B3 HB.out⟩
end Go.Proofs.Ytichcopjdfdnkaa

/- Names of a program, of both sides. -/
import Derived.Test.YtichcopjdfdnkaaPE
namespace Go.Proofs.Ytichcopjdfdnkaa
open Go.RowKit M
set_option linter.unusedSimpArgs false
set_option linter.unusedVariables false

theorem seg_isS {W : World} {b t : Nat} {cs : List Value} (h : IsS W b t cs) : Seg W (some ⟨b, 0, none⟩) cs := fun j v hv => ⟨b, 0, rfl, h.lt, by rw [h.cell, Nat.zero_add]; exact hv⟩
theorem row_isS {W : World} {b t n c : Nat} {cs : List Value} (h : IsS W b t cs) : RowV W (.slice (some ⟨b, 0, none⟩) n c) n cs := ⟨_, c, rfl, seg_isS h, fun e => by cases e⟩
theorem grown_below {B : Nat} {w0 w w' : World} {v : Value} {n : Nat} {xs : List Value} {t s : Nat} (h : Below B w0 w) (hB : B ≤ w.heap.size) (ho : w.ownsRow B t s v n xs) (hg : w.grownBy w' v.ownBlock) : Below B w0 w' := by
  refine ⟨hg.os.trans h.os, hg.tape.trans h.tape, hg.output.trans h.output, Nat.le_trans h.size hg.size, fun k hk => (hg.block k (Nat.lt_of_lt_of_le hk hB) (fun e => ?_)).trans (h.block k hk)⟩
  rcases ho.2 with ⟨rfl, _⟩ | ⟨g, cap, cur, rfl, hb, _⟩
  · cases e
  · simp [Value.ownBlock] at e; omega
theorem own_below {W W' : World} {B t s n : Nat} {v : Value} {xs : List Value} (h : W.ownsRow B t s v n xs) (hB : Below W.heap.size W W') : W'.ownsRow B t s v n xs := by
  refine ⟨h.1, ?_⟩
  rcases h.2 with hn | ⟨g, cap, cur, rfl, hg, hh, rest⟩
  · exact Or.inl hn
  · exact Or.inr ⟨g, cap, cur, rfl, hg, (hB.block g (Array.getElem?_eq_some_iff.1 hh).1).trans hh, rest⟩
theorem own_nil (W : World) (B t s : Nat) : W.ownsRow B t s (.slice none 0 0) 0 [] := ⟨by simp, .inl ⟨rfl, rfl⟩⟩
theorem own_form {W : World} {B t s n : Nat} {v : Value} {xs : List Value} (h : W.ownsRow B t s v n xs) : ∃ a c, v = .slice a n c := by
  rcases h.2 with ⟨rfl, rfl⟩ | ⟨g, cap, cur, rfl, _⟩
  · exact ⟨_, _, rfl⟩
  · exact ⟨_, _, rfl⟩
theorem wpList_build2 {w : World} {ops : Array Oper} {rest : List Oper} {op : Oper} {a : Act} {Q : Exit → Act → World → Prop} {t T by' : Nat} {z : Value} (E : Elt t T 2 z by') (hgd : op.guard = none) (x : Operand) (ho : op.op = .buildSlice T 1 #[(0, x)]) (u1 u2 : Value) (hx : a.eval x = .agg #[u1, u2])
    (h : ∀ W b, Fresh w W b → IsS W b t [u1, u2] → wpList Try.prog ops Q rest (a.put op.dst (.slice (some ⟨b, 0, none⟩) 1 1)) W) : wpList Try.prog ops Q (op :: rest) a w := by
  refine wpList_plain hgd fun K hK => ?_
  unfold Oper.wp
  rw [exec_build2 E x ho u1 u2 hx]
  exact hK _ _ (h _ _ (Fresh.alloc w _) (IsS.new w t [u1, u2]))
abbrev RF := Int × ByteArray
def refL (r : RF) : List Value := [.int .i64 r.1, .string r.2]
theorem ref_one (l : List RF) : ∀ v ∈ l.flatMap refL, v.oneCell' = true := fun v hv => by
  obtain ⟨r, _, h⟩ := List.mem_flatMap.1 hv
  simp [refL] at h
  rcases h with rfl | rfl <;> rfl
theorem ref_len (l : List RF) : (l.flatMap refL).length = l.length * 2 := by
  induction l with
  | nil => rfl
  | cons r l ih => rw [List.flatMap_cons, List.length_append, ih, List.length_cons]; simp [refL]; omega
def nmOf (i : Nat) (l : List ByteArray) : List RF := l.map fun s => ((i : Int), s)
def namesR : Nat → List (List ByteArray) → List RF
  | _, [] => []
  | i, l :: ls => nmOf i l ++ namesR (i + 1) ls
theorem namesR_app : ∀ (i : Nat) (a b : List (List ByteArray)), namesR i (a ++ b) = namesR i a ++ namesR (i + a.length) b
  | i, [], b => by simp [namesR]
  | i, x :: a, b => by
    show nmOf i x ++ namesR (i + 1) (a ++ b) = _
    rw [namesR_app (i + 1) a b]; simp [namesR]; congr 1; omega
theorem namesR_len : ∀ (i : Nat) (a : List (List ByteArray)), (namesR i a).length = a.flatten.length
  | i, [] => rfl
  | i, x :: a => by show (nmOf i x ++ namesR (i + 1) a).length = _; rw [List.length_append, namesR_len (i + 1) a, List.flatten_cons, List.length_append]; simp [nmOf]
theorem namesR_at {ls : List (List ByteArray)} {k : Nat} {l : List ByteArray} (h : ls[k]? = some l) : namesR 0 (ls.take (k + 1)) = namesR 0 (ls.take k) ++ nmOf k l := by
  rw [take_at h, namesR_app]
  have hk := (List.getElem?_eq_some_iff.1 h).1
  simp [namesR, List.length_take]
  rw [Nat.min_eq_left (by omega)]
def lcOf (l : List ByteArray) : List RF := l.map fun s => (-1, s)
def namesP (p : PG) : List RF := namesR 0 p.regs ++ lcOf p.locs
theorem nm_at {i : Nat} {l : List ByteArray} {j : Nat} {s : ByteArray} (h : l[j]? = some s) : nmOf i (l.take (j + 1)) = nmOf i (l.take j) ++ [((i : Int), s)] := by rw [take_at h]; simp [nmOf]
theorem lc_at {l : List ByteArray} {j : Nat} {s : ByteArray} (h : l[j]? = some s) : lcOf (l.take (j + 1)) = lcOf (l.take j) ++ [(-1, s)] := by rw [take_at h]; simp [lcOf]
/-- A row of names of one's own. -/
def NRow (w : World) (B : Nat) (v : Value) (ns : List RF) : Prop := w.ownsRow B 59 2 v ns.length (ns.flatMap refL)
theorem NRow.snoc {w : World} {B : Nat} {v : Value} {ns : List RF} {r : RF} (h : w.ownsRow B 59 2 v (ns.length + 1) (ns.flatMap refL ++ refL r)) : NRow w B v (ns ++ [r]) := by
  unfold NRow
  rw [List.flatMap_append, List.length_append]
  simpa using h

set_option maxRecDepth 100000 in
set_option maxHeartbeats 4000000 in
theorem names_any (p : PG) (hf : p.Few) (vt vr vl vi vj : Value) (w : World) (hp : PGV w vt vr vl vi vj p) :
    Calls Try.prog 21 #[.agg #[vt, vr, vl, vi, vj]] w fun en w' => (∃ v, en = .returned v ∧ NRow w' w.heap.size v (namesP p)) ∧ Below w.heap.size w w' := by
  obtain ⟨ar, cr, rfl⟩ := hp.r.form
  obtain ⟨al, cl, rfl, hsl, _⟩ := hp.l
  have HR : Hid (RowsV w (.slice ar p.regs.length cr) strE p.regs) := hp.r
  have HSL : Hid (Seg w al (p.locs.flatMap strE)) := hsl
  obtain ⟨nr, hnr⟩ : ∃ n, p.regs.length = n := ⟨_, rfl⟩
  obtain ⟨nl, hnl⟩ : ∃ n, p.locs.length = n := ⟨_, rfl⟩
  have hfr := hf.r
  have HRR : Hid (p.regs.flatten.length ≤ 1048576) := hf.rr
  have hfl := hf.l
  rw [hnr] at HR hfr ⊢
  rw [hnl] at hfl ⊢
  have HNR : Hid (p.regs.length = nr) := hnr
  have HNL : Hid (p.locs.length = nl) := hnl
  clear hp hf hnr hnl hsl
  obtain ⟨rs, ls, hE⟩ : ∃ rs ls, p.regs = rs ∧ p.locs = ls := ⟨_, _, rfl, rfl⟩
  have HE : Hid (namesP p = namesR 0 rs ++ lcOf ls) := (by show _ = _; unfold namesP; rw [hE.1, hE.2])
  rw [hE.1] at HR HRR HNR
  rw [hE.2] at HSL HNL
  clear hE
  have t1 : True := trivial
  go_enter Try.func21, Try.ntmps21
  go_wp2_with (clear t1; refine wpList_boxS rfl 47 _ rfl [vt, .slice ar nr cr, .slice al nl cl, vi, vj] rfl ?_; intro W1 b1 F1 C1; have B1 : Below w.heap.size w W1 := F1.trans (Below.refl _ w) (Nat.le_refl _); obtain ⟨k0, k1, k2, k3, k4⟩ := pg_cells C1 (Below.refl _ W1); clear F1)
  go_loopw [3, 13] (fun n i wr => ∃ k : Nat, k ≤ nr ∧ i = .int .i64 k ∧ Hid (NRow wr W1.heap.size n (namesR 0 (rs.take k))) ∧ Hid (Below W1.heap.size W1 wr)) (fun _ i _ => nr - (intOf i).toNat)
  case atStart => exact ⟨0, Nat.zero_le _, rfl, own_nil _ _ _ _, Below.refl _ _⟩
  case round =>
    obtain ⟨k, hk, rfl, HO, HB⟩ := hrel
    obtain ⟨WR, eWR⟩ : ∃ W, W = wr := ⟨_, rfl⟩
    subst eWR
    by_cases hlt : k < nr
    · have hki : (k : Int) < nr := by omega
      obtain ⟨l, hl⟩ : ∃ l, rs[k]? = some l := ⟨_, List.getElem?_eq_getElem (by rw [HNR.out]; exact hlt)⟩
      obtain ⟨b, o, a', c', rfl, hb, hc, hseg, _⟩ := (HR.out.below (Below.then B1 HB.out)).at k l hl
      have hW1 : Hid (RowsV W1 (.slice (some ⟨b, o, none⟩) nr cr) strE rs) := HR.out.below B1
      have HL : Hid (rs[k]? = some l) := hl
      have hll : l.length ≤ 1048576 := Nat.le_trans (by have := flat_at hl (Nat.le_refl _); rw [List.take_length, List.length_append] at this; omega) HRR.out
      have HG : Hid (Seg W1 a' (l.flatMap strE)) := (by
        obtain ⟨b2, o2, a2, c2, e2, hb2, hc2, hs2, _⟩ := hW1.out.at k l hl
        cases e2
        rw [HB.out.cell (p := ⟨b, o + k, none⟩) hb2] at hc
        rw [hc] at hc2
        cases hc2
        exact hs2)
      obtain ⟨nn, hnn⟩ : ∃ n, l.length = n := ⟨_, rfl⟩
      have HNN : Hid (l.length = nn) := hnn
      rw [hnn] at hc hll
      clear hl hseg hnn hW1
      go_wp2_with fail
      go_loopw [3, 20] (fun n i wr' => ∃ j : Nat, j ≤ nn ∧ i = .int .i64 j ∧ Hid (NRow wr' W1.heap.size n (namesR 0 (rs.take k) ++ nmOf k (l.take j))) ∧ Hid (Below W1.heap.size W1 wr')) (fun _ i _ => nn - (intOf i).toNat)
      case atStart => exact ⟨0, Nat.zero_le _, rfl, by show NRow _ _ _ _; rw [List.take_zero]; simpa [nmOf] using HO.out, HB⟩
      case round =>
        obtain ⟨j, hj, rfl, HO', HB'⟩ := hrel
        by_cases hjt : j < nn
        · have hji : (j : Int) < nn := by omega
          obtain ⟨g, hg⟩ : ∃ g, l[j]? = some g := ⟨_, List.getElem?_eq_getElem (by rw [HNN.out]; exact hjt)⟩
          obtain ⟨b', o', rfl, hb', hr'⟩ := (HG.out.below HB'.out).str hg
          have HN : Hid (namesR 0 (rs.take k) ++ nmOf k (l.take (j + 1)) = (namesR 0 (rs.take k) ++ nmOf k (l.take j)) ++ [((k : Int), g)]) := (by show _ = _; rw [nm_at hg, List.append_assoc])
          have hbl : (namesR 0 (rs.take k) ++ nmOf k (l.take j)).length ≤ 1048576 := (by
            have h1 := flat_at HL.out (k := j) (by rw [HNN.out]; omega)
            have h2 := HRR.out
            rw [List.length_append, namesR_len]
            rw [List.length_append] at h1
            simp only [nmOf, List.length_map]
            omega)
          obtain ⟨ns, hns⟩ : ∃ ns, namesR 0 (rs.take k) ++ nmOf k (l.take j) = ns := ⟨_, rfl⟩
          rw [hns] at HN hbl HO'
          clear hns hg
          obtain ⟨av, cv, hv⟩ := own_form HO'.out
          subst hv
          have t3 : True := trivial
          have t4 : True := trivial
          go_wp2_with (first
            | (clear t3; refine wpList_build2 eRef rfl _ rfl (.int .i64 k) (.string g) rfl ?_; intro W3 b3 F3 C3; have B3 := F3.trans HB'.out HB'.out.size; have O3 := own_below HO'.out (F3.trans (Below.refl _ _) (Nat.le_refl _)); clear F3)
            | (clear t4; at_builtin; refine wpList_appM eRef rfl _ _ rfl W1.heap.size _ _ _ rfl O3 _ 1 (refL ((k : Int), g)) rfl (row_isS C3) rfl (by simp [refL, Value.oneCell']) (by omega) B3.size ?_; intro v4 W4 O4 G4; have B4 := grown_below B3 B3.size O3 G4; clear G4 O3 C3))
          go_roundw
          case rel => exact ⟨j + 1, by omega, by go_num, by show NRow _ _ _ _; rw [HN.out]; exact NRow.snoc O4, B4⟩
          case measure => simp [intOf]; omega
        · have hji : ¬ (j : Int) < nn := by omega
          have hjn : j = nn := by omega
          go_wp2_with fail
          go_roundw
          case rel => exact ⟨k + 1, by omega, by go_num, by show NRow _ _ _ _; rw [namesR_at HL.out]; have := HO'.out; rw [hjn, ← HNN.out, List.take_length] at this; exact this, HB'⟩
          case measure => simp [intOf]; omega
    · have hki : ¬ (k : Int) < nr := by omega
      have hkn : k = nr := by omega
      have HO0 : Hid (NRow WR W1.heap.size u3 (namesR 0 rs)) := (by have := HO.out; rw [hkn, ← HNR.out, List.take_length] at this; exact this)
      obtain ⟨k0, k1, k2, k3, k4⟩ := pg_cells C1 HB.out
      have hnl0 : (namesR 0 rs).length ≤ 1048576 := by rw [namesR_len]; exact HRR.out
      clear HO hkn
      go_wp2_with fail
      go_loopw [3, 35] (fun n i wr' => ∃ j : Nat, j ≤ nl ∧ i = .int .i64 j ∧ Hid (NRow wr' W1.heap.size n (namesR 0 rs ++ lcOf (ls.take j))) ∧ Hid (Below W1.heap.size W1 wr')) (fun _ i _ => nl - (intOf i).toNat)
      case atStart => exact ⟨0, Nat.zero_le _, rfl, by show NRow _ _ _ _; rw [List.take_zero]; simpa [lcOf] using HO0.out, HB⟩
      case round =>
        obtain ⟨j, hj, rfl, HO', HB'⟩ := hrel
        by_cases hjt : j < nl
        · have hji : (j : Int) < nl := by omega
          obtain ⟨g, hg⟩ : ∃ g, ls[j]? = some g := ⟨_, List.getElem?_eq_getElem (by rw [HNL.out]; exact hjt)⟩
          obtain ⟨b', o', rfl, hb', hr'⟩ := (HSL.out.below (Below.then B1 HB'.out)).str hg
          have HN : Hid (namesR 0 rs ++ lcOf (ls.take (j + 1)) = (namesR 0 rs ++ lcOf (ls.take j)) ++ [(-1, g)]) := (by show _ = _; rw [lc_at hg, List.append_assoc])
          have hbl : (namesR 0 rs ++ lcOf (ls.take j)).length ≤ 2097152 := (by
            rw [List.length_append]
            simp only [lcOf, List.length_map, List.length_take]
            omega)
          obtain ⟨ns, hns⟩ : ∃ ns, namesR 0 rs ++ lcOf (ls.take j) = ns := ⟨_, rfl⟩
          rw [hns] at HN hbl HO'
          clear hns hg
          obtain ⟨av, cv, hv⟩ := own_form HO'.out
          subst hv
          have t3 : True := trivial
          have t4 : True := trivial
          go_wp2_with (first
            | (clear t3; refine wpList_build2 eRef rfl _ rfl (.int .i64 (-1)) (.string g) rfl ?_; intro W3 b3 F3 C3; have B3 := F3.trans HB'.out HB'.out.size; have O3 := own_below HO'.out (F3.trans (Below.refl _ _) (Nat.le_refl _)); clear F3)
            | (clear t4; at_builtin; refine wpList_appM eRef rfl _ _ rfl W1.heap.size _ _ _ rfl O3 _ 1 (refL (-1, g)) rfl (row_isS C3) rfl (by simp [refL, Value.oneCell']) (by omega) B3.size ?_; intro v4 W4 O4 G4; have B4 := grown_below B3 B3.size O3 G4; clear G4 O3 C3))
          go_roundw
          case rel => exact ⟨j + 1, by omega, by go_num, by show NRow _ _ _ _; rw [HN.out]; exact NRow.snoc O4, B4⟩
          case measure => simp [intOf]; omega
        · have hji : ¬ (j : Int) < nl := by omega
          have hjn : j = nl := by omega
          have HF : Hid (NRow wr W1.heap.size u3 (namesP p)) := (by have := HO'.out; rw [hjn, ← HNL.out, List.take_length, ← HE.out] at this; exact this)
          go_wp2_with fail
          go_ret
          refine ⟨⟨_, rfl, ?_⟩, Below.then B1 HB'.out⟩
          have := HF.out
          exact ⟨this.1, this.2.imp id fun ⟨g, cap, cur, h1, h2, h3⟩ => ⟨g, cap, cur, h1, Nat.le_trans B1.size h2, h3⟩⟩
set_option maxRecDepth 100000 in
set_option maxHeartbeats 4000000 in
theorem rnames_any (p : PG) (hf : p.Few) (vt vr vl vi vj : Value) (w : World) (hp : PGV w vt vr vl vi vj p) :
    Calls Try.prog 22 #[.agg #[vt, vr, vl, vi, vj]] w fun en w' => (∃ v, en = .returned v ∧ NRow w' w.heap.size v (namesP p)) ∧ Below w.heap.size w w' := by
  obtain ⟨ar, cr, rfl⟩ := hp.r.form
  obtain ⟨al, cl, rfl, hsl, _⟩ := hp.l
  have HR : Hid (RowsV w (.slice ar p.regs.length cr) strE p.regs) := hp.r
  have HSL : Hid (Seg w al (p.locs.flatMap strE)) := hsl
  obtain ⟨nr, hnr⟩ : ∃ n, p.regs.length = n := ⟨_, rfl⟩
  obtain ⟨nl, hnl⟩ : ∃ n, p.locs.length = n := ⟨_, rfl⟩
  have hfr := hf.r
  have HRR : Hid (p.regs.flatten.length ≤ 1048576) := hf.rr
  have hfl := hf.l
  rw [hnr] at HR hfr ⊢
  rw [hnl] at hfl ⊢
  have HNR : Hid (p.regs.length = nr) := hnr
  have HNL : Hid (p.locs.length = nl) := hnl
  clear hp hf hnr hnl hsl
  obtain ⟨rs, ls, hE⟩ : ∃ rs ls, p.regs = rs ∧ p.locs = ls := ⟨_, _, rfl, rfl⟩
  have HE : Hid (namesP p = namesR 0 rs ++ lcOf ls) := (by show _ = _; unfold namesP; rw [hE.1, hE.2])
  rw [hE.1] at HR HRR HNR
  rw [hE.2] at HSL HNL
  clear hE
  have t1 : True := trivial
  go_enter Try.func22, Try.ntmps22
  go_wp2_with (clear t1; refine wpList_boxS rfl 47 _ rfl [vt, .slice ar nr cr, .slice al nl cl, vi, vj] rfl ?_; intro W1 b1 F1 C1; have B1 : Below w.heap.size w W1 := F1.trans (Below.refl _ w) (Nat.le_refl _); obtain ⟨k0, k1, k2, k3, k4⟩ := pg_cells C1 (Below.refl _ W1); clear F1)
  go_loopw [3, 4] (fun n i wr => ∃ k : Nat, k ≤ nr ∧ i = .int .i64 k ∧ Hid (NRow wr W1.heap.size n (namesR 0 (rs.take k))) ∧ Hid (Below W1.heap.size W1 wr)) (fun _ i _ => nr - (intOf i).toNat)
  case atStart => exact ⟨0, Nat.zero_le _, rfl, own_nil _ _ _ _, Below.refl _ _⟩
  case round =>
    obtain ⟨k, hk, rfl, HO, HB⟩ := hrel
    obtain ⟨WR, eWR⟩ : ∃ W, W = wr := ⟨_, rfl⟩
    subst eWR
    by_cases hlt : k < nr
    · have hki : (k : Int) < nr := by omega
      obtain ⟨l, hl⟩ : ∃ l, rs[k]? = some l := ⟨_, List.getElem?_eq_getElem (by rw [HNR.out]; exact hlt)⟩
      obtain ⟨b, o, a', c', rfl, hb, hc, hseg, _⟩ := (HR.out.below (Below.then B1 HB.out)).at k l hl
      have hW1 : Hid (RowsV W1 (.slice (some ⟨b, o, none⟩) nr cr) strE rs) := HR.out.below B1
      have HL : Hid (rs[k]? = some l) := hl
      have hll : l.length ≤ 1048576 := Nat.le_trans (by have := flat_at hl (Nat.le_refl _); rw [List.take_length, List.length_append] at this; omega) HRR.out
      have HG : Hid (Seg W1 a' (l.flatMap strE)) := (by
        obtain ⟨b2, o2, a2, c2, e2, hb2, hc2, hs2, _⟩ := hW1.out.at k l hl
        cases e2
        rw [HB.out.cell (p := ⟨b, o + k, none⟩) hb2] at hc
        rw [hc] at hc2
        cases hc2
        exact hs2)
      obtain ⟨nn, hnn⟩ : ∃ n, l.length = n := ⟨_, rfl⟩
      have HNN : Hid (l.length = nn) := hnn
      rw [hnn] at hc hll
      have hb1 : b < W1.heap.size := (by obtain ⟨b2, o2, a2, c2, e2, hb2, _⟩ := hW1.out.at k l hl; cases e2; exact hb2)
      have hc1 : W1.cell? ⟨b, o + k, none⟩ = some (.slice a' nn c') := by rw [← HB.out.cell (p := ⟨b, o + k, none⟩) hb1]; exact hc
      clear hl hseg hnn hW1
      obtain ⟨k0, k1, k2, k3, k4⟩ := pg_cells C1 HB.out
      go_wp2_with fail
      go_loopw [3, 5] (fun n i wr' => ∃ j : Nat, j ≤ nn ∧ i = .int .i64 j ∧ Hid (NRow wr' W1.heap.size n (namesR 0 (rs.take k) ++ nmOf k (l.take j))) ∧ Hid (Below W1.heap.size W1 wr')) (fun _ i _ => nn - (intOf i).toNat)
      case atStart => exact ⟨0, Nat.zero_le _, rfl, by show NRow _ _ _ _; rw [List.take_zero]; simpa [nmOf] using HO.out, HB⟩
      case round =>
        obtain ⟨j, hj, rfl, HO', HB'⟩ := hrel
        by_cases hjt : j < nn
        · have hji : (j : Int) < nn := by omega
          obtain ⟨g, hg⟩ : ∃ g, l[j]? = some g := ⟨_, List.getElem?_eq_getElem (by rw [HNN.out]; exact hjt)⟩
          obtain ⟨b', o', rfl, hb', hr'⟩ := (HG.out.below HB'.out).str hg
          have HN : Hid (namesR 0 (rs.take k) ++ nmOf k (l.take (j + 1)) = (namesR 0 (rs.take k) ++ nmOf k (l.take j)) ++ [((k : Int), g)]) := (by show _ = _; rw [nm_at hg, List.append_assoc])
          have hbl : (namesR 0 (rs.take k) ++ nmOf k (l.take j)).length ≤ 1048576 := (by
            have h1 := flat_at HL.out (k := j) (by rw [HNN.out]; omega)
            have h2 := HRR.out
            rw [List.length_append, namesR_len]
            rw [List.length_append] at h1
            simp only [nmOf, List.length_map]
            omega)
          obtain ⟨ns, hns⟩ : ∃ ns, namesR 0 (rs.take k) ++ nmOf k (l.take j) = ns := ⟨_, rfl⟩
          rw [hns] at HN hbl HO'
          clear hns hg
          obtain ⟨av, cv, hv⟩ := own_form HO'.out
          subst hv
          have t3 : True := trivial
          have t4 : True := trivial
          obtain ⟨k0, k1, k2, k3, k4⟩ := pg_cells C1 HB'.out
          have hc' : wr.cell? ⟨b, o + k, none⟩ = some (.slice (some ⟨b', o', none⟩) nn c') := by rw [HB'.out.cell (p := ⟨b, o + k, none⟩) hb1]; exact hc1
          go_wp2_with (first
            | (clear t3; refine wpList_build2 eRef rfl _ rfl (.int .i64 k) (.string g) rfl ?_; intro W3 b3 F3 C3; have B3 := F3.trans HB'.out HB'.out.size; have O3 := own_below HO'.out (F3.trans (Below.refl _ _) (Nat.le_refl _)); clear F3)
            | (clear t4; at_builtin; refine wpList_appM eRef rfl _ _ rfl W1.heap.size _ _ _ rfl O3 _ 1 (refL ((k : Int), g)) rfl (row_isS C3) rfl (by simp [refL, Value.oneCell']) (by omega) B3.size ?_; intro v4 W4 O4 G4; have B4 := grown_below B3 B3.size O3 G4; clear G4 O3 C3))
          go_roundw
          case rel => exact ⟨j + 1, by omega, by go_num, by show NRow _ _ _ _; rw [HN.out]; exact NRow.snoc O4, B4⟩
          case measure => simp [intOf]; omega
        · have hji : ¬ (j : Int) < nn := by omega
          have hjn : j = nn := by omega
          obtain ⟨k0, k1, k2, k3, k4⟩ := pg_cells C1 HB'.out
          have hc' : wr.cell? ⟨b, o + k, none⟩ = some (.slice a' nn c') := by rw [HB'.out.cell (p := ⟨b, o + k, none⟩) hb1]; exact hc1
          go_wp2_with fail
          go_roundw
          case rel => exact ⟨k + 1, by omega, by go_num, by show NRow _ _ _ _; rw [namesR_at HL.out]; have := HO'.out; rw [hjn, ← HNN.out, List.take_length] at this; exact this, HB'⟩
          case measure => simp [intOf]; omega
    · have hki : ¬ (k : Int) < nr := by omega
      have hkn : k = nr := by omega
      have HO0 : Hid (NRow WR W1.heap.size u3 (namesR 0 rs)) := (by have := HO.out; rw [hkn, ← HNR.out, List.take_length] at this; exact this)
      obtain ⟨k0, k1, k2, k3, k4⟩ := pg_cells C1 HB.out
      have hnl0 : (namesR 0 rs).length ≤ 1048576 := by rw [namesR_len]; exact HRR.out
      clear HO hkn
      go_wp2_with fail
      go_loopw [3, 6] (fun n i wr' => ∃ j : Nat, j ≤ nl ∧ i = .int .i64 j ∧ Hid (NRow wr' W1.heap.size n (namesR 0 rs ++ lcOf (ls.take j))) ∧ Hid (Below W1.heap.size W1 wr')) (fun _ i _ => nl - (intOf i).toNat)
      case atStart => exact ⟨0, Nat.zero_le _, rfl, by show NRow _ _ _ _; rw [List.take_zero]; simpa [lcOf] using HO0.out, HB⟩
      case round =>
        obtain ⟨j, hj, rfl, HO', HB'⟩ := hrel
        by_cases hjt : j < nl
        · have hji : (j : Int) < nl := by omega
          obtain ⟨g, hg⟩ : ∃ g, ls[j]? = some g := ⟨_, List.getElem?_eq_getElem (by rw [HNL.out]; exact hjt)⟩
          obtain ⟨b', o', rfl, hb', hr'⟩ := (HSL.out.below (Below.then B1 HB'.out)).str hg
          have HN : Hid (namesR 0 rs ++ lcOf (ls.take (j + 1)) = (namesR 0 rs ++ lcOf (ls.take j)) ++ [(-1, g)]) := (by show _ = _; rw [lc_at hg, List.append_assoc])
          have hbl : (namesR 0 rs ++ lcOf (ls.take j)).length ≤ 2097152 := (by
            rw [List.length_append]
            simp only [lcOf, List.length_map, List.length_take]
            omega)
          obtain ⟨ns, hns⟩ : ∃ ns, namesR 0 rs ++ lcOf (ls.take j) = ns := ⟨_, rfl⟩
          rw [hns] at HN hbl HO'
          clear hns hg
          obtain ⟨av, cv, hv⟩ := own_form HO'.out
          subst hv
          have t3 : True := trivial
          have t4 : True := trivial
          obtain ⟨k0, k1, k2, k3, k4⟩ := pg_cells C1 HB'.out
          go_wp2_with (first
            | (clear t3; refine wpList_build2 eRef rfl _ rfl (.int .i64 (-1)) (.string g) rfl ?_; intro W3 b3 F3 C3; have B3 := F3.trans HB'.out HB'.out.size; have O3 := own_below HO'.out (F3.trans (Below.refl _ _) (Nat.le_refl _)); clear F3)
            | (clear t4; at_builtin; refine wpList_appM eRef rfl _ _ rfl W1.heap.size _ _ _ rfl O3 _ 1 (refL (-1, g)) rfl (row_isS C3) rfl (by simp [refL, Value.oneCell']) (by omega) B3.size ?_; intro v4 W4 O4 G4; have B4 := grown_below B3 B3.size O3 G4; clear G4 O3 C3))
          go_roundw
          case rel => exact ⟨j + 1, by omega, by go_num, by show NRow _ _ _ _; rw [HN.out]; exact NRow.snoc O4, B4⟩
          case measure => simp [intOf]; omega
        · have hji : ¬ (j : Int) < nl := by omega
          have hjn : j = nl := by omega
          have HF : Hid (NRow wr W1.heap.size u3 (namesP p)) := (by have := HO'.out; rw [hjn, ← HNL.out, List.take_length, ← HE.out] at this; exact this)
          obtain ⟨k0, k1, k2, k3, k4⟩ := pg_cells C1 HB'.out
          go_wp2_with fail
          go_ret
          refine ⟨⟨_, rfl, ?_⟩, Below.then B1 HB'.out⟩
          have := HF.out
          exact ⟨this.1, this.2.imp id fun ⟨g, cap, cur, h1, h2, h3⟩ => ⟨g, cap, cur, h1, Nat.le_trans B1.size h2, h3⟩⟩
end Go.Proofs.Ytichcopjdfdnkaa

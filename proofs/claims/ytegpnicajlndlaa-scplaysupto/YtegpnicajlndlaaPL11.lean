/- ScPlays: the law. -/
import Derived.Test.YtegpnicajlndlaaRA9
import Derived.Test.YtegpnicajlndlaaSC9
import Derived.Test.YtegpnicajlndlaaSI
import Derived.Test.YtegpnicajlndlaaFQ
import Derived.Test.YtegpnicajlndlaaCP
namespace Go.Proofs.Ytegpnicajlndlaa
open Go.RowKit M
set_option linter.unusedSimpArgs false
set_option linter.unusedVariables false

theorem playS_inv {p : PG} (hv : Vld p) : ∀ (l : List Int) (pc : List Int) (regs : List (List Int)) (mem : List Int) t, Inv p pc regs mem → playS p.threads l pc regs mem = some t → Inv p t.1 t.2.1 t.2.2
  | [], pc, regs, mem, t, h, e => by
    simp only [playS, Option.some.injEq] at e
    subst e
    exact h
  | i :: l, pc, regs, mem, t, h, e => by
    unfold playS at e
    cases hs : stepS p.threads pc regs mem i with
    | none => rw [hs] at e; cases e
    | some s =>
      rw [hs] at e
      obtain ⟨a, b, c⟩ := s
      exact playS_inv hv l a b c t (inv_step hv h hs) e
theorem playF_48 {p : PG} {l : List Int} {vs : List Int} (h0 : validV p = 0) (h : playF p l = some vs) : vs.length ≤ 48 := by
  have hv := vld_of h0
  unfold playF at h
  cases hs : playS p.threads l (List.replicate p.threads.length 0) p.regInit p.locInit with
  | none => rw [hs] at h; cases h
  | some t =>
    rw [hs] at h
    simp only at h
    split at h
    · cases h
      exact inv_48 hv (playS_inv hv l _ _ _ t (inv_start hv) hs)
    · cases h
theorem playV_form (p : PG) (l : List Int) : ∃ (vs : List Int) (E : Int), vs.length ≤ 48 ∧ playV p l = .tuple #[.agg (finL vs).toArray, .int .i64 E] := by
  unfold playV
  by_cases h : validV p = 0
  · rw [if_pos h]
    cases hf : playF p l with
    | none => exact ⟨[], 150, by simp, rfl⟩
    | some vs => exact ⟨vs, 0, playF_48 h hf, rfl⟩
  · rw [if_neg h]
    exact ⟨[], validV p, by simp, rfl⟩
theorem exec_suptoI {w : World} {op : Oper} {a : Act} {x h : Operand} {g i n cap : Nat} (ho : op.op = .slice 29 x none (some h) none) (hx : a.eval x = .slice (some ⟨g, 0, none⟩) (n + 1) cap) (hh : a.eval h = .int .i64 (i : Int)) (hi : i = n) (hc : n + 1 ≤ cap) (hm : cap ≤ maxLen) : (execOp a.eval op).run Try.prog w = .ok (.value (.slice (some ⟨g, 0, none⟩) i cap)) w := by
  subst hi
  unfold maxLen at hm
  have h1 : (0 : Int) ≤ (i : Int) ∧ (i : Int) ≤ (cap : Int) := by omega
  have h2 : i ≤ cap := by omega
  have h3 : i ≤ i + 1 := by omega
  generalize a.eval = ev at hx hh ⊢
  unfold execOp
  simp [ho, hx, hh, go_sem, Instr.sliceAt, h1, h2, h3, hc]
theorem exec_eqFV {w : World} {op : Oper} {a : Act} {x y : Operand} {vs : List Int} {FV : List Value} (hF : finL vs = FV) (hv : vs.length ≤ 48) (ho : op.op = .binOp .eql 80 x y 80) (hx : a.eval x = .agg FV.toArray) (hy : a.eval y = .agg FV.toArray) : (execOp a.eval op).run Try.prog w = .ok (.value (.bool true)) w := by
  subst hF; exact exec_eqF hv ho hx hy
theorem wpList_value {w : World} {ops : Array Oper} {rest : List Oper} {op : Oper} {a : Act} {Q : Exit → Act → World → Prop} {v : Value} (hgd : op.guard = none) (hr : (execOp a.eval op).run Try.prog w = .ok (.value v) w) (h : wpList Try.prog ops Q rest (a.put op.dst v) w) : wpList Try.prog ops Q (op :: rest) a w := by
  refine wpList_plain hgd fun K hK => ?_
  unfold Oper.wp
  rw [hr]
  exact hK _ _ h
theorem upd_seg {w W : World} {g b : Nat} {cs : List Value} (U : Upd w W b) (h : Seg w (some ⟨g, 0, none⟩) cs) (hne : g ≠ b) : Seg W (some ⟨g, 0, none⟩) cs := fun j v hv => by
  obtain ⟨b', o, e, hb, hc⟩ := h j v hv
  cases e
  exact ⟨g, 0, rfl, by rw [U.size]; exact hb, by rw [← hc]; exact World.cell?_of_block (w := w) (U.block g hne)⟩
theorem Seg.pre {w : World} {a : Option Addr} {cs ds : List Value} (h : Seg w a (cs ++ ds)) : Seg w a cs := fun j v hv => h j v (by rw [List.getElem?_append_left (List.getElem?_eq_some_iff.1 hv).1]; exact hv)
theorem Seg.last {w : World} {a : Option Addr} {l : List Int} {n : Nat} {x : Int} (h : Seg w a ((l ++ [x]).flatMap intE)) (hn : l.length = n) : ∃ b o, a = some ⟨b, o, none⟩ ∧ b < w.heap.size ∧ w.cell? ⟨b, o + n, none⟩ = some (.int .i64 x) := h n _ (by rw [int_map]; simp [← hn])

theorem own_belowX {w W : World} {B t k n : Nat} {v : Value} {xs : List Value} (h : w.ownsRow B t k v n xs) (hB : Below w.heap.size w W) : W.ownsRow B t k v n xs := own_same h fun g hk => hB.block g (own_lt h hk).2
theorem own_openX {w : World} {B t n : Nat} {v : Value} {xs : List Value} (h : w.ownsRow B t 1 v (n + 1) xs) : ∃ g cap, v = .slice (some ⟨g, 0, none⟩) (n + 1) cap ∧ n + 1 ≤ cap ∧ cap ≤ maxLen ∧ B ≤ g ∧ Seg w (some ⟨g, 0, none⟩) xs := by
  have hr := own_row h
  rcases h.2 with ⟨_, h0⟩ | ⟨g, cap, cur, rfl, hg, hh, hc, hm, _⟩
  · omega
  · obtain ⟨a', c', e, s, _⟩ := hr
    cases e
    exact ⟨g, cap, rfl, hc, hm, hg, s⟩
set_option maxRecDepth 100000 in
set_option maxHeartbeats 8000000 in
theorem plays_any (p : PG) (hf : p.Few) (l : List Int) (n co : Nat) (ao : Option Addr) (hno : l.length = n) (hn : n ≤ 1048576) (hco : ao = none → co = 0) (vt vr vl vi vj : Value) (w : World) (hp : PGV w vt vr vl vi vj p) (hO : Seg w ao (l.flatMap intE)) :
    Calls Try.prog 6 #[.agg #[vt, vr, vl, vi, vj], .slice ao n co] w fun e w' => e = .returned (.bool true) ∧ Below w.heap.size w w' := by
  obtain ⟨vs, E, h48, hV⟩ := playV_form p l
  have hl49 := finL_len h48
  have hz49 : (finL []).length = 49 := finL_len (by simp)
  have hPlay := fun W (h : PGV W vt vr vl vi vj p) (g cap : Nat) (hS : Seg W (some ⟨g, 0, none⟩) (l.flatMap intE)) => play_any p hf l n cap (some ⟨g, 0, none⟩) hno hn vt vr vl vi vj W h hS
  have hRPlay := fun W (h : PGV W vt vr vl vi vj p) (hS : Seg W ao (l.flatMap intE)) => rplay_any p hf l n co ao hno hn vt vr vl vi vj W h hS
  have hSame := fun W g cap (h1 : Seg W (some ⟨g, 0, none⟩) (l.flatMap intE)) (h2 : Seg W ao (l.flatMap intE)) => sameInts_any l (by omega) (some ⟨g, 0, none⟩) ao cap co W h1 h2
  simp only [hno] at hSame
  simp only [hV] at hPlay hRPlay
  have HF1 : Hid (∀ v ∈ finL vs, v.oneCell' = true) := finL_one vs
  have HP : Hid (PGV w vt vr vl vi vj p) := hp
  have HO : Hid (Seg w ao (l.flatMap intE)) := hO
  have HLN : Hid (l.length = n) := hno
  have HCO : Hid (ao = none → co = 0) := hco
  have hnI : (n : Int) ≤ 1048576 := by omega
  clear hp hO hV hf hno hco
  have t1 : True := trivial
  have t2 : True := trivial
  have t3 : True := trivial
  have t4 : True := trivial
  go_enter Try.func6, Try.ntmps6
  go_wp2_with (first
    | (clear t1; refine wpList_boxS rfl 28 _ rfl [vt, vr, vl, vi, vj] rfl ?_; intro W0 b2 F0 C0; have B0 := F_b F0; have hb2 : w.heap.size ≤ b2 := Nat.le_of_eq F0.at'.symm; clear F0)
    | (clear t2; (refine wpList_build0E eIntI rfl rfl ?_; intro W1 g1 F1 O1; have B1 := F1.trans B0 B0.size; have C1 := C0.fresh F1; have O1' := own_raise O1 B0.size; clear F1 O1))
    | (clear t3; at_builtin; (refine wpList_appM eIntI rfl _ _ rfl w.heap.size _ 0 [] rfl O1' _ n (l.flatMap intE) rfl ⟨ao, co, rfl, HO.out.below B1, HCO.out⟩ (by rw [int_len, HLN.out]) (int_one l) (by omega) B1.size ?_; intro v2 W2 O2 G2; have B2 := grown_below B1 B1.size O1' G2; have C2 := isS_grow C1 O1' G2 (by decide); clear G2 O1'))
    | (clear t4; refine wpList_build1E eIntI rfl _ rfl (.int .i64 66) rfl rfl ?_; intro W3a g3 F3 I3; have B3a := F3.trans B2 B2.size; have C3a := C2.fresh F3; have O3a := own_belowX O2 (F_b F3); clear F3)
    | (at_builtin; (refine wpList_appM eIntI rfl _ _ rfl w.heap.size _ (0 + n) ([] ++ l.flatMap intE) rfl O3a _ 1 [.int .i64 66] rfl (row_isS I3) rfl (by intro v hv; simp at hv; subst hv; rfl) (by omega) B3a.size ?_; intro v3 W3 O3 G3; have B03 := grown_below B3a B3a.size O3a G3; have C3 := isS_grow C3a O3a G3 (by decide); clear G3 O3a I3))
    )
  rw [List.nil_append, Nat.zero_add] at O3
  obtain ⟨g, cap, hv3, hcap, hcm, hgB, SF0⟩ := own_openX O3
  subst hv3
  have SF3 : Seg W3 (some ⟨g, 0, none⟩) ((l ++ [66]).flatMap intE) := by rw [List.flatMap_append]; exact SF0
  have S3 : Seg W3 (some ⟨g, 0, none⟩) (l.flatMap intE) := Seg.pre SF0
  have hg3 : g < W3.heap.size := (own_lt O3 rfl).2
  clear O3 O2 SF0
  refine region_invA 11 (fun a0 listed a' w' => ∃ x16 x17 x18 x19 x20 x21 x15 x22 x23 x6 : Value, a' = ((((((((((a0.put (some 16) x16).put (some 17) x17).put (some 18) x18).put (some 19) x19).put (some 20) x20).put (some 21) x21).put (some 15) x15).put (some 22) x22).put (some 23) x23).put (some 6) x6) ∧ Hid (Below W3.heap.size W3 w') ∧ (listed.getD 10 false = true → listed.getD 9 false = true) ∧ (listed.getD 0 false = true → x16 = (.agg [vt, vr, vl, vi, vj].toArray)) ∧ (listed.getD 1 false = true → x17 = (.slice (some ⟨g, 0, none⟩) (n + 1) cap)) ∧ (listed.getD 2 false = true → x18 = (.slice ao n co)) ∧ (listed.getD 3 false = true → x19 = (.int .i64 (n : Int))) ∧ (listed.getD 4 false = true → x20 = (.slice (some ⟨g, 0, none⟩) n cap)) ∧ (listed.getD 5 false = true → x21 = (.tuple #[.agg (finL vs).toArray, .int .i64 E])) ∧ (listed.getD 6 false = true → x15 = (.tuple #[.agg (finL vs).toArray, .int .i64 E])) ∧ (listed.getD 7 false = true → x22 = (.agg (finL vs).toArray)) ∧ (listed.getD 8 false = true → x23 = (.int .i64 E)) ∧ (listed.getD 9 false = true → ∃ b6, x6 = .pointer (some ⟨b6, 0, none⟩) ∧ W3.heap.size ≤ b6 ∧ ∃ cs : List Value, cs.length = ((finL []) : List Value).length ∧ IsS w' b6 80 cs) ∧ (listed.getD 10 false = true → ∃ b6, x6 = .pointer (some ⟨b6, 0, none⟩) ∧ IsS w' b6 80 (finL vs))) (by kernel_rfl) (by kernel_rfl) ?i0 ?istep ?iend
  case i0 => exact ⟨_, _, _, _, _, _, _, _, _, _, by first | (simp only [Act.put, List.setIfInBounds_toArray, List.set_cons_succ, List.set_cons_zero]; done) | (simp only [Act.put, List.setIfInBounds_toArray, List.set_cons_succ, List.set_cons_zero]; rfl) | rfl, below_drew (Below.refl _ _), fun h => (not_rep h).elim, fun h => (not_rep h).elim, fun h => (not_rep h).elim, fun h => (not_rep h).elim, fun h => (not_rep h).elim, fun h => (not_rep h).elim, fun h => (not_rep h).elim, fun h => (not_rep h).elim, fun h => (not_rep h).elim, fun h => (not_rep h).elim, fun h => (not_rep h).elim, fun h => (not_rep h).elim⟩
  case istep =>
    rintro i listed a' w' hi hr ⟨x16, x17, x18, x19, x20, x21, x15, x22, x23, x6, rfl, HBw, m10_9, d0, d1, d2, d3, d4, d5, d6, d7, d8, d9, d10⟩
    obtain ⟨hun, oj, hoj, hwt⟩ := mem_ready.1 hr
    simp only [Act.put, List.setIfInBounds_toArray, List.set_cons_succ, List.set_cons_zero]
    have hcase : i = 0 ∨ i = 1 ∨ i = 2 ∨ i = 3 ∨ i = 4 ∨ i = 5 ∨ i = 6 ∨ i = 7 ∨ i = 8 ∨ i = 9 ∨ i = 10 := by omega
    rcases hcase with rfl | rfl | rfl | rfl | rfl | rfl | rfl | rfl | rfl | rfl | rfl
    · have hoj2 := hoj
      obtain rfl := Option.some.inj hoj
      refine wpOp_value hoj2 rfl (v := (.agg [vt, vr, vl, vi, vj].toArray)) (w' := w') (exec_loadS rfl rfl (C3.grown HBw.out) Try.underlying28 rfl infoPg) ?_
      exact ⟨(.agg [vt, vr, vl, vi, vj].toArray), x17, x18, x19, x20, x21, x15, x22, x23, x6, by first | (simp only [Act.put, List.setIfInBounds_toArray, List.set_cons_succ, List.set_cons_zero]; done) | (simp only [Act.put, List.setIfInBounds_toArray, List.set_cons_succ, List.set_cons_zero]; rfl) | rfl, Below.then HBw.out (Below.refl _ _), fun h => keepT (m10_9 (keep (by decide) h)), fun _ => rfl, fun h => (d1 (keep (by decide) h)), fun h => (d2 (keep (by decide) h)), fun h => (d3 (keep (by decide) h)), fun h => (d4 (keep (by decide) h)), fun h => (d5 (keep (by decide) h)), fun h => (d6 (keep (by decide) h)), fun h => (d7 (keep (by decide) h)), fun h => (d8 (keep (by decide) h)), fun h => (Exists.elim (d9 (keep (by decide) h)) fun b h => ⟨b, h.1, h.2.1, Exists.elim h.2.2 fun cs h => ⟨cs, h.1, h.2.grown (Below.refl _ _)⟩⟩), fun h => (Exists.elim (d10 (keep (by decide) h)) fun b h => ⟨b, h.1, h.2.grown (Below.refl _ _)⟩)⟩
    · have hoj2 := hoj
      obtain rfl := Option.some.inj hoj
      refine wpOp_value hoj2 rfl (v := (.slice (some ⟨g, 0, none⟩) (n + 1) cap)) (w' := w') (by first | rfl | (go_simp; done) | (simp [go_sem]; done) | (simp [execOp, go_sem]; done)) ?_
      exact ⟨x16, (.slice (some ⟨g, 0, none⟩) (n + 1) cap), x18, x19, x20, x21, x15, x22, x23, x6, by first | (simp only [Act.put, List.setIfInBounds_toArray, List.set_cons_succ, List.set_cons_zero]; done) | (simp only [Act.put, List.setIfInBounds_toArray, List.set_cons_succ, List.set_cons_zero]; rfl) | rfl, Below.then HBw.out (Below.refl _ _), fun h => keepT (m10_9 (keep (by decide) h)), fun h => (d0 (keep (by decide) h)), fun _ => rfl, fun h => (d2 (keep (by decide) h)), fun h => (d3 (keep (by decide) h)), fun h => (d4 (keep (by decide) h)), fun h => (d5 (keep (by decide) h)), fun h => (d6 (keep (by decide) h)), fun h => (d7 (keep (by decide) h)), fun h => (d8 (keep (by decide) h)), fun h => (Exists.elim (d9 (keep (by decide) h)) fun b h => ⟨b, h.1, h.2.1, Exists.elim h.2.2 fun cs h => ⟨cs, h.1, h.2.grown (Below.refl _ _)⟩⟩), fun h => (Exists.elim (d10 (keep (by decide) h)) fun b h => ⟨b, h.1, h.2.grown (Below.refl _ _)⟩)⟩
    · have hoj2 := hoj
      obtain rfl := Option.some.inj hoj
      refine wpOp_value hoj2 rfl (v := (.slice ao n co)) (w' := w') (by first | rfl | (go_simp; done) | (simp [go_sem]; done) | (simp [execOp, go_sem]; done)) ?_
      exact ⟨x16, x17, (.slice ao n co), x19, x20, x21, x15, x22, x23, x6, by first | (simp only [Act.put, List.setIfInBounds_toArray, List.set_cons_succ, List.set_cons_zero]; done) | (simp only [Act.put, List.setIfInBounds_toArray, List.set_cons_succ, List.set_cons_zero]; rfl) | rfl, Below.then HBw.out (Below.refl _ _), fun h => keepT (m10_9 (keep (by decide) h)), fun h => (d0 (keep (by decide) h)), fun h => (d1 (keep (by decide) h)), fun _ => rfl, fun h => (d3 (keep (by decide) h)), fun h => (d4 (keep (by decide) h)), fun h => (d5 (keep (by decide) h)), fun h => (d6 (keep (by decide) h)), fun h => (d7 (keep (by decide) h)), fun h => (d8 (keep (by decide) h)), fun h => (Exists.elim (d9 (keep (by decide) h)) fun b h => ⟨b, h.1, h.2.1, Exists.elim h.2.2 fun cs h => ⟨cs, h.1, h.2.grown (Below.refl _ _)⟩⟩), fun h => (Exists.elim (d10 (keep (by decide) h)) fun b h => ⟨b, h.1, h.2.grown (Below.refl _ _)⟩)⟩
    · have hoj2 := hoj
      obtain rfl := Option.some.inj hoj
      have e2 := d2 (hwt ⟨2, .data⟩ (by simp) rfl)
      subst e2
      refine wpOp_value hoj2 rfl (v := (.int .i64 (n : Int))) (w' := w') (by first | rfl | (go_simp; done) | (simp [go_sem]; done) | (simp [execOp, go_sem]; done)) ?_
      exact ⟨x16, x17, (.slice ao n co), (.int .i64 (n : Int)), x20, x21, x15, x22, x23, x6, by first | (simp only [Act.put, List.setIfInBounds_toArray, List.set_cons_succ, List.set_cons_zero]; done) | (simp only [Act.put, List.setIfInBounds_toArray, List.set_cons_succ, List.set_cons_zero]; rfl) | rfl, Below.then HBw.out (Below.refl _ _), fun h => keepT (m10_9 (keep (by decide) h)), fun h => (d0 (keep (by decide) h)), fun h => (d1 (keep (by decide) h)), fun h => (d2 (keep (by decide) h)), fun _ => rfl, fun h => (d4 (keep (by decide) h)), fun h => (d5 (keep (by decide) h)), fun h => (d6 (keep (by decide) h)), fun h => (d7 (keep (by decide) h)), fun h => (d8 (keep (by decide) h)), fun h => (Exists.elim (d9 (keep (by decide) h)) fun b h => ⟨b, h.1, h.2.1, Exists.elim h.2.2 fun cs h => ⟨cs, h.1, h.2.grown (Below.refl _ _)⟩⟩), fun h => (Exists.elim (d10 (keep (by decide) h)) fun b h => ⟨b, h.1, h.2.grown (Below.refl _ _)⟩)⟩
    · have hoj2 := hoj
      obtain rfl := Option.some.inj hoj
      have e1 := d1 (hwt ⟨1, .data⟩ (by simp) rfl)
      have e3 := d3 (hwt ⟨3, .data⟩ (by simp) rfl)
      subst e1 e3
      refine wpOp_value hoj2 rfl (v := (.slice (some ⟨g, 0, none⟩) n cap)) (w' := w') (by first | exact exec_suptoI rfl rfl rfl rfl hcap hcm | rfl) ?_
      exact ⟨x16, (.slice (some ⟨g, 0, none⟩) (n + 1) cap), x18, (.int .i64 (n : Int)), (.slice (some ⟨g, 0, none⟩) n cap), x21, x15, x22, x23, x6, by first | (simp only [Act.put, List.setIfInBounds_toArray, List.set_cons_succ, List.set_cons_zero]; done) | (simp only [Act.put, List.setIfInBounds_toArray, List.set_cons_succ, List.set_cons_zero]; rfl) | rfl, Below.then HBw.out (Below.refl _ _), fun h => keepT (m10_9 (keep (by decide) h)), fun h => (d0 (keep (by decide) h)), fun h => (d1 (keep (by decide) h)), fun h => (d2 (keep (by decide) h)), fun h => (d3 (keep (by decide) h)), fun _ => rfl, fun h => (d5 (keep (by decide) h)), fun h => (d6 (keep (by decide) h)), fun h => (d7 (keep (by decide) h)), fun h => (d8 (keep (by decide) h)), fun h => (Exists.elim (d9 (keep (by decide) h)) fun b h => ⟨b, h.1, h.2.1, Exists.elim h.2.2 fun cs h => ⟨cs, h.1, h.2.grown (Below.refl _ _)⟩⟩), fun h => (Exists.elim (d10 (keep (by decide) h)) fun b h => ⟨b, h.1, h.2.grown (Below.refl _ _)⟩)⟩
    · have hoj2 := hoj
      obtain rfl := Option.some.inj hoj
      have e0 := d0 (hwt ⟨0, .data⟩ (by simp) rfl)
      have e4 := d4 (hwt ⟨4, .data⟩ (by simp) rfl)
      subst e0 e4
      refine wpOp_call hoj2 rfl (f := 32) (args := #[(.agg [vt, vr, vl, vi, vj].toArray), (.slice (some ⟨g, 0, none⟩) n cap)]) (by first | rfl | (go_simp; done) | (simp [go_sem]; done) | (simp [execOp, go_sem]; done)) ?_
      refine (hPlay w' (HP.out.below (Below.then B03 HBw.out)) g cap (S3.below HBw.out)).mono ?_
      rintro e w4 ⟨rfl, B4⟩
      refine ⟨_, rfl, ?_⟩
      exact ⟨(.agg [vt, vr, vl, vi, vj].toArray), x17, x18, x19, (.slice (some ⟨g, 0, none⟩) n cap), _, x15, x22, x23, x6, by first | (simp only [Act.put, List.setIfInBounds_toArray, List.set_cons_succ, List.set_cons_zero]; done) | (simp only [Act.put, List.setIfInBounds_toArray, List.set_cons_succ, List.set_cons_zero]; rfl) | rfl, Below.then HBw.out B4, fun h => keepT (m10_9 (keep (by decide) h)), fun h => (d0 (keep (by decide) h)), fun h => (d1 (keep (by decide) h)), fun h => (d2 (keep (by decide) h)), fun h => (d3 (keep (by decide) h)), fun h => (d4 (keep (by decide) h)), fun _ => rfl, fun h => (d6 (keep (by decide) h)), fun h => (d7 (keep (by decide) h)), fun h => (d8 (keep (by decide) h)), fun h => (Exists.elim (d9 (keep (by decide) h)) fun b h => ⟨b, h.1, h.2.1, Exists.elim h.2.2 fun cs h => ⟨cs, h.1, h.2.grown B4⟩⟩), fun h => (Exists.elim (d10 (keep (by decide) h)) fun b h => ⟨b, h.1, h.2.grown B4⟩)⟩
    · have hoj2 := hoj
      obtain rfl := Option.some.inj hoj
      have e5 := d5 (hwt ⟨5, .data⟩ (by simp) rfl)
      subst e5
      refine wpOp_value hoj2 rfl (v := (.tuple #[.agg (finL vs).toArray, .int .i64 E])) (w' := w') (by first | rfl | (go_simp; done) | (simp [go_sem]; done) | (simp [execOp, go_sem]; done)) ?_
      exact ⟨x16, x17, x18, x19, x20, (.tuple #[.agg (finL vs).toArray, .int .i64 E]), (.tuple #[.agg (finL vs).toArray, .int .i64 E]), x22, x23, x6, by first | (simp only [Act.put, List.setIfInBounds_toArray, List.set_cons_succ, List.set_cons_zero]; done) | (simp only [Act.put, List.setIfInBounds_toArray, List.set_cons_succ, List.set_cons_zero]; rfl) | rfl, Below.then HBw.out (Below.refl _ _), fun h => keepT (m10_9 (keep (by decide) h)), fun h => (d0 (keep (by decide) h)), fun h => (d1 (keep (by decide) h)), fun h => (d2 (keep (by decide) h)), fun h => (d3 (keep (by decide) h)), fun h => (d4 (keep (by decide) h)), fun h => (d5 (keep (by decide) h)), fun _ => rfl, fun h => (d7 (keep (by decide) h)), fun h => (d8 (keep (by decide) h)), fun h => (Exists.elim (d9 (keep (by decide) h)) fun b h => ⟨b, h.1, h.2.1, Exists.elim h.2.2 fun cs h => ⟨cs, h.1, h.2.grown (Below.refl _ _)⟩⟩), fun h => (Exists.elim (d10 (keep (by decide) h)) fun b h => ⟨b, h.1, h.2.grown (Below.refl _ _)⟩)⟩
    · have hoj2 := hoj
      obtain rfl := Option.some.inj hoj
      have e6 := d6 (hwt ⟨6, .data⟩ (by simp) rfl)
      subst e6
      refine wpOp_value hoj2 rfl (v := (.agg (finL vs).toArray)) (w' := w') (by first | rfl | (go_simp; done) | (simp [go_sem]; done) | (simp [execOp, go_sem]; done)) ?_
      exact ⟨x16, x17, x18, x19, x20, x21, (.tuple #[.agg (finL vs).toArray, .int .i64 E]), (.agg (finL vs).toArray), x23, x6, by first | (simp only [Act.put, List.setIfInBounds_toArray, List.set_cons_succ, List.set_cons_zero]; done) | (simp only [Act.put, List.setIfInBounds_toArray, List.set_cons_succ, List.set_cons_zero]; rfl) | rfl, Below.then HBw.out (Below.refl _ _), fun h => keepT (m10_9 (keep (by decide) h)), fun h => (d0 (keep (by decide) h)), fun h => (d1 (keep (by decide) h)), fun h => (d2 (keep (by decide) h)), fun h => (d3 (keep (by decide) h)), fun h => (d4 (keep (by decide) h)), fun h => (d5 (keep (by decide) h)), fun h => (d6 (keep (by decide) h)), fun _ => rfl, fun h => (d8 (keep (by decide) h)), fun h => (Exists.elim (d9 (keep (by decide) h)) fun b h => ⟨b, h.1, h.2.1, Exists.elim h.2.2 fun cs h => ⟨cs, h.1, h.2.grown (Below.refl _ _)⟩⟩), fun h => (Exists.elim (d10 (keep (by decide) h)) fun b h => ⟨b, h.1, h.2.grown (Below.refl _ _)⟩)⟩
    · have hoj2 := hoj
      obtain rfl := Option.some.inj hoj
      have e6 := d6 (hwt ⟨6, .data⟩ (by simp) rfl)
      subst e6
      refine wpOp_value hoj2 rfl (v := (.int .i64 E)) (w' := w') (by first | rfl | (go_simp; done) | (simp [go_sem]; done) | (simp [execOp, go_sem]; done)) ?_
      exact ⟨x16, x17, x18, x19, x20, x21, (.tuple #[.agg (finL vs).toArray, .int .i64 E]), x22, (.int .i64 E), x6, by first | (simp only [Act.put, List.setIfInBounds_toArray, List.set_cons_succ, List.set_cons_zero]; done) | (simp only [Act.put, List.setIfInBounds_toArray, List.set_cons_succ, List.set_cons_zero]; rfl) | rfl, Below.then HBw.out (Below.refl _ _), fun h => keepT (m10_9 (keep (by decide) h)), fun h => (d0 (keep (by decide) h)), fun h => (d1 (keep (by decide) h)), fun h => (d2 (keep (by decide) h)), fun h => (d3 (keep (by decide) h)), fun h => (d4 (keep (by decide) h)), fun h => (d5 (keep (by decide) h)), fun h => (d6 (keep (by decide) h)), fun h => (d7 (keep (by decide) h)), fun _ => rfl, fun h => (Exists.elim (d9 (keep (by decide) h)) fun b h => ⟨b, h.1, h.2.1, Exists.elim h.2.2 fun cs h => ⟨cs, h.1, h.2.grown (Below.refl _ _)⟩⟩), fun h => (Exists.elim (d10 (keep (by decide) h)) fun b h => ⟨b, h.1, h.2.grown (Below.refl _ _)⟩)⟩
    · have hoj2 := hoj
      obtain rfl := Option.some.inj hoj
      refine wpOp_value hoj2 rfl (run_allocS 80 (finL []) zeroFin rfl _ w') ?_
      have B9 := F_b (Fresh.alloc w' (.cells ((finL []) : List Value).toArray 80))
      exact ⟨x16, x17, x18, x19, x20, x21, x15, x22, x23, _, by first | (simp only [Act.put, List.setIfInBounds_toArray, List.set_cons_succ, List.set_cons_zero]; done) | (simp only [Act.put, List.setIfInBounds_toArray, List.set_cons_succ, List.set_cons_zero]; rfl) | rfl, Below.then HBw.out B9, fun h => keepT (m10_9 (keep (by decide) h)), fun h => (d0 (keep (by decide) h)), fun h => (d1 (keep (by decide) h)), fun h => (d2 (keep (by decide) h)), fun h => (d3 (keep (by decide) h)), fun h => (d4 (keep (by decide) h)), fun h => (d5 (keep (by decide) h)), fun h => (d6 (keep (by decide) h)), fun h => (d7 (keep (by decide) h)), fun h => (d8 (keep (by decide) h)), fun _ => ⟨_, rfl, HBw.out.size, (finL []), rfl, IsS.new w' 80 (finL [])⟩, fun h => absurd (m10_9 (keep (by decide) h)) (by rw [getD_both hun]; simp)⟩
    · have hoj2 := hoj
      obtain rfl := Option.some.inj hoj
      have e9 := d9 (hwt ⟨9, .data⟩ (by simp) rfl)
      have e7 := d7 (hwt ⟨7, .data⟩ (by simp) rfl)
      obtain ⟨b6, rfl, hb6, cs9, hl9, I9⟩ := e9
      subst e7
      refine wpOp_storeW hoj2 rfl 80 _ _ rfl rfl (finL vs) rfl I9 (by rw [hl9]; rw [hl49, hz49]) (by rw [hl49]; exact infoFin) (finL_one _) ?_
      intro W6 U6 I6
      exact ⟨x16, x17, x18, x19, x20, x21, x15, _, x23, _, by first | (simp only [Act.put, List.setIfInBounds_toArray, List.set_cons_succ, List.set_cons_zero]; done) | (simp only [Act.put, List.setIfInBounds_toArray, List.set_cons_succ, List.set_cons_zero]; rfl) | rfl, U6.trans HBw.out hb6, fun _ => keepT (hwt ⟨9, .data⟩ (by simp) rfl), fun h => (d0 (keep (by decide) h)), fun h => (d1 (keep (by decide) h)), fun h => (d2 (keep (by decide) h)), fun h => (d3 (keep (by decide) h)), fun h => (d4 (keep (by decide) h)), fun h => (d5 (keep (by decide) h)), fun h => (d6 (keep (by decide) h)), fun h => (d7 (keep (by decide) h)), fun h => (d8 (keep (by decide) h)), fun h => ⟨b6, rfl, hb6, (finL vs), (by rw [hl49, hz49]), I6⟩, fun _ => ⟨b6, rfl, I6⟩⟩
  case iend =>
    rintro a' w' ⟨x16, x17, x18, x19, x20, x21, x15, x22, x23, x6, rfl, HBw, m10_9, d0, d1, d2, d3, d4, d5, d6, d7, d8, d9, d10⟩
    replace d0 := d0 rfl
    replace d1 := d1 rfl
    replace d2 := d2 rfl
    replace d3 := d3 rfl
    replace d4 := d4 rfl
    replace d5 := d5 rfl
    replace d6 := d6 rfl
    replace d7 := d7 rfl
    replace d8 := d8 rfl
    replace d9 := d9 rfl
    replace d10 := d10 rfl
    clear m10_9
    simp only [Act.put, List.setIfInBounds_toArray, List.set_cons_succ, List.set_cons_zero]
    simp only [List.drop_succ_cons, List.drop_zero]
    obtain ⟨b6, e6, D6⟩ := d10
    subst e6
    obtain ⟨b6', eb, hb6, _⟩ := d9
    injection eb with eb
    injection eb with eb
    injection eb with eb
    subst eb
    subst d0 d1 d2 d3 d4 d5 d6 d7 d8
    have Bw := HBw.out
    clear HBw
    have B0w := Below.then B03 Bw
    have C6 := C3.grown Bw
    have S6 := S3.below Bw
    have SF6 := SF3.below Bw
    have n26 : b2 ≠ b6 := by have := C3.lt; omega
    have ta : True := trivial
    have tb : True := trivial
    have tc : True := trivial
    have td : True := trivial
    have te : True := trivial
    generalize hFL : finL vs = FV at *
    go_wp2_with (first
      | (clear ta; refine wpList_loadW rfl 28 _ rfl rfl C6 _ Try.underlying28 rfl infoPg ?_)
      | (go_at_call 33; refine (hRPlay _ (HP.out.below B0w) (HO.out.below B0w)).mono ?_; rintro e W7 ⟨rfl, B7⟩; have D7 := D6.grown B7; have S7 := S6.below B7; have SF7 := SF6.below B7; have B07 := Below.then B0w B7; clear hRPlay)
      | (clear tb; refine wpList_allocS rfl 80 rfl (finL []) zeroFin ?_; intro W8 b8 F8 E8; have n68 : b6 ≠ b8 := (by have := D7.lt; have := F8.at'; omega); have D8 := D7.fresh F8; have S8 := S7.below (F_b F8); have SF8 := SF7.below (F_b F8); have B08 := F8.trans B07 B07.size; have hb8 : W7.heap.size ≤ b8 := Nat.le_of_eq F8.at'.symm; clear F8)
      | (clear tc; refine wpList_storeW rfl 80 _ _ rfl rfl FV rfl E8 (by rw [hl49, hz49]) (by rw [hl49]; exact infoFin) HF1.out ?_; intro W9 U9 E9; have D9 := D8.upd U9 n68; have hgb : g < W7.heap.size := Nat.lt_of_lt_of_le hg3 (Nat.le_trans Bw.size B7.size); have B09 := U9.trans B08 (Nat.le_trans B07.size hb8); have HS9 := upd_seg U9 S8 (fun e => by omega); have HSF9 := upd_seg U9 SF8 (fun e => by omega); clear U9)
      | (clear td; refine wpList_loadW rfl 80 _ rfl rfl D9 _ Try.underlying80 rfl (by rw [hl49]; exact infoFin) ?_)
      | (clear te; refine wpList_loadW rfl 80 _ rfl rfl E9 _ Try.underlying80 rfl (by rw [hl49]; exact infoFin) ?_)
      | (refine wpList_value rfl (exec_eqFV hFL h48 rfl rfl rfl) ?_)
      | (refine wpList_value rfl (exec_suptoI rfl rfl rfl rfl hcap hcm) ?_)
      | (go_at_call 34; refine (hSame _ _ _ HS9 (HO.out.below B09)).mono ?_; rintro e W10 ⟨rfl, B10⟩; have Y10 := HSF9.below B10; obtain ⟨bz, oz, ez, hbz, hcz⟩ := Y10.last HLN.out; cases ez; rw [Nat.zero_add] at hcz; have hni : (n : Int) < ((n + 1 : Nat) : Int) := (by omega); have B010 := Below.then B09 B10)
      )
    go_ret
    exact ⟨rfl, B010⟩
end Go.Proofs.Ytegpnicajlndlaa

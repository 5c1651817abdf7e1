/- SC8, SC9, RG, RA1, RA2 -/
import Derived.Test.YtegpnicajlndlaaSC7
import Derived.Test.YtegpnicajlndlaaQam
import Derived.Test.YtegpnicajlndlaaRC
namespace Go.Proofs.Ytegpnicajlndlaa
open Go.RowKit M
set_option linter.unusedSimpArgs false
set_option linter.unusedVariables false
structure Vld (p : PG) : Prop where
 n0 : 0 < p.threads.length
 n4 : p.threads.length ≤ 4
 rl : p.regs.length = p.threads.length
 il : p.regInit.length = p.threads.length
 rows : ∀ (i : Nat) r q, p.regs[i]? = some r → p.regInit[i]? = some q → q.length = r.length
 few : ∀ (i : Nat) r, p.regs[i]? = some r → r.length ≤ 8
 ll : p.locInit.length = p.locs.length
 l16 : p.locs.length ≤ 16
 ops : OpsTo p.threads p.regs p.locs.length p.threads.length
theorem vld_of {p : PG} (h : validV p = 0) : Vld p := by
 unfold validV at h
 split at h
 · cases h
 · rename_i h1
   split at h
   · rename_i h2; exact absurd h h2
   · rename_i h2
     have hr : regsErr p = 0 := Classical.byContradiction h2
     unfold regsErr at hr
     split at hr
     · cases hr
     · rename_i h3
       split at hr
       · cases hr
       · rename_i h4
         split at hr
         · cases hr
         · rename_i h5
           split at h
           · cases h
           · rename_i h6
             split at h
             · cases h
             · rename_i h7
               split at h
               · cases h
               · rename_i h8
                 have hR : RegsTo p.regs p.regInit p.regs.length := Classical.byContradiction h4
                 refine ⟨by omega, by omega, Classical.byContradiction fun e => h3 (.inl e), Classical.byContradiction fun e => h3 (.inr e), fun i r q hr hq => (hR i r q (List.getElem?_eq_some_iff.1 hr).1 hr hq).1, fun i r hr => ?_, Classical.byContradiction fun e => h6 (.inl e), by omega, ?_⟩
                 · exact Classical.byContradiction fun e => h5 ⟨i, r, (List.getElem?_eq_some_iff.1 hr).1, hr, by omega⟩
                 · exact Classical.byContradiction fun e => h8 (opsB_f e)
structure Inv (p : PG) (pc : List Int) (regs : List (List Int)) (mem : List Int) : Prop where
 pl : pc.length = p.threads.length
 ps : ∀ (i : Nat) x, pc[i]? = some x → 0 ≤ x
 rl : regs.length = p.threads.length
 rs : ∀ (i : Nat) r q, p.regs[i]? = some r → regs[i]? = some q → q.length = r.length
 ml : mem.length = p.locs.length
theorem ret_ST {w : World} {b t k : Nat} {cs : List Value} {fn : Func} {p : Tmp} {R : Ending → World → Prop} {a : Act} (h : fn.results = #[.cell p t, .tmp k]) (hp : a.tmps.getD p undef = .pointer (some ⟨b, 0, none⟩))
    (hd : a.defers = []) (hc : IsS w b t cs) (d : TypeDesc) (hu : Try.prog.underlying t = some d) (hr : (match d with | .struct _ => true | .array _ _ => true | _ => false) = true) (hi : (Try.prog.info? t).map (·.size) = some cs.length) (v : Value) (hv : a.tmps.getD k undef = v) (hR : R (.returned (.tuple #[.agg cs.toArray, v])) w) : bodyPost Try.prog fn R .ret a w := by
 have hc' : w.heap[b]? = some (.cells cs.toArray t (0, 0)) := hc
 have hp' : a.tmps[p]?.getD undef = .pointer (some ⟨b, 0, none⟩) := by simpa using hp
 have hv' : a.tmps[k]?.getD undef = v := by simpa using hv
 refine ⟨hd, .tuple #[.agg cs.toArray, v], ?_, hR⟩
 simp [results, h, hp', hv', asAddr, run_loadVar_row w b t t cs.toArray (0, 0) d hc' hu (by cases d <;> simp_all) (by simpa using hi)]
theorem flat_le (m : Nat) : ∀ (l : List (List Int)), (∀ q ∈ l, q.length ≤ m) → l.flatten.length ≤ m * l.length
 | [], _ => by simp
 | q :: l, h => by
  rw [List.flatten_cons, List.length_append, List.length_cons, Nat.mul_succ]
  have h1 := h q (by simp)
  have h2 := flat_le m l fun x hx => h x (List.mem_cons_of_mem _ hx)
  omega
theorem inv_48 {p : PG} {pc : List Int} {regs : List (List Int)} {mem : List Int} (hv : Vld p) (hI : Inv p pc regs mem) : (regs.flatten ++ mem).length ≤ 48 := by
 have h1 := flat_le 8 regs fun q hq => by
  obtain ⟨i, hi⟩ := List.getElem?_of_mem hq
  have hl := (List.getElem?_eq_some_iff.1 hi).1
  have hr : p.regs[i]? = some (p.regs.getD i []) := by have := hv.rl; have := hI.rl; simp [show i < p.regs.length by omega]
  rw [hI.rs i _ _ hr hi]; exact hv.few i _ hr
 have h2 := hI.rl
 have h3 := hv.n4
 have h4 := hv.l16
 have h5 := hI.ml
 rw [List.length_append]
 have : 8 * regs.length ≤ 32 := by omega
 omega
theorem build0Fin {w : World} {op : Oper} {a : Act} (ho : op.op = .build 80 #[]) : (execOp a.eval op).run Try.prog w = .ok (.value (.agg (finL []).toArray)) w := by
 have h : Try.t80.zero = some (.agg (finL []).toArray) := by kernel_rfl
 unfold execOp
 simp [ho, go_sem, zeroValue, h]
theorem wpList_b0Fin {w : World} {ops : Array Oper} {rest : List Oper} {op : Oper} {a : Act} {Q : Exit → Act → World → Prop} (hgd : op.guard = none) (ho : op.op = .build 80 #[]) (h : wpList Try.prog ops Q rest (a.put op.dst (.agg (finL []).toArray)) w) : wpList Try.prog ops Q (op :: rest) a w := by
 refine wpList_plain hgd fun K hK => ?_
 unfold Oper.wp
 rw [build0Fin ho]
 exact hK _ _ h
theorem OwnA.rows {w : World} {B : Nat} {v : Value} {vs : List Value} {xss : List (List Int)} (h : OwnA w B v vs xss) : RowsV w v intE xss := ⟨vs, h.len, own_row h.out, fun j u xs hu hx => own_row (h.row j u xs hu hx)⟩
theorem run_app0 {w : World} {t T k by' : Nat} {z : Value} (E : Elt t T k z by') (B b : Nat) (hown : w.ownsRow B t k (.slice (some ⟨b, 0, none⟩) 0 0) 0 []) (u : Value) (m : Nat) (cs : List Value) (hu : RowV w u m cs) (hl : cs.length = m * k) (h1 : ∀ x ∈ cs, x.oneCell' = true) (hn : m ≤ 4194304) (hB : B ≤ w.heap.size) (ty : TypeId) :
    ∃ v' w', (Builtin.append_ #[T, T] ty #[.slice (some ⟨b, 0, none⟩) 0 0, u]).run Try.prog w = .ok v' w' ∧ w'.ownsRow B t k v' m cs ∧ Below w.heap.size w w' := by
 obtain ⟨i0, hi, hz, hs, hby⟩ := E.info
 have hfew := E.few
 obtain ⟨ad, c, rfl, hT, hnil⟩ := hu
 by_cases hm : m = 0
 · subst hm
   have hcs : cs = [] := List.length_eq_zero_iff.1 (by rw [hl, Nat.zero_mul])
   subst hcs
   refine ⟨_, w, ?_, hown, Below.refl _ _⟩
   have hld : ∀ (x : Addr), (loadCells x 0).run Try.prog w = .ok #[] w := fun x => by simpa using run_loadCells_list (P := Try.prog) w x [] (by simp)
   cases ad with
   | none => simp [Builtin.append_, run_underlying E.und, sizeOf, typeInfo, hi, Builtin.lenOf, Builtin.firstCells, storeCells]
   | some x => simp [Builtin.append_, run_underlying E.und, sizeOf, typeInfo, hi, Builtin.lenOf, Builtin.firstCells, storeCells, hld]
 · have hpos := E.pos
   have : 0 < cs.length := by rw [hl]; exact Nat.mul_pos (by omega) hpos
   obtain ⟨b0, o0, rfl, _⟩ := hT 0 cs[0] (List.getElem?_eq_getElem this)
   have hnews : ∀ j y, cs[j]? = some y → w.cell? ((⟨b0, o0, none⟩ : Addr).add j) = some y := fun j y hj => by
    obtain ⟨b', o', e, _, hc⟩ := hT j y hj
    cases e
    rw [Addr.add_mid]
    exact hc
   have hb : (0 + m) * by' ≤ 140737488355328 := Nat.le_trans (Nat.mul_le_mul (by omega : 0 + m ≤ 4194304) hfew) (by decide)
   obtain ⟨v', w', hr, ho, hg, _⟩ := run_append_own (P := Try.prog) w B T ty t i0 z k by' E.und hi hz hs hby E.cells E.pos _ 0 [] hown ⟨b0, o0, none⟩ m c cs hl hnews h1 (by unfold maxLen; omega) hb hB
   have hfit : Builtin.nextslicecap (0 + m) 0 * i0.bytes ≤ 281474976710656 := by rw [Nat.zero_add, nextslicecap_zero (by omega), hby]; have := hb; rw [Nat.zero_add] at this; omega
   have hr2 := run_append_grow (P := Try.prog) (w := w) T ty t i0 z E.und hi hz ⟨b, 0, none⟩ 0 0 [] (by simp) (by simp) ⟨b0, o0, none⟩ m c cs (by rw [hs]; exact hl) hnews (by omega) (by omega) hfit
   rw [hr] at hr2
   injection hr2 with h2 h3
   refine ⟨v', w', hr, by rw [Nat.zero_add, List.nil_append] at ho; exact ho, ?_⟩
   rw [h3]
   exact (below_drew (Below.refl _ w)).alloc (Nat.le_refl _) _
theorem run_app0L {w : World} {t T k by' : Nat} {z : Value} (E : Elt t T k z by') (B b : Nat) (hown : w.ownsRow B t k (.slice (some ⟨b, 0, none⟩) 0 0) 0 []) (u : Value) (m : Nat) (cs : List Value) (hu : RowV w u m cs) (hl : cs.length = m * k) (h1 : ∀ x ∈ cs, x.oneCell' = true) (hn : m ≤ 4194304) (hB : B ≤ w.heap.size) (ty : TypeId) :
    ∃ v' w', (Builtin.append_ #[T, T] ty #[.slice (some ⟨b, 0, none⟩) 0 0, u]).run Try.prog w = .ok v' w' ∧ w'.ownsRow B t k v' m cs ∧ Below w.heap.size w w' ∧ ((m = 0 ∧ v' = .slice (some ⟨b, 0, none⟩) 0 0) ∨ ∀ k, v'.ownBlock = some k → w.heap.size ≤ k) := by
 obtain ⟨i0, hi, hz, hs, hby⟩ := E.info
 have hfew := E.few
 obtain ⟨ad, c, rfl, hT, hnil⟩ := hu
 by_cases hm : m = 0
 · subst hm
   have hcs : cs = [] := List.length_eq_zero_iff.1 (by rw [hl, Nat.zero_mul])
   subst hcs
   refine ⟨_, w, ?_, hown, Below.refl _ _, .inl ⟨rfl, rfl⟩⟩
   have hld : ∀ (x : Addr), (loadCells x 0).run Try.prog w = .ok #[] w := fun x => by simpa using run_loadCells_list (P := Try.prog) w x [] (by simp)
   cases ad with
   | none => simp [Builtin.append_, run_underlying E.und, sizeOf, typeInfo, hi, Builtin.lenOf, Builtin.firstCells, storeCells]
   | some x => simp [Builtin.append_, run_underlying E.und, sizeOf, typeInfo, hi, Builtin.lenOf, Builtin.firstCells, storeCells, hld]
 · have hpos := E.pos
   have : 0 < cs.length := by rw [hl]; exact Nat.mul_pos (by omega) hpos
   obtain ⟨b0, o0, rfl, _⟩ := hT 0 cs[0] (List.getElem?_eq_getElem this)
   have hnews : ∀ j y, cs[j]? = some y → w.cell? ((⟨b0, o0, none⟩ : Addr).add j) = some y := fun j y hj => by
    obtain ⟨b', o', e, _, hc⟩ := hT j y hj
    cases e
    rw [Addr.add_mid]
    exact hc
   have hb : (0 + m) * by' ≤ 140737488355328 := Nat.le_trans (Nat.mul_le_mul (by omega : 0 + m ≤ 4194304) hfew) (by decide)
   obtain ⟨v', w', hr, ho, hg, _⟩ := run_append_own (P := Try.prog) w B T ty t i0 z k by' E.und hi hz hs hby E.cells E.pos _ 0 [] hown ⟨b0, o0, none⟩ m c cs hl hnews h1 (by unfold maxLen; omega) hb hB
   have hfit : Builtin.nextslicecap (0 + m) 0 * i0.bytes ≤ 281474976710656 := by rw [Nat.zero_add, nextslicecap_zero (by omega), hby]; have := hb; rw [Nat.zero_add] at this; omega
   have hr2 := run_append_grow (P := Try.prog) (w := w) T ty t i0 z E.und hi hz ⟨b, 0, none⟩ 0 0 [] (by simp) (by simp) ⟨b0, o0, none⟩ m c cs (by rw [hs]; exact hl) hnews (by omega) (by omega) hfit
   rw [hr] at hr2
   injection hr2 with h2 h3
   refine ⟨v', w', hr, by rw [Nat.zero_add, List.nil_append] at ho; exact ho, ?_, .inr fun kk hkk => ?_⟩
   · rw [h3]
     exact (below_drew (Below.refl _ w)).alloc (Nat.le_refl _) _
   · rw [h2] at hkk
     simp [Value.ownBlock] at hkk
     omega
theorem OwnA.snoc {W W' : World} {B H : Nat} {v v' u : Value} {vs : List Value} {xss : List (List Int)} {xs : List Int} (h1 : vs.length = xss.length) (h2 : W.ownsRow B 26 1 v xss.length vs)
    (h3 : ∀ (j : Nat) u xs, vs[j]? = some u → xss[j]? = some xs → W.ownsRow B 2 1 u xs.length (xs.flatMap intE)) (h4 : ∀ (i j : Nat) u u' k, i ≠ j → vs[i]? = some u → vs[j]? = some u' → u.ownBlock = some k → u'.ownBlock ≠ some k) (h5 : ∀ (j : Nat) u xs k, vs[j]? = some u → xss[j]? = some xs → u.ownBlock = some k → k < H)
    (hu : W.ownsRow B 2 1 u xs.length (xs.flatMap intE)) (hlo : ∀ k, u.ownBlock = some k → H ≤ k) (ho : W'.ownsRow B 26 1 v' (xss.length + 1) (vs ++ [u])) (hg : W.grownBy W' v.ownBlock) : OwnA W' B v' (vs ++ [u]) (xss ++ [xs]) := by
 obtain ⟨vs', e1, e2, e3⟩ := OwnRows.snoc (enc := intE) h1 h2 h3 hu ho hg (by decide)
 have get : ∀ (j : Nat) x, (vs ++ [u])[j]? = some x → (∃ xs', vs[j]? = some x ∧ xss[j]? = some xs') ∨ (j = vs.length ∧ x = u) := fun j x hj => by
  by_cases hlt : j < vs.length
  · rw [List.getElem?_append_left hlt] at hj
    exact .inl ⟨xss[j]'(by omega), hj, List.getElem?_eq_getElem (by omega)⟩
  · have hl := (List.getElem?_eq_some_iff.1 hj).1
    rw [List.length_append, List.length_singleton] at hl
    have e : j = vs.length := by omega
    subst e
    rw [List.getElem?_append_right (Nat.le_refl _), Nat.sub_self] at hj
    simp at hj
    exact .inr ⟨rfl, hj.symm⟩
 refine ⟨by simp [h1], by rw [List.length_append]; exact ho, fun j u' xs' hj hx => ?_, fun i j x y k hij hi hj hk hk2 => ?_⟩
 · by_cases hlt : j < vs.length
   · rw [List.getElem?_append_left hlt] at hj
     rw [List.getElem?_append_left (by omega)] at hx
     exact own_grow (h3 j u' xs' hj hx) h2 hg (by decide)
   · have hl := (List.getElem?_eq_some_iff.1 hj).1
     rw [List.length_append, List.length_singleton] at hl
     have e : j = vs.length := by omega
     subst e
     rw [List.getElem?_append_right (Nat.le_refl _), Nat.sub_self] at hj
     rw [List.getElem?_append_right (by omega), h1, Nat.sub_self] at hx
     cases hj; cases hx
     exact own_grow hu h2 hg (by decide)
 · rcases get i x hi with ⟨xi, hi1, hi2⟩ | ⟨hi1, hi2⟩
   · rcases get j y hj with ⟨xj, hj1, hj2⟩ | ⟨hj1, hj2⟩
     · exact h4 i j x y k hij hi1 hj1 hk hk2
     · subst hj2
       have := h5 i x xi k hi1 hi2 hk
       have := hlo k hk2
       omega
   · subst hi2
     rcases get j y hj with ⟨xj, hj1, hj2⟩ | ⟨hj1, hj2⟩
     · have := h5 j y xj k hj1 hj2 hk2
       have := hlo k hk
       omega
     · omega
set_option maxRecDepth 100000 in
set_option maxHeartbeats 4000000 in
theorem rcopyA_any (ri : List (List Int)) (hi : ri.length ≤ 1048576) (hii : ri.flatten.length ≤ 1048576) (ai : Option Addr) (ci : Nat) (w : World) (hR : RowsV w (.slice ai ri.length ci) intE ri) :
    Calls Try.prog 40 #[.slice ai ri.length ci] w fun en w' => ∃ v, en = .returned v ∧ (∃ vs, OwnA w' w.heap.size v vs ri) ∧ Below w.heap.size w w' := by
 have HI : Hid (RowsV w (.slice ai ri.length ci) intE ri) := hR
 have HII : Hid (ri.flatten.length ≤ 1048576) := hii
 obtain ⟨ni, hni⟩ : ∃ n, ri.length = n := ⟨_, rfl⟩
 have HNI : Hid (ri.length = ni) := hni
 rw [hni] at HI hi ⊢
 clear hR hii hni
 go_enter Try.func40, Try.ntmps40
 go_wp2_with fail
 go_loopw [3, 4] (fun v i wr => ∃ k : Nat, k ≤ ni ∧ i = .int .i64 k ∧ Hid (∃ vs, OwnA wr w.heap.size v vs (ri.take k)) ∧ Hid (Below w.heap.size w wr)) (fun _ i _ => ni - (intOf i).toNat)
 case atStart => exact ⟨0, Nat.zero_le _, rfl, ⟨[], by rw [List.take_zero]; rfl, by rw [List.take_zero]; exact own_nil _ _ _ _, fun j u xs hu => by simp at hu, fun i j u u' k _ hu => by simp at hu⟩, Below.refl _ _⟩
 case round =>
  obtain ⟨k, hk, rfl, HO, HB⟩ := hrel
  by_cases hlt : k < ni
  · have hki : (k : Int) < ni := by omega
    obtain ⟨q, hq⟩ : ∃ q, ri[k]? = some q := ⟨_, List.getElem?_eq_getElem (by rw [HNI.out]; exact hlt)⟩
    obtain ⟨bi, oi, ai', ci', rfl, hbi, hci, hsegi, hnil⟩ := (HI.out.below HB.out).at k q hq
    have hql : q.length ≤ 1048576 := Nat.le_trans (by have := flat_at hq (Nat.le_refl _); rw [List.take_length, List.length_append] at this; omega) HII.out
    have HQ : Hid (ri.take (k + 1) = ri.take k ++ [q]) := take_at hq
    have HRV : Hid (RowV wr (.slice ai' q.length ci') q.length (q.flatMap intE)) := ⟨ai', ci', rfl, hsegi, hnil⟩
    obtain ⟨vs, ho1, ho2, ho3, ho4⟩ := HO.out
    have H4 : Hid (∀ (i j : Nat) u u' k, i ≠ j → vs[i]? = some u → vs[j]? = some u' → u.ownBlock = some k → u'.ownBlock ≠ some k) := ho4
    have hkl : (ri.take k).length = k := by rw [List.length_take, HNI.out]; omega
    rw [hkl] at ho1 ho2
    obtain ⟨av, cv, hv⟩ := own_form ho2
    subst hv
    obtain ⟨qn, hqn⟩ : ∃ n, q.length = n := ⟨_, rfl⟩
    have HQN : Hid (q.length = qn) := hqn
    have H1 : Hid (vs.length = k) := ho1
    have H2 : Hid (wr.ownsRow w.heap.size 26 1 (.slice av k cv) k vs) := ho2
    have H3 : Hid (∀ (j : Nat) u xs, vs[j]? = some u → (ri.take k)[j]? = some xs → wr.ownsRow w.heap.size 2 1 u xs.length (xs.flatMap intE)) := ho3
    have HKL : Hid ((ri.take k).length = k) := hkl
    rw [hqn] at hci hql HRV
    clear hq hsegi hnil ho1 ho2 ho3 ho4 hkl hqn HO
    have t1 : True := trivial
    have t2 : True := trivial
    have t3 : True := trivial
    have t4 : True := trivial
    go_wp2_with (first
     | (clear t1; refine wpList_build0E eInt rfl rfl ?_; intro W1 b1 F1 O1; have B1 := F1.trans HB.out HB.out.size; have Bx1 := F1.trans (Below.refl _ wr) (Nat.le_refl _); have hc1 : W1.cell? ⟨bi, oi + k, none⟩ = some (.slice ai' qn ci') := (by rw [Bx1.cell (p := ⟨bi, oi + k, none⟩) hbi]; exact hci); clear F1)
     | (clear t2; at_builtin; refine wpList_appM eInt rfl _ _ rfl wr.heap.size _ 0 [] rfl O1 _ qn (q.flatMap intE) rfl (HRV.out.below Bx1) (by rw [int_len, HQN.out]) (int_one q) (by omega) Bx1.size ?_; intro v2 W2 O2x G2; have Bx2 := grown_below Bx1 Bx1.size O1 G2; have hlo : ∀ k, v2.ownBlock = some k → wr.heap.size ≤ k := (fun k hk => (own_lt O2x hk).1); have O2 : W2.ownsRow w.heap.size 2 1 v2 qn (q.flatMap intE) := (by have h := own_raise O2x HB.out.size; rw [Nat.zero_add, List.nil_append] at h; exact h); have B2 := Below.then HB.out Bx2; clear G2 O2x O1 hc1)
     | (clear t3; refine wpList_build1E eInts rfl _ rfl v2 rfl (own_cell O2) ?_; intro W3 b3 F3 C3; have Bx3 := F3.trans Bx2 Bx2.size; have B3 := F3.trans B2 B2.size; have O3 := own_below O2 (F3.trans bR (Nat.le_refl _)); have P3 := own_below H2.out Bx3; clear F3 O2)
     | (clear t4; at_builtin; refine wpList_appM eInts rfl _ _ rfl w.heap.size _ k vs rfl P3 _ 1 [v2] rfl (row_isS C3) rfl (by simp [own_cell O3]) (by omega) B3.size ?_; intro v4 W4 O4 G4; have B4 := grown_below B3 B3.size P3 G4))
    have HF : Hid (∃ vs, OwnA W4 w.heap.size v4 vs (ri.take (k + 1))) := (by
     rw [HQ.out]
     refine ⟨vs ++ [v2], OwnA.snoc (H := wr.heap.size) (by rw [HKL.out]; exact H1.out) (by rw [HKL.out]; exact P3) (fun j u xs hu hx => own_below (H3.out j u xs hu hx) Bx3) H4.out (fun j u xs k hu hx hk => (own_lt (H3.out j u xs hu hx) hk).2) (by rw [HQN.out]; exact O3) hlo (by rw [HKL.out]; exact O4) G4⟩)
    clear G4 O4 P3 O3 C3
    go_wp2_with fail
    go_roundw
    case rel => exact ⟨k + 1, by omega, by go_num, HF, B4⟩
    case measure => simp [intOf]; omega
  · have hki : ¬ (k : Int) < ni := by omega
    have HF : Hid (∃ vs, OwnA wr w.heap.size u3 vs ri) := (by have := HO.out; rw [show k = ri.length by rw [HNI.out]; omega, List.take_length] at this; exact this)
    go_wp2_with fail
    go_ret
    exact ⟨_, rfl, HF.out, HB.out⟩
def wrE (x : Int × Int) : List Value := [.int .i64 x.1, .int .i64 x.2]
structure RS (w : World) (vpc vph vrg vmm vbf : Value) (n : Nat) (pc : List Int) (regs : List (List Int)) (mem : List Int) : Prop where
 pc : RowV w vpc n (pc.flatMap intE)
 ph : RowV w vph n ((List.replicate n (0 : Int)).flatMap intE)
 rg : RowsV w vrg intE regs
 mm : RowV w vmm mem.length (mem.flatMap intE)
 bf : RowsV w vbf wrE (List.replicate n ([] : List (Int × Int)))
theorem rep_row {W : World} {g n : Nat} (I : IsS W g 3 (List.replicate n (.int .i64 0))) : RowV W (.slice (some ⟨g, 0, none⟩) n n) n ((List.replicate n (0 : Int)).flatMap intE) := by
 rw [int_map, List.map_replicate]; exact row_isS I
theorem rep_rows {W : World} {g n : Nat} (I : IsS W g 48 (List.replicate n (.slice none 0 0))) : RowsV W (.slice (some ⟨g, 0, none⟩) n n) wrE (List.replicate n ([] : List (Int × Int))) := by
 refine ⟨List.replicate n (.slice none 0 0), by simp, by rw [List.length_replicate]; exact row_isS I, fun j u xs hu hx => ?_⟩
 rw [List.getElem?_replicate] at hu hx
 split at hu
 · rw [if_pos ‹_›] at hx
   cases hu; cases hx
   exact ⟨none, 0, rfl, Seg.nil _ _, fun _ => rfl⟩
 · cases hu
end Go.Proofs.Ytegpnicajlndlaa

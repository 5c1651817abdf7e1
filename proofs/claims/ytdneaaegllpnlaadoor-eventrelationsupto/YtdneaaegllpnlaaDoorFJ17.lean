/- EventRelations: for every list of events the law returns true. -/
import Derived.Test.YtdneaaegllpnlaaDoorFI17
import Derived.Test.YtdneaaegllpnlaaDoorFG17
import Derived.Test.YtdneaaegllpnlaaDoorQB
namespace Go.Proofs.YtdneaaegllpnlaaDoor
open Go.RowKit M
set_option linter.unusedSimpArgs false
set_option linter.unusedVariables false

theorem eEv : Elt 32 39 5 (.agg (evL ev0).toArray) 40 := ⟨Tryd.underlying39, info_parts (by kernel_rfl), rfl, by decide, by decide⟩
def e99 : EV := ⟨99, 0, 0, 0, false⟩
theorem own_open {W : World} {B t s n : Nat} {v : Value} {xs : List Value} (h : W.ownsRow B t s v n xs) (h0 : 0 < n) : ∃ g c, v = .slice (some ⟨g, 0, none⟩) n c ∧ n ≤ c ∧ Seg W (some ⟨g, 0, none⟩) xs := by
  obtain ⟨a, c, e, sg, _⟩ := own_row h
  rcases h.2 with ⟨h1, h2⟩ | ⟨g, cap, cur, hv, hg, hh, hc, _⟩
  · rw [h1] at e; cases e; omega
  · rw [hv] at e; cases e; exact ⟨g, c, hv, hc, sg⟩
theorem exec_b99 {w : World} {op : Oper} {a : Act} (ho : op.op = .build 32 #[(0, .const (.int .i64 99))]) : (execOp a.eval op).run Tryd.prog w = .ok (.value (.agg (evL e99).toArray)) w := by
  have hb : Tryd.prog.built 32 [(0, .int .i64 99)] = some (evL e99).toArray := by kernel_rfl
  unfold execOp
  simp only [ho, List.map_toArray, List.map_cons, List.map_nil, Act.eval, Sem.run_bind, run_build w 32 #[(0, .int .i64 99)] (evL e99).toArray hb, Result.andThen_ok, Sem.run_pure]
theorem wpList_b99 {w : World} {ops : Array Oper} {rest : List Oper} {op : Oper} {a : Act} {Q : Exit → Act → World → Prop} (hgd : op.guard = none) (ho : op.op = .build 32 #[(0, .const (.int .i64 99))])
    (h : wpList Tryd.prog ops Q rest (a.put op.dst (.agg (evL e99).toArray)) w) : wpList Tryd.prog ops Q (op :: rest) a w := by
  refine wpList_plain hgd fun K hK => ?_
  unfold Oper.wp
  rw [exec_b99 ho]
  exact hK _ _ h
theorem exec_build1E {w : World} {op : Oper} {a : Act} (x : Operand) (ho : op.op = .buildSlice 39 1 #[(0, x)]) (k : EV) (hx : a.eval x = .agg (evL k).toArray) : (execOp a.eval op).run Tryd.prog w = .ok (.value (.slice (some ⟨w.heap.size, 0, none⟩) 1 1)) (w.alloc (.cells (evL k).toArray 32)) := by
  obtain ⟨i, hi, hz, hk, _⟩ := eEv.info
  generalize a.eval = ev at hx ⊢
  unfold execOp
  simp only [ho, hx]
  simp [Instr.buildSlice, Instr.fill, run_underlying eEv.und, sizeOf, typeInfo, zeroValue, hi, hk, hz, hx, Value.cells, newRow, evL, show Array.range 5 = #[0, 1, 2, 3, 4] from rfl]
theorem wpList_build1V {w : World} {ops : Array Oper} {rest : List Oper} {op : Oper} {a : Act} {Q : Exit → Act → World → Prop} (hgd : op.guard = none) (x : Operand) (ho : op.op = .buildSlice 39 1 #[(0, x)]) (k : EV) (hx : a.eval x = .agg (evL k).toArray)
    (h : ∀ W b, Fresh w W b → IsS W b 32 (evL k) → wpList Tryd.prog ops Q rest (a.put op.dst (.slice (some ⟨b, 0, none⟩) 1 1)) W) : wpList Tryd.prog ops Q (op :: rest) a w := by
  refine wpList_plain hgd fun K hK => ?_
  unfold Oper.wp
  rw [exec_build1E x ho k hx]
  exact hK _ _ (h _ _ (Fresh.alloc w _) (IsS.new w 32 (evL k)))
theorem ev_oneL (l : List EV) : ∀ v ∈ l.flatMap evL, v.oneCell' = true := fun v hv => by
  obtain ⟨r, _, h⟩ := List.mem_flatMap.1 hv; exact ev_oneC r v h
theorem ev_len (l : List EV) : (l.flatMap evL).length = l.length * 5 := by
  induction l with
  | nil => rfl
  | cons x l ih => rw [List.flatMap_cons, List.length_append, ih, List.length_cons]; show 5 + _ = _; omega
theorem seg_pre {W : World} {a : Option Addr} {cs ds : List Value} (h : Seg W a (cs ++ ds)) : Seg W a cs := fun j v hv => h j v (by rw [List.getElem?_append_left (List.getElem?_eq_some_iff.1 hv).1]; exact hv)
theorem same_below {f : FuncId} {args : Array Value} {w : World} {v : Value} (h : Calls Tryd.prog f args w fun e w' => e = .returned v ∧ w' = w) : Calls Tryd.prog f args w fun e w' => e = .returned v ∧ Below w.heap.size w w' := h.mono fun e w' ⟨h1, h2⟩ => ⟨h1, by subst h2; exact Below.refl _ _⟩
set_option maxRecDepth 100000 in
set_option maxHeartbeats 8000000 in
theorem eventRelations_any (l : List EV) (n : Nat) (hn0 : l.length = n) (hn : n ≤ 1048576) (kind : Int) (al : Option Addr) (cl : Nat) (hal : al = none → cl = 0) (w : World) (hT : TabAt w) (hS : Seg w al (l.flatMap evL)) :
    Calls Tryd.prog 4 #[.slice al n cl, .int .i64 kind] w fun e w' => e = .returned (.bool true) ∧ Below w.heap.size w w' := by
  have HT : Hid (TabAt w) := hT
  have HS : Hid (Seg w al (l.flatMap evL)) := hS
  have HR : Hid (RowV w (.slice al n cl) n (l.flatMap evL)) := ⟨al, cl, rfl, hS, hal⟩
  have HN : Hid (l.length = n) := hn0
  clear hT hS hn0 hal
  have t1 : True := trivial
  have t2 : True := trivial
  go_enter Tryd.func4, Tryd.ntmps4
  go_upto_region 2 with (first
    | (refine wpList_build0E eEv rfl rfl ?_; intro W1 b1 F1 O1; have B1 := F_b F1; clear F1)
    | (clear t1; at_builtin; refine wpList_appM eEv rfl _ _ rfl w.heap.size _ 0 _ rfl O1 _ n (l.flatMap evL) rfl (HR.out.below B1) (by rw [ev_len, HN.out]) (ev_oneL l) (by omega) B1.size ?_; intro v2 W2 O2 G2; have B2 := grown_below B1 B1.size O1 G2; rw [Nat.zero_add, List.nil_append] at O2; clear O1 G2 B1)
    | (refine wpList_b99 rfl rfl ?_)
    | (refine wpList_build1V rfl _ rfl e99 rfl ?_; intro W3 b3 F3 C3; have B3 := Below.then B2 (F_b F3); have O3 := own_below O2 (F_b F3); clear F3 O2 B2)
    | (clear t2; at_builtin; refine wpList_appM eEv rfl _ _ rfl w.heap.size _ n _ rfl O3 _ 1 (evL e99) rfl (row_isS C3) rfl (ev_oneC _) (by omega) B3.size ?_; intro v4 W4 O4 G4; have B4 := grown_below B3 B3.size O3 G4; clear O3 G4 B3 C3; obtain ⟨g, cg, rfl, hcg, sg⟩ := own_open O4 (by omega); have hnc : n ≤ cg := (by omega)))
  have HBX : Hid (Below w.heap.size w W4) := B4
  have HSG : Hid (Seg W4 (some ⟨g, 0, none⟩) (l.flatMap evL)) := seg_pre sg
  have HC9 : Hid (W4.cell? ⟨g, n * 5, none⟩ = some (.int .i64 99)) := by
    obtain ⟨b, o, e, _, hc⟩ := sg (n * 5) (.int .i64 99) (by rw [List.getElem?_append_right (by rw [ev_len, HN.out]; omega), ev_len, HN.out, Nat.sub_self]; rfl)
    cases e
    rw [Nat.zero_add] at hc; exact hc

  have hcs : ∀ W, Below W4.heap.size W4 W → Seg W (some ⟨g, 0, none⟩) (l.flatMap evL) := fun W hB => HSG.out.below hB
  have hls : ∀ W, Below w.heap.size w W → Seg W al (l.flatMap evL) := fun W hB => HS.out.below hB
  have hll : l.length ≤ 9223372036854775807 := by rw [HN.out]; omega
  have hTT : ∀ W, Below w.heap.size w W → TabAt W := fun W hB => HT.out.below hB
  obtain ⟨W0, hW0⟩ : ∃ W0, W4 = W0 := ⟨_, rfl⟩
  have h4w : ∀ W, Below W4.heap.size W4 W → Below w.heap.size w W := fun W hB => Below.then HBX.out hB
  have c1 : Hid (∀ W, Below W4.heap.size W4 W → Calls Tryd.prog 18 #[.slice (some ⟨g, 0, none⟩) n cg, .int .i64 kind] W fun e w' => e = .returned (.int .u64 (setM (shL l) (kdB kind) : Nat)) ∧ Below W.heap.size W w') := fun W hB => by
    have := of_x (c := cg) kind hll (hcs W hB)
    rwa [HN.out] at this
  have r1 : Hid (∀ W, Below W4.heap.size W4 W → Calls Tryd.prog 19 #[.slice al n cl, .int .i64 kind] W fun e w' => e = .returned (.int .u64 (setM (shL l) (kdB kind) : Nat)) ∧ Below W.heap.size W w') := fun W hB => by
    have := same_below (rof_x (c := cl) kind hll (hls W (h4w W hB)))
    rwa [HN.out] at this
  have c2 : Hid (∀ W, Below W4.heap.size W4 W → Calls Tryd.prog 20 #[.slice (some ⟨g, 0, none⟩) n cg] W fun e w' => e = .returned (.int .u64 (setM (shL l) mmB : Nat)) ∧ Below W.heap.size W w') := fun W hB => by
    have := memory_x (c := cg) hll (hcs W hB)
    rwa [HN.out] at this
  have r2 : Hid (∀ W, Below W4.heap.size W4 W → Calls Tryd.prog 21 #[.slice al n cl] W fun e w' => e = .returned (.int .u64 (setM (shL l) mmB : Nat)) ∧ Below W.heap.size W w') := fun W hB => by
    have := same_below (rmemory_x (c := cl) hll (hls W (h4w W hB)))
    rwa [HN.out] at this
  have c3 : Hid (∀ W, Below W4.heap.size W4 W → Calls Tryd.prog 22 #[.slice (some ⟨g, 0, none⟩) n cg] W fun e w' => e = .returned (.int .u64 (setM (shL l) EV.lck : Nat)) ∧ Below W.heap.size W w') := fun W hB => by
    have := locked_x (c := cg) hll (hcs W hB)
    rwa [HN.out] at this
  have r3 : Hid (∀ W, Below W4.heap.size W4 W → Calls Tryd.prog 23 #[.slice al n cl] W fun e w' => e = .returned (.int .u64 (setM (shL l) EV.lck : Nat)) ∧ Below W.heap.size W w') := fun W hB => by
    have := same_below (rlocked_x (c := cl) hll (hls W (h4w W hB)))
    rwa [HN.out] at this
  have p1 : Hid (∀ W, Below W4.heap.size W4 W → Calls Tryd.prog 24 #[.slice (some ⟨g, 0, none⟩) n cg] W fun e w' => e = .returned (relv (shL l).length (prF (shL l).length (stQ 1 (shL l)))) ∧ Below W.heap.size W w') := fun W hB => by
    have := po_x (c := cg) hll (hcs W hB)
    rwa [HN.out] at this
  have q1 : Hid (∀ W, Below W4.heap.size W4 W → Calls Tryd.prog 25 #[.slice al n cl, .int .i64 1] W fun e w' => e = .returned (relv (shL l).length (prF (shL l).length (stQ 1 (shL l)))) ∧ Below W.heap.size W w') := fun W hB => by
    have := rrel_x (c := cl) 1 (by decide) hll (hls W (h4w W hB))
    rwa [HN.out] at this
  have p2 : Hid (∀ W, Below W4.heap.size W4 W → Calls Tryd.prog 26 #[.slice (some ⟨g, 0, none⟩) n cg] W fun e w' => e = .returned (relv (shL l).length (prF (shL l).length (stQ 2 (shL l)))) ∧ Below W.heap.size W w') := fun W hB => by
    have := loc_x (c := cg) (hTT W (h4w W hB)) hll (hcs W hB)
    rwa [HN.out] at this
  have q2 : Hid (∀ W, Below W4.heap.size W4 W → Calls Tryd.prog 25 #[.slice al n cl, .int .i64 2] W fun e w' => e = .returned (relv (shL l).length (prF (shL l).length (stQ 2 (shL l)))) ∧ Below W.heap.size W w') := fun W hB => by
    have := rrel_x (c := cl) 2 (by decide) hll (hls W (h4w W hB))
    rwa [HN.out] at this
  have p3 : Hid (∀ W, Below W4.heap.size W4 W → Calls Tryd.prog 27 #[.slice (some ⟨g, 0, none⟩) n cg] W fun e w' => e = .returned (relv (shL l).length (prF (shL l).length (stQ 3 (shL l)))) ∧ Below W.heap.size W w') := fun W hB => by
    have := int_x (c := cg) hll (hcs W hB)
    rwa [HN.out] at this
  have q3 : Hid (∀ W, Below W4.heap.size W4 W → Calls Tryd.prog 25 #[.slice al n cl, .int .i64 3] W fun e w' => e = .returned (relv (shL l).length (prF (shL l).length (stQ 3 (shL l)))) ∧ Below W.heap.size W w') := fun W hB => by
    have := rrel_x (c := cl) 3 (by decide) hll (hls W (h4w W hB))
    rwa [HN.out] at this
  have p4 : Hid (∀ W, Below W4.heap.size W4 W → Calls Tryd.prog 28 #[.slice (some ⟨g, 0, none⟩) n cg] W fun e w' => e = .returned (relv (shL l).length (prF (shL l).length (stQ 4 (shL l)))) ∧ Below W.heap.size W w') := fun W hB => by
    have := ext_x (c := cg) hll (hcs W hB)
    rwa [HN.out] at this
  have q4 : Hid (∀ W, Below W4.heap.size W4 W → Calls Tryd.prog 25 #[.slice al n cl, .int .i64 4] W fun e w' => e = .returned (relv (shL l).length (prF (shL l).length (stQ 4 (shL l)))) ∧ Below W.heap.size W w') := fun W hB => by
    have := rrel_x (c := cl) 4 (by decide) hll (hls W (h4w W hB))
    rwa [HN.out] at this
  have p5 : Hid (∀ W, Below W4.heap.size W4 W → Calls Tryd.prog 29 #[.slice (some ⟨g, 0, none⟩) n cg] W fun e w' => e = .returned (relv (shL l).length (prF (shL l).length (stQ 5 (shL l)))) ∧ Below W.heap.size W w') := fun W hB => by
    have := rmw_x (c := cg) (hTT W (h4w W hB)) hll (hcs W hB)
    rwa [HN.out] at this
  have q5 : Hid (∀ W, Below W4.heap.size W4 W → Calls Tryd.prog 25 #[.slice al n cl, .int .i64 5] W fun e w' => e = .returned (relv (shL l).length (prF (shL l).length (stQ 5 (shL l)))) ∧ Below W.heap.size W w') := fun W hB => by
    have := rrel_x (c := cl) 5 (by decide) hll (hls W (h4w W hB))
    rwa [HN.out] at this
  have cs : Hid (∀ W, Below W4.heap.size W4 W → Calls Tryd.prog 14 #[.slice (some ⟨g, 0, none⟩) n cg, .slice al n cl] W fun e w' => e = .returned (.bool true) ∧ Below W.heap.size W w') := fun W hB => sameEvents_any l n HN.out (by omega) _ _ cg cl W (hcs W hB) (hls W (h4w W hB))
  clear hcs hls hll hTT HS HR HN HT HSG h4w sg O4 B4
  generalize setM (shL l) (kdB kind) = z1 at *
  generalize setM (shL l) mmB = z2 at *
  generalize setM (shL l) EV.lck = z3 at *
  generalize prF (shL l).length (stQ 1 (shL l)) = y1 at *
  generalize prF (shL l).length (stQ 2 (shL l)) = y2 at *
  generalize prF (shL l).length (stQ 3 (shL l)) = y3 at *
  generalize prF (shL l).length (stQ 4 (shL l)) = y4 at *
  generalize prF (shL l).length (stQ 5 (shL l)) = y5 at *
  generalize (shL l).length = N at *
  have hnI : (n : Int) ≤ cg := by omega
  have hncI : (n : Int) + 1 ≤ cg := by omega
  have hwn : IntKind.i64.wrap ((n : Int) + 1) = (n : Int) + 1 := by rw [IntKind.wrap_i64]; omega
  have HB4 : Hid (Below W4.heap.size W4 W4) := Below.refl _ _
  clear hW0
  try simp only [Act.put]
  refine grow_region ?_
  refine WG.put rfl (v := (.slice (some ⟨g, 0, none⟩) n cg)) (fun w => by first | rfl | (go_simp; done) | (simp [execOp, go_sem]; done) | (simp [execOp, go_sem, hnI, hncI]; done) | (simp [execOp, go_sem, hwn]; done) | (simp [execOp, go_sem, hnI, hncI]; intro h; omega)) ?_
  simp only [Act.put, List.setIfInBounds_toArray, List.set_cons_succ, List.set_cons_zero]
  refine WG.put rfl (v := (.int .i64 kind)) (fun w => by first | rfl | (go_simp; done) | (simp [execOp, go_sem]; done) | (simp [execOp, go_sem, hnI, hncI]; done) | (simp [execOp, go_sem, hwn]; done) | (simp [execOp, go_sem, hnI, hncI]; intro h; omega)) ?_
  simp only [Act.put, List.setIfInBounds_toArray, List.set_cons_succ, List.set_cons_zero]
  refine WG.call rfl (fun w' hw' => c1.out w' (Below.then HB4.out hw')) (fun w => by first | rfl | (go_simp; done) | (simp [execOp, go_sem]; done) | (simp [execOp, go_sem, hnI, hncI]; done) | (simp [execOp, go_sem, hwn]; done) | (simp [execOp, go_sem, hnI, hncI]; intro h; omega)) ?_
  simp only [Act.put, List.setIfInBounds_toArray, List.set_cons_succ, List.set_cons_zero]
  refine WG.put rfl (v := (.slice al n cl)) (fun w => by first | rfl | (go_simp; done) | (simp [execOp, go_sem]; done) | (simp [execOp, go_sem, hnI, hncI]; done) | (simp [execOp, go_sem, hwn]; done) | (simp [execOp, go_sem, hnI, hncI]; intro h; omega)) ?_
  simp only [Act.put, List.setIfInBounds_toArray, List.set_cons_succ, List.set_cons_zero]
  refine WG.put rfl (v := (.int .i64 kind)) (fun w => by first | rfl | (go_simp; done) | (simp [execOp, go_sem]; done) | (simp [execOp, go_sem, hnI, hncI]; done) | (simp [execOp, go_sem, hwn]; done) | (simp [execOp, go_sem, hnI, hncI]; intro h; omega)) ?_
  simp only [Act.put, List.setIfInBounds_toArray, List.set_cons_succ, List.set_cons_zero]
  refine WG.call rfl (fun w' hw' => r1.out w' (Below.then HB4.out hw')) (fun w => by first | rfl | (go_simp; done) | (simp [execOp, go_sem]; done) | (simp [execOp, go_sem, hnI, hncI]; done) | (simp [execOp, go_sem, hwn]; done) | (simp [execOp, go_sem, hnI, hncI]; intro h; omega)) ?_
  simp only [Act.put, List.setIfInBounds_toArray, List.set_cons_succ, List.set_cons_zero]
  refine WG.put rfl (v := (.bool true)) (fun w => by first | rfl | (go_simp; done) | (simp [execOp, go_sem]; done) | (simp [execOp, go_sem, hnI, hncI]; done) | (simp [execOp, go_sem, hwn]; done) | (simp [execOp, go_sem, hnI, hncI]; intro h; omega)) ?_
  simp only [Act.put, List.setIfInBounds_toArray, List.set_cons_succ, List.set_cons_zero]
  refine WG.put rfl (v := (.bool true)) (fun w => by first | rfl | (go_simp; done) | (simp [execOp, go_sem]; done) | (simp [execOp, go_sem, hnI, hncI]; done) | (simp [execOp, go_sem, hwn]; done) | (simp [execOp, go_sem, hnI, hncI]; intro h; omega)) ?_
  simp only [Act.put, List.setIfInBounds_toArray, List.set_cons_succ, List.set_cons_zero]
  refine WG.put rfl (v := (.slice (some ⟨g, 0, none⟩) n cg)) (fun w => by first | rfl | (go_simp; done) | (simp [execOp, go_sem]; done) | (simp [execOp, go_sem, hnI, hncI]; done) | (simp [execOp, go_sem, hwn]; done) | (simp [execOp, go_sem, hnI, hncI]; intro h; omega)) ?_
  simp only [Act.put, List.setIfInBounds_toArray, List.set_cons_succ, List.set_cons_zero]
  refine WG.call rfl (fun w' hw' => c2.out w' (Below.then HB4.out hw')) (fun w => by first | rfl | (go_simp; done) | (simp [execOp, go_sem]; done) | (simp [execOp, go_sem, hnI, hncI]; done) | (simp [execOp, go_sem, hwn]; done) | (simp [execOp, go_sem, hnI, hncI]; intro h; omega)) ?_
  simp only [Act.put, List.setIfInBounds_toArray, List.set_cons_succ, List.set_cons_zero]
  refine WG.put rfl (v := (.slice al n cl)) (fun w => by first | rfl | (go_simp; done) | (simp [execOp, go_sem]; done) | (simp [execOp, go_sem, hnI, hncI]; done) | (simp [execOp, go_sem, hwn]; done) | (simp [execOp, go_sem, hnI, hncI]; intro h; omega)) ?_
  simp only [Act.put, List.setIfInBounds_toArray, List.set_cons_succ, List.set_cons_zero]
  refine WG.call rfl (fun w' hw' => r2.out w' (Below.then HB4.out hw')) (fun w => by first | rfl | (go_simp; done) | (simp [execOp, go_sem]; done) | (simp [execOp, go_sem, hnI, hncI]; done) | (simp [execOp, go_sem, hwn]; done) | (simp [execOp, go_sem, hnI, hncI]; intro h; omega)) ?_
  simp only [Act.put, List.setIfInBounds_toArray, List.set_cons_succ, List.set_cons_zero]
  refine WG.put rfl (v := (.bool true)) (fun w => by first | rfl | (go_simp; done) | (simp [execOp, go_sem]; done) | (simp [execOp, go_sem, hnI, hncI]; done) | (simp [execOp, go_sem, hwn]; done) | (simp [execOp, go_sem, hnI, hncI]; intro h; omega)) ?_
  simp only [Act.put, List.setIfInBounds_toArray, List.set_cons_succ, List.set_cons_zero]
  refine WG.put rfl (v := (.bool true)) (fun w => by first | rfl | (go_simp; done) | (simp [execOp, go_sem]; done) | (simp [execOp, go_sem, hnI, hncI]; done) | (simp [execOp, go_sem, hwn]; done) | (simp [execOp, go_sem, hnI, hncI]; intro h; omega)) ?_
  simp only [Act.put, List.setIfInBounds_toArray, List.set_cons_succ, List.set_cons_zero]
  refine WG.put rfl (v := (.bool true)) (fun w => by first | rfl | (go_simp; done) | (simp [execOp, go_sem]; done) | (simp [execOp, go_sem, hnI, hncI]; done) | (simp [execOp, go_sem, hwn]; done) | (simp [execOp, go_sem, hnI, hncI]; intro h; omega)) ?_
  simp only [Act.put, List.setIfInBounds_toArray, List.set_cons_succ, List.set_cons_zero]
  refine WG.put rfl (v := (.slice (some ⟨g, 0, none⟩) n cg)) (fun w => by first | rfl | (go_simp; done) | (simp [execOp, go_sem]; done) | (simp [execOp, go_sem, hnI, hncI]; done) | (simp [execOp, go_sem, hwn]; done) | (simp [execOp, go_sem, hnI, hncI]; intro h; omega)) ?_
  simp only [Act.put, List.setIfInBounds_toArray, List.set_cons_succ, List.set_cons_zero]
  refine WG.call rfl (fun w' hw' => c3.out w' (Below.then HB4.out hw')) (fun w => by first | rfl | (go_simp; done) | (simp [execOp, go_sem]; done) | (simp [execOp, go_sem, hnI, hncI]; done) | (simp [execOp, go_sem, hwn]; done) | (simp [execOp, go_sem, hnI, hncI]; intro h; omega)) ?_
  simp only [Act.put, List.setIfInBounds_toArray, List.set_cons_succ, List.set_cons_zero]
  refine WG.put rfl (v := (.slice al n cl)) (fun w => by first | rfl | (go_simp; done) | (simp [execOp, go_sem]; done) | (simp [execOp, go_sem, hnI, hncI]; done) | (simp [execOp, go_sem, hwn]; done) | (simp [execOp, go_sem, hnI, hncI]; intro h; omega)) ?_
  simp only [Act.put, List.setIfInBounds_toArray, List.set_cons_succ, List.set_cons_zero]
  refine WG.call rfl (fun w' hw' => r3.out w' (Below.then HB4.out hw')) (fun w => by first | rfl | (go_simp; done) | (simp [execOp, go_sem]; done) | (simp [execOp, go_sem, hnI, hncI]; done) | (simp [execOp, go_sem, hwn]; done) | (simp [execOp, go_sem, hnI, hncI]; intro h; omega)) ?_
  simp only [Act.put, List.setIfInBounds_toArray, List.set_cons_succ, List.set_cons_zero]
  refine WG.put rfl (v := (.bool true)) (fun w => by first | rfl | (go_simp; done) | (simp [execOp, go_sem]; done) | (simp [execOp, go_sem, hnI, hncI]; done) | (simp [execOp, go_sem, hwn]; done) | (simp [execOp, go_sem, hnI, hncI]; intro h; omega)) ?_
  simp only [Act.put, List.setIfInBounds_toArray, List.set_cons_succ, List.set_cons_zero]
  refine WG.put rfl (v := (.bool true)) (fun w => by first | rfl | (go_simp; done) | (simp [execOp, go_sem]; done) | (simp [execOp, go_sem, hnI, hncI]; done) | (simp [execOp, go_sem, hwn]; done) | (simp [execOp, go_sem, hnI, hncI]; intro h; omega)) ?_
  simp only [Act.put, List.setIfInBounds_toArray, List.set_cons_succ, List.set_cons_zero]
  refine WG.put rfl (v := (.bool true)) (fun w => by first | rfl | (go_simp; done) | (simp [execOp, go_sem]; done) | (simp [execOp, go_sem, hnI, hncI]; done) | (simp [execOp, go_sem, hwn]; done) | (simp [execOp, go_sem, hnI, hncI]; intro h; omega)) ?_
  simp only [Act.put, List.setIfInBounds_toArray, List.set_cons_succ, List.set_cons_zero]
  refine WG.nil (fun W5 hw5 => ?_)
  have HB5 : Hid (Below W4.heap.size W4 W5) := Below.then HB4.out hw5
  clear hw5
  go_upto_region 3 with fail
  try simp only [Act.put]
  refine grow_region ?_
  refine WG.put rfl (v := (.bool true)) (fun w => by first | rfl | (go_simp; done) | (simp [execOp, go_sem]; done) | (simp [execOp, go_sem, hnI, hncI]; done) | (simp [execOp, go_sem, hwn]; done) | (simp [execOp, go_sem, hnI, hncI]; intro h; omega)) ?_
  simp only [Act.put, List.setIfInBounds_toArray, List.set_cons_succ, List.set_cons_zero]
  refine WG.put rfl (v := (.bool true)) (fun w => by first | rfl | (go_simp; done) | (simp [execOp, go_sem]; done) | (simp [execOp, go_sem, hnI, hncI]; done) | (simp [execOp, go_sem, hwn]; done) | (simp [execOp, go_sem, hnI, hncI]; intro h; omega)) ?_
  simp only [Act.put, List.setIfInBounds_toArray, List.set_cons_succ, List.set_cons_zero]
  refine WG.put rfl (v := (.slice (some ⟨g, 0, none⟩) n cg)) (fun w => by first | rfl | (go_simp; done) | (simp [execOp, go_sem]; done) | (simp [execOp, go_sem, hnI, hncI]; done) | (simp [execOp, go_sem, hwn]; done) | (simp [execOp, go_sem, hnI, hncI]; intro h; omega)) ?_
  simp only [Act.put, List.setIfInBounds_toArray, List.set_cons_succ, List.set_cons_zero]
  refine WG.call rfl (fun w' hw' => p1.out w' (Below.then HB5.out hw')) (fun w => by first | rfl | (go_simp; done) | (simp [execOp, go_sem]; done) | (simp [execOp, go_sem, hnI, hncI]; done) | (simp [execOp, go_sem, hwn]; done) | (simp [execOp, go_sem, hnI, hncI]; intro h; omega)) ?_
  simp only [Act.put, List.setIfInBounds_toArray, List.set_cons_succ, List.set_cons_zero]
  refine WG.put rfl (v := (.slice al n cl)) (fun w => by first | rfl | (go_simp; done) | (simp [execOp, go_sem]; done) | (simp [execOp, go_sem, hnI, hncI]; done) | (simp [execOp, go_sem, hwn]; done) | (simp [execOp, go_sem, hnI, hncI]; intro h; omega)) ?_
  simp only [Act.put, List.setIfInBounds_toArray, List.set_cons_succ, List.set_cons_zero]
  refine WG.call rfl (fun w' hw' => q1.out w' (Below.then HB5.out hw')) (fun w => by first | rfl | (go_simp; done) | (simp [execOp, go_sem]; done) | (simp [execOp, go_sem, hnI, hncI]; done) | (simp [execOp, go_sem, hwn]; done) | (simp [execOp, go_sem, hnI, hncI]; intro h; omega)) ?_
  simp only [Act.put, List.setIfInBounds_toArray, List.set_cons_succ, List.set_cons_zero]
  refine WG.eqR rfl _ _ rfl rfl rfl ?_
  simp only [Act.put, List.setIfInBounds_toArray, List.set_cons_succ, List.set_cons_zero]
  refine WG.put rfl (v := (.bool true)) (fun w => by first | rfl | (go_simp; done) | (simp [execOp, go_sem]; done) | (simp [execOp, go_sem, hnI, hncI]; done) | (simp [execOp, go_sem, hwn]; done) | (simp [execOp, go_sem, hnI, hncI]; intro h; omega)) ?_
  simp only [Act.put, List.setIfInBounds_toArray, List.set_cons_succ, List.set_cons_zero]
  refine WG.put rfl (v := (.bool true)) (fun w => by first | rfl | (go_simp; done) | (simp [execOp, go_sem]; done) | (simp [execOp, go_sem, hnI, hncI]; done) | (simp [execOp, go_sem, hwn]; done) | (simp [execOp, go_sem, hnI, hncI]; intro h; omega)) ?_
  simp only [Act.put, List.setIfInBounds_toArray, List.set_cons_succ, List.set_cons_zero]
  refine WG.put rfl (v := (.slice (some ⟨g, 0, none⟩) n cg)) (fun w => by first | rfl | (go_simp; done) | (simp [execOp, go_sem]; done) | (simp [execOp, go_sem, hnI, hncI]; done) | (simp [execOp, go_sem, hwn]; done) | (simp [execOp, go_sem, hnI, hncI]; intro h; omega)) ?_
  simp only [Act.put, List.setIfInBounds_toArray, List.set_cons_succ, List.set_cons_zero]
  refine WG.call rfl (fun w' hw' => p2.out w' (Below.then HB5.out hw')) (fun w => by first | rfl | (go_simp; done) | (simp [execOp, go_sem]; done) | (simp [execOp, go_sem, hnI, hncI]; done) | (simp [execOp, go_sem, hwn]; done) | (simp [execOp, go_sem, hnI, hncI]; intro h; omega)) ?_
  simp only [Act.put, List.setIfInBounds_toArray, List.set_cons_succ, List.set_cons_zero]
  refine WG.put rfl (v := (.slice al n cl)) (fun w => by first | rfl | (go_simp; done) | (simp [execOp, go_sem]; done) | (simp [execOp, go_sem, hnI, hncI]; done) | (simp [execOp, go_sem, hwn]; done) | (simp [execOp, go_sem, hnI, hncI]; intro h; omega)) ?_
  simp only [Act.put, List.setIfInBounds_toArray, List.set_cons_succ, List.set_cons_zero]
  refine WG.call rfl (fun w' hw' => q2.out w' (Below.then HB5.out hw')) (fun w => by first | rfl | (go_simp; done) | (simp [execOp, go_sem]; done) | (simp [execOp, go_sem, hnI, hncI]; done) | (simp [execOp, go_sem, hwn]; done) | (simp [execOp, go_sem, hnI, hncI]; intro h; omega)) ?_
  simp only [Act.put, List.setIfInBounds_toArray, List.set_cons_succ, List.set_cons_zero]
  refine WG.eqR rfl _ _ rfl rfl rfl ?_
  simp only [Act.put, List.setIfInBounds_toArray, List.set_cons_succ, List.set_cons_zero]
  refine WG.put rfl (v := (.bool true)) (fun w => by first | rfl | (go_simp; done) | (simp [execOp, go_sem]; done) | (simp [execOp, go_sem, hnI, hncI]; done) | (simp [execOp, go_sem, hwn]; done) | (simp [execOp, go_sem, hnI, hncI]; intro h; omega)) ?_
  simp only [Act.put, List.setIfInBounds_toArray, List.set_cons_succ, List.set_cons_zero]
  refine WG.put rfl (v := (.bool true)) (fun w => by first | rfl | (go_simp; done) | (simp [execOp, go_sem]; done) | (simp [execOp, go_sem, hnI, hncI]; done) | (simp [execOp, go_sem, hwn]; done) | (simp [execOp, go_sem, hnI, hncI]; intro h; omega)) ?_
  simp only [Act.put, List.setIfInBounds_toArray, List.set_cons_succ, List.set_cons_zero]
  refine WG.put rfl (v := (.slice (some ⟨g, 0, none⟩) n cg)) (fun w => by first | rfl | (go_simp; done) | (simp [execOp, go_sem]; done) | (simp [execOp, go_sem, hnI, hncI]; done) | (simp [execOp, go_sem, hwn]; done) | (simp [execOp, go_sem, hnI, hncI]; intro h; omega)) ?_
  simp only [Act.put, List.setIfInBounds_toArray, List.set_cons_succ, List.set_cons_zero]
  refine WG.call rfl (fun w' hw' => p3.out w' (Below.then HB5.out hw')) (fun w => by first | rfl | (go_simp; done) | (simp [execOp, go_sem]; done) | (simp [execOp, go_sem, hnI, hncI]; done) | (simp [execOp, go_sem, hwn]; done) | (simp [execOp, go_sem, hnI, hncI]; intro h; omega)) ?_
  simp only [Act.put, List.setIfInBounds_toArray, List.set_cons_succ, List.set_cons_zero]
  refine WG.put rfl (v := (.slice al n cl)) (fun w => by first | rfl | (go_simp; done) | (simp [execOp, go_sem]; done) | (simp [execOp, go_sem, hnI, hncI]; done) | (simp [execOp, go_sem, hwn]; done) | (simp [execOp, go_sem, hnI, hncI]; intro h; omega)) ?_
  simp only [Act.put, List.setIfInBounds_toArray, List.set_cons_succ, List.set_cons_zero]
  refine WG.call rfl (fun w' hw' => q3.out w' (Below.then HB5.out hw')) (fun w => by first | rfl | (go_simp; done) | (simp [execOp, go_sem]; done) | (simp [execOp, go_sem, hnI, hncI]; done) | (simp [execOp, go_sem, hwn]; done) | (simp [execOp, go_sem, hnI, hncI]; intro h; omega)) ?_
  simp only [Act.put, List.setIfInBounds_toArray, List.set_cons_succ, List.set_cons_zero]
  refine WG.eqR rfl _ _ rfl rfl rfl ?_
  simp only [Act.put, List.setIfInBounds_toArray, List.set_cons_succ, List.set_cons_zero]
  refine WG.put rfl (v := (.bool true)) (fun w => by first | rfl | (go_simp; done) | (simp [execOp, go_sem]; done) | (simp [execOp, go_sem, hnI, hncI]; done) | (simp [execOp, go_sem, hwn]; done) | (simp [execOp, go_sem, hnI, hncI]; intro h; omega)) ?_
  simp only [Act.put, List.setIfInBounds_toArray, List.set_cons_succ, List.set_cons_zero]
  refine WG.put rfl (v := (.bool true)) (fun w => by first | rfl | (go_simp; done) | (simp [execOp, go_sem]; done) | (simp [execOp, go_sem, hnI, hncI]; done) | (simp [execOp, go_sem, hwn]; done) | (simp [execOp, go_sem, hnI, hncI]; intro h; omega)) ?_
  simp only [Act.put, List.setIfInBounds_toArray, List.set_cons_succ, List.set_cons_zero]
  refine WG.nil (fun W6 hw6 => ?_)
  have HB6 : Hid (Below W4.heap.size W4 W6) := Below.then HB5.out hw6
  clear hw6
  go_upto_region 4 with fail
  try simp only [Act.put]
  refine grow_region ?_
  refine WG.put rfl (v := (.bool true)) (fun w => by first | rfl | (go_simp; done) | (simp [execOp, go_sem]; done) | (simp [execOp, go_sem, hnI, hncI]; done) | (simp [execOp, go_sem, hwn]; done) | (simp [execOp, go_sem, hnI, hncI]; intro h; omega)) ?_
  simp only [Act.put, List.setIfInBounds_toArray, List.set_cons_succ, List.set_cons_zero]
  refine WG.put rfl (v := (.bool true)) (fun w => by first | rfl | (go_simp; done) | (simp [execOp, go_sem]; done) | (simp [execOp, go_sem, hnI, hncI]; done) | (simp [execOp, go_sem, hwn]; done) | (simp [execOp, go_sem, hnI, hncI]; intro h; omega)) ?_
  simp only [Act.put, List.setIfInBounds_toArray, List.set_cons_succ, List.set_cons_zero]
  refine WG.put rfl (v := (.slice (some ⟨g, 0, none⟩) n cg)) (fun w => by first | rfl | (go_simp; done) | (simp [execOp, go_sem]; done) | (simp [execOp, go_sem, hnI, hncI]; done) | (simp [execOp, go_sem, hwn]; done) | (simp [execOp, go_sem, hnI, hncI]; intro h; omega)) ?_
  simp only [Act.put, List.setIfInBounds_toArray, List.set_cons_succ, List.set_cons_zero]
  refine WG.call rfl (fun w' hw' => p4.out w' (Below.then HB6.out hw')) (fun w => by first | rfl | (go_simp; done) | (simp [execOp, go_sem]; done) | (simp [execOp, go_sem, hnI, hncI]; done) | (simp [execOp, go_sem, hwn]; done) | (simp [execOp, go_sem, hnI, hncI]; intro h; omega)) ?_
  simp only [Act.put, List.setIfInBounds_toArray, List.set_cons_succ, List.set_cons_zero]
  refine WG.put rfl (v := (.slice al n cl)) (fun w => by first | rfl | (go_simp; done) | (simp [execOp, go_sem]; done) | (simp [execOp, go_sem, hnI, hncI]; done) | (simp [execOp, go_sem, hwn]; done) | (simp [execOp, go_sem, hnI, hncI]; intro h; omega)) ?_
  simp only [Act.put, List.setIfInBounds_toArray, List.set_cons_succ, List.set_cons_zero]
  refine WG.call rfl (fun w' hw' => q4.out w' (Below.then HB6.out hw')) (fun w => by first | rfl | (go_simp; done) | (simp [execOp, go_sem]; done) | (simp [execOp, go_sem, hnI, hncI]; done) | (simp [execOp, go_sem, hwn]; done) | (simp [execOp, go_sem, hnI, hncI]; intro h; omega)) ?_
  simp only [Act.put, List.setIfInBounds_toArray, List.set_cons_succ, List.set_cons_zero]
  refine WG.eqR rfl _ _ rfl rfl rfl ?_
  simp only [Act.put, List.setIfInBounds_toArray, List.set_cons_succ, List.set_cons_zero]
  refine WG.put rfl (v := (.bool true)) (fun w => by first | rfl | (go_simp; done) | (simp [execOp, go_sem]; done) | (simp [execOp, go_sem, hnI, hncI]; done) | (simp [execOp, go_sem, hwn]; done) | (simp [execOp, go_sem, hnI, hncI]; intro h; omega)) ?_
  simp only [Act.put, List.setIfInBounds_toArray, List.set_cons_succ, List.set_cons_zero]
  refine WG.put rfl (v := (.bool true)) (fun w => by first | rfl | (go_simp; done) | (simp [execOp, go_sem]; done) | (simp [execOp, go_sem, hnI, hncI]; done) | (simp [execOp, go_sem, hwn]; done) | (simp [execOp, go_sem, hnI, hncI]; intro h; omega)) ?_
  simp only [Act.put, List.setIfInBounds_toArray, List.set_cons_succ, List.set_cons_zero]
  refine WG.put rfl (v := (.slice (some ⟨g, 0, none⟩) n cg)) (fun w => by first | rfl | (go_simp; done) | (simp [execOp, go_sem]; done) | (simp [execOp, go_sem, hnI, hncI]; done) | (simp [execOp, go_sem, hwn]; done) | (simp [execOp, go_sem, hnI, hncI]; intro h; omega)) ?_
  simp only [Act.put, List.setIfInBounds_toArray, List.set_cons_succ, List.set_cons_zero]
  refine WG.call rfl (fun w' hw' => p5.out w' (Below.then HB6.out hw')) (fun w => by first | rfl | (go_simp; done) | (simp [execOp, go_sem]; done) | (simp [execOp, go_sem, hnI, hncI]; done) | (simp [execOp, go_sem, hwn]; done) | (simp [execOp, go_sem, hnI, hncI]; intro h; omega)) ?_
  simp only [Act.put, List.setIfInBounds_toArray, List.set_cons_succ, List.set_cons_zero]
  refine WG.put rfl (v := (.slice al n cl)) (fun w => by first | rfl | (go_simp; done) | (simp [execOp, go_sem]; done) | (simp [execOp, go_sem, hnI, hncI]; done) | (simp [execOp, go_sem, hwn]; done) | (simp [execOp, go_sem, hnI, hncI]; intro h; omega)) ?_
  simp only [Act.put, List.setIfInBounds_toArray, List.set_cons_succ, List.set_cons_zero]
  refine WG.call rfl (fun w' hw' => q5.out w' (Below.then HB6.out hw')) (fun w => by first | rfl | (go_simp; done) | (simp [execOp, go_sem]; done) | (simp [execOp, go_sem, hnI, hncI]; done) | (simp [execOp, go_sem, hwn]; done) | (simp [execOp, go_sem, hnI, hncI]; intro h; omega)) ?_
  simp only [Act.put, List.setIfInBounds_toArray, List.set_cons_succ, List.set_cons_zero]
  refine WG.eqR rfl _ _ rfl rfl rfl ?_
  simp only [Act.put, List.setIfInBounds_toArray, List.set_cons_succ, List.set_cons_zero]
  refine WG.put rfl (v := (.bool true)) (fun w => by first | rfl | (go_simp; done) | (simp [execOp, go_sem]; done) | (simp [execOp, go_sem, hnI, hncI]; done) | (simp [execOp, go_sem, hwn]; done) | (simp [execOp, go_sem, hnI, hncI]; intro h; omega)) ?_
  simp only [Act.put, List.setIfInBounds_toArray, List.set_cons_succ, List.set_cons_zero]
  refine WG.put rfl (v := (.bool true)) (fun w => by first | rfl | (go_simp; done) | (simp [execOp, go_sem]; done) | (simp [execOp, go_sem, hnI, hncI]; done) | (simp [execOp, go_sem, hwn]; done) | (simp [execOp, go_sem, hnI, hncI]; intro h; omega)) ?_
  simp only [Act.put, List.setIfInBounds_toArray, List.set_cons_succ, List.set_cons_zero]
  refine WG.nil (fun W7 hw7 => ?_)
  have HB7 : Hid (Below W4.heap.size W4 W7) := Below.then HB6.out hw7
  clear hw7
  go_upto_region 5 with fail
  try simp only [Act.put]
  replace HC9 : Hid (W7.cell? ⟨g, n * 5, none⟩ = some (.int .i64 99)) := cell_grow HC9.out HB7.out
  refine grow_region ?_
  refine WG.put rfl (v := (.bool true)) (fun w => by first | rfl | (go_simp; done) | (simp [execOp, go_sem]; done) | (simp [execOp, go_sem, hnI, hncI]; done) | (simp [execOp, go_sem, hwn]; done) | (simp [execOp, go_sem, hnI, hncI]; intro h; omega)) ?_
  simp only [Act.put, List.setIfInBounds_toArray, List.set_cons_succ, List.set_cons_zero]
  refine WG.put rfl (v := (.bool true)) (fun w => by first | rfl | (go_simp; done) | (simp [execOp, go_sem]; done) | (simp [execOp, go_sem, hnI, hncI]; done) | (simp [execOp, go_sem, hwn]; done) | (simp [execOp, go_sem, hnI, hncI]; intro h; omega)) ?_
  simp only [Act.put, List.setIfInBounds_toArray, List.set_cons_succ, List.set_cons_zero]
  refine WG.put rfl (v := (.slice (some ⟨g, 0, none⟩) n cg)) (fun w => by first | rfl | (go_simp; done) | (simp [execOp, go_sem]; done) | (simp [execOp, go_sem, hnI, hncI]; done) | (simp [execOp, go_sem, hwn]; done) | (simp [execOp, go_sem, hnI, hncI]; intro h; omega)) ?_
  simp only [Act.put, List.setIfInBounds_toArray, List.set_cons_succ, List.set_cons_zero]
  refine WG.put rfl (v := (.slice al n cl)) (fun w => by first | rfl | (go_simp; done) | (simp [execOp, go_sem]; done) | (simp [execOp, go_sem, hnI, hncI]; done) | (simp [execOp, go_sem, hwn]; done) | (simp [execOp, go_sem, hnI, hncI]; intro h; omega)) ?_
  simp only [Act.put, List.setIfInBounds_toArray, List.set_cons_succ, List.set_cons_zero]
  refine WG.call rfl (fun w' hw' => cs.out w' (Below.then HB7.out hw')) (fun w => by first | rfl | (go_simp; done) | (simp [execOp, go_sem]; done) | (simp [execOp, go_sem, hnI, hncI]; done) | (simp [execOp, go_sem, hwn]; done) | (simp [execOp, go_sem, hnI, hncI]; intro h; omega)) ?_
  simp only [Act.put, List.setIfInBounds_toArray, List.set_cons_succ, List.set_cons_zero]
  refine WG.put rfl (v := (.bool true)) (fun w => by first | rfl | (go_simp; done) | (simp [execOp, go_sem]; done) | (simp [execOp, go_sem, hnI, hncI]; done) | (simp [execOp, go_sem, hwn]; done) | (simp [execOp, go_sem, hnI, hncI]; intro h; omega)) ?_
  simp only [Act.put, List.setIfInBounds_toArray, List.set_cons_succ, List.set_cons_zero]
  refine WG.put rfl (v := (.bool true)) (fun w => by first | rfl | (go_simp; done) | (simp [execOp, go_sem]; done) | (simp [execOp, go_sem, hnI, hncI]; done) | (simp [execOp, go_sem, hwn]; done) | (simp [execOp, go_sem, hnI, hncI]; intro h; omega)) ?_
  simp only [Act.put, List.setIfInBounds_toArray, List.set_cons_succ, List.set_cons_zero]
  refine WG.put rfl (v := (.slice (some ⟨g, 0, none⟩) n cg)) (fun w => by first | rfl | (go_simp; done) | (simp [execOp, go_sem]; done) | (simp [execOp, go_sem, hnI, hncI]; done) | (simp [execOp, go_sem, hwn]; done) | (simp [execOp, go_sem, hnI, hncI]; intro h; omega)) ?_
  simp only [Act.put, List.setIfInBounds_toArray, List.set_cons_succ, List.set_cons_zero]
  refine WG.put rfl (v := (.slice al n cl)) (fun w => by first | rfl | (go_simp; done) | (simp [execOp, go_sem]; done) | (simp [execOp, go_sem, hnI, hncI]; done) | (simp [execOp, go_sem, hwn]; done) | (simp [execOp, go_sem, hnI, hncI]; intro h; omega)) ?_
  simp only [Act.put, List.setIfInBounds_toArray, List.set_cons_succ, List.set_cons_zero]
  refine WG.put rfl (v := (.int .i64 (n : Int))) (fun w => by first | rfl | (go_simp; done) | (simp [execOp, go_sem]; done) | (simp [execOp, go_sem, hnI, hncI]; done) | (simp [execOp, go_sem, hwn]; done) | (simp [execOp, go_sem, hnI, hncI]; intro h; omega)) ?_
  simp only [Act.put, List.setIfInBounds_toArray, List.set_cons_succ, List.set_cons_zero]
  refine WG.put rfl (v := (.int .i64 ((n : Int) + 1))) (fun w => by first | rfl | (go_simp; done) | (simp [execOp, go_sem]; done) | (simp [execOp, go_sem, hnI, hncI]; done) | (simp [execOp, go_sem, hwn]; done) | (simp [execOp, go_sem, hnI, hncI]; intro h; omega)) ?_
  simp only [Act.put, List.setIfInBounds_toArray, List.set_cons_succ, List.set_cons_zero]
  refine WG.put rfl (v := (.slice (some ⟨g, 0, none⟩) (n + 1) cg)) (fun w => by first | rfl | (go_simp; done) | (simp [execOp, go_sem]; done) | (simp [execOp, go_sem, hnI, hncI]; done) | (simp [execOp, go_sem, hwn]; done) | (simp [execOp, go_sem, hnI, hncI]; intro h; omega)) ?_
  simp only [Act.put, List.setIfInBounds_toArray, List.set_cons_succ, List.set_cons_zero]
  refine WG.put rfl (v := (.slice al n cl)) (fun w => by first | rfl | (go_simp; done) | (simp [execOp, go_sem]; done) | (simp [execOp, go_sem, hnI, hncI]; done) | (simp [execOp, go_sem, hwn]; done) | (simp [execOp, go_sem, hnI, hncI]; intro h; omega)) ?_
  simp only [Act.put, List.setIfInBounds_toArray, List.set_cons_succ, List.set_cons_zero]
  refine WG.put rfl (v := (.int .i64 (n : Int))) (fun w => by first | rfl | (go_simp; done) | (simp [execOp, go_sem]; done) | (simp [execOp, go_sem, hnI, hncI]; done) | (simp [execOp, go_sem, hwn]; done) | (simp [execOp, go_sem, hnI, hncI]; intro h; omega)) ?_
  simp only [Act.put, List.setIfInBounds_toArray, List.set_cons_succ, List.set_cons_zero]
  refine WG.put rfl (v := (.pointer (some ⟨g, n * 5, none⟩))) (fun w => by first | rfl | (go_simp; done) | (simp [execOp, go_sem]; done) | (simp [execOp, go_sem, hnI, hncI]; done) | (simp [execOp, go_sem, hwn]; done) | (simp [execOp, go_sem, hnI, hncI]; intro h; omega)) ?_
  simp only [Act.put, List.setIfInBounds_toArray, List.set_cons_succ, List.set_cons_zero]
  refine WG.put rfl (v := (.pointer (some ⟨g, n * 5, none⟩))) (fun w => by first | rfl | (go_simp; done) | (simp [execOp, go_sem]; done) | (simp [execOp, go_sem, hnI, hncI]; done) | (simp [execOp, go_sem, hwn]; done) | (simp [execOp, go_sem, hnI, hncI]; intro h; omega)) ?_
  simp only [Act.put, List.setIfInBounds_toArray, List.set_cons_succ, List.set_cons_zero]
  refine WG.cell rfl 3 _ rfl rfl HC9.out (fun w h => by go_simp) ?_
  simp only [Act.put, List.setIfInBounds_toArray, List.set_cons_succ, List.set_cons_zero]
  refine WG.put rfl (v := (.bool true)) (fun w => by first | rfl | (go_simp; done) | (simp [execOp, go_sem]; done) | (simp [execOp, go_sem, hnI, hncI]; done) | (simp [execOp, go_sem, hwn]; done) | (simp [execOp, go_sem, hnI, hncI]; intro h; omega)) ?_
  simp only [Act.put, List.setIfInBounds_toArray, List.set_cons_succ, List.set_cons_zero]
  refine WG.put rfl (v := (.bool true)) (fun w => by first | rfl | (go_simp; done) | (simp [execOp, go_sem]; done) | (simp [execOp, go_sem, hnI, hncI]; done) | (simp [execOp, go_sem, hwn]; done) | (simp [execOp, go_sem, hnI, hncI]; intro h; omega)) ?_
  simp only [Act.put, List.setIfInBounds_toArray, List.set_cons_succ, List.set_cons_zero]
  refine WG.put rfl (v := (.bool true)) (fun w => by first | rfl | (go_simp; done) | (simp [execOp, go_sem]; done) | (simp [execOp, go_sem, hnI, hncI]; done) | (simp [execOp, go_sem, hwn]; done) | (simp [execOp, go_sem, hnI, hncI]; intro h; omega)) ?_
  simp only [Act.put, List.setIfInBounds_toArray, List.set_cons_succ, List.set_cons_zero]
  refine WG.nil (fun W8 hw8 => ?_)
  have HB8 : Hid (Below W4.heap.size W4 W8) := Below.then HB7.out hw8
  clear hw8
  go_wp2
  go_ret
  exact ⟨rfl, Below.then HBX.out HB8.out⟩
end Go.Proofs.YtdneaaegllpnlaaDoor

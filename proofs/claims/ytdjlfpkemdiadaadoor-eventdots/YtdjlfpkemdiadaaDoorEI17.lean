/- Co of event: a loop over slices.Backward in each round of a plain loop. -/
import Derived.Test.YtdjlfpkemdiadaaDoorEH17
namespace Go.Proofs.YtdjlfpkemdiadaaDoor
open Go.RowKit Go.Shelf M
attribute [local go_sem] Oper.semAt_some
set_option linter.unusedSimpArgs false
set_option linter.unusedVariables false

section
variable {F : Fence} {N : Nat} {ops : Array Oper} {rest : List Oper} {op : Oper} {a : Act} {w : World} {Q : Exit → Act → World → Prop}
theorem wpListIn_boxS (hgd : op.guard = none) (ty : TypeId) (x : Operand) (ho : op.op = .box ty x) (cs : List Value) (hx : a.eval x = .agg cs.toArray)
    (h : ∀ W b, Fresh w W b → IsS W b ty cs → wpListIn F N Tryd.prog ops Q rest (a.put op.dst (.pointer (some ⟨b, 0, none⟩))) W) : wpListIn F N Tryd.prog ops Q (op :: rest) a w := by
  refine plainIn hgd (by rw [ho]; intro c e; cases e) (by rw [ho]; intro c e; cases e) ?_ (h _ _ (Fresh.alloc w (.cells cs.toArray ty)) (IsS.new w ty cs))
  unfold execOp
  have hb : (Instr.box ty (.agg cs.toArray)).run Tryd.prog w = .ok (.pointer (some ⟨w.heap.size, 0, none⟩)) (w.alloc (.cells cs.toArray ty)) := by
    simp [go_sem, Value.cells]
  simp only [ho, hx, Sem.run_bind, hb, Result.andThen_ok, Sem.run_pure]
end
theorem isS_drew {w : World} {b t : Nat} {cs : List Value} (h : IsS w b t cs) : IsS w.drew b t cs := h
theorem leaves_marksR {fn : Func} {p : Tmp} (hres : fn.results = #[.cell p 43]) (tmps : Array Value) {b : Nat} {n : Int} {f : Nat → Nat} (hp : tmps.getD p undef = .pointer (some ⟨b, 0, none⟩)) {R : Ending → World → Prop} {G : World → Prop} {B m : Nat} (hG : ∀ W, G W → R (.returned (relv n f)) W) (hI : ∀ W, G W → IsR W b n f) (hput : ∀ W D o, G W → B ≤ D → W.heap[D]? = some (.deferred (some o)) → G (W.putObj D (.deferred none))) :
    ∀ (ds : List Nat) (W : World), G W → (∀ D ∈ ds, B ≤ D ∧ W.heap[D]? = some (.deferred (some []))) → ds.Nodup → LeavesInM Fence.wide m Tryd.prog fn tmps R (ds.map mark) .returning W
  | [], W, h, _, _ => ⟨_, results_cell_row hres tmps W b 43 (cellsR n f) (0, 0) _ hp (hI W h) Tryd.underlying43 rfl (by rw [cellsR_size]; exact info25), hG W h⟩
  | D :: ds, W, h, hd, hn => by
    have h1 := hd D (by simp)
    have hnd := List.nodup_cons.1 hn
    refine ⟨by simp, .inl ⟨D, _, rfl, run_takeDeferred h1.2, ?_⟩⟩
    refine leaves_marksR hres tmps hp hG hI hput ds _ (hput W D _ h h1.1 h1.2) (fun E hE => ?_) hnd.2
    have h2 := hd E (by simp [hE])
    exact ⟨h2.1, (World.putObj_heap_other (fun e => hnd.1 (by rw [← e]; exact hE))).trans h2.2⟩

set_option maxRecDepth 100000 in
set_option maxHeartbeats 8000000 in
theorem co_any (cs : List Value) (ae ao : Option Addr) (ne ce no co : Nat) (od : List (List Int)) (w : World) (h0 : cs[0]? = some (.slice ae ne ce)) (h3 : cs[3]? = some (.slice ao no co))
    (hne : ne ≤ 9223372036854775807) (hno : od.length = no) (hfl : no ≤ 9223372036854775807) (hfi : ∀ l ∈ od, l.length ≤ 9223372036854775807) (hS : RowsV w (.slice ao no co) intE od) :
    Calls Tryd.prog 16 #[.agg cs.toArray] w fun e w' => e = .returned (relv (shN ne) (odF (shN ne) od void)) ∧ Below w.heap.size w w' := by
  have ho := fun W => over_any ae ne ce W hne
  have hN64 := shN_le ne
  generalize shN ne = N at *
  have HS : Hid (RowsV w (.slice ao no co) intE od) := hS
  have HF : Hid (od.length = no) := hno
  have HI : Hid (∀ l ∈ od, l.length ≤ 9223372036854775807) := hfi
  have H3 : Hid (cs[3]? = some (.slice ao no co)) := h3
  clear hS hno h3 hfi
  have t1 : True := trivial
  have hf1 : Fence.wide.fn 35 := trivial
  have hf2 : Fence.wide.fn 36 := trivial
  have hf3 : Fence.wide.fn 37 := trivial
  have hf4 : Fence.wide.fn 72 := trivial
  refine (callsIn_wide (n := 8)).1 ?_
  refine callsIn_of_wp_marks Tryd.func16 rfl trivial ?_ rfl
  simp only [Tryd.ntmps16, List.size_toArray, List.length_cons, List.length_nil, Nat.reduceAdd, Nat.reduceSub, Array.replicate_succ, Array.replicate_zero, List.push_toArray, List.append_toArray, List.nil_append, List.cons_append]
  gi_wp2_with (first
    | (refine wpListIn_boxS rfl 51 _ rfl cs rfl ?_; intro W1 b1 F1 C1; have B1 := F_b F1; have hb1 : w.heap.size ≤ b1 := Nat.le_of_eq F1.at'.symm; clear F1)
    | (clear t1; refine wpListIn_allocR rfl rfl ?_; intro W2 b2 F2 r2; replace B1 := Below.then B1 (F_b F2); have hb2 : b1 < b2 := (by rw [F2.at']; exact C1.lt); replace C1 := C1.fresh F2; have y0 := (C1.cell 0).trans h0; clear F2)
    | (gi_at_call 35; refine (callsIn_wide.2 (ho _)).mono ?_; rintro e W3 ⟨rfl, hw3⟩; replace B1 := Below.then B1 hw3; have hl2 := r2.lt; have hz3 := hw3.size; replace r2 := r2.grown hw3; replace C1 := C1.grown hw3; clear y0 hw3)
    | (refine wpListIn_allocR rfl rfl ?_; intro W4 b3 F4 r3; replace B1 := Below.then B1 (F_b F4); have hb3 : b2 < b3 := (by rw [F4.at']; omega); replace r2 := r2.fresh F4; replace C1 := C1.fresh F4; clear F4)
    | (refine wpListIn_storeR rfl _ _ rfl rfl rfl r3 ?_; intro W5 U5 q3; replace B1 := U5.trans B1 (by omega); replace r2 := r2.upd U5 (by omega); replace C1 := C1.upd U5 (by omega); clear U5 r3; have y3 := (C1.cell 3).trans H3.out))
  clear ho h0 hl2 hz3 y3
  have hBS := B1.size
  have hl3 := q3.lt
  obtain ⟨B0, hB0⟩ : ∃ B0, B0 = W5.heap.size := ⟨_, rfl⟩
  have hb30 : b3 < B0 := by omega
  have hw0 : w.heap.size ≤ B0 := by omega
  refine wpIn_loop (fun a V => ∃ (k : Nat) (ds : List Nat) (u4 u5 u6 u7 u8 u16 u17 u18 u19 u20 u21 u22 u23 u24 u25 u26 u27 u28 u29 u30 u31 u32 u33 u34 u35 u36 u37 u38 u39 u40 : Value), k ≤ no ∧ a = { tmps := #[.agg cs.toArray, .pointer (some ⟨b1, 0, none⟩), .pointer (some ⟨b2, 0, none⟩), .pointer (some ⟨b3, 0, none⟩), u4, u5, u6, u7, u8, .pointer (some ⟨b1, 0, none⟩), .slice ae ne ce, relv N void, .pointer (some ⟨b1, 3, none⟩), .slice ao no co, .int .i64 (no : Nat), .int .i64 (k : Nat), u16, u17, u18, u19, u20, u21, u22, u23, u24, u25, u26, u27, u28, u29, u30, u31, u32, u33, u34, u35, u36, u37, u38, u39, u40], defers := ds.map mark } ∧ IsR V b3 N (odF N (od.take k) void) ∧ IsR V b2 0 void ∧ IsS V b1 51 cs ∧ Hid (Below w.heap.size w V) ∧ Marks B0 ds V ∧ ds.Nodup ∧ B0 ≤ V.heap.size)
    (fun a _ => no - (intOf (a.tmps.getD 15 undef)).toNat) ?start ?round
  case start => exact ⟨0, [], _, _, _, _, _, _, _, _, _, _, _, _, _, _, _, _, _, _, _, _, _, _, _, _, _, _, _, _, _, _, by omega, rfl, q3, r2, C1, B1, fun _ h => (by simp at h), List.nodup_nil, by omega⟩
  case round =>
    clear r2 q3 B1 C1 hBS hl3 hB0
    rintro a V ⟨k, ds, u4, u5, u6, u7, u8, u16, u17, u18, u19, u20, u21, u22, u23, u24, u25, u26, u27, u28, u29, u30, u31, u32, u33, u34, u35, u36, u37, u38, u39, u40, hk, rfl, q3, q2, C1, BB, hds, hnd, hle⟩
    by_cases hlt : k < no
    · have hki : (k : Int) < (no : Int) := by omega
      obtain ⟨l, hx⟩ : ∃ l, od[k]? = some l := ⟨_, List.getElem?_eq_getElem (by rw [HF.out]; omega)⟩
      have hll := HI.out l (List.mem_of_getElem? hx)
      obtain ⟨ba, oa, al, cl, ea, hba, ca0, hsl, _⟩ := HS.out.at k l hx
      have HX : Hid (odF N (od.take (k + 1)) void = (coB N (odF N (od.take k) void) l).1) := by
        show _ = _
        rw [take_at hx, odF_snoc]
      have HW : Hid (Wf (odF N (od.take k) void)) := odF_wf N hN64 _ _ (fun i => by simp [void])
      subst ea
      generalize odF N (od.take k) void = G at *
      have ca := (BB.out.cell (p := ⟨ba, oa + k, none⟩) hba).trans ca0
      obtain ⟨n, hn⟩ : ∃ n, l.length = n := ⟨_, rfl⟩
      rw [hn] at ca
      have HN : Hid (l.length = n) := hn
      have hll' : n ≤ 9223372036854775807 := by omega
      clear hn hx ca0
      gi_wp2_with (first
        | (gi_at_call 37; refine (callsIn_wide.2 (backward_any _ _ _ _)).mono ?_; rintro e w' ⟨rfl, rfl⟩))
      have hVs : ((V.alloc (.cells #[.int .u64 0] 29)).alloc (.cells #[.slice al n cl] 48)).heap.size = V.heap.size + 2 := by simp
      have bH := (Boxed.new V 29 (.int .u64 0)).alloc (.cells #[.slice al n cl] 48)
      have bE := Boxed.new (V.alloc (.cells #[.int .u64 0] 29)) 48 (.slice al n cl)
      rw [World.size_alloc] at bE
      have BV : Below V.heap.size V ((V.alloc (.cells #[.int .u64 0] 29)).alloc (.cells #[.slice al n cl] 48)) := ((Below.refl _ V).alloc (Nat.le_refl _) _).alloc (by simp) _
      have hd4 : Marks B0 ds ((V.alloc (.cells #[.int .u64 0] 29)).alloc (.cells #[.slice al n cl] 48)) := hds.same fun D hD => BV.block D (hds.lt D hD)
      have hdl : ∀ D ∈ ds, D < V.heap.size + 2 := fun D hD => by have := hds.lt D hD; omega
      have hdl2 : ∀ D ∈ ds, D < V.heap.size := hds.lt
      have q34 := q3.grown BV
      have q24 := q2.grown BV
      have C14 := C1.grown BV
      have BB4 := BB.out.trans (BV.mono BB.out.size)
      have hsl4 := hsl.below BB4
      have hbw := BB.out.size
      clear q3 q2 C1 BB BV hds ca
      generalize (V.alloc (.cells #[.int .u64 0] 29)).alloc (.cells #[.slice al n cl] 48) = V4 at *
      rw [← HN.out] at bE
      have hb1V : b1 < V.heap.size := by omega
      refine wpIn_rangeFunc_ownG rfl (by omega) (gf := 72) (lb := #[.pointer (some ⟨V.heap.size + 1, 0, none⟩)]) rfl trivial (enters_of Tryd.func72 (by kernel_rfl) rfl)
        (back_stops (8 - 1) (by omega) (V.heap.size + 1) al cl l hll (bsOf (V.heap.size + 1) al l) (by simp [bsOf]) (bsOf_all _ _ _) V4 bE hsl4) Same.trans (Same.putObj (fun b hb => by rcases bsOf_in hsl4 b hb with h | h <;> omega)) (Below.refl _ _) (fun _ => rfl)
        (fun pre W => (IsR W b3 N (stB N G l pre).1 ∧ Boxed W V.heap.size 29 (.int .u64 ((stB N G l pre).2 : Nat)) ∧ IsR W b2 0 void ∧ IsS W b1 51 cs) ∧ Marks B0 ds W ∧ Below w.heap.size w W ∧ V.heap.size + 2 ≤ W.heap.size)
        (fun _ _ _ => False)
        ?ownI (fun _ _ _ _ _ hs _ _ => hs) ?start2
        (fun x => { tmps := #[.agg cs.toArray, .pointer (some ⟨b1, 0, none⟩), .pointer (some ⟨b2, 0, none⟩), .pointer (some ⟨b3, 0, none⟩), u4, .slice al n cl, .pointer (some ⟨V.heap.size, 0, none⟩), u7, .int .i64 (l.getD x.val 0), .pointer (some ⟨b1, 0, none⟩), .slice ae ne ce, relv N void, .pointer (some ⟨b1, 3, none⟩), .slice (some ⟨ba, oa, none⟩) no co, .int .i64 (no : Nat), .int .i64 (k : Nat), .bool true, .pointer (some ⟨ba, oa + k, none⟩), .slice al n cl, .slice al n cl, .func (.func 72) #[] #[.pointer (some ⟨V.heap.size + 1, 0, none⟩)], .int .i64 (x.val : Nat), .int .i64 (l.getD x.val 0), u23, u24, u25, u26, u27, u28, u29, u30, u31, u32, u33, u34, u35, u36, u37, u38, u39, u40], defers := [] }) ?assign ?body ?done ?stop
      case ownI =>
        exact OwnFrom.and (OwnFrom.and (Own.from (isR_own _ _ (fun pre => (stB N G l pre).1)) _) (OwnFrom.and (Own.from (boxed_own _ _ (fun pre => _)) _) (OwnFrom.and (Own.from (isR_own _ _ (fun _ => void)) _) (Own.from (isS_own _ _ _) _)))) (OwnFrom.and (marks_own (fun D hD => by have := hdl D hD; omega)) (OwnFrom.and (ownFrom_below (Nat.le_refl _) (by omega)) (fun s X Y row hs hg hr => Nat.le_trans hs hg.size)))
      case start2 => exact ⟨⟨q34, bH, q24, C14⟩, hd4, BB4, by omega⟩
      case assign =>
        intro y x W K hK
        dsimp only [encB]
        generalize l.getD x.val 0 = z at *
        gi_wp2
        exact hK
      case stop =>
        rintro D c pre W _ _ h _
        exact h.elim
      case body =>
        rintro y pre x W ⟨⟨p3, pH, p2, pC⟩, pD, pB, pS⟩ hlt'
        obtain ⟨v, hv⟩ : ∃ v, l.getD x.val 0 = v := ⟨_, rfl⟩
        have HP : Hid (stB N G l (pre ++ [x]) = stepB N (stB N G l pre) v) := by show _ = _; rw [stB_snoc, hv]
        obtain ⟨hwf, hw2⟩ := stB_lt N hN64 G HW.out l pre
        rw [hv]
        clear hv
        obtain ⟨F', hF'⟩ : ∃ F', (stB N G l pre).1 = F' := ⟨_, rfl⟩
        obtain ⟨s, hs⟩ : ∃ s, (stB N G l pre).2 = s := ⟨_, rfl⟩
        have HE : Hid (stB N G l pre = (F', s)) := by show _ = _; rw [← hF', ← hs]
        rw [hF'] at p3 hwf
        rw [hs] at pH hw2
        have cn := p3.n
        have cH := pH.cell
        have fH := pH.frozen
        have hne3 : V.heap.size ≠ b3 := by omega
        by_cases hp : 0 ≤ v ∧ v < N
        · obtain ⟨X, rfl⟩ : ∃ X : Nat, v = (X : Int) := ⟨v.toNat, by omega⟩
          have hpl := fun W => place_yes (X : Int) N hp W
          have hX64 : (X : Int) < 64 := by omega
          have hX64n : X < 64 := by omega
          have hrow := p3.row X hX64n
          have hfz := p3.frozen (1 + X)
          have hor := u64_or_nat (F' X) s (hwf X) hw2
          have hw := wrap_pow X hX64n
          have hor2 := or_pow s X hw2 hX64n
          have HP2 : Hid (stB N G l (pre ++ [x]) = (fun a => if a = X then F' a ||| s else F' a, s ||| 2 ^ X)) := by
            show _ = _
            rw [HP.out, HE.out]
            show (if _ then _ else _) = _
            rw [if_pos hp]; rfl
          obtain ⟨z, hz⟩ : ∃ z, F' X ||| s = z := ⟨_, rfl⟩
          obtain ⟨z2, hz2⟩ : ∃ z2, s ||| 2 ^ X = z2 := ⟨_, rfl⟩
          have U1 := Upd.setCell W b3 (1 + X) (.int .u64 ((z : Nat) : Int))
          have pH1 := boxed_upd pH U1 hne3
          have cH1 := pH1.cell
          have fH1 := pH1.frozen
          have U2 := Upd.setCell (W.setCell ⟨b3, 1 + X, none⟩ (.int .u64 ((z : Nat) : Int))).drew V.heap.size 0 (.int .u64 ((z2 : Nat) : Int))
          have p31 := (p3.set X z hX64n).congr (g := fun a => if a = X then F' a ||| s else F' a) (fun j _ => by
            unfold upd
            by_cases e : j = X
            · subst e; rw [if_pos rfl, if_pos rfl, hz]
            · rw [if_neg e, if_neg e])
          have HF2 : ∀ act : Act, ownPostG V4.heap.size (Same (bsOf (V.heap.size + 1) al l)) (fun pre W => (IsR W b3 N (stB N G l pre).1 ∧ Boxed W V.heap.size 29 (.int .u64 ((stB N G l pre).2 : Nat)) ∧ IsR W b2 0 void ∧ IsS W b1 51 cs) ∧ Marks B0 ds W ∧ Below w.heap.size w W ∧ V.heap.size + 2 ≤ W.heap.size) (fun _ _ _ => False) (pre ++ [x]) W .normal act ((W.setCell ⟨b3, 1 + X, none⟩ (.int .u64 ((z : Nat) : Int))).drew.setCell ⟨V.heap.size, 0, none⟩ (.int .u64 ((z2 : Nat) : Int))).drew := fun act =>
            ⟨((KeepsOthers.setCell _ _ _).trans ((KeepsOthers.drew _).trans ((KeepsOthers.setCell _ _ _).trans (KeepsOthers.drew _)))).from _, fun b hb => by
                have n3 : b ≠ b3 := fun e => by rcases bsOf_in hsl b hb with h | h <;> omega
                have nH : b ≠ V.heap.size := fun e => by rcases bsOf_in hsl b hb with h | h <;> omega
                exact (U2.block b nH).trans (U1.block b n3),
              ⟨by rw [HP2.out]; exact (p31.drew.upd U2 (by omega)).drew, by rw [HP2.out]; show Boxed _ _ _ (.int .u64 ((s ||| 2 ^ X : Nat) : Int)); rw [hz2]; exact boxed_drew (Boxed.set _ (boxed_drew pH1)), ((p2.upd U1 (by omega)).drew.upd U2 (by omega)).drew, isS_drew ((isS_drew (pC.upd U1 (by omega))).upd U2 (by omega))⟩,
              pD.same (fun D hD => by
                have hDl := hdl2 D hD
                have hDB := (pD D hD).1
                exact (U2.block D (by omega)).trans (U1.block D (by omega))),
              (U2.trans ((U1.trans pB (by omega)).drew) (by omega)).drew, Nat.le_trans pS (Nat.le_of_eq (U2.size.trans U1.size).symm)⟩
          refine wpIn_mono (Q := fun e _ w' => e = Exit.normal ∧ w' = ((W.setCell ⟨b3, 1 + X, none⟩ (.int .u64 ((z : Nat) : Int))).drew.setCell ⟨V.heap.size, 0, none⟩ (.int .u64 ((z2 : Nat) : Int))).drew) ?_ (fun e a' w' h => by obtain ⟨rfl, rfl⟩ := h; exact HF2 a')
          rw [hz] at hor
          rw [hz2] at hor2
          clear HF2 U1 U2 pH1 p31 p3 pH p2 pC pD pB pS HP HP2 HE hwf hF' hs hz hz2 hp q34 q24 C14 bH bE hd4 BB4 hsl4 hsl HX HW HS H3 HI HN HF hdl hdl2 hlt'
          generalize F' X = z0 at *
          gi_wp2_with (first
            | (gi_at_call 36; refine (callsIn_wide.2 (hpl _)).mono ?_; rintro e w' ⟨rfl, hw'⟩; replace hw' := hw'.symm; subst hw'))
          refine still_tail_round 8 (by kernel_rfl) (by kernel_rfl) (by kernel_rfl) ?_
          simp only [List.take_succ_cons, List.take_zero, List.drop_succ_cons, List.drop_zero]
          repeat still_step
          refine wpStill_nil ?_
          gi_wp2_with fail
          have cH2 : (W.setCell ⟨b3, 1 + X, none⟩ (.int .u64 ((z : Nat) : Int))).drew.cell? ⟨V.heap.size, 0, none⟩ = some (.int .u64 (s : Int)) := cH1
          have fH2 : (W.setCell ⟨b3, 1 + X, none⟩ (.int .u64 ((z : Nat) : Int))).drew.frozen? ⟨V.heap.size, 0, none⟩ = false := fH1
          clear cH1 fH1 cH fH cn hrow hfz
          obtain ⟨W9, hW9⟩ : ∃ W9, (W.setCell ⟨b3, 1 + X, none⟩ (.int .u64 ((z : Nat) : Int))).drew = W9 := ⟨_, rfl⟩
          have HW9 : Hid ((W.setCell ⟨b3, 1 + X, none⟩ (.int .u64 ((z : Nat) : Int))).drew = W9) := hW9
          rw [hW9] at cH2 fH2 ⊢
          clear hW9
          refine still_tail_round 4 (by kernel_rfl) (by kernel_rfl) (by kernel_rfl) ?_
          simp only [List.take_succ_cons, List.take_zero, List.drop_succ_cons, List.drop_zero]
          repeat still_step
          refine wpStill_nil ?_
          gi_wp2_with fail
          all_goals first | exact ⟨rfl, rfl⟩ | (rw [← HW9.out]; rfl)
        · have hpl := fun W => place_no v N hp W
          have HP2 : Hid (stB N G l (pre ++ [x]) = (F', s)) := by
            show _ = _
            rw [HP.out, HE.out]
            exact if_neg hp
          have HF2 : ∀ act : Act, ownPostG V4.heap.size (Same (bsOf (V.heap.size + 1) al l)) (fun pre W => (IsR W b3 N (stB N G l pre).1 ∧ Boxed W V.heap.size 29 (.int .u64 ((stB N G l pre).2 : Nat)) ∧ IsR W b2 0 void ∧ IsS W b1 51 cs) ∧ Marks B0 ds W ∧ Below w.heap.size w W ∧ V.heap.size + 2 ≤ W.heap.size) (fun _ _ _ => False) (pre ++ [x]) W .normal act W := fun act =>
            ⟨(KeepsOthers.refl _).from _, Same.refl _ _, ⟨by rw [HP2.out]; exact p3, by rw [HP2.out]; exact pH, p2, pC⟩, pD, pB, pS⟩
          refine wpIn_mono (Q := fun e _ w' => e = Exit.normal ∧ w' = W) ?_ (fun e a' w' h => by obtain ⟨rfl, rfl⟩ := h; exact HF2 a')
          clear HF2 p3 pH p2 pC pD pB pS HP HP2 HE hwf hF' hs hp q34 q24 C14 bH bE hd4 BB4 hsl4 hsl HX HW HS H3 HI HN HF hdl hdl2 hlt'
          gi_wp2_with (first
            | (gi_at_call 36; refine (callsIn_wide.2 (hpl _)).mono ?_; rintro e w' ⟨rfl, hw'⟩; replace hw' := hw'.symm; subst hw'))
          all_goals first | exact ⟨rfl, rfl⟩ | rfl
      case done =>
        rintro D ys W hD rfl ⟨⟨p3, pH, p2, pC⟩, pD, pB, pS⟩ hK
        rw [stB_end] at p3
        have p3' : IsR W b3 N (odF N (od.take (k + 1)) void) := by rw [HX.out]; exact p3
        have hnd' : (D :: ds).Nodup := List.nodup_cons.2 ⟨fun hm => by have := hdl D hm; omega, hnd⟩
        have hm' : Marks B0 (D :: ds) W := fun E hE => by
          rcases List.mem_cons.1 hE with rfl | hE
          · exact ⟨by omega, hK⟩
          · exact pD E hE
        have hdd : { target := Target.collected D, args := #[] } :: ds.map mark = (D :: ds).map mark := rfl
        rw [hdd]
        have HH : Hid (IsR W b3 N (odF N (od.take (k + 1)) void) ∧ IsR W b2 0 void ∧ IsS W b1 51 cs ∧ Below w.heap.size w W ∧ Marks B0 (D :: ds) W ∧ (D :: ds).Nodup ∧ B0 ≤ W.heap.size) := ⟨p3', p2, pC, pB, hm', hnd', by omega⟩
        clear p3 p3' pH p2 pC pD pB pS hnd' hm' hdd hK hdl hdl2 hd4 q34 q24 C14 BB4 bH bE hsl4 hsl hnd HX HW
        gi_wp2
        obtain ⟨e1, e2, e3, e4, e5, e6, e7⟩ := HH.out
        refine ⟨⟨k + 1, D :: ds, _, _, _, _, _, _, _, _, _, _, _, _, _, _, _, _, _, _, _, _, _, _, _, _, _, _, _, _, _, _, by omega, rfl, e1, e2, e3, e4, e5, e6, e7⟩, ?_⟩
        simp [intOf]
        omega
    · obtain rfl : k = no := by omega
      rw [List.take_of_length_le (Nat.le_of_eq HF.out)] at q3
      clear hlt hk
      gi_wp2_with (first
        | (refine wpListIn_loadR rfl _ rfl rfl q3 ?_)
        | (refine wpListIn_storeR rfl _ _ rfl rfl rfl q2 ?_; intro W9 U9 r9))
      exact leaves_marksR rfl _ rfl (G := fun V' => IsR V' b2 N (odF N od void) ∧ Below w.heap.size w V') (B := B0) (fun W' h => ⟨rfl, h.2⟩) (fun W' h => h.1) (fun W' D o h hD hd => ⟨(World.putObj_heap_other (by omega)).trans h.1, h.2.trans (belowK_b (w := w) (Nat.le_refl _) W' D _ _ (by omega) hd rfl rfl)⟩) ds W9 ⟨r9, U9.trans BB.out (by omega)⟩ (hds.same fun D hD => U9.block D (by have := (hds D hD).1; omega)) hnd
end Go.Proofs.YtdjlfpkemdiadaaDoor

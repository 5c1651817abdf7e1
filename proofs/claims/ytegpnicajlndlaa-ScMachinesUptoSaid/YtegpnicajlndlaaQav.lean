/- CS0, CS1, CS2a -/
import Derived.Test.YtegpnicajlndlaaPT
import Derived.Test.YtegpnicajlndlaaSC7
import Derived.Test.YtegpnicajlndlaaQau
namespace Go.Proofs.Ytegpnicajlndlaa
open Go.RowKit M
set_option linter.unusedSimpArgs false
set_option linter.unusedVariables false
structure STV (w : World) (s : ST) (vpc vph vrg vmm vbf : Value) : Prop where
 pc : RowV w vpc s.pc.length (s.pc.flatMap intE)
 ph : RowV w vph s.ph.length (s.ph.flatMap intE)
 rg : RowsV w vrg intE s.regs
 mm : RowV w vmm s.mem.length (s.mem.flatMap intE)
 bf : RowsV w vbf wrE s.buf
theorem STV.below {w W : World} {s : ST} {vpc vph vrg vmm vbf : Value} (h : STV w s vpc vph vrg vmm vbf) (hB : Below w.heap.size w W) : STV W s vpc vph vrg vmm vbf :=
 ⟨h.pc.below hB, h.ph.below hB, h.rg.below hB, h.mm.below hB, h.bf.below hB⟩
structure ST.Few (s : ST) : Prop where
 pc : s.pc.length ≤ 1048576
 ph : s.ph.length ≤ 1048576
 rg : s.regs.length ≤ 1048576
 rr : s.regs.flatten.length ≤ 1048576
 mm : s.mem.length ≤ 1048576
 bf : s.buf.length ≤ 1048576
 bb : s.buf.flatten.length ≤ 1048576
def bufB (nl : Nat) (b : List (Int × Int)) : Bool := b.all (fun w => decide (0 ≤ w.1 ∧ w.1 ≤ (nl : Int) - 1)) && decide (b.length ≤ 64)
theorem bufB_iff (nl : Nat) (b : List (Int × Int)) : bufB nl b = true ↔ bufOk nl b := by
 unfold bufB bufOk
 simp only [Bool.and_eq_true, List.all_eq_true, decide_eq_true_eq]
 constructor
 · rintro ⟨h1, h2⟩; exact ⟨h2, fun w hw => ⟨(h1 w hw).1, by have := (h1 w hw).2; omega⟩⟩
 · rintro ⟨h1, h2⟩; exact ⟨fun w hw => ⟨(h2 w hw).1, by have := (h2 w hw).2; omega⟩, h1⟩
def lensB (z : Shp) (s : ST) : Bool := decide (s.pc.length = z.ins.length) && (decide (s.ph.length = z.ins.length) && (decide (s.regs.length = z.ins.length) && (decide (s.buf.length = z.ins.length) && decide (s.mem.length = z.locs))))
def thB (z : Shp) (s : ST) (i : Nat) : Bool := decide ((s.regs.getD i []).length = z.rgs.getD i 0) && (decide (0 ≤ s.pc.getD i 0 ∧ s.pc.getD i 0 ≤ (z.ins.getD i 0 : Nat)) && (decide (0 ≤ s.ph.getD i 0 ∧ s.ph.getD i 0 ≤ 2) && bufB z.locs (s.buf.getD i [])))
def fitsB (z : Shp) (s : ST) : Bool := lensB z s && ((List.range z.ins.length).all (thB z s) && decide (-1 ≤ s.lock ∧ s.lock ≤ (z.ins.length : Int) - 1))
theorem fitsB_iff (z : Shp) (s : ST) : fitsB z s = true ↔ Fits z s := by
 unfold fitsB lensB thB
 simp only [Bool.and_eq_true, List.all_eq_true, decide_eq_true_eq, List.mem_range, bufB_iff]
 constructor
 · rintro ⟨⟨h1, h2, h3, h4, h5⟩, h6, h7⟩
   exact ⟨h1, h2, h3, h4, h5, fun i hi => h6 i hi, h7⟩
 · rintro ⟨h1, h2, h3, h4, h5, h6, h7⟩
   exact ⟨⟨h1, h2, h3, h4, h5⟩, fun i hi => h6 i hi, h7⟩
theorem fits_len {z : Shp} {s : ST} (h : lensB z s = false) : fitsB z s = false := by unfold fitsB; rw [h]; rfl
theorem fits_th {z : Shp} {s : ST} {i : Nat} (hi : i < z.ins.length) (h : thB z s i = false) : fitsB z s = false := by
 unfold fitsB
 have : (List.range z.ins.length).all (thB z s) = false := by
  rw [List.all_eq_false]
  exact ⟨i, List.mem_range.2 hi, by rw [h]; simp⟩
 rw [this]; simp
theorem fits_end {z : Shp} {s : ST} (h : lensB z s = true) (ht : ∀ i, i < z.ins.length → thB z s i = true) : fitsB z s = decide (-1 ≤ s.lock ∧ s.lock ≤ (z.ins.length : Int) - 1) := by
 unfold fitsB
 have : (List.range z.ins.length).all (thB z s) = true := by
  rw [List.all_eq_true]
  exact fun i hi => ht i (List.mem_range.1 hi)
 rw [this, h]; simp
def natI (l : List Nat) : List Int := l.map Int.ofNat
theorem natI_get {l : List Nat} {i x : Nat} (h : l[i]? = some x) : (natI l)[i]? = some (x : Int) := by simp [natI, h]
section
variable {w : World} {ops : Array Oper} {rest : List Oper} {op : Oper} {a : Act} {Q : Exit → Act → World → Prop}
theorem wpList_loadX (hgd : op.guard = none) (ty : TypeId) (x : Operand) (ho : op.op = .load ty x) {b o : Nat} (hx : a.eval x = .pointer (some ⟨b, o, none⟩)) (sub : List Value) (hc : ∀ (i : Nat) u, sub[i]? = some u → w.cell? ⟨b, o + i, none⟩ = some u) (d : TypeDesc)
    (hu : Try.prog.underlying ty = some d) (hd : d.isRow = true) (hi : (Try.prog.info? ty).map (·.size) = some sub.length)
    (h : wpList Try.prog ops Q rest (a.put op.dst (.agg sub.toArray)) w) : wpList Try.prog ops Q (op :: rest) a w := by
 refine wpList_plain hgd fun K hK => ?_
 have hr := run_loadAt_mid (P := Try.prog) w b o ty sub d hc hu hd hi
 unfold Oper.wp execOp
 simp only [ho, hx, Sem.run_bind, hr, Result.andThen_ok, Sem.run_pure]
 exact hK _ _ h
end
theorem flat2 (l : List (Int × Int)) (j : Nat) (x : Int × Int) (h : l[j]? = some x) : ∀ (i : Nat) u, (wrE x)[i]? = some u → (l.flatMap wrE)[2 * j + i]? = some u := by
 induction l generalizing j with
 | nil => simp at h
 | cons y l ih =>
  intro i u hu
  have hi : i < 2 := (List.getElem?_eq_some_iff.1 hu).1
  cases j with
  | zero =>
   simp only [List.getElem?_cons_zero, Option.some.injEq] at h
   subst h
   rw [List.flatMap_cons, Nat.mul_zero, Nat.zero_add, List.getElem?_append_left (by simpa [wrE] using hi)]
   exact hu
  | succ j =>
   rw [List.getElem?_cons_succ] at h
   have := ih j h i u hu
   rw [List.flatMap_cons, List.getElem?_append_right (by simp [wrE]; omega)]
   rw [show 2 * (j + 1) + i - (wrE y).length = 2 * j + i by simp [wrE]; omega]
   exact this
theorem Seg.wr {w : World} {a : Option Addr} {l : List (Int × Int)} {j : Nat} {x : Int × Int} (h : Seg w a (l.flatMap wrE)) (hx : l[j]? = some x) : ∃ b o, a = some ⟨b, o, none⟩ ∧ b < w.heap.size ∧ ∀ (i : Nat) u, (wrE x)[i]? = some u → w.cell? ⟨b, o + j * 2 + i, none⟩ = some u := by
 obtain ⟨b, o, e, hb, _⟩ := h (2 * j + 0) _ (flat2 l j x hx 0 _ rfl)
 refine ⟨b, o, e, hb, fun i u hu => ?_⟩
 obtain ⟨b', o', e', _, hc⟩ := h (2 * j + i) u (flat2 l j x hx i u hu)
 rw [e] at e'
 cases e'
 rw [show o + j * 2 + i = o + (2 * j + i) by omega]
 exact hc
theorem infoWr : (Try.prog.info? 50).map (·.size) = some 2 := by kernel_rfl
theorem zeroWr (w : World) : (zeroValue 50).run Try.prog w = .ok (.agg #[.int .i64 0, .int .i64 0]) w := Try.zeroValue50 w
theorem infoShp : (Try.prog.info? 105).map (·.size) = some 3 := by kernel_rfl
theorem zeroShp (w : World) : (zeroValue 105).run Try.prog w = .ok (.agg #[.slice none 0 0, .slice none 0 0, .int .i64 0]) w := Try.zeroValue105 w
theorem two_cells {v0 v1 : Value} {W : World} {b t : Nat} (h : IsS W b t [v0, v1]) : W.cell? ⟨b, 0, none⟩ = some v0 ∧ W.cell? ⟨b, 1, none⟩ = some v1 := ⟨h.cell 0, h.cell 1⟩
theorem three_last {v0 v1 v2 : Value} {W : World} {b t : Nat} (h : IsS W b t [v0, v1, v2]) : W.cell? ⟨b, 2, none⟩ = some v2 := h.cell 2
theorem three_cells {v0 v1 v2 : Value} {W : World} {b t : Nat} (h : IsS W b t [v0, v1, v2]) : W.cell? ⟨b, 0, none⟩ = some v0 ∧ W.cell? ⟨b, 1, none⟩ = some v1 ∧ W.cell? ⟨b, 2, none⟩ = some v2 := ⟨h.cell 0, h.cell 1, h.cell 2⟩
theorem withinI_any (n lo hi : Int) (w : World) : Calls Try.prog 89 #[.int .i64 n, .int .i64 lo, .int .i64 hi] w fun e w' => e = .returned (.bool (decide (lo ≤ n ∧ n ≤ hi))) ∧ w' = w := by
 by_cases h1 : lo ≤ n <;> by_cases h2 : n ≤ hi
 all_goals
  go_enter Try.func89, Try.ntmps89
  go_wp2
  go_ret
  simp [h1, h2]
theorem within64_any (n lo hi : Int) (w : World) : Calls Try.prog 118 #[.int .i64 n, .int .i64 lo, .int .i64 hi] w fun e w' => e = .returned (.bool (decide (lo ≤ n ∧ n ≤ hi))) ∧ w' = w := by
 by_cases h1 : lo ≤ n <;> by_cases h2 : n ≤ hi
 all_goals
  go_enter Try.func118, Try.ntmps118
  go_wp2
  go_ret
  simp [h1, h2]
set_option maxRecDepth 100000 in
set_option maxHeartbeats 4000000 in
theorem fitsBuf_any (l : List (Int × Int)) (n nl : Nat) (vi vr : Value) (al : Option Addr) (cl : Nat) (hl : l.length = n) (hn : n ≤ 1048576) (hnl : nl ≤ 1048576) (w : World) (hS : Seg w al (l.flatMap wrE)) :
    Calls Try.prog 90 #[.agg #[vi, vr, .int .i64 (nl : Int)], .slice al n cl] w fun e w' => e = .returned (.bool (bufB nl l)) ∧ Below w.heap.size w w' := by
 have HS : Hid (Seg w al (l.flatMap wrE)) := hS
 have HL : Hid (l.length = n) := hl
 have hnI : (n : Int) ≤ 1048576 := by omega
 have hnlI : (nl : Int) ≤ 1048576 := by omega
 clear hS hl
 have t1 : True := trivial
 go_enter Try.func90, Try.ntmps90
 go_wp2_with (first
  | (clear t1; refine wpList_boxS rfl 105 _ rfl [vi, vr, .int .i64 (nl : Int)] rfl ?_; intro W0 b2 F0 C0; have B0 := F_b F0; clear F0))
 have HB0 : Hid (Below w.heap.size w W0) := B0
 have HC0 : Hid (IsS W0 b2 105 [vi, vr, .int .i64 (nl : Int)]) := C0
 clear B0 C0
 go_loopw [9] (fun i wr => ∃ j : Nat, j ≤ n ∧ i = .int .i64 (j : Int) ∧ Hid (∀ x ∈ l.take j, 0 ≤ x.1 ∧ x.1 ≤ (nl : Int) - 1) ∧ Hid (IsS wr b2 105 [vi, vr, .int .i64 (nl : Int)]) ∧ Hid (Below w.heap.size w wr)) (fun i _ => n - (intOf i).toNat)
 case atStart => exact ⟨0, by omega, rfl, (by intro x hx; simp at hx), HC0, HB0⟩
 case round =>
  obtain ⟨j, hj, rfl, HA, HC, HB⟩ := hrel
  by_cases hlt : j < n
  · have hi : (j : Int) < n := by omega
    obtain ⟨x, hx⟩ : ∃ x, l[j]? = some x := ⟨_, List.getElem?_eq_getElem (by rw [HL.out]; exact hlt)⟩
    obtain ⟨b, o, rfl, hb, hc⟩ := (HS.out.below HB.out).wr hx
    have HX : Hid (l[j]? = some x) := hx
    have hcx : ∀ (i : Nat) u, ([.int .i64 x.1, .int .i64 x.2] : List Value)[i]? = some u → wr.cell? ⟨b, o + j * 2 + i, none⟩ = some u := hc
    clear hx hc
    have C := HC.out
    have B := HB.out
    have t2 : True := trivial
    have t3 : True := trivial
    obtain ⟨x1, x2⟩ := x
    by_cases hok : 0 ≤ x1 ∧ x1 ≤ (nl : Int) - 1
    · have hwi : ∀ W, Calls Try.prog 89 #[.int .i64 x1, .int .i64 0, .int .i64 ((nl : Int) - 1)] W fun e w' => e = .returned (.bool true) ∧ w' = W := fun W => by have := withinI_any x1 0 ((nl : Int) - 1) W; rwa [decide_eq_true hok] at this
      go_wp2_with (first
       | (clear t2; refine wpList_loadX rfl 50 _ rfl rfl [.int .i64 x1, .int .i64 x2] hcx _ Try.underlying50 rfl infoWr ?_)
       | (clear t3; refine wpList_allocS rfl 50 rfl [.int .i64 0, .int .i64 0] zeroWr ?_; intro W1 b6 F1 I1; have C1 := C.fresh F1; have B1 := F1.trans B B.size; have n6 : b2 ≠ b6 := (by have := C.lt; have := F1.at'; omega); have hb6 : w.heap.size ≤ b6 := Nat.le_trans B.size (Nat.le_of_eq F1.at'.symm); clear F1)
       | (refine wpList_storeW rfl 50 _ _ rfl rfl [.int .i64 x1, .int .i64 x2] rfl I1 rfl infoWr (by intro v hv; simp at hv; rcases hv with rfl | rfl <;> rfl) ?_; intro W2 U2 I2; have C2 := C1.upd U2 n6; have B2 := U2.trans B1 hb6; obtain ⟨y0, y1⟩ := two_cells I2; have y2 := three_last C2; clear U2 I1)
       | (go_at_call 89; refine (hwi _).mono ?_; rintro e w' ⟨rfl, hw'⟩; replace hw' := hw'.symm; subst hw'))
      go_roundw
      case rel => exact ⟨j + 1, by omega, by go_num, (by
       show ∀ x ∈ l.take (j + 1), _
       intro x hx
       rw [takeS_snoc HX.out] at hx
       rcases List.mem_append.1 hx with hx | hx
       · exact HA.out x hx
       · simp only [List.mem_singleton] at hx; subst hx; exact hok), C2, B2⟩
      case measure => simp [intOf]; omega
    · have hwi : ∀ W, Calls Try.prog 89 #[.int .i64 x1, .int .i64 0, .int .i64 ((nl : Int) - 1)] W fun e w' => e = .returned (.bool false) ∧ w' = W := fun W => by have := withinI_any x1 0 ((nl : Int) - 1) W; rwa [decide_eq_false hok] at this
      have HO : Hid (¬ (0 ≤ x1 ∧ x1 ≤ (nl : Int) - 1)) := hok
      clear hok
      go_wp2_with (first
       | (clear t2; refine wpList_loadX rfl 50 _ rfl rfl [.int .i64 x1, .int .i64 x2] hcx _ Try.underlying50 rfl infoWr ?_)
       | (clear t3; refine wpList_allocS rfl 50 rfl [.int .i64 0, .int .i64 0] zeroWr ?_; intro W1 b6 F1 I1; have C1 := C.fresh F1; have B1 := F1.trans B B.size; have n6 : b2 ≠ b6 := (by have := C.lt; have := F1.at'; omega); have hb6 : w.heap.size ≤ b6 := Nat.le_trans B.size (Nat.le_of_eq F1.at'.symm); clear F1)
       | (refine wpList_storeW rfl 50 _ _ rfl rfl [.int .i64 x1, .int .i64 x2] rfl I1 rfl infoWr (by intro v hv; simp at hv; rcases hv with rfl | rfl <;> rfl) ?_; intro W2 U2 I2; have C2 := C1.upd U2 n6; have B2 := U2.trans B1 hb6; obtain ⟨y0, y1⟩ := two_cells I2; have y2 := three_last C2; clear U2 I1)
       | (go_at_call 89; refine (hwi _).mono ?_; rintro e w' ⟨rfl, hw'⟩; replace hw' := hw'.symm; subst hw'))
      go_ret
      refine ⟨?_, B2⟩
      have : bufB nl l = false := by
       unfold bufB
       have : l.all (fun w => decide (0 ≤ w.1 ∧ w.1 ≤ (nl : Int) - 1)) = false := by
        rw [List.all_eq_false]
        exact ⟨(x1, x2), List.mem_of_getElem? HX.out, by simpa using HO.out⟩
       rw [this]; rfl
      exact Eq.trans rfl (congrArg (fun b => Ending.returned (.bool b)) this.symm)
  · obtain rfl : j = n := by omega
    have hi : ¬ (j : Int) < j := by omega
    have hall : l.all (fun w => decide (0 ≤ w.1 ∧ w.1 ≤ (nl : Int) - 1)) = true := by
     rw [List.all_eq_true]
     intro x hx
     rw [List.take_of_length_le (by rw [HL.out]; exact Nat.le_refl _)] at HA
     simpa using HA.out x hx
    by_cases h64 : (j : Int) ≤ 64
    · go_wp2_with fail
      go_ret
      refine ⟨?_, HB.out⟩
      exact Eq.trans rfl (congrArg (fun b => Ending.returned (.bool b)) (show bufB nl l = true by unfold bufB; rw [hall, HL.out, decide_eq_true (by omega)]; rfl).symm)
    · go_wp2_with fail
      go_ret
      refine ⟨?_, HB.out⟩
      exact Eq.trans rfl (congrArg (fun b => Ending.returned (.bool b)) (show bufB nl l = false by unfold bufB; rw [hall, HL.out, decide_eq_false (by omega)]; rfl).symm)
theorem wi (n lo hi : Int) (W : World) (b : Bool) (h : decide (lo ≤ n ∧ n ≤ hi) = b) : Calls Try.prog 89 #[.int .i64 n, .int .i64 lo, .int .i64 hi] W fun e w' => e = .returned (.bool b) ∧ Below W.heap.size W w' := by
 subst h
 exact (withinI_any n lo hi W).mono fun e w' ⟨h1, h2⟩ => ⟨h1, by rw [h2]; exact Below.refl _ _⟩
set_option maxRecDepth 100000 in
set_option maxHeartbeats 8000000 in
theorem fits_lens (n nl np nh ng nm nb : Nat) (ai ar ap ah ag am ab : Option Addr) (ci cr cp ch cg cm cb : Nat) (lk : Int) (w : World)
    (hb : np ≤ 1048576 ∧ nh ≤ 1048576 ∧ ng ≤ 1048576 ∧ nm ≤ 1048576 ∧ nb ≤ 1048576 ∧ n ≤ 1048576 ∧ nl ≤ 1048576) (h : ¬ (np = n ∧ nh = n ∧ ng = n ∧ nb = n ∧ nm = nl)) :
    Calls Try.prog 42 #[.agg #[.slice ai n ci, .slice ar n cr, .int .i64 (nl : Int)], .agg #[.slice ap np cp, .slice ah nh ch, .slice ag ng cg, .slice am nm cm, .slice ab nb cb, .int .i64 lk]] w fun e w' => e = .returned (.bool false) ∧ Below w.heap.size w w' := by
 obtain ⟨i1, i2, i3, i4, i5, i6, i7⟩ : (np : Int) ≤ 1048576 ∧ (nh : Int) ≤ 1048576 ∧ (ng : Int) ≤ 1048576 ∧ (nm : Int) ≤ 1048576 ∧ (nb : Int) ≤ 1048576 ∧ (n : Int) ≤ 1048576 ∧ (nl : Int) ≤ 1048576 := by omega
 have HNE : Hid (¬ (np = n ∧ nh = n ∧ ng = n ∧ nb = n ∧ nm = nl)) := h
 clear h hb
 have t1 : True := trivial
 have t2 : True := trivial
 go_enter Try.func42, Try.ntmps42
 go_wp2_with (first
  | (clear t1; refine wpList_boxS rfl 105 _ rfl [.slice ai n ci, .slice ar n cr, .int .i64 (nl : Int)] rfl ?_; intro W0 b2 F0 C0; have B0 := F_b F0; clear F0)
  | (clear t2; refine wpList_boxS rfl 32 _ rfl [.slice ap np cp, .slice ah nh ch, .slice ag ng cg, .slice am nm cm, .slice ab nb cb, .int .i64 lk] rfl ?_; intro W1 b3 F1 C3; have B1 := F1.trans B0 B0.size; have C2 := C0.fresh F1; obtain ⟨y0, y1, y2⟩ := three_cells C2; obtain ⟨x0, x1, x2, x3, x4, x5⟩ := st6 C3; clear F1 C0 C2 C3 B0))
 all_goals first
  | (go_ret; exact ⟨rfl, B1⟩)
  | (exfalso; have h := HNE.out; have q6 : (nm : Int) = nl := (by have q := ‹((nm : Int) != (nl : Int)) = false›; simpa using q); omega)
theorem flat_mem {α : Type} {l : List (List α)} {x : List α} (h : x ∈ l) : x.length ≤ l.flatten.length := by
 induction l with
 | nil => cases h
 | cons y l ih =>
  rw [List.flatten_cons, List.length_append]
  rcases List.mem_cons.1 h with rfl | h
  · omega
  · have := ih h; omega
theorem flat_row {α : Type} {l : List (List α)} {j : Nat} {x : List α} (h : l.flatten.length ≤ 1048576) (hx : l[j]? = some x) : x.length ≤ 1048576 := Nat.le_trans (flat_mem (List.mem_of_getElem? hx)) h
end Go.Proofs.Ytegpnicajlndlaa

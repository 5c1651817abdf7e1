/- States in memory; whether a state fits, as a truth value. -/
import Derived.Test.YtegpnicajlndlaaQac
import Derived.Test.YtegpnicajlndlaaQay
import Derived.Test.YtegpnicajlndlaaQba
namespace Go.Proofs.Ytegpnicajlndlaa
open Go.RowKit M
set_option linter.unusedSimpArgs false
set_option linter.unusedVariables false

/-- A state as it is read. -/
structure STV (w : World) (s : ST) (vpc vph vrg vmm vbf : Value) : Prop where
  pc : RowV w vpc s.pc.length (s.pc.flatMap intE)
  ph : RowV w vph s.ph.length (s.ph.flatMap intE)
  rg : RowsV w vrg intE s.regs
  mm : RowV w vmm s.mem.length (s.mem.flatMap intE)
  bf : RowsV w vbf wrE s.buf
theorem STV.below {w W : World} {s : ST} {vpc vph vrg vmm vbf : Value} (h : STV w s vpc vph vrg vmm vbf) (hB : Below w.heap.size w W) : STV W s vpc vph vrg vmm vbf :=
  ⟨h.pc.below hB, h.ph.below hB, h.rg.below hB, h.mm.below hB, h.bf.below hB⟩
/-- No more than 2^20 of anything. -/
structure ST.Few (s : ST) : Prop where
  pc : s.pc.length ≤ 1048576
  ph : s.ph.length ≤ 1048576
  rg : s.regs.length ≤ 1048576
  rr : s.regs.flatten.length ≤ 1048576
  mm : s.mem.length ≤ 1048576
  bf : s.buf.length ≤ 1048576
  bb : s.buf.flatten.length ≤ 1048576
def bufB (nl : Nat) (b : List (Int × Int)) : Bool := b.all (fun w => decide (0 ≤ w.1 ∧ w.1 ≤ (nl : Int) - 1)) && decide (b.length ≤ 64)
theorem bufB_iff (nl : Nat) (b : List (Int × Int)) : bufB nl b = true ↔ bufOk nl b := by
  unfold bufB bufOk
  simp only [Bool.and_eq_true, List.all_eq_true, decide_eq_true_eq]
  constructor
  · rintro ⟨h1, h2⟩; exact ⟨h2, fun w hw => ⟨(h1 w hw).1, by have := (h1 w hw).2; omega⟩⟩
  · rintro ⟨h1, h2⟩; exact ⟨fun w hw => ⟨(h2 w hw).1, by have := (h2 w hw).2; omega⟩, h1⟩
def lensB (z : Shp) (s : ST) : Bool := decide (s.pc.length = z.ins.length) && (decide (s.ph.length = z.ins.length) && (decide (s.regs.length = z.ins.length) && (decide (s.buf.length = z.ins.length) && decide (s.mem.length = z.locs))))
def thB (z : Shp) (s : ST) (i : Nat) : Bool := decide ((s.regs.getD i []).length = z.rgs.getD i 0) && (decide (0 ≤ s.pc.getD i 0 ∧ s.pc.getD i 0 ≤ (z.ins.getD i 0 : Nat)) && (decide (0 ≤ s.ph.getD i 0 ∧ s.ph.getD i 0 ≤ 2) && bufB z.locs (s.buf.getD i [])))
def fitsB (z : Shp) (s : ST) : Bool := lensB z s && ((List.range z.ins.length).all (thB z s) && decide (-1 ≤ s.lock ∧ s.lock ≤ (z.ins.length : Int) - 1))
theorem fitsB_iff (z : Shp) (s : ST) : fitsB z s = true ↔ Fits z s := by
  unfold fitsB lensB thB
  simp only [Bool.and_eq_true, List.all_eq_true, decide_eq_true_eq, List.mem_range, bufB_iff]
  constructor
  · rintro ⟨⟨h1, h2, h3, h4, h5⟩, h6, h7⟩
    exact ⟨h1, h2, h3, h4, h5, fun i hi => h6 i hi, h7⟩
  · rintro ⟨h1, h2, h3, h4, h5, h6, h7⟩
    exact ⟨⟨h1, h2, h3, h4, h5⟩, fun i hi => h6 i hi, h7⟩
theorem fits_len {z : Shp} {s : ST} (h : lensB z s = false) : fitsB z s = false := by unfold fitsB; rw [h]; rfl
theorem fits_th {z : Shp} {s : ST} {i : Nat} (hi : i < z.ins.length) (h : thB z s i = false) : fitsB z s = false := by
  unfold fitsB
  have : (List.range z.ins.length).all (thB z s) = false := by
    rw [List.all_eq_false]
    exact ⟨i, List.mem_range.2 hi, by rw [h]; simp⟩
  rw [this]; simp
theorem fits_end {z : Shp} {s : ST} (h : lensB z s = true) (ht : ∀ i, i < z.ins.length → thB z s i = true) : fitsB z s = decide (-1 ≤ s.lock ∧ s.lock ≤ (z.ins.length : Int) - 1) := by
  unfold fitsB
  have : (List.range z.ins.length).all (thB z s) = true := by
    rw [List.all_eq_true]
    exact fun i hi => ht i (List.mem_range.1 hi)
  rw [this, h]; simp
/-- A shape's numbers as values. -/
def natI (l : List Nat) : List Int := l.map Int.ofNat
theorem natI_len (l : List Nat) : (natI l).length = l.length := by simp [natI]
theorem natI_get {l : List Nat} {i x : Nat} (h : l[i]? = some x) : (natI l)[i]? = some (x : Int) := by simp [natI, h]

section
variable {w : World} {ops : Array Oper} {rest : List Oper} {op : Oper} {a : Act} {Q : Exit → Act → World → Prop}
/-- A struct that lies somewhere in a block, loaded. -/
theorem wpList_loadX (hgd : op.guard = none) (ty : TypeId) (x : Operand) (ho : op.op = .load ty x) {b o : Nat} (hx : a.eval x = .pointer (some ⟨b, o, none⟩)) (sub : List Value) (hc : ∀ (i : Nat) u, sub[i]? = some u → w.cell? ⟨b, o + i, none⟩ = some u) (d : TypeDesc)
    (hu : Try.prog.underlying ty = some d) (hd : d.isRow = true) (hi : (Try.prog.info? ty).map (·.size) = some sub.length)
    (h : wpList Try.prog ops Q rest (a.put op.dst (.agg sub.toArray)) w) : wpList Try.prog ops Q (op :: rest) a w := by
  refine wpList_plain hgd fun K hK => ?_
  have hr := run_loadAt_mid (P := Try.prog) w b o ty sub d hc hu hd hi
  unfold Oper.wp execOp
  simp only [ho, hx, Sem.run_bind, hr, Result.andThen_ok, Sem.run_pure]
  exact hK _ _ h
end
theorem flat2 (l : List (Int × Int)) (j : Nat) (x : Int × Int) (h : l[j]? = some x) : ∀ (i : Nat) u, (wrE x)[i]? = some u → (l.flatMap wrE)[2 * j + i]? = some u := by
  induction l generalizing j with
  | nil => simp at h
  | cons y l ih =>
    intro i u hu
    have hi : i < 2 := (List.getElem?_eq_some_iff.1 hu).1
    cases j with
    | zero =>
      simp only [List.getElem?_cons_zero, Option.some.injEq] at h
      subst h
      rw [List.flatMap_cons, Nat.mul_zero, Nat.zero_add, List.getElem?_append_left (by simpa [wrE] using hi)]
      exact hu
    | succ j =>
      rw [List.getElem?_cons_succ] at h
      have := ih j h i u hu
      rw [List.flatMap_cons, List.getElem?_append_right (by simp [wrE]; omega)]
      rw [show 2 * (j + 1) + i - (wrE y).length = 2 * j + i by simp [wrE]; omega]
      exact this
/-- A write of a row, in memory. -/
theorem Seg.wr {w : World} {a : Option Addr} {l : List (Int × Int)} {j : Nat} {x : Int × Int} (h : Seg w a (l.flatMap wrE)) (hx : l[j]? = some x) : ∃ b o, a = some ⟨b, o, none⟩ ∧ b < w.heap.size ∧ ∀ (i : Nat) u, (wrE x)[i]? = some u → w.cell? ⟨b, o + j * 2 + i, none⟩ = some u := by
  obtain ⟨b, o, e, hb, _⟩ := h (2 * j + 0) _ (flat2 l j x hx 0 _ rfl)
  refine ⟨b, o, e, hb, fun i u hu => ?_⟩
  obtain ⟨b', o', e', _, hc⟩ := h (2 * j + i) u (flat2 l j x hx i u hu)
  rw [e] at e'
  cases e'
  rw [show o + j * 2 + i = o + (2 * j + i) by omega]
  exact hc
theorem infoWr : (Try.prog.info? 50).map (·.size) = some 2 := by kernel_rfl
theorem zeroWr (w : World) : (zeroValue 50).run Try.prog w = .ok (.agg #[.int .i64 0, .int .i64 0]) w := Try.zeroValue50 w
theorem infoShp : (Try.prog.info? 105).map (·.size) = some 3 := by kernel_rfl
theorem zeroShp (w : World) : (zeroValue 105).run Try.prog w = .ok (.agg #[.slice none 0 0, .slice none 0 0, .int .i64 0]) w := Try.zeroValue105 w
theorem two_cells {v0 v1 : Value} {W : World} {b t : Nat} (h : IsS W b t [v0, v1]) : W.cell? ⟨b, 0, none⟩ = some v0 ∧ W.cell? ⟨b, 1, none⟩ = some v1 := ⟨h.cell 0, h.cell 1⟩
theorem three_last {v0 v1 v2 : Value} {W : World} {b t : Nat} (h : IsS W b t [v0, v1, v2]) : W.cell? ⟨b, 2, none⟩ = some v2 := h.cell 2
theorem three_cells {v0 v1 v2 : Value} {W : World} {b t : Nat} (h : IsS W b t [v0, v1, v2]) : W.cell? ⟨b, 0, none⟩ = some v0 ∧ W.cell? ⟨b, 1, none⟩ = some v1 ∧ W.cell? ⟨b, 2, none⟩ = some v2 := ⟨h.cell 0, h.cell 1, h.cell 2⟩
end Go.Proofs.Ytegpnicajlndlaa

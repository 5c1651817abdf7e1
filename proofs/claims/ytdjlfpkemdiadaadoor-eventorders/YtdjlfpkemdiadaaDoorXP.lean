/- Several texts in one: PgCL, PgSL, PgPM, PgPE, PgPN, PgPI. -/
import Derived.Test.YtdjlfpkemdiadaaDoorQI
/- Class and Register, of the program and of the reference. -/
namespace Go.Proofs.YtdjlfpkemdiadaaDoor
open Go.RowKit M
set_option linter.unusedSimpArgs false
set_option linter.unusedVariables false

def classV (e : Int) : Int := if 40 ≤ e ∧ e ≤ 79 then 1 else if 90 ≤ e ∧ e ≤ 94 then 2 else if (95 ≤ e ∧ e ≤ 98) ∨ e = 1 ∨ e = 2 then 3 else 0
def regL : List (List UInt8) := [[69, 65, 88], [69, 66, 88], [69, 67, 88], [69, 68, 88], [69, 83, 73], [69, 68, 73], [69, 66, 80], [69, 83, 80], [82, 56], [82, 57], [82, 49, 48], [82, 49, 49], [82, 49, 50], [82, 49, 51], [82, 49, 52], [82, 49, 53]]
def regB (s : ByteArray) : Bool := decide (s.data.toList ∈ regL)
set_option maxRecDepth 100000 in
set_option maxHeartbeats 1000000 in
theorem register_any (s : ByteArray) (w : World) : Calls Tryd.prog 67 #[.string s] w fun en w' => en = .returned (.bool (regB s)) ∧ w' = w := by
  go_enter Tryd.func67, Tryd.ntmps67
  go_wp2
  all_goals
    go_ret
    refine ⟨?_, rfl⟩
    simp only [toL, beq_iff_eq, beq_eq_false_iff_ne, ne_eq] at *
    first | (exfalso; contradiction) | (simp only [regB, regL, List.mem_cons, List.not_mem_nil, or_false, *]; first | rfl | decide | simp)
def regS (k : Nat) : ByteArray := ⟨(regL.getD k []).toArray⟩
def regC : List Value := regL.map fun l => .string ⟨l.toArray⟩
theorem regC_at (k : Nat) (h : k < 16) : regC[k]? = some (.string (regS k)) := by
  have hl : regL.length = 16 := rfl
  rw [regC, List.getElem?_map, List.getElem?_eq_getElem (by omega)]
  simp only [Option.map_some, regS, List.getD_eq_getElem?_getD]
  rw [List.getElem?_eq_getElem (by omega)]
  rfl
theorem regS_eq (k : Nat) (h : k < 16) (s : ByteArray) : ((regS k).toList == s.toList) = true ↔ regL[k]? = some s.data.toList := by
  rw [toL, toL]
  have e : (regS k).data.toList = regL.getD k [] := by simp [regS]
  rw [e, List.getD_eq_getElem?_getD]
  have hl : regL.length = 16 := rfl
  rw [List.getElem?_eq_getElem (by omega)]
  simp
end Go.Proofs.YtdjlfpkemdiadaaDoor
/- Slices of whatever elements: read, put behind rows of one's own; rows of rows. -/
namespace Go.Proofs.YtdjlfpkemdiadaaDoor
open Go.RowKit M
set_option linter.unusedSimpArgs false
set_option linter.unusedVariables false

theorem eIntP : Elt 2 26 1 (.int .i64 0) 8 := ⟨Tryd.underlying26, info_parts (by kernel_rfl), rfl, by decide, by decide⟩
theorem eOp : Elt 58 59 5 (.agg #[.int .i64 0, .int .i64 0, .int .i64 0, .int .i64 0, .int .i64 0]) 40 := ⟨Tryd.underlying59, info_parts (by kernel_rfl), rfl, by decide, by decide⟩
theorem eStrs : Elt 24 23 1 (.slice none 0 0) 24 := ⟨Tryd.underlying23, info_parts (by kernel_rfl), rfl, by decide, by decide⟩
theorem eInts : Elt 26 25 1 (.slice none 0 0) 24 := ⟨Tryd.underlying25, info_parts (by kernel_rfl), rfl, by decide, by decide⟩
theorem eOps : Elt 59 22 1 (.slice none 0 0) 24 := ⟨Tryd.underlying22, info_parts (by kernel_rfl), rfl, by decide, by decide⟩
section
variable {w : World} {ops : Array Oper} {rest : List Oper} {op : Oper} {a : Act} {Q : Exit → Act → World → Prop} {t T k by' : Nat} {z : Value}
end
end Go.Proofs.YtdjlfpkemdiadaaDoor
/- Programs in memory; Events of both sides. -/
namespace Go.Proofs.YtdjlfpkemdiadaaDoor
open Go.RowKit M
set_option linter.unusedSimpArgs false
set_option linter.unusedVariables false

structure Op5 where
  kind : Int
  reg : Int
  src : Int
  loc : Int
  imm : Int
def op5L (o : Op5) : List Value := [.int .i64 o.kind, .int .i64 o.reg, .int .i64 o.src, .int .i64 o.loc, .int .i64 o.imm]
structure PG where
  threads : List (List Op5)
  regs : List (List ByteArray)
  locs : List ByteArray
  regInit : List (List Int)
  locInit : List Int
/-- No more than so much. -/
structure PG.Few (p : PG) : Prop where
  t : p.threads.length ≤ 1048576
  tt : p.threads.flatten.length ≤ 1048576
  r : p.regs.length ≤ 1048576
  rr : p.regs.flatten.length ≤ 1048576
  l : p.locs.length ≤ 1048576
  i : p.regInit.length ≤ 1048576
  ii : p.regInit.flatten.length ≤ 1048576
  j : p.locInit.length ≤ 1048576
  rs : ∀ l ∈ p.regs, ∀ s ∈ l, s.size ≤ maxLen
  ls : ∀ s ∈ p.locs, s.size ≤ maxLen
/-- A program in memory: its five slices. -/
structure PGV (w : World) (vt vr vl vi vj : Value) (p : PG) : Prop where
  t : RowsV w vt op5L p.threads
  r : RowsV w vr strE p.regs
  l : RowV w vl p.locs.length (p.locs.flatMap strE)
  i : RowsV w vi intE p.regInit
  j : RowV w vj p.locInit.length (p.locInit.flatMap intE)
theorem PGV.below {w W : World} {vt vr vl vi vj : Value} {p : PG} (h : PGV w vt vr vl vi vj p) (hB : Below w.heap.size w W) : PGV W vt vr vl vi vj p :=
  ⟨h.t.below hB, h.r.below hB, h.l.below hB, h.i.below hB, h.j.below hB⟩
theorem op_one (o : Op5) : ∀ v ∈ op5L o, v.oneCell' = true := by simp [op5L, Value.oneCell']
theorem infoOp : (Tryd.prog.info? 58).map (·.size) = some 5 := by kernel_rfl
theorem infoPg : (Tryd.prog.info? 28).map (·.size) = some 5 := by kernel_rfl
theorem op_at : ∀ (gs : List Op5) (j : Nat) (g : Op5), gs[j]? = some g → ∀ (i : Nat) (v : Value), (op5L g)[i]? = some v → (gs.flatMap op5L)[j * 5 + i]? = some v
  | [], j, g, h, i, v, hv => by simp at h
  | x :: gs, 0, g, h, i, v, hv => by
    simp at h; subst h
    have hi : i < (op5L x).length := (List.getElem?_eq_some_iff.1 hv).1
    show (op5L x ++ gs.flatMap op5L)[0 * 5 + i]? = some v
    rw [Nat.zero_mul, Nat.zero_add, List.getElem?_append_left hi]; exact hv
  | x :: gs, j + 1, g, h, i, v, hv => by
    have := op_at gs j g (by simpa using h) i v hv
    show (op5L x ++ gs.flatMap op5L)[(j + 1) * 5 + i]? = some v
    have e : (op5L x).length = 5 := rfl
    rw [List.getElem?_append_right (by omega), e, show (j + 1) * 5 + i - 5 = j * 5 + i by omega]
    exact this
/-- An instruction of a row. -/
theorem Seg.op {w : World} {a : Option Addr} {gs : List Op5} (h : Seg w a (gs.flatMap op5L)) {j : Nat} {g : Op5} (hg : gs[j]? = some g) : ∃ b o, a = some ⟨b, o, none⟩ ∧ b < w.heap.size ∧ w.rangeAt b (o + j * 5) (op5L g) := by
  obtain ⟨b, o, e, hb, _⟩ := h (j * 5 + 0) _ (op_at gs j g hg 0 _ rfl)
  refine ⟨b, o, e, hb, fun i v hv => ?_⟩
  obtain ⟨b', o', e', _, hc⟩ := h (j * 5 + i) v (op_at gs j g hg i v hv)
  rw [e] at e'; cases e'
  rw [Nat.add_assoc]; exact hc
theorem Seg.str {w : World} {a : Option Addr} {gs : List ByteArray} (h : Seg w a (gs.flatMap strE)) {j : Nat} {g : ByteArray} (hg : gs[j]? = some g) : ∃ b o, a = some ⟨b, o, none⟩ ∧ b < w.heap.size ∧ w.cell? ⟨b, o + j, none⟩ = some (.string g) := h j _ (str_at hg)
theorem Seg.int {w : World} {a : Option Addr} {gs : List Int} (h : Seg w a (gs.flatMap intE)) {j : Nat} {g : Int} (hg : gs[j]? = some g) : ∃ b o, a = some ⟨b, o, none⟩ ∧ b < w.heap.size ∧ w.cell? ⟨b, o + j, none⟩ = some (.int .i64 g) := h j _ (int_at hg)
def evOf (k : Int) : Int := if k = 3 ∨ k = 4 ∨ k = 5 ∨ k = 6 then 1 else if k = 7 ∨ k = 8 ∨ k = 9 then 2 else 0
theorem evOf_bd (k : Int) : 0 ≤ evOf k ∧ evOf k ≤ 2 := by unfold evOf; (repeat' split) <;> omega
set_option maxRecDepth 100000 in
set_option maxHeartbeats 1000000 in
theorem eventsOf_any (e : Int) (w : World) : Calls Tryd.prog 30 #[.int .i64 e] w fun en w' => en = .returned (.int .i64 (evOf e)) ∧ w' = w := by
  go_enter Tryd.func30, Tryd.ntmps30
  go_wp2
  all_goals
    go_ret
    refine ⟨ret_int ?_, rfl⟩
    (try simp only [beq_iff_eq, beq_eq_false_iff_ne, ne_eq] at *)
    unfold evOf
    (repeat' split) <;> omega
def evLP : List Op5 → Int
  | [] => 0
  | o :: l => evOf o.kind + evLP l
theorem evL_app : ∀ (a b : List Op5), evLP (a ++ b) = evLP a + evLP b
  | [], b => by simp [evLP]
  | x :: a, b => by simp [evLP, evL_app a b]; omega
theorem evL_bd : ∀ (l : List Op5), 0 ≤ evLP l ∧ evLP l ≤ 2 * (l.length : Int)
  | [] => by simp [evLP]
  | x :: l => by have := evL_bd l; have := evOf_bd x.kind; simp [evLP]; omega
def eventsV (p : PG) : Int := p.locs.length + evLP p.threads.flatten
theorem flat_at {α : Type} {ls : List (List α)} {i k : Nat} {l : List α} (h : ls[i]? = some l) (hk : k ≤ l.length) : ((ls.take i).flatten ++ l.take k).length ≤ ls.flatten.length := by
  obtain ⟨hi, e⟩ := List.getElem?_eq_some_iff.1 h
  have e2 : ls = ls.take i ++ l :: ls.drop (i + 1) := by rw [← e]; simp
  have e3 : ls.flatten = (ls.take i).flatten ++ (l ++ (ls.drop (i + 1)).flatten) := by
    conv => lhs; rw [e2]
    simp
  rw [e3]; simp; omega
theorem flat_take {α : Type} {ls : List (List α)} {i : Nat} {l : List α} (h : ls[i]? = some l) : (ls.take (i + 1)).flatten = (ls.take i).flatten ++ l := by rw [take_at h]; simp
end Go.Proofs.YtdjlfpkemdiadaaDoor
/- Events of a program, of both sides. -/
namespace Go.Proofs.YtdjlfpkemdiadaaDoor
open Go.RowKit M
set_option linter.unusedSimpArgs false
set_option linter.unusedVariables false

/-- The five cells of a program that is boxed. -/
theorem pg_cells {W : World} {b : Nat} {v0 v1 v2 v3 v4 : Value} (h : IsS W b 28 [v0, v1, v2, v3, v4]) {w : World} (hB : Below W.heap.size W w) :
    w.cell? ⟨b, 0, none⟩ = some v0 ∧ w.cell? ⟨b, 1, none⟩ = some v1 ∧ w.cell? ⟨b, 2, none⟩ = some v2 ∧ w.cell? ⟨b, 3, none⟩ = some v3 ∧ w.cell? ⟨b, 4, none⟩ = some v4 :=
  have h' := h.grown hB
  ⟨h'.cell 0, h'.cell 1, h'.cell 2, h'.cell 3, h'.cell 4⟩
set_option maxRecDepth 100000 in
set_option maxHeartbeats 2000000 in
theorem events_any (p : PG) (hf : p.Few) (vt vr vl vi vj : Value) (w : World) (hp : PGV w vt vr vl vi vj p) :
    Calls Tryd.prog 10 #[.agg #[vt, vr, vl, vi, vj]] w fun en w' => en = .returned (.int .i64 (eventsV p)) ∧ Below w.heap.size w w' := by
  obtain ⟨at', ct, rfl⟩ := hp.t.form
  obtain ⟨al, cl, rfl, _, _⟩ := hp.l
  have HT : Hid (RowsV w (.slice at' p.threads.length ct) op5L p.threads) := hp.t
  obtain ⟨nt, hnt⟩ : ∃ n, p.threads.length = n := ⟨_, rfl⟩
  obtain ⟨nl, hnl⟩ : ∃ n, p.locs.length = n := ⟨_, rfl⟩
  have hft := hf.t
  have HTT : Hid (p.threads.flatten.length ≤ 1048576) := hf.tt
  have hfl := hf.l
  rw [hnt] at HT hft ⊢
  rw [hnl] at hfl ⊢
  have HNT : Hid (p.threads.length = nt) := hnt
  have HE : Hid (eventsV p = nl + evLP p.threads.flatten) := (by show _ = _; unfold eventsV; rw [hnl])
  clear hp hf hnt hnl
  obtain ⟨ths, hths⟩ : ∃ t, p.threads = t := ⟨_, rfl⟩
  rw [hths] at HT HTT HNT HE
  clear hths
  have t1 : True := trivial
  go_enter Tryd.func10, Tryd.ntmps10
  go_wp2_with (clear t1; refine wpList_boxS rfl 28 _ rfl [.slice at' nt ct, vr, .slice al nl cl, vi, vj] rfl ?_; intro W1 b1 F1 C1; have B1 : Below w.heap.size w W1 := F1.trans (Below.refl _ w) (Nat.le_refl _); obtain ⟨k0, k1, k2, k3, k4⟩ := pg_cells C1 (Below.refl _ W1); clear F1)
  go_loopw [3, 14] (fun n i wr => ∃ k : Nat, k ≤ nt ∧ i = .int .i64 k ∧ ∃ s : Int, n = .int .i64 s ∧ Hid (s = nl + evLP (ths.take k).flatten) ∧ Hid (Below W1.heap.size W1 wr)) (fun _ i _ => nt - (intOf i).toNat)
  case atStart => exact ⟨0, Nat.zero_le _, rfl, nl, rfl, by show _ = _; simp [evLP], Below.refl _ _⟩
  case round =>
    obtain ⟨k, hk, rfl, s, rfl, HS, HB⟩ := hrel
    obtain ⟨WR, eWR⟩ : ∃ W, W = wr := ⟨_, rfl⟩
    subst eWR
    by_cases hlt : k < nt
    · have hki : (k : Int) < nt := by omega
      obtain ⟨l, hl⟩ : ∃ l, ths[k]? = some l := ⟨_, List.getElem?_eq_getElem (by rw [HNT.out]; exact hlt)⟩
      obtain ⟨b, o, a', c', rfl, hb, hc, hseg, _⟩ := (HT.out.below (Below.then B1 HB.out)).at k l hl
      have HG : Hid (Seg WR a' (l.flatMap op5L)) := hseg
      have HL : Hid (ths[k]? = some l) := hl
      have hll : l.length ≤ 1048576 := Nat.le_trans (by have := flat_at hl (Nat.le_refl _); rw [List.take_length, List.length_append] at this; omega) HTT.out
      obtain ⟨nn, hnn⟩ : ∃ n, l.length = n := ⟨_, rfl⟩
      have HNN : Hid (l.length = nn) := hnn
      rw [hnn] at hc hll
      clear hl hseg hnn
      go_wp2_with fail
      go_loopw [3, 20] (fun n i wr' => ∃ j : Nat, j ≤ nn ∧ i = .int .i64 j ∧ ∃ s : Int, n = .int .i64 s ∧ Hid (s = nl + evLP ((ths.take k).flatten ++ l.take j)) ∧ Hid (Below WR.heap.size WR wr')) (fun _ i _ => nn - (intOf i).toNat)
      case atStart => exact ⟨0, Nat.zero_le _, rfl, s, rfl, by show _ = _; rw [HS.out]; simp, Below.refl _ _⟩
      case round =>
        obtain ⟨j, hj, rfl, s', rfl, HS', HB'⟩ := hrel
        by_cases hjt : j < nn
        · have hji : (j : Int) < nn := by omega
          obtain ⟨g, hg⟩ : ∃ g, l[j]? = some g := ⟨_, List.getElem?_eq_getElem (by rw [HNN.out]; exact hjt)⟩
          obtain ⟨b', o', rfl, hb', hr'⟩ := (HG.out.below HB'.out).op hg
          have HN : Hid (evLP ((ths.take k).flatten ++ l.take (j + 1)) = evLP ((ths.take k).flatten ++ l.take j) + evOf g.kind) := (by show _ = _; rw [take_at hg, ← List.append_assoc, evL_app]; simp [evLP])
          have hbd := evL_bd ((ths.take k).flatten ++ l.take j)
          have hbl := flat_at HL.out (k := j) (by rw [HNN.out]; omega)
          have hs0 : 0 ≤ s' ∧ s' ≤ 4194304 := by have := HS'.out; have := HTT.out; omega
          clear hbd hbl hg
          obtain ⟨hs1, hs2⟩ := hs0
          have hev := evOf_bd g.kind
          obtain ⟨ev, hev'⟩ : ∃ e, evOf g.kind = e := ⟨_, rfl⟩
          have cE := fun w => eventsOf_any g.kind w
          rw [hev'] at cE HN hev
          clear hev'
          obtain ⟨he1, he2⟩ := hev
          have t2 : True := trivial
          have t3 : True := trivial
          have t4 : True := trivial
          go_wp2_with (first
            | (clear t2; refine wpList_load_mid rfl 58 _ rfl b' (o' + j * 5) rfl (op5L g) _ hr' Tryd.underlying58 rfl infoOp ?_)
            | (clear t3; refine wpList_allocS rfl 58 rfl (op5L ⟨0, 0, 0, 0, 0⟩) Tryd.zeroValue58 ?_; intro W3 b3 F3 C3; have B3 := F3.trans HB'.out HB'.out.size; have h3 : WR.heap.size ≤ b3 := Nat.le_trans HB'.out.size (Nat.le_of_eq F3.at'.symm); clear F3)
            | (clear t4; refine wpList_storeS rfl 58 _ _ rfl rfl (op5L g) rfl C3 (by simp [op5L]) infoOp (op_one _) ?_; intro W4 U4 C4x; have C4 : IsS W4 b3 58 (op5L g) := C4x; have B4 := U4.trans B3 h3; have c4 : W4.cell? ⟨b3, 0, none⟩ = some (.int .i64 g.kind) := C4.cell 0; clear U4 C3 C4x)
            | (go_at_call 30; refine (cE _).mono ?_; rintro en w' ⟨rfl, hw⟩; replace hw := hw.symm; subst hw))
          go_roundw
          case rel => exact ⟨j + 1, by omega, by go_num, s' + ev, rfl, by show _ = _; rw [HN.out, HS'.out]; omega, B4⟩
          case measure => simp [intOf]; omega
        · have hji : ¬ (j : Int) < nn := by omega
          have hjn : j = nn := by omega
          go_wp2_with fail
          go_roundw
          case rel => exact ⟨k + 1, by omega, by go_num, s', rfl, by show _ = _; rw [HS'.out, hjn, ← HNN.out, List.take_length, flat_take HL.out], Below.then HB.out HB'.out⟩
          case measure => simp [intOf]; omega
    · have hki : ¬ (k : Int) < nt := by omega
      go_wp2_with fail
      go_ret
      refine ⟨ret_int ?_, Below.then B1 HB.out⟩
      rw [HE.out, HS.out, List.take_of_length_le (by rw [HNT.out]; omega)]
end Go.Proofs.YtdjlfpkemdiadaaDoor
/- Names of a program, of both sides. -/
namespace Go.Proofs.YtdjlfpkemdiadaaDoor
open Go.RowKit M
set_option linter.unusedSimpArgs false
set_option linter.unusedVariables false

theorem wpList_build2 {w : World} {ops : Array Oper} {rest : List Oper} {op : Oper} {a : Act} {Q : Exit → Act → World → Prop} {t T by' : Nat} {z : Value} (E : Elt t T 2 z by') (hgd : op.guard = none) (x : Operand) (ho : op.op = .buildSlice T 1 #[(0, x)]) (u1 u2 : Value) (hx : a.eval x = .agg #[u1, u2])
    (h : ∀ W b, Fresh w W b → IsS W b t [u1, u2] → wpList Tryd.prog ops Q rest (a.put op.dst (.slice (some ⟨b, 0, none⟩) 1 1)) W) : wpList Tryd.prog ops Q (op :: rest) a w := by
  refine wpList_plain hgd fun K hK => ?_
  unfold Oper.wp
  rw [exec_build2 E x ho u1 u2 hx]
  exact hK _ _ (h _ _ (Fresh.alloc w _) (IsS.new w t [u1, u2]))
abbrev RF := Int × ByteArray
def refL (r : RF) : List Value := [.int .i64 r.1, .string r.2]
theorem ref_one (l : List RF) : ∀ v ∈ l.flatMap refL, v.oneCell' = true := fun v hv => by
  obtain ⟨r, _, h⟩ := List.mem_flatMap.1 hv
  simp [refL] at h
  rcases h with rfl | rfl <;> rfl
theorem ref_len (l : List RF) : (l.flatMap refL).length = l.length * 2 := by
  induction l with
  | nil => rfl
  | cons r l ih => rw [List.flatMap_cons, List.length_append, ih, List.length_cons]; simp [refL]; omega
def nmOf (i : Nat) (l : List ByteArray) : List RF := l.map fun s => ((i : Int), s)
def namesR : Nat → List (List ByteArray) → List RF
  | _, [] => []
  | i, l :: ls => nmOf i l ++ namesR (i + 1) ls
theorem namesR_app : ∀ (i : Nat) (a b : List (List ByteArray)), namesR i (a ++ b) = namesR i a ++ namesR (i + a.length) b
  | i, [], b => by simp [namesR]
  | i, x :: a, b => by
    show nmOf i x ++ namesR (i + 1) (a ++ b) = _
    rw [namesR_app (i + 1) a b]; simp [namesR]; congr 1; omega
theorem namesR_len : ∀ (i : Nat) (a : List (List ByteArray)), (namesR i a).length = a.flatten.length
  | i, [] => rfl
  | i, x :: a => by show (nmOf i x ++ namesR (i + 1) a).length = _; rw [List.length_append, namesR_len (i + 1) a, List.flatten_cons, List.length_append]; simp [nmOf]
theorem namesR_at {ls : List (List ByteArray)} {k : Nat} {l : List ByteArray} (h : ls[k]? = some l) : namesR 0 (ls.take (k + 1)) = namesR 0 (ls.take k) ++ nmOf k l := by
  rw [take_at h, namesR_app]
  have hk := (List.getElem?_eq_some_iff.1 h).1
  simp [namesR, List.length_take]
  rw [Nat.min_eq_left (by omega)]
def lcOf (l : List ByteArray) : List RF := l.map fun s => (-1, s)
def namesP (p : PG) : List RF := namesR 0 p.regs ++ lcOf p.locs
theorem nm_at {i : Nat} {l : List ByteArray} {j : Nat} {s : ByteArray} (h : l[j]? = some s) : nmOf i (l.take (j + 1)) = nmOf i (l.take j) ++ [((i : Int), s)] := by rw [take_at h]; simp [nmOf]
theorem lc_at {l : List ByteArray} {j : Nat} {s : ByteArray} (h : l[j]? = some s) : lcOf (l.take (j + 1)) = lcOf (l.take j) ++ [(-1, s)] := by rw [take_at h]; simp [lcOf]
end Go.Proofs.YtdjlfpkemdiadaaDoor
/- Index of both sides. -/
namespace Go.Proofs.YtdjlfpkemdiadaaDoor
open Go.RowKit M
set_option linter.unusedSimpArgs false
set_option linter.unusedVariables false

def refB (a b : RF) : Bool := (a.1 == b.1) && (a.2.toList == b.2.toList)
theorem refB_comm (a b : RF) : refB a b = refB b a := by
  unfold refB
  rw [Bool.eq_iff_iff]
  simp only [Bool.and_eq_true, beq_iff_eq]
  exact ⟨fun h => ⟨h.1.symm, h.2.symm⟩, fun h => ⟨h.1.symm, h.2.symm⟩⟩
def idxF (ns : List RF) (r : RF) : Option Nat := ns.findIdx? fun x => refB x r
def idxO : Option Nat → Int
  | some j => j
  | none => -1
def idxI (ns : List RF) (r : RF) : Int := idxO (idxF ns r)
theorem idx_hit {ns : List RF} {r g : RF} {j : Nat} (hg : ns[j]? = some g) (h : refB g r = true) (hno : ∀ i, i < j → ∀ x, ns[i]? = some x → refB x r = false) : idxF ns r = some j := by
  obtain ⟨hj, e⟩ := List.getElem?_eq_some_iff.1 hg
  unfold idxF
  rw [List.findIdx?_eq_some_iff_getElem]
  refine ⟨hj, by rw [e]; exact h, fun i hi => ?_⟩
  rw [hno i hi _ (List.getElem?_eq_getElem (by omega))]; simp
theorem idx_miss {ns : List RF} {r : RF} (hno : ∀ i, i < ns.length → ∀ x, ns[i]? = some x → refB x r = false) : idxF ns r = none := by
  unfold idxF
  rw [List.findIdx?_eq_none_iff]
  intro x hx
  obtain ⟨i, hi⟩ := List.getElem?_of_mem hx
  exact hno i (List.getElem?_eq_some_iff.1 hi).1 x hi
theorem ref_at : ∀ (gs : List RF) (j : Nat) (g : RF), gs[j]? = some g → ∀ (i : Nat) (v : Value), (refL g)[i]? = some v → (gs.flatMap refL)[j * 2 + i]? = some v
  | [], j, g, h, i, v, hv => by simp at h
  | x :: gs, 0, g, h, i, v, hv => by
    simp at h; subst h
    have hi : i < (refL x).length := (List.getElem?_eq_some_iff.1 hv).1
    show (refL x ++ gs.flatMap refL)[0 * 2 + i]? = some v
    rw [Nat.zero_mul, Nat.zero_add, List.getElem?_append_left hi]; exact hv
  | x :: gs, j + 1, g, h, i, v, hv => by
    have := ref_at gs j g (by simpa using h) i v hv
    show (refL x ++ gs.flatMap refL)[(j + 1) * 2 + i]? = some v
    have e : (refL x).length = 2 := rfl
    rw [List.getElem?_append_right (by omega), e, show (j + 1) * 2 + i - 2 = j * 2 + i by omega]
    exact this
theorem Seg.ref {w : World} {a : Option Addr} {gs : List RF} (h : Seg w a (gs.flatMap refL)) {j : Nat} {g : RF} (hg : gs[j]? = some g) : ∃ b o, a = some ⟨b, o, none⟩ ∧ b < w.heap.size ∧ w.rangeAt b (o + j * 2) (refL g) := by
  obtain ⟨b, o, e, hb, _⟩ := h (j * 2 + 0) _ (ref_at gs j g hg 0 _ rfl)
  refine ⟨b, o, e, hb, fun i v hv => ?_⟩
  obtain ⟨b', o', e', _, hc⟩ := h (j * 2 + i) v (ref_at gs j g hg i v hv)
  rw [e] at e'; cases e'
  rw [Nat.add_assoc]; exact hc
def idxV (o : Option Nat) : Value := match o with
  | some j => .tuple #[.int .i64 (j : Int), .bool true]
  | none => .tuple #[.int .i64 0, .bool false]
end Go.Proofs.YtdjlfpkemdiadaaDoor

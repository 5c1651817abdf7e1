/- Several texts in one: Y1, Y2, Y3. -/
import Derived.Test.YtbelajboalikcaaNA
import Derived.Test.YtbelajboalikcaaKB
import Derived.Lib.BufSteps
import Derived.WalkSpells
import Derived.Laws.AppendOwnNone
/- What the reference's Write asks of a token, in plain words; what both answer. -/
namespace Go.Proofs.Ytbelajboalikcaa
open Go.RowKit Go.Shelf M
set_option linter.unusedSimpArgs false
set_option linter.unusedVariables false

def ownG (g : GT) : List UInt8 := ownF g.kind g.text.data.toList
def saysG (g : GT) : Bool := saysF (ownG g) g.kind g.text.data.toList
theorem says_one {g : GT} (h : saysG g = true) : ∃ (kd : Nat) (vl : Int), (kd : Int) = g.kind ∧ rounds (ownG g) = [.tok ⟨kd, g.text.data.toList, vl, 1, 1, 0, (ownG g).length⟩] := by
  obtain ⟨C, hW, hk, ht⟩ := says_whole h
  refine ⟨C.kind, C.value, hk, ?_⟩
  rw [show rounds (ownG g) = _ from rounds_one hW (says_len h), ht]
theorem says_not {g : GT} {ts : List Tok} {st : LS} (h : saysG g = false) (hr : rounds (ownG g) = ts.map Rd.tok ++ st.rd.toList) (hst : st.rd = none ∨ st.F.2.2 ≠ 0) :
    st.F.2.2 ≠ 0 ∨ (st.rd = none ∧ (ts.length ≠ 1 ∨ ∃ t, ts = [t] ∧ ¬ ((t.kind : Int) = g.kind ∧ t.text = g.text.data.toList))) := by
  rcases hst with h0 | h0
  · refine .inr ⟨h0, ?_⟩
    match ts with
    | [] => exact .inl (by decide)
    | [t] =>
      refine .inr ⟨t, rfl, fun hh => ?_⟩
      have : saysG g = true := (by
        unfold saysG saysF
        rw [hr]
        exact decide_eq_true hh)
      rw [this] at h
      cases h
    | _ :: _ :: _ => exact .inl (by simp)
  · exact .inl h0
theorem join_snoc (bs : List (List UInt8)) (b : List UInt8) : joinF (bs ++ [b]) = joinF bs ++ ((if 0 < bs.length then [32] else []) ++ b) := by
  cases bs with
  | nil => simp [joinF, jt]
  | cons x xs => simp [joinF, jt]
theorem join_step (gs : List GT) (j : Nat) (g : GT) (h : gs[j]? = some g) : joinF ((gs.take (j + 1)).map ownG) = joinF ((gs.take j).map ownG) ++ ((if 0 < j then [32] else []) ++ ownG g) := by
  have hlt := (List.getElem?_eq_some_iff.1 h).1
  have e : gs[j] = g := by rw [List.getElem?_eq_getElem hlt] at h; exact Option.some.inj h
  rw [List.take_succ_eq_append_getElem hlt, List.map_append, e, List.map_singleton, join_snoc, List.length_map, List.length_take, Nat.min_eq_left (by omega)]
theorem wr_long (gs : List GT) : ∀ (j : Nat) (out : List UInt8), wrTo gs j = some out → 1048576 < out.length → 1048576 < (joinF ((gs.take j).map ownG)).length
  | 0, out, h, hl => by
    have : some ([] : List UInt8) = some out := h
    cases this
    simp at hl
  | j + 1, out, h, hl => by
    have h' : (match wrTo gs j, gs[j]? with | some out, some g => stepW j out g | _, _ => none) = some out := h
    split at h'
    · rename_i out0 g h0 hg
      rw [join_step gs j g hg]
      by_cases hb : 1048576 < out0.length
      · have := wr_long gs j out0 h0 hb
        rw [List.length_append]; omega
      · have e := (wr_ok gs j out0 h0).2 (by omega)
        unfold stepW at h'
        split at h'
        · have h2 := Option.some.inj h'
          rw [show (fun g : GT => ownF g.kind g.text.data.toList) = ownG from rfl] at e
          rw [← e]
          rw [← h2] at hl
          exact hl
        · cases h'
    · cases h'
/-- What Write answers, without the program's ways. -/
theorem write_all {gs : List GT} (h : ∀ g ∈ gs, saysG g = true) : writeV gs = if 1048576 < (joinF (gs.map ownG)).length then .tuple #[.string ⟨#[]⟩, .int .i64 1] else .tuple #[.string ⟨(joinF (gs.map ownG)).toArray⟩, .int .i64 0] := by
  obtain ⟨out, ho⟩ := wr_all gs h gs.length (Nat.le_refl _)
  unfold writeV
  rw [ho]
  dsimp only
  have e := (wr_ok gs gs.length out ho).2
  have l := wr_long gs gs.length out ho
  rw [List.take_of_length_le (Nat.le_refl _)] at e l
  rw [show (fun g : GT => ownF g.kind g.text.data.toList) = ownG from rfl] at e
  by_cases hb : 1048576 < out.length
  · rw [if_pos hb, if_pos (l hb)]
  · rw [if_neg hb, ← e (by omega), if_neg hb]
theorem write_none {gs : List GT} {j : Nat} {g : GT} (hg : gs[j]? = some g) (h : saysG g = false) : writeV gs = .tuple #[.string ⟨#[]⟩, .int .i64 50] := by
  unfold writeV
  cases hw : wrTo gs gs.length with
  | none => rfl
  | some out =>
    have := (wr_ok gs gs.length out hw).1 j g (List.getElem?_eq_some_iff.1 hg).1 hg
    rw [show saysF (ownF g.kind g.text.data.toList) g.kind g.text.data.toList = saysG g from rfl, h] at this
    cases this
end Go.Proofs.Ytbelajboalikcaa
/- The reference's Write. -/
namespace Go.Proofs.Ytbelajboalikcaa
open Go.RowKit Go.Shelf M
set_option linter.unusedSimpArgs false
set_option linter.unusedVariables false

theorem und61 : Try.prog.underlying 61 = some (.slice 5) := Try.underlying61
theorem und5 : Try.prog.underlying 5 = some (.int .u8) := Try.underlying5
theorem cell_grow {W W' : World} {b o : Nat} {v : Value} (h : W.cell? ⟨b, o, none⟩ = some v) (hB : Below W.heap.size W W') : W'.cell? ⟨b, o, none⟩ = some v :=
  (hB.cell (p := ⟨b, o, none⟩) (World.block_lt_of_cell? W _ h)).trans h
theorem wpG_cell {ops : Array Oper} {W : World} {Q : Act → Prop} {rest : List Oper} {op : Oper} {a : Act} {b o : Nat} (hw : Region.wanted op (yielded ops a.tmps) = true) (ty : TypeId) (x : Operand) (ho : op.op = .load ty x) (hx : a.eval x = .pointer (some ⟨b, o, none⟩)) {v : Value} (hc : W.cell? ⟨b, o, none⟩ = some v)
    (hl : ∀ w, w.cell? ⟨b, o, none⟩ = some v → (Instr.loadAt ty (.pointer (some ⟨b, o, none⟩))).run Try.prog w = .ok v w)
    (h : wpG Try.prog ops W Q rest (a.put op.dst v)) : wpG Try.prog ops W Q (op :: rest) a :=
  wpG_value hw (fun w hB => by
    unfold execOp
    simp only [ho, hx, Sem.run_bind, hl w (cell_grow hc hB), Result.andThen_ok, Sem.run_pure]) h
theorem wpG_range {ops : Array Oper} {W : World} {Q : Act → Prop} {rest : List Oper} {op : Oper} {a : Act} {b o : Nat} (hw : Region.wanted op (yielded ops a.tmps) = true) (ty : TypeId) (x : Operand) (ho : op.op = .load ty x) (hx : a.eval x = .pointer (some ⟨b, o, none⟩)) (cs : List Value) (hb : b < W.heap.size) (hc : W.rangeAt b o cs) (d : TypeDesc)
    (hu : Try.prog.underlying ty = some d) (hd : d.isRow = true) (hi : (Try.prog.info? ty).map (·.size) = some cs.length)
    (h : wpG Try.prog ops W Q rest (a.put op.dst (.agg cs.toArray))) : wpG Try.prog ops W Q (op :: rest) a :=
  wpG_value hw (fun w hB => by
    unfold execOp
    simp only [ho, hx, Sem.run_bind, run_loadAt_mid w b o ty _ d (fun j v hv => (hB.cell (p := ⟨b, o + j, none⟩) hb).trans (hc j v hv)) hu hd hi, Result.andThen_ok, Sem.run_pure]) h
/-- The walk through a region, boxed: where some operations on end are not wanted, the rest would else be worked out at every step. -/
structure WG (ops : Array Oper) (W : World) (Q : Act → Prop) (l : List Oper) (a : Act) : Prop where
  out : wpG Try.prog ops W Q l a
section
variable {ops : Array Oper} {W : World} {Q : Act → Prop} {rest : List Oper} {op : Oper} {a : Act}
theorem WG.nil (h : Q a) : WG ops W Q [] a := ⟨wpG_nil h⟩
theorem WG.put (hw : Region.wanted op (yielded ops a.tmps) = true) {v : Value} (hr : ∀ w, (execOp a.eval op).run Try.prog w = .ok (.value v) w) (h : WG ops W Q rest (a.put op.dst v)) : WG ops W Q (op :: rest) a := ⟨wpG_put hw hr h.out⟩
theorem WG.skip (hw : Region.wanted op (yielded ops a.tmps) = false) (h : WG ops W Q rest (a.put op.dst undef)) : WG ops W Q (op :: rest) a := ⟨wpG_skip hw h.out⟩
theorem WG.call (hw : Region.wanted op (yielded ops a.tmps) = true) {f : FuncId} {args : Array Value} {v : Value} (hC : ∀ w, Below W.heap.size W w → Calls Try.prog f args w fun e w' => e = .returned v ∧ Below w.heap.size w w') (hr : ∀ w, (execOp a.eval op).run Try.prog w = .ok (.enter f args) w) (h : WG ops W Q rest (a.put op.dst v)) : WG ops W Q (op :: rest) a := ⟨wpG_call hw hC hr h.out⟩
theorem WG.load1 {b t o : Nat} {cs : List Value} (hw : Region.wanted op (yielded ops a.tmps) = true) (ty : TypeId) (x : Operand) (ho : op.op = .load ty x) (hx : a.eval x = .pointer (some ⟨b, o, none⟩)) (hc : IsS W b t cs) {v : Value} (hv : cs[o]? = some v)
    (hl : ∀ w, w.cell? ⟨b, o, none⟩ = some v → (Instr.loadAt ty (.pointer (some ⟨b, o, none⟩))).run Try.prog w = .ok v w) (h : WG ops W Q rest (a.put op.dst v)) : WG ops W Q (op :: rest) a := ⟨wpG_load1 hw ty x ho hx hc hv hl h.out⟩
theorem WG.cell {b o : Nat} (hw : Region.wanted op (yielded ops a.tmps) = true) (ty : TypeId) (x : Operand) (ho : op.op = .load ty x) (hx : a.eval x = .pointer (some ⟨b, o, none⟩)) {v : Value} (hc : W.cell? ⟨b, o, none⟩ = some v)
    (hl : ∀ w, w.cell? ⟨b, o, none⟩ = some v → (Instr.loadAt ty (.pointer (some ⟨b, o, none⟩))).run Try.prog w = .ok v w) (h : WG ops W Q rest (a.put op.dst v)) : WG ops W Q (op :: rest) a := ⟨wpG_cell hw ty x ho hx hc hl h.out⟩
theorem WG.range {b o : Nat} (hw : Region.wanted op (yielded ops a.tmps) = true) (ty : TypeId) (x : Operand) (ho : op.op = .load ty x) (hx : a.eval x = .pointer (some ⟨b, o, none⟩)) (cs : List Value) (hb : b < W.heap.size) (hc : W.rangeAt b o cs) (d : TypeDesc)
    (hu : Try.prog.underlying ty = some d) (hd : d.isRow = true) (hi : (Try.prog.info? ty).map (·.size) = some cs.length) (h : WG ops W Q rest (a.put op.dst (.agg cs.toArray))) : WG ops W Q (op :: rest) a := ⟨wpG_range hw ty x ho hx cs hb hc d hu hd hi h.out⟩
end
theorem grow_allW {id : Nat} {Q : Exit → Act → World → Prop} {a : Act} {W : World} {l : List Oper} (hm : Try.prog.follows .mixedOrders = true) (hB : Region.lexB .any l.toArray = true)
    (h : WG l.toArray W (fun a' => ∀ w', Below W.heap.size W w' → Q .normal a' w') l a) : (Code.region id l.toArray true).wp Try.prog Q a W := grow_all hm hB h.out
theorem buf_below {B : Nat} {v : Value} {n : Nat} {xs : List Value} {W0 w w' : World} (h : Lib.OwnBuf B 5 v n xs W0 w) (hB : Below w.heap.size w w') : Lib.OwnBuf B 5 v n xs W0 w' := by
  refine ⟨?_, h.2.1.trans (hB.mono h.2.2), Nat.le_trans h.2.2 hB.size⟩
  refine ⟨h.1.1, ?_⟩
  rcases h.1.2 with hn | ⟨g, cap, cur, fz, rfl, hb, hg, rest⟩
  · exact .inl hn
  · exact .inr ⟨g, cap, cur, fz, rfl, hb, (hB.block g (Array.getElem?_eq_some_iff.1 hg).1).trans hg, rest⟩
theorem buf_string {B : Nat} {v : Value} {n : Nat} {l : List UInt8} {W0 w : World} (h : Lib.OwnBuf B 5 v n (Lib.byteCells l) W0 w) : ∃ a c, v = .slice a l.length c ∧ (convert 61 9 (.slice a l.length c)).run Try.prog w = .ok (.string ⟨l.toArray⟩) w := by
  have hlen : l.length = n := by have := h.1.1; rw [Lib.byteCells_length] at this; omega
  subst hlen
  rcases h.1.2 with ⟨rfl, h0⟩ | ⟨g, cap, cur, fz, rfl, hb, hg, _, hc, _, hsz, ht⟩
  · have : l = [] := List.eq_nil_of_length_eq_zero h0
    subst this
    exact ⟨none, 0, rfl, run_convert_bytes_nil w 61 5 und61 und5 0 0 9 Try.underlying9⟩
  · refine ⟨some ⟨g, 0, none⟩, cap, rfl, run_convert_bytes_back w 61 9 5 ⟨g, 0, none⟩ cap l und61 und5 Try.underlying9 (fun j hj => ?_)⟩
    exact h.1.cells (g := g) rfl j _ (by simp [Lib.byteCells, List.getElem?_eq_getElem hj])
theorem parts5b : ∃ i, Try.prog.info? 5 = some i ∧ i.zero = some (.int .u8 0) ∧ i.size = 1 ∧ i.bytes = 1 := parts5
/-- What the reference's Tokens answers of a token's own text. -/
theorem own_bad {ob : ByteArray} (hs : ob.size < 4611686018427387904) {ts : List Tok} {st : LS} {F1 F2 F3 : Int} (hF : st.F = (F1, F2, F3)) (hr : rounds ob.data.toList = ts.map Rd.tok ++ st.rd.toList) (w : World) :
    Calls Try.prog 11 #[.string ob] w fun e w' => (∃ a c, e = .returned (.tuple #[.slice a (ts.map toG).length c, .agg (fL (F1, F2, F3)).toArray])) ∧ Below w.heap.size w w' := by
  refine (refG hs hr w).mono ?_
  rintro e w' ⟨⟨a, c, rfl, _⟩, B⟩
  exact ⟨⟨a, c, by rw [hF]⟩, B⟩
theorem own_single {ob : ByteArray} (hs : ob.size < 4611686018427387904) {t : Tok} (hr : rounds ob.data.toList = [.tok t]) (w : World) :
    Calls Try.prog 11 #[.string ob] w fun e w' => (∃ b o c, e = .returned (.tuple #[.slice (some ⟨b, o, none⟩) 1 c, .agg (fL (0, 0, 0)).toArray]) ∧ b < w'.heap.size ∧ w'.rangeAt b o (gtL (toG t))) ∧ Below w.heap.size w w' := by
  refine (refG hs (ts := [t]) (st := .ok 0) hr w).mono ?_
  rintro e w' ⟨⟨a, c, rfl, h⟩, B⟩
  refine ⟨?_, B⟩
  obtain ⟨b, o, rfl, hb, hg⟩ := h 0 (toG t) rfl
  exact ⟨b, o, c, rfl, hb, by rw [show o + 0 * 7 = o by omega] at hg; exact hg⟩
theorem cc_of {X : GT} {k : Int} {tx : ByteArray} (hne : ¬ (X.kind = k ∧ X.text = tx)) : X.kind = k → ¬ X.text.toList = tx.toList := fun h1 h2 => by
  rw [toL, toL] at h2
  exact hne ⟨h1, ByteArray.ext (by simpa using h2)⟩
theorem st_none {st : LS} (h : st.rd = none) : st.F = (0, 0, 0) := by cases st <;> simp_all [LS.rd, LS.F]

set_option maxRecDepth 100000 in
set_option maxHeartbeats 16000000 in
theorem rwrite_any (a : Option Addr) (cap : Nat) (gs : List GT) (hs : ∀ g ∈ gs, g.text.size ≤ 67108864) (hn : gs.length ≤ 67108864) (hbd : ∀ j, j ≤ gs.length → (joinF ((gs.take j).map ownG)).length ≤ 1099511627776) (w : World) (hT : Toks w a gs) :
    Calls Try.prog 23 #[.slice a gs.length cap] w fun e w' => e = .returned (writeV gs) ∧ Below w.heap.size w w' := by
  obtain ⟨i5, hi5, hz5, hsz5, hby5⟩ := parts5b
  have HBD : Hid (∀ j, j ≤ gs.length → (joinF ((gs.take j).map ownG)).length ≤ 1099511627776) := hbd
  have HTS : Hid (∀ g ∈ gs, g.text.size ≤ 67108864) := hs
  have HTK : Hid (Toks w a gs) := hT
  clear hbd hs hT
  go_enter Try.func23, Try.ntmps23
  go_wp2_with fail
  go_loopw [4, 5, 6, 7, 8] (fun v i _ _ _ wr => ∃ j : Nat, j ≤ gs.length ∧ i = .int .i64 (j : Int) ∧ Hid (∀ i g, i < j → gs[i]? = some g → saysG g = true) ∧ Hid (Lib.OwnBuf w.heap.size 5 v (joinF ((gs.take j).map ownG)).length (Lib.byteCells (joinF ((gs.take j).map ownG))) w wr)) (fun _ i _ _ _ _ => gs.length - (intOf i).toNat)
  case atStart => exact ⟨0, by omega, rfl, fun i g hi => absurd hi (Nat.not_lt_zero _), ⟨World.ownsRowF_nil _ _ _ _, Below.refl _ _, Nat.le_refl _⟩⟩
  case round =>
    obtain ⟨j, hj, rfl, HS, HB⟩ := hrel
    have hJl := HBD.out j hj
    obtain ⟨J, hJ⟩ : ∃ J, joinF ((gs.take j).map ownG) = J := ⟨_, rfl⟩
    rw [hJ] at HB hJl
    obtain ⟨av, cv, rfl, hconv⟩ := buf_string HB.out
    by_cases hlt : j < gs.length
    · have hi : (j : Int) < gs.length := by omega
      obtain ⟨g, hg⟩ : ∃ g, gs[j]? = some g := ⟨_, List.getElem?_eq_getElem hlt⟩
      have htx := HTS.out g (List.mem_of_getElem? hg)
      obtain ⟨b0, o0, rfl, hb0, hrg⟩ := HTK.out j g hg
      obtain ⟨k, tx, v, x1, x2, x3, x4⟩ := g
      dsimp only at htx
      have HWN : True := trivial
      have c1 : wr.cell? ⟨b0, o0 + j * 7 + 1, none⟩ = some (.string tx) := (HB.out.2.1.cell (p := ⟨b0, o0 + j * 7 + 1, none⟩) hb0).trans (hrg 1 _ rfl)
      have c0 : wr.cell? ⟨b0, o0 + j * 7, none⟩ = some (.int .i64 k) := (HB.out.2.1.cell (p := ⟨b0, o0 + j * 7, none⟩) hb0).trans (hrg 0 _ rfl)
      clear HTS HBD HTK hconv
      by_cases hk : k = 3
      · obtain ⟨OB, hOB⟩ : ∃ OB, ByteArray.mk #[34] ++ tx ++ ByteArray.mk #[34] = OB := ⟨_, rfl⟩
        have hob : OB.data.toList = ownG ⟨k, tx, v, x1, x2, x3, x4⟩ := (by unfold ownG ownF; dsimp only; rw [if_pos hk, ← hOB]; simp)
        have hobs : OB.size ≤ 67108868 := (by rw [← hOB]; simp [show (ByteArray.mk #[34]).size = 1 from rfl]; omega)
        have hk3 : (k == 3) = true := (by simp [hk])
        clear hk
        cases hsy : saysG ⟨k, tx, v, x1, x2, x3, x4⟩ with
        | true =>
          obtain ⟨kd, vl, hkd, hr1⟩ := says_one hsy
          have HSN : Hid (∀ i g, i < j + 1 → gs[i]? = some g → saysG g = true) := fun i g' hi hg' => (by
            rcases Nat.lt_or_ge i j with h | h
            · exact HS.out i g' h hg'
            · obtain rfl : i = j := by omega
              rw [hg] at hg'; cases hg'; exact hsy)
          have cT : ∀ w, Calls Try.prog 11 #[.string OB] w fun e w' => (∃ b o c, e = .returned (.tuple #[.slice (some ⟨b, o, none⟩) 1 c, .agg (fL (0, 0, 0)).toArray]) ∧ b < w'.heap.size ∧ w'.rangeAt b o (gtL (⟨k, tx, vl, 1, 1, 0, (OB.size : Int)⟩ : GT))) ∧ Below w.heap.size w w' := fun w => by
            have := own_single (ob := OB) (by omega) (t := ⟨kd, tx.data.toList, vl, 1, 1, 0, OB.size⟩) (by rw [hob, hr1, ← hob, ← sizeL]) w
            rw [show toG ⟨kd, tx.data.toList, vl, 1, 1, 0, OB.size⟩ = (⟨k, tx, vl, 1, 1, 0, (OB.size : Int)⟩ : GT) from (by simp [toG, hkd])] at this
            exact this
          have HJ1 : Hid (joinF ((gs.take (j + 1)).map ownG) = J ++ ((if 0 < j then [32] else []) ++ OB.data.toList)) := (by show _ = _; rw [join_step gs j _ hg, hJ, hob])
          clear hsy hr1 hkd hg HS HWN hob hJ
          by_cases hj0 : 0 < j
          · have hji : (0 : Int) < j := by omega
            rw [if_pos hj0] at HJ1
            clear hj0
            go_wp2_with (first
              | (go_at_call 11; refine (cT _).mono ?_; rintro e V1 ⟨⟨bo, oo, co, rfl, hbo1, RX1⟩, B1x⟩; have O1 := buf_below HB.out B1x; clear B1x HB cT)
              | (refine wpList_allocS rfl 30 rfl (fL (0, 0, 0)) Try.zeroValue30 ?_; intro V2 x8 F2 S2; have y8 : V1.heap.size ≤ x8 := Nat.le_of_eq F2.at'.symm; have BF : Below V1.heap.size V1 V2 := F2.trans (Below.refl _ _) (Nat.le_refl _); clear F2)
              | (refine wpList_storeS rfl 30 _ _ rfl rfl (fL (0, 0, 0)) rfl S2 (by simp [fL]) info30 (fL_one _) ?_; intro V3 U3 S3x; have S8 : IsS V3 x8 30 (fL (0, 0, 0)) := S3x; have BG : Below V1.heap.size V1 V3 := U3.trans BF y8; have O3 := buf_below O1 BG; have hbo : bo < V3.heap.size := Nat.lt_of_lt_of_le hbo1 BG.size; have RX : V3.rangeAt bo oo (gtL (⟨k, tx, vl, 1, 1, 0, (OB.size : Int)⟩ : GT)) := fun i u hu => (BG.cell (p := ⟨bo, oo + i, none⟩) hbo1).trans (RX1 i u hu); clear RX1 hbo1; clear U3 S3x S2 BF BG O1))
            have RG : V3.rangeAt b0 (o0 + j * 7) (gtL ⟨k, tx, v, x1, x2, x3, x4⟩) := fun i u hu => (O3.2.1.cell (p := ⟨b0, o0 + j * 7 + i, none⟩) hb0).trans (hrg i u hu)
            have hb0v : b0 < V3.heap.size := Nat.lt_of_lt_of_le hb0 O3.2.2
            have q6 : V3.cell? ⟨bo, oo + 6, none⟩ = some (.int .i64 (OB.size : Int)) := RX 6 _ rfl
            have q5 : V3.cell? ⟨bo, oo + 5, none⟩ = some (.int .i64 0) := RX 5 _ rfl
            refine grow_allW (by kernel_rfl) (by kernel_rfl) ?_
            refine WG.put rfl (v := .pointer (some ⟨x8, 2, none⟩)) (fun w => by first | rfl | (go_simp; done) | (simp [go_sem]; done)) ?_
            simp only [Act.put, List.setIfInBounds_toArray, List.set_cons_succ, List.set_cons_zero]
            refine WG.load1 rfl 3 _ rfl rfl S8 (v := .int .i64 0) rfl ld3 ?_
            simp only [Act.put, List.setIfInBounds_toArray, List.set_cons_succ, List.set_cons_zero]
            refine WG.put rfl (v := .bool false) (fun w => by first | rfl | (go_simp; done) | (simp [go_sem]; done)) ?_
            simp only [Act.put, List.setIfInBounds_toArray, List.set_cons_succ, List.set_cons_zero]
            refine WG.put rfl (v := .bool false) (fun w => by first | rfl | (go_simp; done) | (simp [go_sem]; done)) ?_
            simp only [Act.put, List.setIfInBounds_toArray, List.set_cons_succ, List.set_cons_zero]
            refine WG.put rfl (v := .slice (some ⟨bo, oo, none⟩) 1 co) (fun w => by first | rfl | (go_simp; done) | (simp [go_sem]; done)) ?_
            simp only [Act.put, List.setIfInBounds_toArray, List.set_cons_succ, List.set_cons_zero]
            refine WG.put rfl (v := .int .i64 1) (fun w => by first | rfl | (go_simp; done) | (simp [go_sem]; done)) ?_
            simp only [Act.put, List.setIfInBounds_toArray, List.set_cons_succ, List.set_cons_zero]
            refine WG.put rfl (v := .bool false) (fun w => by first | rfl | (go_simp; done) | (simp [go_sem]; done)) ?_
            simp only [Act.put, List.setIfInBounds_toArray, List.set_cons_succ, List.set_cons_zero]
            refine WG.put rfl (v := .bool false) (fun w => by first | rfl | (go_simp; done) | (simp [go_sem]; done)) ?_
            simp only [Act.put, List.setIfInBounds_toArray, List.set_cons_succ, List.set_cons_zero]
            refine WG.put rfl (v := .bool false) (fun w => by first | rfl | (go_simp; done) | (simp [go_sem]; done)) ?_
            simp only [Act.put, List.setIfInBounds_toArray, List.set_cons_succ, List.set_cons_zero]
            refine WG.put rfl (v := .slice (some ⟨bo, oo, none⟩) 1 co) (fun w => by first | rfl | (go_simp; done) | (simp [go_sem]; done)) ?_
            simp only [Act.put, List.setIfInBounds_toArray, List.set_cons_succ, List.set_cons_zero]
            refine WG.put rfl (v := .pointer (some ⟨bo, oo, none⟩)) (fun w => by first | rfl | (go_simp; done) | (simp [go_sem]; done)) ?_
            simp only [Act.put, List.setIfInBounds_toArray, List.set_cons_succ, List.set_cons_zero]
            refine WG.range rfl 38 _ rfl rfl (gtL (⟨k, tx, vl, 1, 1, 0, (OB.size : Int)⟩ : GT)) hbo RX _ Try.underlying38 rfl info38 ?_
            simp only [Act.put, List.setIfInBounds_toArray, List.set_cons_succ, List.set_cons_zero]
            refine WG.call rfl (f := 46) (args := #[.agg (gtL (⟨k, tx, vl, 1, 1, 0, (OB.size : Int)⟩ : GT)).toArray]) (v := .agg (gtL (bareG (⟨k, tx, vl, 1, 1, 0, (OB.size : Int)⟩ : GT))).toArray) (fun w _ => rbare_any (⟨k, tx, vl, 1, 1, 0, (OB.size : Int)⟩ : GT) w) (fun w => by first | rfl | (go_simp; done)) ?_
            simp only [Act.put, List.setIfInBounds_toArray, List.set_cons_succ, List.set_cons_zero]
            refine WG.put rfl (v := .slice (some ⟨b0, o0, none⟩) gs.length cap) (fun w => by first | rfl | (go_simp; done) | (simp [go_sem]; done)) ?_
            simp only [Act.put, List.setIfInBounds_toArray, List.set_cons_succ, List.set_cons_zero]
            refine WG.put rfl (v := .int .i64 (j : Int)) (fun w => by first | rfl | (go_simp; done) | (simp [go_sem]; done)) ?_
            simp only [Act.put, List.setIfInBounds_toArray, List.set_cons_succ, List.set_cons_zero]
            refine WG.put rfl (v := .pointer (some ⟨b0, o0 + j * 7, none⟩)) (fun w => by first | rfl | (go_simp; done) | (simp [go_sem]; done)) ?_
            simp only [Act.put, List.setIfInBounds_toArray, List.set_cons_succ, List.set_cons_zero]
            refine WG.range rfl 38 _ rfl rfl (gtL ⟨k, tx, v, x1, x2, x3, x4⟩) hb0v RG _ Try.underlying38 rfl info38 ?_
            simp only [Act.put, List.setIfInBounds_toArray, List.set_cons_succ, List.set_cons_zero]
            refine WG.call rfl (f := 46) (args := #[.agg (gtL ⟨k, tx, v, x1, x2, x3, x4⟩).toArray]) (v := .agg (gtL ⟨k, tx, 0, 0, 0, 0, 0⟩).toArray) (fun w _ => rbare_any ⟨k, tx, v, x1, x2, x3, x4⟩ w) (fun w => by first | rfl | (go_simp; done)) ?_
            simp only [Act.put, List.setIfInBounds_toArray, List.set_cons_succ, List.set_cons_zero]
            refine WG.put rfl (v := .bool false) (fun w => by first | rfl | (go_simp; done) | (simp [go_sem, gtL, bareG]; done)) ?_
            simp only [Act.put, List.setIfInBounds_toArray, List.set_cons_succ, List.set_cons_zero]
            refine WG.put rfl (v := .bool false) (fun w => by first | rfl | (go_simp; done) | (simp [go_sem]; done)) ?_
            simp only [Act.put, List.setIfInBounds_toArray, List.set_cons_succ, List.set_cons_zero]
            refine WG.put rfl (v := .bool false) (fun w => by first | rfl | (go_simp; done) | (simp [go_sem]; done)) ?_
            simp only [Act.put, List.setIfInBounds_toArray, List.set_cons_succ, List.set_cons_zero]
            refine WG.put rfl (v := .slice (some ⟨bo, oo, none⟩) 1 co) (fun w => by first | rfl | (go_simp; done) | (simp [go_sem]; done)) ?_
            simp only [Act.put, List.setIfInBounds_toArray, List.set_cons_succ, List.set_cons_zero]
            refine WG.put rfl (v := .pointer (some ⟨bo, oo, none⟩)) (fun w => by first | rfl | (go_simp; done) | (simp [go_sem]; done)) ?_
            simp only [Act.put, List.setIfInBounds_toArray, List.set_cons_succ, List.set_cons_zero]
            refine WG.put rfl (v := .pointer (some ⟨bo, oo + 6, none⟩)) (fun w => by first | rfl | (go_simp; done) | (simp [go_sem]; done)) ?_
            simp only [Act.put, List.setIfInBounds_toArray, List.set_cons_succ, List.set_cons_zero]
            refine WG.cell rfl 3 _ rfl rfl q6 ld3 ?_
            simp only [Act.put, List.setIfInBounds_toArray, List.set_cons_succ, List.set_cons_zero]
            refine WG.put rfl (v := .string OB) (fun w => by first | rfl | (go_simp; done) | (simp [go_sem]; done)) ?_
            simp only [Act.put, List.setIfInBounds_toArray, List.set_cons_succ, List.set_cons_zero]
            refine WG.put rfl (v := .int .i64 (OB.size : Int)) (fun w => by first | rfl | (go_simp; done) | (simp [go_sem]; done)) ?_
            simp only [Act.put, List.setIfInBounds_toArray, List.set_cons_succ, List.set_cons_zero]
            refine WG.put rfl (v := .bool false) (fun w => by first | rfl | (go_simp; done) | (simp [go_sem]; done)) ?_
            simp only [Act.put, List.setIfInBounds_toArray, List.set_cons_succ, List.set_cons_zero]
            refine WG.put rfl (v := .bool false) (fun w => by first | rfl | (go_simp; done) | (simp [go_sem]; done)) ?_
            simp only [Act.put, List.setIfInBounds_toArray, List.set_cons_succ, List.set_cons_zero]
            refine WG.put rfl (v := .bool false) (fun w => by first | rfl | (go_simp; done) | (simp [go_sem]; done)) ?_
            simp only [Act.put, List.setIfInBounds_toArray, List.set_cons_succ, List.set_cons_zero]
            refine WG.put rfl (v := .slice (some ⟨bo, oo, none⟩) 1 co) (fun w => by first | rfl | (go_simp; done) | (simp [go_sem]; done)) ?_
            simp only [Act.put, List.setIfInBounds_toArray, List.set_cons_succ, List.set_cons_zero]
            refine WG.put rfl (v := .pointer (some ⟨bo, oo, none⟩)) (fun w => by first | rfl | (go_simp; done) | (simp [go_sem]; done)) ?_
            simp only [Act.put, List.setIfInBounds_toArray, List.set_cons_succ, List.set_cons_zero]
            refine WG.put rfl (v := .pointer (some ⟨bo, oo + 5, none⟩)) (fun w => by first | rfl | (go_simp; done) | (simp [go_sem]; done)) ?_
            simp only [Act.put, List.setIfInBounds_toArray, List.set_cons_succ, List.set_cons_zero]
            refine WG.cell rfl 3 _ rfl rfl q5 ld3 ?_
            simp only [Act.put, List.setIfInBounds_toArray, List.set_cons_succ, List.set_cons_zero]
            refine WG.put rfl (v := .bool false) (fun w => by first | rfl | (go_simp; done) | (simp [go_sem]; done)) ?_
            simp only [Act.put, List.setIfInBounds_toArray, List.set_cons_succ, List.set_cons_zero]
            refine WG.put rfl (v := .bool false) (fun w => by first | rfl | (go_simp; done) | (simp [go_sem]; done)) ?_
            simp only [Act.put, List.setIfInBounds_toArray, List.set_cons_succ, List.set_cons_zero]
            refine WG.nil ?_
            intro V4 B4
            have O4 := buf_below O3 B4
            clear B4 O3 S8 RG RX q6 q5
            go_wp2_with (first
              | (refine Lib.wpList_append_byte rfl (.tmp 72) (.tmp 73) 61 rfl w.heap.size 5 i5 und61 hi5 hz5 hsz5 hby5 _ _ _ rfl w V4 32 O4 rfl (by omega) ?_; intro v5 V5 O5; clear O4)
              | (refine Lib.wpList_append_text rfl (.tmp 75) (.tmp 76) 61 9 rfl w.heap.size 5 i5 und61 Try.underlying9 hi5 hz5 hsz5 hby5 _ _ _ rfl w O5 OB rfl (by omega) ?_; intro v6 V6 O6; clear O5))
            have e2 : Lib.byteCells J ++ [.int .u8 32] ++ Lib.strCells OB = Lib.byteCells (J ++ ([32] ++ OB.data.toList)) := by simp [Lib.byteCells, Lib.strCells]
            have e3 : J.length + 1 + OB.size = (J ++ ([32] ++ OB.data.toList)).length := by rw [List.length_append, List.length_append, ← sizeL]; simp only [List.length_cons, List.length_nil]; omega
            rw [e2, e3] at O6
            have O7 : Hid (Lib.OwnBuf w.heap.size 5 v6 (joinF ((gs.take (j + 1)).map ownG)).length (Lib.byteCells (joinF ((gs.take (j + 1)).map ownG))) w V6) := (by rw [HJ1.out]; exact O6)
            clear O6 e2 e3
            try go_wp2_with fail
            go_roundw
            case rel => exact ⟨j + 1, by omega, by go_num, HSN, O7⟩
            case measure => simp [intOf]; omega
          · have hji : ¬ (0 : Int) < j := by omega
            rw [if_neg hj0] at HJ1
            clear hj0
            go_wp2_with (first
              | (go_at_call 11; refine (cT _).mono ?_; rintro e V1 ⟨⟨bo, oo, co, rfl, hbo1, RX1⟩, B1x⟩; have O1 := buf_below HB.out B1x; clear B1x HB cT)
              | (refine wpList_allocS rfl 30 rfl (fL (0, 0, 0)) Try.zeroValue30 ?_; intro V2 x8 F2 S2; have y8 : V1.heap.size ≤ x8 := Nat.le_of_eq F2.at'.symm; have BF : Below V1.heap.size V1 V2 := F2.trans (Below.refl _ _) (Nat.le_refl _); clear F2)
              | (refine wpList_storeS rfl 30 _ _ rfl rfl (fL (0, 0, 0)) rfl S2 (by simp [fL]) info30 (fL_one _) ?_; intro V3 U3 S3x; have S8 : IsS V3 x8 30 (fL (0, 0, 0)) := S3x; have BG : Below V1.heap.size V1 V3 := U3.trans BF y8; have O3 := buf_below O1 BG; have hbo : bo < V3.heap.size := Nat.lt_of_lt_of_le hbo1 BG.size; have RX : V3.rangeAt bo oo (gtL (⟨k, tx, vl, 1, 1, 0, (OB.size : Int)⟩ : GT)) := fun i u hu => (BG.cell (p := ⟨bo, oo + i, none⟩) hbo1).trans (RX1 i u hu); clear RX1 hbo1; clear U3 S3x S2 BF BG O1))
            have RG : V3.rangeAt b0 (o0 + j * 7) (gtL ⟨k, tx, v, x1, x2, x3, x4⟩) := fun i u hu => (O3.2.1.cell (p := ⟨b0, o0 + j * 7 + i, none⟩) hb0).trans (hrg i u hu)
            have hb0v : b0 < V3.heap.size := Nat.lt_of_lt_of_le hb0 O3.2.2
            have q6 : V3.cell? ⟨bo, oo + 6, none⟩ = some (.int .i64 (OB.size : Int)) := RX 6 _ rfl
            have q5 : V3.cell? ⟨bo, oo + 5, none⟩ = some (.int .i64 0) := RX 5 _ rfl
            refine grow_allW (by kernel_rfl) (by kernel_rfl) ?_
            refine WG.put rfl (v := .pointer (some ⟨x8, 2, none⟩)) (fun w => by first | rfl | (go_simp; done) | (simp [go_sem]; done)) ?_
            simp only [Act.put, List.setIfInBounds_toArray, List.set_cons_succ, List.set_cons_zero]
            refine WG.load1 rfl 3 _ rfl rfl S8 (v := .int .i64 0) rfl ld3 ?_
            simp only [Act.put, List.setIfInBounds_toArray, List.set_cons_succ, List.set_cons_zero]
            refine WG.put rfl (v := .bool false) (fun w => by first | rfl | (go_simp; done) | (simp [go_sem]; done)) ?_
            simp only [Act.put, List.setIfInBounds_toArray, List.set_cons_succ, List.set_cons_zero]
            refine WG.put rfl (v := .bool false) (fun w => by first | rfl | (go_simp; done) | (simp [go_sem]; done)) ?_
            simp only [Act.put, List.setIfInBounds_toArray, List.set_cons_succ, List.set_cons_zero]
            refine WG.put rfl (v := .slice (some ⟨bo, oo, none⟩) 1 co) (fun w => by first | rfl | (go_simp; done) | (simp [go_sem]; done)) ?_
            simp only [Act.put, List.setIfInBounds_toArray, List.set_cons_succ, List.set_cons_zero]
            refine WG.put rfl (v := .int .i64 1) (fun w => by first | rfl | (go_simp; done) | (simp [go_sem]; done)) ?_
            simp only [Act.put, List.setIfInBounds_toArray, List.set_cons_succ, List.set_cons_zero]
            refine WG.put rfl (v := .bool false) (fun w => by first | rfl | (go_simp; done) | (simp [go_sem]; done)) ?_
            simp only [Act.put, List.setIfInBounds_toArray, List.set_cons_succ, List.set_cons_zero]
            refine WG.put rfl (v := .bool false) (fun w => by first | rfl | (go_simp; done) | (simp [go_sem]; done)) ?_
            simp only [Act.put, List.setIfInBounds_toArray, List.set_cons_succ, List.set_cons_zero]
            refine WG.put rfl (v := .bool false) (fun w => by first | rfl | (go_simp; done) | (simp [go_sem]; done)) ?_
            simp only [Act.put, List.setIfInBounds_toArray, List.set_cons_succ, List.set_cons_zero]
            refine WG.put rfl (v := .slice (some ⟨bo, oo, none⟩) 1 co) (fun w => by first | rfl | (go_simp; done) | (simp [go_sem]; done)) ?_
            simp only [Act.put, List.setIfInBounds_toArray, List.set_cons_succ, List.set_cons_zero]
            refine WG.put rfl (v := .pointer (some ⟨bo, oo, none⟩)) (fun w => by first | rfl | (go_simp; done) | (simp [go_sem]; done)) ?_
            simp only [Act.put, List.setIfInBounds_toArray, List.set_cons_succ, List.set_cons_zero]
            refine WG.range rfl 38 _ rfl rfl (gtL (⟨k, tx, vl, 1, 1, 0, (OB.size : Int)⟩ : GT)) hbo RX _ Try.underlying38 rfl info38 ?_
            simp only [Act.put, List.setIfInBounds_toArray, List.set_cons_succ, List.set_cons_zero]
            refine WG.call rfl (f := 46) (args := #[.agg (gtL (⟨k, tx, vl, 1, 1, 0, (OB.size : Int)⟩ : GT)).toArray]) (v := .agg (gtL (bareG (⟨k, tx, vl, 1, 1, 0, (OB.size : Int)⟩ : GT))).toArray) (fun w _ => rbare_any (⟨k, tx, vl, 1, 1, 0, (OB.size : Int)⟩ : GT) w) (fun w => by first | rfl | (go_simp; done)) ?_
            simp only [Act.put, List.setIfInBounds_toArray, List.set_cons_succ, List.set_cons_zero]
            refine WG.put rfl (v := .slice (some ⟨b0, o0, none⟩) gs.length cap) (fun w => by first | rfl | (go_simp; done) | (simp [go_sem]; done)) ?_
            simp only [Act.put, List.setIfInBounds_toArray, List.set_cons_succ, List.set_cons_zero]
            refine WG.put rfl (v := .int .i64 (j : Int)) (fun w => by first | rfl | (go_simp; done) | (simp [go_sem]; done)) ?_
            simp only [Act.put, List.setIfInBounds_toArray, List.set_cons_succ, List.set_cons_zero]
            refine WG.put rfl (v := .pointer (some ⟨b0, o0 + j * 7, none⟩)) (fun w => by first | rfl | (go_simp; done) | (simp [go_sem]; done)) ?_
            simp only [Act.put, List.setIfInBounds_toArray, List.set_cons_succ, List.set_cons_zero]
            refine WG.range rfl 38 _ rfl rfl (gtL ⟨k, tx, v, x1, x2, x3, x4⟩) hb0v RG _ Try.underlying38 rfl info38 ?_
            simp only [Act.put, List.setIfInBounds_toArray, List.set_cons_succ, List.set_cons_zero]
            refine WG.call rfl (f := 46) (args := #[.agg (gtL ⟨k, tx, v, x1, x2, x3, x4⟩).toArray]) (v := .agg (gtL ⟨k, tx, 0, 0, 0, 0, 0⟩).toArray) (fun w _ => rbare_any ⟨k, tx, v, x1, x2, x3, x4⟩ w) (fun w => by first | rfl | (go_simp; done)) ?_
            simp only [Act.put, List.setIfInBounds_toArray, List.set_cons_succ, List.set_cons_zero]
            refine WG.put rfl (v := .bool false) (fun w => by first | rfl | (go_simp; done) | (simp [go_sem, gtL, bareG]; done)) ?_
            simp only [Act.put, List.setIfInBounds_toArray, List.set_cons_succ, List.set_cons_zero]
            refine WG.put rfl (v := .bool false) (fun w => by first | rfl | (go_simp; done) | (simp [go_sem]; done)) ?_
            simp only [Act.put, List.setIfInBounds_toArray, List.set_cons_succ, List.set_cons_zero]
            refine WG.put rfl (v := .bool false) (fun w => by first | rfl | (go_simp; done) | (simp [go_sem]; done)) ?_
            simp only [Act.put, List.setIfInBounds_toArray, List.set_cons_succ, List.set_cons_zero]
            refine WG.put rfl (v := .slice (some ⟨bo, oo, none⟩) 1 co) (fun w => by first | rfl | (go_simp; done) | (simp [go_sem]; done)) ?_
            simp only [Act.put, List.setIfInBounds_toArray, List.set_cons_succ, List.set_cons_zero]
            refine WG.put rfl (v := .pointer (some ⟨bo, oo, none⟩)) (fun w => by first | rfl | (go_simp; done) | (simp [go_sem]; done)) ?_
            simp only [Act.put, List.setIfInBounds_toArray, List.set_cons_succ, List.set_cons_zero]
            refine WG.put rfl (v := .pointer (some ⟨bo, oo + 6, none⟩)) (fun w => by first | rfl | (go_simp; done) | (simp [go_sem]; done)) ?_
            simp only [Act.put, List.setIfInBounds_toArray, List.set_cons_succ, List.set_cons_zero]
            refine WG.cell rfl 3 _ rfl rfl q6 ld3 ?_
            simp only [Act.put, List.setIfInBounds_toArray, List.set_cons_succ, List.set_cons_zero]
            refine WG.put rfl (v := .string OB) (fun w => by first | rfl | (go_simp; done) | (simp [go_sem]; done)) ?_
            simp only [Act.put, List.setIfInBounds_toArray, List.set_cons_succ, List.set_cons_zero]
            refine WG.put rfl (v := .int .i64 (OB.size : Int)) (fun w => by first | rfl | (go_simp; done) | (simp [go_sem]; done)) ?_
            simp only [Act.put, List.setIfInBounds_toArray, List.set_cons_succ, List.set_cons_zero]
            refine WG.put rfl (v := .bool false) (fun w => by first | rfl | (go_simp; done) | (simp [go_sem]; done)) ?_
            simp only [Act.put, List.setIfInBounds_toArray, List.set_cons_succ, List.set_cons_zero]
            refine WG.put rfl (v := .bool false) (fun w => by first | rfl | (go_simp; done) | (simp [go_sem]; done)) ?_
            simp only [Act.put, List.setIfInBounds_toArray, List.set_cons_succ, List.set_cons_zero]
            refine WG.put rfl (v := .bool false) (fun w => by first | rfl | (go_simp; done) | (simp [go_sem]; done)) ?_
            simp only [Act.put, List.setIfInBounds_toArray, List.set_cons_succ, List.set_cons_zero]
            refine WG.put rfl (v := .slice (some ⟨bo, oo, none⟩) 1 co) (fun w => by first | rfl | (go_simp; done) | (simp [go_sem]; done)) ?_
            simp only [Act.put, List.setIfInBounds_toArray, List.set_cons_succ, List.set_cons_zero]
            refine WG.put rfl (v := .pointer (some ⟨bo, oo, none⟩)) (fun w => by first | rfl | (go_simp; done) | (simp [go_sem]; done)) ?_
            simp only [Act.put, List.setIfInBounds_toArray, List.set_cons_succ, List.set_cons_zero]
            refine WG.put rfl (v := .pointer (some ⟨bo, oo + 5, none⟩)) (fun w => by first | rfl | (go_simp; done) | (simp [go_sem]; done)) ?_
            simp only [Act.put, List.setIfInBounds_toArray, List.set_cons_succ, List.set_cons_zero]
            refine WG.cell rfl 3 _ rfl rfl q5 ld3 ?_
            simp only [Act.put, List.setIfInBounds_toArray, List.set_cons_succ, List.set_cons_zero]
            refine WG.put rfl (v := .bool false) (fun w => by first | rfl | (go_simp; done) | (simp [go_sem]; done)) ?_
            simp only [Act.put, List.setIfInBounds_toArray, List.set_cons_succ, List.set_cons_zero]
            refine WG.put rfl (v := .bool false) (fun w => by first | rfl | (go_simp; done) | (simp [go_sem]; done)) ?_
            simp only [Act.put, List.setIfInBounds_toArray, List.set_cons_succ, List.set_cons_zero]
            refine WG.nil ?_
            intro V4 B4
            have O4 := buf_below O3 B4
            clear B4 O3 S8 RG RX q6 q5
            go_wp2_with (first
              | (refine Lib.wpList_append_text rfl (.tmp 75) (.tmp 76) 61 9 rfl w.heap.size 5 i5 und61 Try.underlying9 hi5 hz5 hsz5 hby5 _ _ _ rfl w O4 OB rfl (by omega) ?_; intro v6 V6 O6; clear O4))
            have e2 : Lib.byteCells J ++ Lib.strCells OB = Lib.byteCells (J ++ ([] ++ OB.data.toList)) := by simp [Lib.byteCells, Lib.strCells]
            have e3 : J.length + OB.size = (J ++ ([] ++ OB.data.toList)).length := by rw [List.length_append, List.length_append, ← sizeL]; simp only [List.length_cons, List.length_nil]; omega
            rw [e2, e3] at O6
            have O7 : Hid (Lib.OwnBuf w.heap.size 5 v6 (joinF ((gs.take (j + 1)).map ownG)).length (Lib.byteCells (joinF ((gs.take (j + 1)).map ownG))) w V6) := (by rw [HJ1.out]; exact O6)
            clear O6 e2 e3
            try go_wp2_with fail
            go_roundw
            case rel => exact ⟨j + 1, by omega, by go_num, HSN, O7⟩
            case measure => simp [intOf]; omega
        | false =>
          have HW : Hid (writeV gs = .tuple #[.string ⟨#[]⟩, .int .i64 50]) := write_none hg hsy
          obtain ⟨ts, st, hr, hl, hst⟩ := dec_ex OB.data.toList
          have hn := says_not hsy (by rw [← hob]; exact hr) hst
          clear HWN HS hg hJ
          rcases hn with hn | ⟨hn, hn2 | ⟨t, rfl, hn2⟩⟩
          · obtain ⟨⟨F1, F2, F3⟩, hF⟩ : ∃ F, st.F = F := ⟨_, rfl⟩
            have h31 : (F3 != 0) = true := (by rw [hF] at hn; simpa using hn)
            have h30 : (F3 == 0) = false := (by rw [hF] at hn; simpa using hn)
            have cT := fun w => own_bad (ob := OB) (by omega) hF hr w
            clear hn hst hr hl hob hsy hF
            generalize (ts.map toG).length = N at cT
            go_wp2_with (first
              | (go_at_call 11; refine (cT _).mono ?_; rintro e V1 ⟨⟨ao, co, rfl⟩, B1x⟩; have O1 := buf_below HB.out B1x; clear B1x HB cT)
              | (refine wpList_allocS rfl 30 rfl (fL (0, 0, 0)) Try.zeroValue30 ?_; intro V2 x8 F2 S2; have y8 : V1.heap.size ≤ x8 := Nat.le_of_eq F2.at'.symm; have BF : Below V1.heap.size V1 V2 := F2.trans (Below.refl _ _) (Nat.le_refl _); clear F2)
              | (refine wpList_storeS rfl 30 _ _ rfl rfl (fL (F1, F2, F3)) rfl S2 (by simp [fL]) info30 (fL_one _) ?_; intro V3 U3 S3x; have S8 : IsS V3 x8 30 (fL (F1, F2, F3)) := S3x; have BG : Below V1.heap.size V1 V3 := U3.trans BF y8; have O3 := buf_below O1 BG; clear U3 S3x S2 BF BG O1))
            have RG : V3.rangeAt b0 (o0 + j * 7) (gtL ⟨k, tx, v, x1, x2, x3, x4⟩) := fun i u hu => (O3.2.1.cell (p := ⟨b0, o0 + j * 7 + i, none⟩) hb0).trans (hrg i u hu)
            have hb0v : b0 < V3.heap.size := Nat.lt_of_lt_of_le hb0 O3.2.2
            refine grow_allW (by kernel_rfl) (by kernel_rfl) ?_
            refine WG.put rfl (v := .pointer (some ⟨x8, 2, none⟩)) (fun w => by first | rfl | (go_simp; done) | (simp [go_sem]; done)) ?_
            simp only [Act.put, List.setIfInBounds_toArray, List.set_cons_succ, List.set_cons_zero]
            refine WG.load1 rfl 3 _ rfl rfl S8 (v := .int .i64 F3) rfl ld3 ?_
            simp only [Act.put, List.setIfInBounds_toArray, List.set_cons_succ, List.set_cons_zero]
            refine WG.put rfl (v := .bool true) (fun w => by first | rfl | (go_simp; done) | (simp [go_sem, h31]; done)) ?_
            simp only [Act.put, List.setIfInBounds_toArray, List.set_cons_succ, List.set_cons_zero]
            refine WG.put rfl (v := .bool true) (fun w => by first | rfl | (go_simp; done) | (simp [go_sem]; done)) ?_
            simp only [Act.put, List.setIfInBounds_toArray, List.set_cons_succ, List.set_cons_zero]
            refine WG.skip rfl ?_
            simp only [Act.put, List.setIfInBounds_toArray, List.set_cons_succ, List.set_cons_zero]
            refine WG.skip rfl ?_
            simp only [Act.put, List.setIfInBounds_toArray, List.set_cons_succ, List.set_cons_zero]
            refine WG.skip rfl ?_
            simp only [Act.put, List.setIfInBounds_toArray, List.set_cons_succ, List.set_cons_zero]
            refine WG.put rfl (v := .bool true) (fun w => by first | rfl | (go_simp; done) | (simp [go_sem]; done)) ?_
            simp only [Act.put, List.setIfInBounds_toArray, List.set_cons_succ, List.set_cons_zero]
            refine WG.put rfl (v := .bool true) (fun w => by first | rfl | (go_simp; done) | (simp [go_sem]; done)) ?_
            simp only [Act.put, List.setIfInBounds_toArray, List.set_cons_succ, List.set_cons_zero]
            refine WG.skip rfl ?_
            simp only [Act.put, List.setIfInBounds_toArray, List.set_cons_succ, List.set_cons_zero]
            refine WG.skip rfl ?_
            simp only [Act.put, List.setIfInBounds_toArray, List.set_cons_succ, List.set_cons_zero]
            refine WG.skip rfl ?_
            simp only [Act.put, List.setIfInBounds_toArray, List.set_cons_succ, List.set_cons_zero]
            refine WG.skip rfl ?_
            simp only [Act.put, List.setIfInBounds_toArray, List.set_cons_succ, List.set_cons_zero]
            refine WG.skip rfl ?_
            simp only [Act.put, List.setIfInBounds_toArray, List.set_cons_succ, List.set_cons_zero]
            refine WG.skip rfl ?_
            simp only [Act.put, List.setIfInBounds_toArray, List.set_cons_succ, List.set_cons_zero]
            refine WG.skip rfl ?_
            simp only [Act.put, List.setIfInBounds_toArray, List.set_cons_succ, List.set_cons_zero]
            refine WG.skip rfl ?_
            simp only [Act.put, List.setIfInBounds_toArray, List.set_cons_succ, List.set_cons_zero]
            refine WG.skip rfl ?_
            simp only [Act.put, List.setIfInBounds_toArray, List.set_cons_succ, List.set_cons_zero]
            refine WG.skip rfl ?_
            simp only [Act.put, List.setIfInBounds_toArray, List.set_cons_succ, List.set_cons_zero]
            refine WG.put rfl (v := .bool true) (fun w => by first | rfl | (go_simp; done) | (simp [go_sem]; done)) ?_
            simp only [Act.put, List.setIfInBounds_toArray, List.set_cons_succ, List.set_cons_zero]
            refine WG.put rfl (v := .bool true) (fun w => by first | rfl | (go_simp; done) | (simp [go_sem]; done)) ?_
            simp only [Act.put, List.setIfInBounds_toArray, List.set_cons_succ, List.set_cons_zero]
            refine WG.skip rfl ?_
            simp only [Act.put, List.setIfInBounds_toArray, List.set_cons_succ, List.set_cons_zero]
            refine WG.skip rfl ?_
            simp only [Act.put, List.setIfInBounds_toArray, List.set_cons_succ, List.set_cons_zero]
            refine WG.skip rfl ?_
            simp only [Act.put, List.setIfInBounds_toArray, List.set_cons_succ, List.set_cons_zero]
            refine WG.skip rfl ?_
            simp only [Act.put, List.setIfInBounds_toArray, List.set_cons_succ, List.set_cons_zero]
            refine WG.skip rfl ?_
            simp only [Act.put, List.setIfInBounds_toArray, List.set_cons_succ, List.set_cons_zero]
            refine WG.skip rfl ?_
            simp only [Act.put, List.setIfInBounds_toArray, List.set_cons_succ, List.set_cons_zero]
            refine WG.skip rfl ?_
            simp only [Act.put, List.setIfInBounds_toArray, List.set_cons_succ, List.set_cons_zero]
            refine WG.put rfl (v := .bool true) (fun w => by first | rfl | (go_simp; done) | (simp [go_sem]; done)) ?_
            simp only [Act.put, List.setIfInBounds_toArray, List.set_cons_succ, List.set_cons_zero]
            refine WG.put rfl (v := .bool true) (fun w => by first | rfl | (go_simp; done) | (simp [go_sem]; done)) ?_
            simp only [Act.put, List.setIfInBounds_toArray, List.set_cons_succ, List.set_cons_zero]
            refine WG.skip rfl ?_
            simp only [Act.put, List.setIfInBounds_toArray, List.set_cons_succ, List.set_cons_zero]
            refine WG.skip rfl ?_
            simp only [Act.put, List.setIfInBounds_toArray, List.set_cons_succ, List.set_cons_zero]
            refine WG.skip rfl ?_
            simp only [Act.put, List.setIfInBounds_toArray, List.set_cons_succ, List.set_cons_zero]
            refine WG.skip rfl ?_
            simp only [Act.put, List.setIfInBounds_toArray, List.set_cons_succ, List.set_cons_zero]
            refine WG.skip rfl ?_
            simp only [Act.put, List.setIfInBounds_toArray, List.set_cons_succ, List.set_cons_zero]
            refine WG.put rfl (v := .bool true) (fun w => by first | rfl | (go_simp; done) | (simp [go_sem]; done)) ?_
            simp only [Act.put, List.setIfInBounds_toArray, List.set_cons_succ, List.set_cons_zero]
            refine WG.nil ?_
            intro V4 B4
            have O4 := buf_below O3 B4
            clear B4 O3 S8 RG
            go_wp2_with fail
            go_ret2
            exact ⟨by rw [HW.out]; rfl, O4.2.1⟩
          · have cT := fun w => own_bad (ob := OB) (by omega) (st_none hn) hr w
            rw [List.length_map] at cT
            have hN : ((ts.length : Int) != 1) = true := (by simp; omega)
            have hN2 : ((ts.length : Int) == 1) = false := (by simp; omega)
            clear hn hst hr hl hob hsy hn2
            generalize ts.length = N at cT hN hN2
            go_wp2_with (first
              | (go_at_call 11; refine (cT _).mono ?_; rintro e V1 ⟨⟨ao, co, rfl⟩, B1x⟩; have O1 := buf_below HB.out B1x; clear B1x HB cT)
              | (refine wpList_allocS rfl 30 rfl (fL (0, 0, 0)) Try.zeroValue30 ?_; intro V2 x8 F2 S2; have y8 : V1.heap.size ≤ x8 := Nat.le_of_eq F2.at'.symm; have BF : Below V1.heap.size V1 V2 := F2.trans (Below.refl _ _) (Nat.le_refl _); clear F2)
              | (refine wpList_storeS rfl 30 _ _ rfl rfl (fL (0, 0, 0)) rfl S2 (by simp [fL]) info30 (fL_one _) ?_; intro V3 U3 S3x; have S8 : IsS V3 x8 30 (fL (0, 0, 0)) := S3x; have BG : Below V1.heap.size V1 V3 := U3.trans BF y8; have O3 := buf_below O1 BG; clear U3 S3x S2 BF BG O1))
            have RG : V3.rangeAt b0 (o0 + j * 7) (gtL ⟨k, tx, v, x1, x2, x3, x4⟩) := fun i u hu => (O3.2.1.cell (p := ⟨b0, o0 + j * 7 + i, none⟩) hb0).trans (hrg i u hu)
            have hb0v : b0 < V3.heap.size := Nat.lt_of_lt_of_le hb0 O3.2.2
            refine grow_allW (by kernel_rfl) (by kernel_rfl) ?_
            refine WG.put rfl (v := .pointer (some ⟨x8, 2, none⟩)) (fun w => by first | rfl | (go_simp; done) | (simp [go_sem]; done)) ?_
            simp only [Act.put, List.setIfInBounds_toArray, List.set_cons_succ, List.set_cons_zero]
            refine WG.load1 rfl 3 _ rfl rfl S8 (v := .int .i64 0) rfl ld3 ?_
            simp only [Act.put, List.setIfInBounds_toArray, List.set_cons_succ, List.set_cons_zero]
            refine WG.put rfl (v := .bool false) (fun w => by first | rfl | (go_simp; done) | (simp [go_sem]; done)) ?_
            simp only [Act.put, List.setIfInBounds_toArray, List.set_cons_succ, List.set_cons_zero]
            refine WG.put rfl (v := .bool false) (fun w => by first | rfl | (go_simp; done) | (simp [go_sem]; done)) ?_
            simp only [Act.put, List.setIfInBounds_toArray, List.set_cons_succ, List.set_cons_zero]
            refine WG.put rfl (v := .slice ao N co) (fun w => by first | rfl | (go_simp; done) | (simp [go_sem]; done)) ?_
            simp only [Act.put, List.setIfInBounds_toArray, List.set_cons_succ, List.set_cons_zero]
            refine WG.put rfl (v := .int .i64 (N : Int)) (fun w => by first | rfl | (go_simp; done) | (simp [go_sem]; done)) ?_
            simp only [Act.put, List.setIfInBounds_toArray, List.set_cons_succ, List.set_cons_zero]
            refine WG.put rfl (v := .bool true) (fun w => by first | rfl | (go_simp; done) | (simp [go_sem, hN]; done)) ?_
            simp only [Act.put, List.setIfInBounds_toArray, List.set_cons_succ, List.set_cons_zero]
            refine WG.put rfl (v := .bool true) (fun w => by first | rfl | (go_simp; done) | (simp [go_sem]; done)) ?_
            simp only [Act.put, List.setIfInBounds_toArray, List.set_cons_succ, List.set_cons_zero]
            refine WG.put rfl (v := .bool true) (fun w => by first | rfl | (go_simp; done) | (simp [go_sem]; done)) ?_
            simp only [Act.put, List.setIfInBounds_toArray, List.set_cons_succ, List.set_cons_zero]
            refine WG.skip rfl ?_
            simp only [Act.put, List.setIfInBounds_toArray, List.set_cons_succ, List.set_cons_zero]
            refine WG.skip rfl ?_
            simp only [Act.put, List.setIfInBounds_toArray, List.set_cons_succ, List.set_cons_zero]
            refine WG.skip rfl ?_
            simp only [Act.put, List.setIfInBounds_toArray, List.set_cons_succ, List.set_cons_zero]
            refine WG.skip rfl ?_
            simp only [Act.put, List.setIfInBounds_toArray, List.set_cons_succ, List.set_cons_zero]
            refine WG.skip rfl ?_
            simp only [Act.put, List.setIfInBounds_toArray, List.set_cons_succ, List.set_cons_zero]
            refine WG.skip rfl ?_
            simp only [Act.put, List.setIfInBounds_toArray, List.set_cons_succ, List.set_cons_zero]
            refine WG.skip rfl ?_
            simp only [Act.put, List.setIfInBounds_toArray, List.set_cons_succ, List.set_cons_zero]
            refine WG.skip rfl ?_
            simp only [Act.put, List.setIfInBounds_toArray, List.set_cons_succ, List.set_cons_zero]
            refine WG.skip rfl ?_
            simp only [Act.put, List.setIfInBounds_toArray, List.set_cons_succ, List.set_cons_zero]
            refine WG.skip rfl ?_
            simp only [Act.put, List.setIfInBounds_toArray, List.set_cons_succ, List.set_cons_zero]
            refine WG.put rfl (v := .bool true) (fun w => by first | rfl | (go_simp; done) | (simp [go_sem]; done)) ?_
            simp only [Act.put, List.setIfInBounds_toArray, List.set_cons_succ, List.set_cons_zero]
            refine WG.put rfl (v := .bool true) (fun w => by first | rfl | (go_simp; done) | (simp [go_sem]; done)) ?_
            simp only [Act.put, List.setIfInBounds_toArray, List.set_cons_succ, List.set_cons_zero]
            refine WG.skip rfl ?_
            simp only [Act.put, List.setIfInBounds_toArray, List.set_cons_succ, List.set_cons_zero]
            refine WG.skip rfl ?_
            simp only [Act.put, List.setIfInBounds_toArray, List.set_cons_succ, List.set_cons_zero]
            refine WG.skip rfl ?_
            simp only [Act.put, List.setIfInBounds_toArray, List.set_cons_succ, List.set_cons_zero]
            refine WG.skip rfl ?_
            simp only [Act.put, List.setIfInBounds_toArray, List.set_cons_succ, List.set_cons_zero]
            refine WG.skip rfl ?_
            simp only [Act.put, List.setIfInBounds_toArray, List.set_cons_succ, List.set_cons_zero]
            refine WG.skip rfl ?_
            simp only [Act.put, List.setIfInBounds_toArray, List.set_cons_succ, List.set_cons_zero]
            refine WG.skip rfl ?_
            simp only [Act.put, List.setIfInBounds_toArray, List.set_cons_succ, List.set_cons_zero]
            refine WG.put rfl (v := .bool true) (fun w => by first | rfl | (go_simp; done) | (simp [go_sem]; done)) ?_
            simp only [Act.put, List.setIfInBounds_toArray, List.set_cons_succ, List.set_cons_zero]
            refine WG.put rfl (v := .bool true) (fun w => by first | rfl | (go_simp; done) | (simp [go_sem]; done)) ?_
            simp only [Act.put, List.setIfInBounds_toArray, List.set_cons_succ, List.set_cons_zero]
            refine WG.skip rfl ?_
            simp only [Act.put, List.setIfInBounds_toArray, List.set_cons_succ, List.set_cons_zero]
            refine WG.skip rfl ?_
            simp only [Act.put, List.setIfInBounds_toArray, List.set_cons_succ, List.set_cons_zero]
            refine WG.skip rfl ?_
            simp only [Act.put, List.setIfInBounds_toArray, List.set_cons_succ, List.set_cons_zero]
            refine WG.skip rfl ?_
            simp only [Act.put, List.setIfInBounds_toArray, List.set_cons_succ, List.set_cons_zero]
            refine WG.skip rfl ?_
            simp only [Act.put, List.setIfInBounds_toArray, List.set_cons_succ, List.set_cons_zero]
            refine WG.put rfl (v := .bool true) (fun w => by first | rfl | (go_simp; done) | (simp [go_sem]; done)) ?_
            simp only [Act.put, List.setIfInBounds_toArray, List.set_cons_succ, List.set_cons_zero]
            refine WG.nil ?_
            intro V4 B4
            have O4 := buf_below O3 B4
            clear B4 O3 S8 RG
            go_wp2_with fail
            go_ret2
            exact ⟨by rw [HW.out]; rfl, O4.2.1⟩
          · have cT := fun w => own_single (ob := OB) (by omega) (t := t) (by rw [hr, hn]; rfl) w
            have hne : ¬ ((toG t).kind = k ∧ (toG t).text = tx) := (fun h => hn2 ⟨h.1, by have := congrArg (fun b : ByteArray => b.data.toList) h.2; simpa [toG] using this⟩)
            generalize toG t = X at cT hne
            have hCC : Hid (X.kind = k → ¬ X.text.toList = tx.toList) := cc_of hne
            clear hn hst hr hl hob hsy hn2 hne
            go_wp2_with (first
              | (go_at_call 11; refine (cT _).mono ?_; rintro e V1 ⟨⟨bo, oo, co, rfl, hbo1, RX1⟩, B1x⟩; have O1 := buf_below HB.out B1x; clear B1x HB cT)
              | (refine wpList_allocS rfl 30 rfl (fL (0, 0, 0)) Try.zeroValue30 ?_; intro V2 x8 F2 S2; have y8 : V1.heap.size ≤ x8 := Nat.le_of_eq F2.at'.symm; have BF : Below V1.heap.size V1 V2 := F2.trans (Below.refl _ _) (Nat.le_refl _); clear F2)
              | (refine wpList_storeS rfl 30 _ _ rfl rfl (fL (0, 0, 0)) rfl S2 (by simp [fL]) info30 (fL_one _) ?_; intro V3 U3 S3x; have S8 : IsS V3 x8 30 (fL (0, 0, 0)) := S3x; have BG : Below V1.heap.size V1 V3 := U3.trans BF y8; have O3 := buf_below O1 BG; have hbo : bo < V3.heap.size := Nat.lt_of_lt_of_le hbo1 BG.size; have RX : V3.rangeAt bo oo (gtL X) := fun i u hu => (BG.cell (p := ⟨bo, oo + i, none⟩) hbo1).trans (RX1 i u hu); clear RX1 hbo1; clear U3 S3x S2 BF BG O1))
            have RG : V3.rangeAt b0 (o0 + j * 7) (gtL ⟨k, tx, v, x1, x2, x3, x4⟩) := fun i u hu => (O3.2.1.cell (p := ⟨b0, o0 + j * 7 + i, none⟩) hb0).trans (hrg i u hu)
            have hb0v : b0 < V3.heap.size := Nat.lt_of_lt_of_le hb0 O3.2.2
            refine grow_allW (by kernel_rfl) (by kernel_rfl) ?_
            refine WG.put rfl (v := .pointer (some ⟨x8, 2, none⟩)) (fun w => by first | rfl | (go_simp; done) | (simp [go_sem]; done)) ?_
            simp only [Act.put, List.setIfInBounds_toArray, List.set_cons_succ, List.set_cons_zero]
            refine WG.load1 rfl 3 _ rfl rfl S8 (v := .int .i64 0) rfl ld3 ?_
            simp only [Act.put, List.setIfInBounds_toArray, List.set_cons_succ, List.set_cons_zero]
            refine WG.put rfl (v := .bool false) (fun w => by first | rfl | (go_simp; done) | (simp [go_sem]; done)) ?_
            simp only [Act.put, List.setIfInBounds_toArray, List.set_cons_succ, List.set_cons_zero]
            refine WG.put rfl (v := .bool false) (fun w => by first | rfl | (go_simp; done) | (simp [go_sem]; done)) ?_
            simp only [Act.put, List.setIfInBounds_toArray, List.set_cons_succ, List.set_cons_zero]
            refine WG.put rfl (v := .slice (some ⟨bo, oo, none⟩) 1 co) (fun w => by first | rfl | (go_simp; done) | (simp [go_sem]; done)) ?_
            simp only [Act.put, List.setIfInBounds_toArray, List.set_cons_succ, List.set_cons_zero]
            refine WG.put rfl (v := .int .i64 1) (fun w => by first | rfl | (go_simp; done) | (simp [go_sem]; done)) ?_
            simp only [Act.put, List.setIfInBounds_toArray, List.set_cons_succ, List.set_cons_zero]
            refine WG.put rfl (v := .bool false) (fun w => by first | rfl | (go_simp; done) | (simp [go_sem]; done)) ?_
            simp only [Act.put, List.setIfInBounds_toArray, List.set_cons_succ, List.set_cons_zero]
            refine WG.put rfl (v := .bool false) (fun w => by first | rfl | (go_simp; done) | (simp [go_sem]; done)) ?_
            simp only [Act.put, List.setIfInBounds_toArray, List.set_cons_succ, List.set_cons_zero]
            refine WG.put rfl (v := .bool false) (fun w => by first | rfl | (go_simp; done) | (simp [go_sem]; done)) ?_
            simp only [Act.put, List.setIfInBounds_toArray, List.set_cons_succ, List.set_cons_zero]
            refine WG.put rfl (v := .slice (some ⟨bo, oo, none⟩) 1 co) (fun w => by first | rfl | (go_simp; done) | (simp [go_sem]; done)) ?_
            simp only [Act.put, List.setIfInBounds_toArray, List.set_cons_succ, List.set_cons_zero]
            refine WG.put rfl (v := .pointer (some ⟨bo, oo, none⟩)) (fun w => by first | rfl | (go_simp; done) | (simp [go_sem]; done)) ?_
            simp only [Act.put, List.setIfInBounds_toArray, List.set_cons_succ, List.set_cons_zero]
            refine WG.range rfl 38 _ rfl rfl (gtL X) hbo RX _ Try.underlying38 rfl info38 ?_
            simp only [Act.put, List.setIfInBounds_toArray, List.set_cons_succ, List.set_cons_zero]
            refine WG.call rfl (f := 46) (args := #[.agg (gtL X).toArray]) (v := .agg (gtL (bareG X)).toArray) (fun w _ => rbare_any X w) (fun w => by first | rfl | (go_simp; done)) ?_
            simp only [Act.put, List.setIfInBounds_toArray, List.set_cons_succ, List.set_cons_zero]
            refine WG.put rfl (v := .slice (some ⟨b0, o0, none⟩) gs.length cap) (fun w => by first | rfl | (go_simp; done) | (simp [go_sem]; done)) ?_
            simp only [Act.put, List.setIfInBounds_toArray, List.set_cons_succ, List.set_cons_zero]
            refine WG.put rfl (v := .int .i64 (j : Int)) (fun w => by first | rfl | (go_simp; done) | (simp [go_sem]; done)) ?_
            simp only [Act.put, List.setIfInBounds_toArray, List.set_cons_succ, List.set_cons_zero]
            refine WG.put rfl (v := .pointer (some ⟨b0, o0 + j * 7, none⟩)) (fun w => by first | rfl | (go_simp; done) | (simp [go_sem]; done)) ?_
            simp only [Act.put, List.setIfInBounds_toArray, List.set_cons_succ, List.set_cons_zero]
            refine WG.range rfl 38 _ rfl rfl (gtL ⟨k, tx, v, x1, x2, x3, x4⟩) hb0v RG _ Try.underlying38 rfl info38 ?_
            simp only [Act.put, List.setIfInBounds_toArray, List.set_cons_succ, List.set_cons_zero]
            refine WG.call rfl (f := 46) (args := #[.agg (gtL ⟨k, tx, v, x1, x2, x3, x4⟩).toArray]) (v := .agg (gtL ⟨k, tx, 0, 0, 0, 0, 0⟩).toArray) (fun w _ => rbare_any ⟨k, tx, v, x1, x2, x3, x4⟩ w) (fun w => by first | rfl | (go_simp; done)) ?_
            simp only [Act.put, List.setIfInBounds_toArray, List.set_cons_succ, List.set_cons_zero]
            refine WG.put rfl (v := .bool true) (fun w => by simp [go_sem, gtL, bareG]; exact hCC.out) ?_
            simp only [Act.put, List.setIfInBounds_toArray, List.set_cons_succ, List.set_cons_zero]
            refine WG.put rfl (v := .bool true) (fun w => by first | rfl | (go_simp; done) | (simp [go_sem]; done)) ?_
            simp only [Act.put, List.setIfInBounds_toArray, List.set_cons_succ, List.set_cons_zero]
            refine WG.put rfl (v := .bool true) (fun w => by first | rfl | (go_simp; done) | (simp [go_sem]; done)) ?_
            simp only [Act.put, List.setIfInBounds_toArray, List.set_cons_succ, List.set_cons_zero]
            refine WG.skip rfl ?_
            simp only [Act.put, List.setIfInBounds_toArray, List.set_cons_succ, List.set_cons_zero]
            refine WG.skip rfl ?_
            simp only [Act.put, List.setIfInBounds_toArray, List.set_cons_succ, List.set_cons_zero]
            refine WG.skip rfl ?_
            simp only [Act.put, List.setIfInBounds_toArray, List.set_cons_succ, List.set_cons_zero]
            refine WG.skip rfl ?_
            simp only [Act.put, List.setIfInBounds_toArray, List.set_cons_succ, List.set_cons_zero]
            refine WG.skip rfl ?_
            simp only [Act.put, List.setIfInBounds_toArray, List.set_cons_succ, List.set_cons_zero]
            refine WG.skip rfl ?_
            simp only [Act.put, List.setIfInBounds_toArray, List.set_cons_succ, List.set_cons_zero]
            refine WG.skip rfl ?_
            simp only [Act.put, List.setIfInBounds_toArray, List.set_cons_succ, List.set_cons_zero]
            refine WG.put rfl (v := .bool true) (fun w => by first | rfl | (go_simp; done) | (simp [go_sem]; done)) ?_
            simp only [Act.put, List.setIfInBounds_toArray, List.set_cons_succ, List.set_cons_zero]
            refine WG.put rfl (v := .bool true) (fun w => by first | rfl | (go_simp; done) | (simp [go_sem]; done)) ?_
            simp only [Act.put, List.setIfInBounds_toArray, List.set_cons_succ, List.set_cons_zero]
            refine WG.skip rfl ?_
            simp only [Act.put, List.setIfInBounds_toArray, List.set_cons_succ, List.set_cons_zero]
            refine WG.skip rfl ?_
            simp only [Act.put, List.setIfInBounds_toArray, List.set_cons_succ, List.set_cons_zero]
            refine WG.skip rfl ?_
            simp only [Act.put, List.setIfInBounds_toArray, List.set_cons_succ, List.set_cons_zero]
            refine WG.skip rfl ?_
            simp only [Act.put, List.setIfInBounds_toArray, List.set_cons_succ, List.set_cons_zero]
            refine WG.skip rfl ?_
            simp only [Act.put, List.setIfInBounds_toArray, List.set_cons_succ, List.set_cons_zero]
            refine WG.put rfl (v := .bool true) (fun w => by first | rfl | (go_simp; done) | (simp [go_sem]; done)) ?_
            simp only [Act.put, List.setIfInBounds_toArray, List.set_cons_succ, List.set_cons_zero]
            refine WG.nil ?_
            intro V4 B4
            have O4 := buf_below O3 B4
            clear B4 O3 S8 RG RX
            go_wp2_with fail
            go_ret2
            exact ⟨by rw [HW.out]; rfl, O4.2.1⟩
      · have hob : tx.data.toList = ownG ⟨k, tx, v, x1, x2, x3, x4⟩ := (by unfold ownG ownF; dsimp only; rw [if_neg hk])
        have hobs : tx.size ≤ 67108868 := (by omega)
        have hk3 : (k == 3) = false := (by simpa using hk)
        clear hk
        cases hsy : saysG ⟨k, tx, v, x1, x2, x3, x4⟩ with
        | true =>
          obtain ⟨kd, vl, hkd, hr1⟩ := says_one hsy
          have HSN : Hid (∀ i g, i < j + 1 → gs[i]? = some g → saysG g = true) := fun i g' hi hg' => (by
            rcases Nat.lt_or_ge i j with h | h
            · exact HS.out i g' h hg'
            · obtain rfl : i = j := by omega
              rw [hg] at hg'; cases hg'; exact hsy)
          have cT : ∀ w, Calls Try.prog 11 #[.string tx] w fun e w' => (∃ b o c, e = .returned (.tuple #[.slice (some ⟨b, o, none⟩) 1 c, .agg (fL (0, 0, 0)).toArray]) ∧ b < w'.heap.size ∧ w'.rangeAt b o (gtL (⟨k, tx, vl, 1, 1, 0, (tx.size : Int)⟩ : GT))) ∧ Below w.heap.size w w' := fun w => by
            have := own_single (ob := tx) (by omega) (t := ⟨kd, tx.data.toList, vl, 1, 1, 0, tx.size⟩) (by rw [hob, hr1, ← hob, ← sizeL]) w
            rw [show toG ⟨kd, tx.data.toList, vl, 1, 1, 0, tx.size⟩ = (⟨k, tx, vl, 1, 1, 0, (tx.size : Int)⟩ : GT) from (by simp [toG, hkd])] at this
            exact this
          have HJ1 : Hid (joinF ((gs.take (j + 1)).map ownG) = J ++ ((if 0 < j then [32] else []) ++ tx.data.toList)) := (by show _ = _; rw [join_step gs j _ hg, hJ, hob])
          clear hsy hr1 hkd hg HS HWN hob hJ
          by_cases hj0 : 0 < j
          · have hji : (0 : Int) < j := by omega
            rw [if_pos hj0] at HJ1
            clear hj0
            go_wp2_with (first
              | (go_at_call 11; refine (cT _).mono ?_; rintro e V1 ⟨⟨bo, oo, co, rfl, hbo1, RX1⟩, B1x⟩; have O1 := buf_below HB.out B1x; clear B1x HB cT)
              | (refine wpList_allocS rfl 30 rfl (fL (0, 0, 0)) Try.zeroValue30 ?_; intro V2 x8 F2 S2; have y8 : V1.heap.size ≤ x8 := Nat.le_of_eq F2.at'.symm; have BF : Below V1.heap.size V1 V2 := F2.trans (Below.refl _ _) (Nat.le_refl _); clear F2)
              | (refine wpList_storeS rfl 30 _ _ rfl rfl (fL (0, 0, 0)) rfl S2 (by simp [fL]) info30 (fL_one _) ?_; intro V3 U3 S3x; have S8 : IsS V3 x8 30 (fL (0, 0, 0)) := S3x; have BG : Below V1.heap.size V1 V3 := U3.trans BF y8; have O3 := buf_below O1 BG; have hbo : bo < V3.heap.size := Nat.lt_of_lt_of_le hbo1 BG.size; have RX : V3.rangeAt bo oo (gtL (⟨k, tx, vl, 1, 1, 0, (tx.size : Int)⟩ : GT)) := fun i u hu => (BG.cell (p := ⟨bo, oo + i, none⟩) hbo1).trans (RX1 i u hu); clear RX1 hbo1; clear U3 S3x S2 BF BG O1))
            have RG : V3.rangeAt b0 (o0 + j * 7) (gtL ⟨k, tx, v, x1, x2, x3, x4⟩) := fun i u hu => (O3.2.1.cell (p := ⟨b0, o0 + j * 7 + i, none⟩) hb0).trans (hrg i u hu)
            have hb0v : b0 < V3.heap.size := Nat.lt_of_lt_of_le hb0 O3.2.2
            have q6 : V3.cell? ⟨bo, oo + 6, none⟩ = some (.int .i64 (tx.size : Int)) := RX 6 _ rfl
            have q5 : V3.cell? ⟨bo, oo + 5, none⟩ = some (.int .i64 0) := RX 5 _ rfl
            refine grow_allW (by kernel_rfl) (by kernel_rfl) ?_
            refine WG.put rfl (v := .pointer (some ⟨x8, 2, none⟩)) (fun w => by first | rfl | (go_simp; done) | (simp [go_sem]; done)) ?_
            simp only [Act.put, List.setIfInBounds_toArray, List.set_cons_succ, List.set_cons_zero]
            refine WG.load1 rfl 3 _ rfl rfl S8 (v := .int .i64 0) rfl ld3 ?_
            simp only [Act.put, List.setIfInBounds_toArray, List.set_cons_succ, List.set_cons_zero]
            refine WG.put rfl (v := .bool false) (fun w => by first | rfl | (go_simp; done) | (simp [go_sem]; done)) ?_
            simp only [Act.put, List.setIfInBounds_toArray, List.set_cons_succ, List.set_cons_zero]
            refine WG.put rfl (v := .bool false) (fun w => by first | rfl | (go_simp; done) | (simp [go_sem]; done)) ?_
            simp only [Act.put, List.setIfInBounds_toArray, List.set_cons_succ, List.set_cons_zero]
            refine WG.put rfl (v := .slice (some ⟨bo, oo, none⟩) 1 co) (fun w => by first | rfl | (go_simp; done) | (simp [go_sem]; done)) ?_
            simp only [Act.put, List.setIfInBounds_toArray, List.set_cons_succ, List.set_cons_zero]
            refine WG.put rfl (v := .int .i64 1) (fun w => by first | rfl | (go_simp; done) | (simp [go_sem]; done)) ?_
            simp only [Act.put, List.setIfInBounds_toArray, List.set_cons_succ, List.set_cons_zero]
            refine WG.put rfl (v := .bool false) (fun w => by first | rfl | (go_simp; done) | (simp [go_sem]; done)) ?_
            simp only [Act.put, List.setIfInBounds_toArray, List.set_cons_succ, List.set_cons_zero]
            refine WG.put rfl (v := .bool false) (fun w => by first | rfl | (go_simp; done) | (simp [go_sem]; done)) ?_
            simp only [Act.put, List.setIfInBounds_toArray, List.set_cons_succ, List.set_cons_zero]
            refine WG.put rfl (v := .bool false) (fun w => by first | rfl | (go_simp; done) | (simp [go_sem]; done)) ?_
            simp only [Act.put, List.setIfInBounds_toArray, List.set_cons_succ, List.set_cons_zero]
            refine WG.put rfl (v := .slice (some ⟨bo, oo, none⟩) 1 co) (fun w => by first | rfl | (go_simp; done) | (simp [go_sem]; done)) ?_
            simp only [Act.put, List.setIfInBounds_toArray, List.set_cons_succ, List.set_cons_zero]
            refine WG.put rfl (v := .pointer (some ⟨bo, oo, none⟩)) (fun w => by first | rfl | (go_simp; done) | (simp [go_sem]; done)) ?_
            simp only [Act.put, List.setIfInBounds_toArray, List.set_cons_succ, List.set_cons_zero]
            refine WG.range rfl 38 _ rfl rfl (gtL (⟨k, tx, vl, 1, 1, 0, (tx.size : Int)⟩ : GT)) hbo RX _ Try.underlying38 rfl info38 ?_
            simp only [Act.put, List.setIfInBounds_toArray, List.set_cons_succ, List.set_cons_zero]
            refine WG.call rfl (f := 46) (args := #[.agg (gtL (⟨k, tx, vl, 1, 1, 0, (tx.size : Int)⟩ : GT)).toArray]) (v := .agg (gtL (bareG (⟨k, tx, vl, 1, 1, 0, (tx.size : Int)⟩ : GT))).toArray) (fun w _ => rbare_any (⟨k, tx, vl, 1, 1, 0, (tx.size : Int)⟩ : GT) w) (fun w => by first | rfl | (go_simp; done)) ?_
            simp only [Act.put, List.setIfInBounds_toArray, List.set_cons_succ, List.set_cons_zero]
            refine WG.put rfl (v := .slice (some ⟨b0, o0, none⟩) gs.length cap) (fun w => by first | rfl | (go_simp; done) | (simp [go_sem]; done)) ?_
            simp only [Act.put, List.setIfInBounds_toArray, List.set_cons_succ, List.set_cons_zero]
            refine WG.put rfl (v := .int .i64 (j : Int)) (fun w => by first | rfl | (go_simp; done) | (simp [go_sem]; done)) ?_
            simp only [Act.put, List.setIfInBounds_toArray, List.set_cons_succ, List.set_cons_zero]
            refine WG.put rfl (v := .pointer (some ⟨b0, o0 + j * 7, none⟩)) (fun w => by first | rfl | (go_simp; done) | (simp [go_sem]; done)) ?_
            simp only [Act.put, List.setIfInBounds_toArray, List.set_cons_succ, List.set_cons_zero]
            refine WG.range rfl 38 _ rfl rfl (gtL ⟨k, tx, v, x1, x2, x3, x4⟩) hb0v RG _ Try.underlying38 rfl info38 ?_
            simp only [Act.put, List.setIfInBounds_toArray, List.set_cons_succ, List.set_cons_zero]
            refine WG.call rfl (f := 46) (args := #[.agg (gtL ⟨k, tx, v, x1, x2, x3, x4⟩).toArray]) (v := .agg (gtL ⟨k, tx, 0, 0, 0, 0, 0⟩).toArray) (fun w _ => rbare_any ⟨k, tx, v, x1, x2, x3, x4⟩ w) (fun w => by first | rfl | (go_simp; done)) ?_
            simp only [Act.put, List.setIfInBounds_toArray, List.set_cons_succ, List.set_cons_zero]
            refine WG.put rfl (v := .bool false) (fun w => by first | rfl | (go_simp; done) | (simp [go_sem, gtL, bareG]; done)) ?_
            simp only [Act.put, List.setIfInBounds_toArray, List.set_cons_succ, List.set_cons_zero]
            refine WG.put rfl (v := .bool false) (fun w => by first | rfl | (go_simp; done) | (simp [go_sem]; done)) ?_
            simp only [Act.put, List.setIfInBounds_toArray, List.set_cons_succ, List.set_cons_zero]
            refine WG.put rfl (v := .bool false) (fun w => by first | rfl | (go_simp; done) | (simp [go_sem]; done)) ?_
            simp only [Act.put, List.setIfInBounds_toArray, List.set_cons_succ, List.set_cons_zero]
            refine WG.put rfl (v := .slice (some ⟨bo, oo, none⟩) 1 co) (fun w => by first | rfl | (go_simp; done) | (simp [go_sem]; done)) ?_
            simp only [Act.put, List.setIfInBounds_toArray, List.set_cons_succ, List.set_cons_zero]
            refine WG.put rfl (v := .pointer (some ⟨bo, oo, none⟩)) (fun w => by first | rfl | (go_simp; done) | (simp [go_sem]; done)) ?_
            simp only [Act.put, List.setIfInBounds_toArray, List.set_cons_succ, List.set_cons_zero]
            refine WG.put rfl (v := .pointer (some ⟨bo, oo + 6, none⟩)) (fun w => by first | rfl | (go_simp; done) | (simp [go_sem]; done)) ?_
            simp only [Act.put, List.setIfInBounds_toArray, List.set_cons_succ, List.set_cons_zero]
            refine WG.cell rfl 3 _ rfl rfl q6 ld3 ?_
            simp only [Act.put, List.setIfInBounds_toArray, List.set_cons_succ, List.set_cons_zero]
            refine WG.put rfl (v := .string tx) (fun w => by first | rfl | (go_simp; done) | (simp [go_sem]; done)) ?_
            simp only [Act.put, List.setIfInBounds_toArray, List.set_cons_succ, List.set_cons_zero]
            refine WG.put rfl (v := .int .i64 (tx.size : Int)) (fun w => by first | rfl | (go_simp; done) | (simp [go_sem]; done)) ?_
            simp only [Act.put, List.setIfInBounds_toArray, List.set_cons_succ, List.set_cons_zero]
            refine WG.put rfl (v := .bool false) (fun w => by first | rfl | (go_simp; done) | (simp [go_sem]; done)) ?_
            simp only [Act.put, List.setIfInBounds_toArray, List.set_cons_succ, List.set_cons_zero]
            refine WG.put rfl (v := .bool false) (fun w => by first | rfl | (go_simp; done) | (simp [go_sem]; done)) ?_
            simp only [Act.put, List.setIfInBounds_toArray, List.set_cons_succ, List.set_cons_zero]
            refine WG.put rfl (v := .bool false) (fun w => by first | rfl | (go_simp; done) | (simp [go_sem]; done)) ?_
            simp only [Act.put, List.setIfInBounds_toArray, List.set_cons_succ, List.set_cons_zero]
            refine WG.put rfl (v := .slice (some ⟨bo, oo, none⟩) 1 co) (fun w => by first | rfl | (go_simp; done) | (simp [go_sem]; done)) ?_
            simp only [Act.put, List.setIfInBounds_toArray, List.set_cons_succ, List.set_cons_zero]
            refine WG.put rfl (v := .pointer (some ⟨bo, oo, none⟩)) (fun w => by first | rfl | (go_simp; done) | (simp [go_sem]; done)) ?_
            simp only [Act.put, List.setIfInBounds_toArray, List.set_cons_succ, List.set_cons_zero]
            refine WG.put rfl (v := .pointer (some ⟨bo, oo + 5, none⟩)) (fun w => by first | rfl | (go_simp; done) | (simp [go_sem]; done)) ?_
            simp only [Act.put, List.setIfInBounds_toArray, List.set_cons_succ, List.set_cons_zero]
            refine WG.cell rfl 3 _ rfl rfl q5 ld3 ?_
            simp only [Act.put, List.setIfInBounds_toArray, List.set_cons_succ, List.set_cons_zero]
            refine WG.put rfl (v := .bool false) (fun w => by first | rfl | (go_simp; done) | (simp [go_sem]; done)) ?_
            simp only [Act.put, List.setIfInBounds_toArray, List.set_cons_succ, List.set_cons_zero]
            refine WG.put rfl (v := .bool false) (fun w => by first | rfl | (go_simp; done) | (simp [go_sem]; done)) ?_
            simp only [Act.put, List.setIfInBounds_toArray, List.set_cons_succ, List.set_cons_zero]
            refine WG.nil ?_
            intro V4 B4
            have O4 := buf_below O3 B4
            clear B4 O3 S8 RG RX q6 q5
            go_wp2_with (first
              | (refine Lib.wpList_append_byte rfl (.tmp 72) (.tmp 73) 61 rfl w.heap.size 5 i5 und61 hi5 hz5 hsz5 hby5 _ _ _ rfl w V4 32 O4 rfl (by omega) ?_; intro v5 V5 O5; clear O4)
              | (refine Lib.wpList_append_text rfl (.tmp 75) (.tmp 76) 61 9 rfl w.heap.size 5 i5 und61 Try.underlying9 hi5 hz5 hsz5 hby5 _ _ _ rfl w O5 tx rfl (by omega) ?_; intro v6 V6 O6; clear O5))
            have e2 : Lib.byteCells J ++ [.int .u8 32] ++ Lib.strCells tx = Lib.byteCells (J ++ ([32] ++ tx.data.toList)) := by simp [Lib.byteCells, Lib.strCells]
            have e3 : J.length + 1 + tx.size = (J ++ ([32] ++ tx.data.toList)).length := by rw [List.length_append, List.length_append, ← sizeL]; simp only [List.length_cons, List.length_nil]; omega
            rw [e2, e3] at O6
            have O7 : Hid (Lib.OwnBuf w.heap.size 5 v6 (joinF ((gs.take (j + 1)).map ownG)).length (Lib.byteCells (joinF ((gs.take (j + 1)).map ownG))) w V6) := (by rw [HJ1.out]; exact O6)
            clear O6 e2 e3
            try go_wp2_with fail
            go_roundw
            case rel => exact ⟨j + 1, by omega, by go_num, HSN, O7⟩
            case measure => simp [intOf]; omega
          · have hji : ¬ (0 : Int) < j := by omega
            rw [if_neg hj0] at HJ1
            clear hj0
            go_wp2_with (first
              | (go_at_call 11; refine (cT _).mono ?_; rintro e V1 ⟨⟨bo, oo, co, rfl, hbo1, RX1⟩, B1x⟩; have O1 := buf_below HB.out B1x; clear B1x HB cT)
              | (refine wpList_allocS rfl 30 rfl (fL (0, 0, 0)) Try.zeroValue30 ?_; intro V2 x8 F2 S2; have y8 : V1.heap.size ≤ x8 := Nat.le_of_eq F2.at'.symm; have BF : Below V1.heap.size V1 V2 := F2.trans (Below.refl _ _) (Nat.le_refl _); clear F2)
              | (refine wpList_storeS rfl 30 _ _ rfl rfl (fL (0, 0, 0)) rfl S2 (by simp [fL]) info30 (fL_one _) ?_; intro V3 U3 S3x; have S8 : IsS V3 x8 30 (fL (0, 0, 0)) := S3x; have BG : Below V1.heap.size V1 V3 := U3.trans BF y8; have O3 := buf_below O1 BG; have hbo : bo < V3.heap.size := Nat.lt_of_lt_of_le hbo1 BG.size; have RX : V3.rangeAt bo oo (gtL (⟨k, tx, vl, 1, 1, 0, (tx.size : Int)⟩ : GT)) := fun i u hu => (BG.cell (p := ⟨bo, oo + i, none⟩) hbo1).trans (RX1 i u hu); clear RX1 hbo1; clear U3 S3x S2 BF BG O1))
            have RG : V3.rangeAt b0 (o0 + j * 7) (gtL ⟨k, tx, v, x1, x2, x3, x4⟩) := fun i u hu => (O3.2.1.cell (p := ⟨b0, o0 + j * 7 + i, none⟩) hb0).trans (hrg i u hu)
            have hb0v : b0 < V3.heap.size := Nat.lt_of_lt_of_le hb0 O3.2.2
            have q6 : V3.cell? ⟨bo, oo + 6, none⟩ = some (.int .i64 (tx.size : Int)) := RX 6 _ rfl
            have q5 : V3.cell? ⟨bo, oo + 5, none⟩ = some (.int .i64 0) := RX 5 _ rfl
            refine grow_allW (by kernel_rfl) (by kernel_rfl) ?_
            refine WG.put rfl (v := .pointer (some ⟨x8, 2, none⟩)) (fun w => by first | rfl | (go_simp; done) | (simp [go_sem]; done)) ?_
            simp only [Act.put, List.setIfInBounds_toArray, List.set_cons_succ, List.set_cons_zero]
            refine WG.load1 rfl 3 _ rfl rfl S8 (v := .int .i64 0) rfl ld3 ?_
            simp only [Act.put, List.setIfInBounds_toArray, List.set_cons_succ, List.set_cons_zero]
            refine WG.put rfl (v := .bool false) (fun w => by first | rfl | (go_simp; done) | (simp [go_sem]; done)) ?_
            simp only [Act.put, List.setIfInBounds_toArray, List.set_cons_succ, List.set_cons_zero]
            refine WG.put rfl (v := .bool false) (fun w => by first | rfl | (go_simp; done) | (simp [go_sem]; done)) ?_
            simp only [Act.put, List.setIfInBounds_toArray, List.set_cons_succ, List.set_cons_zero]
            refine WG.put rfl (v := .slice (some ⟨bo, oo, none⟩) 1 co) (fun w => by first | rfl | (go_simp; done) | (simp [go_sem]; done)) ?_
            simp only [Act.put, List.setIfInBounds_toArray, List.set_cons_succ, List.set_cons_zero]
            refine WG.put rfl (v := .int .i64 1) (fun w => by first | rfl | (go_simp; done) | (simp [go_sem]; done)) ?_
            simp only [Act.put, List.setIfInBounds_toArray, List.set_cons_succ, List.set_cons_zero]
            refine WG.put rfl (v := .bool false) (fun w => by first | rfl | (go_simp; done) | (simp [go_sem]; done)) ?_
            simp only [Act.put, List.setIfInBounds_toArray, List.set_cons_succ, List.set_cons_zero]
            refine WG.put rfl (v := .bool false) (fun w => by first | rfl | (go_simp; done) | (simp [go_sem]; done)) ?_
            simp only [Act.put, List.setIfInBounds_toArray, List.set_cons_succ, List.set_cons_zero]
            refine WG.put rfl (v := .bool false) (fun w => by first | rfl | (go_simp; done) | (simp [go_sem]; done)) ?_
            simp only [Act.put, List.setIfInBounds_toArray, List.set_cons_succ, List.set_cons_zero]
            refine WG.put rfl (v := .slice (some ⟨bo, oo, none⟩) 1 co) (fun w => by first | rfl | (go_simp; done) | (simp [go_sem]; done)) ?_
            simp only [Act.put, List.setIfInBounds_toArray, List.set_cons_succ, List.set_cons_zero]
            refine WG.put rfl (v := .pointer (some ⟨bo, oo, none⟩)) (fun w => by first | rfl | (go_simp; done) | (simp [go_sem]; done)) ?_
            simp only [Act.put, List.setIfInBounds_toArray, List.set_cons_succ, List.set_cons_zero]
            refine WG.range rfl 38 _ rfl rfl (gtL (⟨k, tx, vl, 1, 1, 0, (tx.size : Int)⟩ : GT)) hbo RX _ Try.underlying38 rfl info38 ?_
            simp only [Act.put, List.setIfInBounds_toArray, List.set_cons_succ, List.set_cons_zero]
            refine WG.call rfl (f := 46) (args := #[.agg (gtL (⟨k, tx, vl, 1, 1, 0, (tx.size : Int)⟩ : GT)).toArray]) (v := .agg (gtL (bareG (⟨k, tx, vl, 1, 1, 0, (tx.size : Int)⟩ : GT))).toArray) (fun w _ => rbare_any (⟨k, tx, vl, 1, 1, 0, (tx.size : Int)⟩ : GT) w) (fun w => by first | rfl | (go_simp; done)) ?_
            simp only [Act.put, List.setIfInBounds_toArray, List.set_cons_succ, List.set_cons_zero]
            refine WG.put rfl (v := .slice (some ⟨b0, o0, none⟩) gs.length cap) (fun w => by first | rfl | (go_simp; done) | (simp [go_sem]; done)) ?_
            simp only [Act.put, List.setIfInBounds_toArray, List.set_cons_succ, List.set_cons_zero]
            refine WG.put rfl (v := .int .i64 (j : Int)) (fun w => by first | rfl | (go_simp; done) | (simp [go_sem]; done)) ?_
            simp only [Act.put, List.setIfInBounds_toArray, List.set_cons_succ, List.set_cons_zero]
            refine WG.put rfl (v := .pointer (some ⟨b0, o0 + j * 7, none⟩)) (fun w => by first | rfl | (go_simp; done) | (simp [go_sem]; done)) ?_
            simp only [Act.put, List.setIfInBounds_toArray, List.set_cons_succ, List.set_cons_zero]
            refine WG.range rfl 38 _ rfl rfl (gtL ⟨k, tx, v, x1, x2, x3, x4⟩) hb0v RG _ Try.underlying38 rfl info38 ?_
            simp only [Act.put, List.setIfInBounds_toArray, List.set_cons_succ, List.set_cons_zero]
            refine WG.call rfl (f := 46) (args := #[.agg (gtL ⟨k, tx, v, x1, x2, x3, x4⟩).toArray]) (v := .agg (gtL ⟨k, tx, 0, 0, 0, 0, 0⟩).toArray) (fun w _ => rbare_any ⟨k, tx, v, x1, x2, x3, x4⟩ w) (fun w => by first | rfl | (go_simp; done)) ?_
            simp only [Act.put, List.setIfInBounds_toArray, List.set_cons_succ, List.set_cons_zero]
            refine WG.put rfl (v := .bool false) (fun w => by first | rfl | (go_simp; done) | (simp [go_sem, gtL, bareG]; done)) ?_
            simp only [Act.put, List.setIfInBounds_toArray, List.set_cons_succ, List.set_cons_zero]
            refine WG.put rfl (v := .bool false) (fun w => by first | rfl | (go_simp; done) | (simp [go_sem]; done)) ?_
            simp only [Act.put, List.setIfInBounds_toArray, List.set_cons_succ, List.set_cons_zero]
            refine WG.put rfl (v := .bool false) (fun w => by first | rfl | (go_simp; done) | (simp [go_sem]; done)) ?_
            simp only [Act.put, List.setIfInBounds_toArray, List.set_cons_succ, List.set_cons_zero]
            refine WG.put rfl (v := .slice (some ⟨bo, oo, none⟩) 1 co) (fun w => by first | rfl | (go_simp; done) | (simp [go_sem]; done)) ?_
            simp only [Act.put, List.setIfInBounds_toArray, List.set_cons_succ, List.set_cons_zero]
            refine WG.put rfl (v := .pointer (some ⟨bo, oo, none⟩)) (fun w => by first | rfl | (go_simp; done) | (simp [go_sem]; done)) ?_
            simp only [Act.put, List.setIfInBounds_toArray, List.set_cons_succ, List.set_cons_zero]
            refine WG.put rfl (v := .pointer (some ⟨bo, oo + 6, none⟩)) (fun w => by first | rfl | (go_simp; done) | (simp [go_sem]; done)) ?_
            simp only [Act.put, List.setIfInBounds_toArray, List.set_cons_succ, List.set_cons_zero]
            refine WG.cell rfl 3 _ rfl rfl q6 ld3 ?_
            simp only [Act.put, List.setIfInBounds_toArray, List.set_cons_succ, List.set_cons_zero]
            refine WG.put rfl (v := .string tx) (fun w => by first | rfl | (go_simp; done) | (simp [go_sem]; done)) ?_
            simp only [Act.put, List.setIfInBounds_toArray, List.set_cons_succ, List.set_cons_zero]
            refine WG.put rfl (v := .int .i64 (tx.size : Int)) (fun w => by first | rfl | (go_simp; done) | (simp [go_sem]; done)) ?_
            simp only [Act.put, List.setIfInBounds_toArray, List.set_cons_succ, List.set_cons_zero]
            refine WG.put rfl (v := .bool false) (fun w => by first | rfl | (go_simp; done) | (simp [go_sem]; done)) ?_
            simp only [Act.put, List.setIfInBounds_toArray, List.set_cons_succ, List.set_cons_zero]
            refine WG.put rfl (v := .bool false) (fun w => by first | rfl | (go_simp; done) | (simp [go_sem]; done)) ?_
            simp only [Act.put, List.setIfInBounds_toArray, List.set_cons_succ, List.set_cons_zero]
            refine WG.put rfl (v := .bool false) (fun w => by first | rfl | (go_simp; done) | (simp [go_sem]; done)) ?_
            simp only [Act.put, List.setIfInBounds_toArray, List.set_cons_succ, List.set_cons_zero]
            refine WG.put rfl (v := .slice (some ⟨bo, oo, none⟩) 1 co) (fun w => by first | rfl | (go_simp; done) | (simp [go_sem]; done)) ?_
            simp only [Act.put, List.setIfInBounds_toArray, List.set_cons_succ, List.set_cons_zero]
            refine WG.put rfl (v := .pointer (some ⟨bo, oo, none⟩)) (fun w => by first | rfl | (go_simp; done) | (simp [go_sem]; done)) ?_
            simp only [Act.put, List.setIfInBounds_toArray, List.set_cons_succ, List.set_cons_zero]
            refine WG.put rfl (v := .pointer (some ⟨bo, oo + 5, none⟩)) (fun w => by first | rfl | (go_simp; done) | (simp [go_sem]; done)) ?_
            simp only [Act.put, List.setIfInBounds_toArray, List.set_cons_succ, List.set_cons_zero]
            refine WG.cell rfl 3 _ rfl rfl q5 ld3 ?_
            simp only [Act.put, List.setIfInBounds_toArray, List.set_cons_succ, List.set_cons_zero]
            refine WG.put rfl (v := .bool false) (fun w => by first | rfl | (go_simp; done) | (simp [go_sem]; done)) ?_
            simp only [Act.put, List.setIfInBounds_toArray, List.set_cons_succ, List.set_cons_zero]
            refine WG.put rfl (v := .bool false) (fun w => by first | rfl | (go_simp; done) | (simp [go_sem]; done)) ?_
            simp only [Act.put, List.setIfInBounds_toArray, List.set_cons_succ, List.set_cons_zero]
            refine WG.nil ?_
            intro V4 B4
            have O4 := buf_below O3 B4
            clear B4 O3 S8 RG RX q6 q5
            go_wp2_with (first
              | (refine Lib.wpList_append_text rfl (.tmp 75) (.tmp 76) 61 9 rfl w.heap.size 5 i5 und61 Try.underlying9 hi5 hz5 hsz5 hby5 _ _ _ rfl w O4 tx rfl (by omega) ?_; intro v6 V6 O6; clear O4))
            have e2 : Lib.byteCells J ++ Lib.strCells tx = Lib.byteCells (J ++ ([] ++ tx.data.toList)) := by simp [Lib.byteCells, Lib.strCells]
            have e3 : J.length + tx.size = (J ++ ([] ++ tx.data.toList)).length := by rw [List.length_append, List.length_append, ← sizeL]; simp only [List.length_cons, List.length_nil]; omega
            rw [e2, e3] at O6
            have O7 : Hid (Lib.OwnBuf w.heap.size 5 v6 (joinF ((gs.take (j + 1)).map ownG)).length (Lib.byteCells (joinF ((gs.take (j + 1)).map ownG))) w V6) := (by rw [HJ1.out]; exact O6)
            clear O6 e2 e3
            try go_wp2_with fail
            go_roundw
            case rel => exact ⟨j + 1, by omega, by go_num, HSN, O7⟩
            case measure => simp [intOf]; omega
        | false =>
          have HW : Hid (writeV gs = .tuple #[.string ⟨#[]⟩, .int .i64 50]) := write_none hg hsy
          obtain ⟨ts, st, hr, hl, hst⟩ := dec_ex tx.data.toList
          have hn := says_not hsy (by rw [← hob]; exact hr) hst
          clear HWN HS hg hJ
          rcases hn with hn | ⟨hn, hn2 | ⟨t, rfl, hn2⟩⟩
          · obtain ⟨⟨F1, F2, F3⟩, hF⟩ : ∃ F, st.F = F := ⟨_, rfl⟩
            have h31 : (F3 != 0) = true := (by rw [hF] at hn; simpa using hn)
            have h30 : (F3 == 0) = false := (by rw [hF] at hn; simpa using hn)
            have cT := fun w => own_bad (ob := tx) (by omega) hF hr w
            clear hn hst hr hl hob hsy hF
            generalize (ts.map toG).length = N at cT
            go_wp2_with (first
              | (go_at_call 11; refine (cT _).mono ?_; rintro e V1 ⟨⟨ao, co, rfl⟩, B1x⟩; have O1 := buf_below HB.out B1x; clear B1x HB cT)
              | (refine wpList_allocS rfl 30 rfl (fL (0, 0, 0)) Try.zeroValue30 ?_; intro V2 x8 F2 S2; have y8 : V1.heap.size ≤ x8 := Nat.le_of_eq F2.at'.symm; have BF : Below V1.heap.size V1 V2 := F2.trans (Below.refl _ _) (Nat.le_refl _); clear F2)
              | (refine wpList_storeS rfl 30 _ _ rfl rfl (fL (F1, F2, F3)) rfl S2 (by simp [fL]) info30 (fL_one _) ?_; intro V3 U3 S3x; have S8 : IsS V3 x8 30 (fL (F1, F2, F3)) := S3x; have BG : Below V1.heap.size V1 V3 := U3.trans BF y8; have O3 := buf_below O1 BG; clear U3 S3x S2 BF BG O1))
            have RG : V3.rangeAt b0 (o0 + j * 7) (gtL ⟨k, tx, v, x1, x2, x3, x4⟩) := fun i u hu => (O3.2.1.cell (p := ⟨b0, o0 + j * 7 + i, none⟩) hb0).trans (hrg i u hu)
            have hb0v : b0 < V3.heap.size := Nat.lt_of_lt_of_le hb0 O3.2.2
            refine grow_allW (by kernel_rfl) (by kernel_rfl) ?_
            refine WG.put rfl (v := .pointer (some ⟨x8, 2, none⟩)) (fun w => by first | rfl | (go_simp; done) | (simp [go_sem]; done)) ?_
            simp only [Act.put, List.setIfInBounds_toArray, List.set_cons_succ, List.set_cons_zero]
            refine WG.load1 rfl 3 _ rfl rfl S8 (v := .int .i64 F3) rfl ld3 ?_
            simp only [Act.put, List.setIfInBounds_toArray, List.set_cons_succ, List.set_cons_zero]
            refine WG.put rfl (v := .bool true) (fun w => by first | rfl | (go_simp; done) | (simp [go_sem, h31]; done)) ?_
            simp only [Act.put, List.setIfInBounds_toArray, List.set_cons_succ, List.set_cons_zero]
            refine WG.put rfl (v := .bool true) (fun w => by first | rfl | (go_simp; done) | (simp [go_sem]; done)) ?_
            simp only [Act.put, List.setIfInBounds_toArray, List.set_cons_succ, List.set_cons_zero]
            refine WG.skip rfl ?_
            simp only [Act.put, List.setIfInBounds_toArray, List.set_cons_succ, List.set_cons_zero]
            refine WG.skip rfl ?_
            simp only [Act.put, List.setIfInBounds_toArray, List.set_cons_succ, List.set_cons_zero]
            refine WG.skip rfl ?_
            simp only [Act.put, List.setIfInBounds_toArray, List.set_cons_succ, List.set_cons_zero]
            refine WG.put rfl (v := .bool true) (fun w => by first | rfl | (go_simp; done) | (simp [go_sem]; done)) ?_
            simp only [Act.put, List.setIfInBounds_toArray, List.set_cons_succ, List.set_cons_zero]
            refine WG.put rfl (v := .bool true) (fun w => by first | rfl | (go_simp; done) | (simp [go_sem]; done)) ?_
            simp only [Act.put, List.setIfInBounds_toArray, List.set_cons_succ, List.set_cons_zero]
            refine WG.skip rfl ?_
            simp only [Act.put, List.setIfInBounds_toArray, List.set_cons_succ, List.set_cons_zero]
            refine WG.skip rfl ?_
            simp only [Act.put, List.setIfInBounds_toArray, List.set_cons_succ, List.set_cons_zero]
            refine WG.skip rfl ?_
            simp only [Act.put, List.setIfInBounds_toArray, List.set_cons_succ, List.set_cons_zero]
            refine WG.skip rfl ?_
            simp only [Act.put, List.setIfInBounds_toArray, List.set_cons_succ, List.set_cons_zero]
            refine WG.skip rfl ?_
            simp only [Act.put, List.setIfInBounds_toArray, List.set_cons_succ, List.set_cons_zero]
            refine WG.skip rfl ?_
            simp only [Act.put, List.setIfInBounds_toArray, List.set_cons_succ, List.set_cons_zero]
            refine WG.skip rfl ?_
            simp only [Act.put, List.setIfInBounds_toArray, List.set_cons_succ, List.set_cons_zero]
            refine WG.skip rfl ?_
            simp only [Act.put, List.setIfInBounds_toArray, List.set_cons_succ, List.set_cons_zero]
            refine WG.skip rfl ?_
            simp only [Act.put, List.setIfInBounds_toArray, List.set_cons_succ, List.set_cons_zero]
            refine WG.skip rfl ?_
            simp only [Act.put, List.setIfInBounds_toArray, List.set_cons_succ, List.set_cons_zero]
            refine WG.put rfl (v := .bool true) (fun w => by first | rfl | (go_simp; done) | (simp [go_sem]; done)) ?_
            simp only [Act.put, List.setIfInBounds_toArray, List.set_cons_succ, List.set_cons_zero]
            refine WG.put rfl (v := .bool true) (fun w => by first | rfl | (go_simp; done) | (simp [go_sem]; done)) ?_
            simp only [Act.put, List.setIfInBounds_toArray, List.set_cons_succ, List.set_cons_zero]
            refine WG.skip rfl ?_
            simp only [Act.put, List.setIfInBounds_toArray, List.set_cons_succ, List.set_cons_zero]
            refine WG.skip rfl ?_
            simp only [Act.put, List.setIfInBounds_toArray, List.set_cons_succ, List.set_cons_zero]
            refine WG.skip rfl ?_
            simp only [Act.put, List.setIfInBounds_toArray, List.set_cons_succ, List.set_cons_zero]
            refine WG.skip rfl ?_
            simp only [Act.put, List.setIfInBounds_toArray, List.set_cons_succ, List.set_cons_zero]
            refine WG.skip rfl ?_
            simp only [Act.put, List.setIfInBounds_toArray, List.set_cons_succ, List.set_cons_zero]
            refine WG.skip rfl ?_
            simp only [Act.put, List.setIfInBounds_toArray, List.set_cons_succ, List.set_cons_zero]
            refine WG.skip rfl ?_
            simp only [Act.put, List.setIfInBounds_toArray, List.set_cons_succ, List.set_cons_zero]
            refine WG.put rfl (v := .bool true) (fun w => by first | rfl | (go_simp; done) | (simp [go_sem]; done)) ?_
            simp only [Act.put, List.setIfInBounds_toArray, List.set_cons_succ, List.set_cons_zero]
            refine WG.put rfl (v := .bool true) (fun w => by first | rfl | (go_simp; done) | (simp [go_sem]; done)) ?_
            simp only [Act.put, List.setIfInBounds_toArray, List.set_cons_succ, List.set_cons_zero]
            refine WG.skip rfl ?_
            simp only [Act.put, List.setIfInBounds_toArray, List.set_cons_succ, List.set_cons_zero]
            refine WG.skip rfl ?_
            simp only [Act.put, List.setIfInBounds_toArray, List.set_cons_succ, List.set_cons_zero]
            refine WG.skip rfl ?_
            simp only [Act.put, List.setIfInBounds_toArray, List.set_cons_succ, List.set_cons_zero]
            refine WG.skip rfl ?_
            simp only [Act.put, List.setIfInBounds_toArray, List.set_cons_succ, List.set_cons_zero]
            refine WG.skip rfl ?_
            simp only [Act.put, List.setIfInBounds_toArray, List.set_cons_succ, List.set_cons_zero]
            refine WG.put rfl (v := .bool true) (fun w => by first | rfl | (go_simp; done) | (simp [go_sem]; done)) ?_
            simp only [Act.put, List.setIfInBounds_toArray, List.set_cons_succ, List.set_cons_zero]
            refine WG.nil ?_
            intro V4 B4
            have O4 := buf_below O3 B4
            clear B4 O3 S8 RG
            go_wp2_with fail
            go_ret2
            exact ⟨by rw [HW.out]; rfl, O4.2.1⟩
          · have cT := fun w => own_bad (ob := tx) (by omega) (st_none hn) hr w
            rw [List.length_map] at cT
            have hN : ((ts.length : Int) != 1) = true := (by simp; omega)
            have hN2 : ((ts.length : Int) == 1) = false := (by simp; omega)
            clear hn hst hr hl hob hsy hn2
            generalize ts.length = N at cT hN hN2
            go_wp2_with (first
              | (go_at_call 11; refine (cT _).mono ?_; rintro e V1 ⟨⟨ao, co, rfl⟩, B1x⟩; have O1 := buf_below HB.out B1x; clear B1x HB cT)
              | (refine wpList_allocS rfl 30 rfl (fL (0, 0, 0)) Try.zeroValue30 ?_; intro V2 x8 F2 S2; have y8 : V1.heap.size ≤ x8 := Nat.le_of_eq F2.at'.symm; have BF : Below V1.heap.size V1 V2 := F2.trans (Below.refl _ _) (Nat.le_refl _); clear F2)
              | (refine wpList_storeS rfl 30 _ _ rfl rfl (fL (0, 0, 0)) rfl S2 (by simp [fL]) info30 (fL_one _) ?_; intro V3 U3 S3x; have S8 : IsS V3 x8 30 (fL (0, 0, 0)) := S3x; have BG : Below V1.heap.size V1 V3 := U3.trans BF y8; have O3 := buf_below O1 BG; clear U3 S3x S2 BF BG O1))
            have RG : V3.rangeAt b0 (o0 + j * 7) (gtL ⟨k, tx, v, x1, x2, x3, x4⟩) := fun i u hu => (O3.2.1.cell (p := ⟨b0, o0 + j * 7 + i, none⟩) hb0).trans (hrg i u hu)
            have hb0v : b0 < V3.heap.size := Nat.lt_of_lt_of_le hb0 O3.2.2
            refine grow_allW (by kernel_rfl) (by kernel_rfl) ?_
            refine WG.put rfl (v := .pointer (some ⟨x8, 2, none⟩)) (fun w => by first | rfl | (go_simp; done) | (simp [go_sem]; done)) ?_
            simp only [Act.put, List.setIfInBounds_toArray, List.set_cons_succ, List.set_cons_zero]
            refine WG.load1 rfl 3 _ rfl rfl S8 (v := .int .i64 0) rfl ld3 ?_
            simp only [Act.put, List.setIfInBounds_toArray, List.set_cons_succ, List.set_cons_zero]
            refine WG.put rfl (v := .bool false) (fun w => by first | rfl | (go_simp; done) | (simp [go_sem]; done)) ?_
            simp only [Act.put, List.setIfInBounds_toArray, List.set_cons_succ, List.set_cons_zero]
            refine WG.put rfl (v := .bool false) (fun w => by first | rfl | (go_simp; done) | (simp [go_sem]; done)) ?_
            simp only [Act.put, List.setIfInBounds_toArray, List.set_cons_succ, List.set_cons_zero]
            refine WG.put rfl (v := .slice ao N co) (fun w => by first | rfl | (go_simp; done) | (simp [go_sem]; done)) ?_
            simp only [Act.put, List.setIfInBounds_toArray, List.set_cons_succ, List.set_cons_zero]
            refine WG.put rfl (v := .int .i64 (N : Int)) (fun w => by first | rfl | (go_simp; done) | (simp [go_sem]; done)) ?_
            simp only [Act.put, List.setIfInBounds_toArray, List.set_cons_succ, List.set_cons_zero]
            refine WG.put rfl (v := .bool true) (fun w => by first | rfl | (go_simp; done) | (simp [go_sem, hN]; done)) ?_
            simp only [Act.put, List.setIfInBounds_toArray, List.set_cons_succ, List.set_cons_zero]
            refine WG.put rfl (v := .bool true) (fun w => by first | rfl | (go_simp; done) | (simp [go_sem]; done)) ?_
            simp only [Act.put, List.setIfInBounds_toArray, List.set_cons_succ, List.set_cons_zero]
            refine WG.put rfl (v := .bool true) (fun w => by first | rfl | (go_simp; done) | (simp [go_sem]; done)) ?_
            simp only [Act.put, List.setIfInBounds_toArray, List.set_cons_succ, List.set_cons_zero]
            refine WG.skip rfl ?_
            simp only [Act.put, List.setIfInBounds_toArray, List.set_cons_succ, List.set_cons_zero]
            refine WG.skip rfl ?_
            simp only [Act.put, List.setIfInBounds_toArray, List.set_cons_succ, List.set_cons_zero]
            refine WG.skip rfl ?_
            simp only [Act.put, List.setIfInBounds_toArray, List.set_cons_succ, List.set_cons_zero]
            refine WG.skip rfl ?_
            simp only [Act.put, List.setIfInBounds_toArray, List.set_cons_succ, List.set_cons_zero]
            refine WG.skip rfl ?_
            simp only [Act.put, List.setIfInBounds_toArray, List.set_cons_succ, List.set_cons_zero]
            refine WG.skip rfl ?_
            simp only [Act.put, List.setIfInBounds_toArray, List.set_cons_succ, List.set_cons_zero]
            refine WG.skip rfl ?_
            simp only [Act.put, List.setIfInBounds_toArray, List.set_cons_succ, List.set_cons_zero]
            refine WG.skip rfl ?_
            simp only [Act.put, List.setIfInBounds_toArray, List.set_cons_succ, List.set_cons_zero]
            refine WG.skip rfl ?_
            simp only [Act.put, List.setIfInBounds_toArray, List.set_cons_succ, List.set_cons_zero]
            refine WG.skip rfl ?_
            simp only [Act.put, List.setIfInBounds_toArray, List.set_cons_succ, List.set_cons_zero]
            refine WG.put rfl (v := .bool true) (fun w => by first | rfl | (go_simp; done) | (simp [go_sem]; done)) ?_
            simp only [Act.put, List.setIfInBounds_toArray, List.set_cons_succ, List.set_cons_zero]
            refine WG.put rfl (v := .bool true) (fun w => by first | rfl | (go_simp; done) | (simp [go_sem]; done)) ?_
            simp only [Act.put, List.setIfInBounds_toArray, List.set_cons_succ, List.set_cons_zero]
            refine WG.skip rfl ?_
            simp only [Act.put, List.setIfInBounds_toArray, List.set_cons_succ, List.set_cons_zero]
            refine WG.skip rfl ?_
            simp only [Act.put, List.setIfInBounds_toArray, List.set_cons_succ, List.set_cons_zero]
            refine WG.skip rfl ?_
            simp only [Act.put, List.setIfInBounds_toArray, List.set_cons_succ, List.set_cons_zero]
            refine WG.skip rfl ?_
            simp only [Act.put, List.setIfInBounds_toArray, List.set_cons_succ, List.set_cons_zero]
            refine WG.skip rfl ?_
            simp only [Act.put, List.setIfInBounds_toArray, List.set_cons_succ, List.set_cons_zero]
            refine WG.skip rfl ?_
            simp only [Act.put, List.setIfInBounds_toArray, List.set_cons_succ, List.set_cons_zero]
            refine WG.skip rfl ?_
            simp only [Act.put, List.setIfInBounds_toArray, List.set_cons_succ, List.set_cons_zero]
            refine WG.put rfl (v := .bool true) (fun w => by first | rfl | (go_simp; done) | (simp [go_sem]; done)) ?_
            simp only [Act.put, List.setIfInBounds_toArray, List.set_cons_succ, List.set_cons_zero]
            refine WG.put rfl (v := .bool true) (fun w => by first | rfl | (go_simp; done) | (simp [go_sem]; done)) ?_
            simp only [Act.put, List.setIfInBounds_toArray, List.set_cons_succ, List.set_cons_zero]
            refine WG.skip rfl ?_
            simp only [Act.put, List.setIfInBounds_toArray, List.set_cons_succ, List.set_cons_zero]
            refine WG.skip rfl ?_
            simp only [Act.put, List.setIfInBounds_toArray, List.set_cons_succ, List.set_cons_zero]
            refine WG.skip rfl ?_
            simp only [Act.put, List.setIfInBounds_toArray, List.set_cons_succ, List.set_cons_zero]
            refine WG.skip rfl ?_
            simp only [Act.put, List.setIfInBounds_toArray, List.set_cons_succ, List.set_cons_zero]
            refine WG.skip rfl ?_
            simp only [Act.put, List.setIfInBounds_toArray, List.set_cons_succ, List.set_cons_zero]
            refine WG.put rfl (v := .bool true) (fun w => by first | rfl | (go_simp; done) | (simp [go_sem]; done)) ?_
            simp only [Act.put, List.setIfInBounds_toArray, List.set_cons_succ, List.set_cons_zero]
            refine WG.nil ?_
            intro V4 B4
            have O4 := buf_below O3 B4
            clear B4 O3 S8 RG
            go_wp2_with fail
            go_ret2
            exact ⟨by rw [HW.out]; rfl, O4.2.1⟩
          · have cT := fun w => own_single (ob := tx) (by omega) (t := t) (by rw [hr, hn]; rfl) w
            have hne : ¬ ((toG t).kind = k ∧ (toG t).text = tx) := (fun h => hn2 ⟨h.1, by have := congrArg (fun b : ByteArray => b.data.toList) h.2; simpa [toG] using this⟩)
            generalize toG t = X at cT hne
            have hCC : Hid (X.kind = k → ¬ X.text.toList = tx.toList) := cc_of hne
            clear hn hst hr hl hob hsy hn2 hne
            go_wp2_with (first
              | (go_at_call 11; refine (cT _).mono ?_; rintro e V1 ⟨⟨bo, oo, co, rfl, hbo1, RX1⟩, B1x⟩; have O1 := buf_below HB.out B1x; clear B1x HB cT)
              | (refine wpList_allocS rfl 30 rfl (fL (0, 0, 0)) Try.zeroValue30 ?_; intro V2 x8 F2 S2; have y8 : V1.heap.size ≤ x8 := Nat.le_of_eq F2.at'.symm; have BF : Below V1.heap.size V1 V2 := F2.trans (Below.refl _ _) (Nat.le_refl _); clear F2)
              | (refine wpList_storeS rfl 30 _ _ rfl rfl (fL (0, 0, 0)) rfl S2 (by simp [fL]) info30 (fL_one _) ?_; intro V3 U3 S3x; have S8 : IsS V3 x8 30 (fL (0, 0, 0)) := S3x; have BG : Below V1.heap.size V1 V3 := U3.trans BF y8; have O3 := buf_below O1 BG; have hbo : bo < V3.heap.size := Nat.lt_of_lt_of_le hbo1 BG.size; have RX : V3.rangeAt bo oo (gtL X) := fun i u hu => (BG.cell (p := ⟨bo, oo + i, none⟩) hbo1).trans (RX1 i u hu); clear RX1 hbo1; clear U3 S3x S2 BF BG O1))
            have RG : V3.rangeAt b0 (o0 + j * 7) (gtL ⟨k, tx, v, x1, x2, x3, x4⟩) := fun i u hu => (O3.2.1.cell (p := ⟨b0, o0 + j * 7 + i, none⟩) hb0).trans (hrg i u hu)
            have hb0v : b0 < V3.heap.size := Nat.lt_of_lt_of_le hb0 O3.2.2
            refine grow_allW (by kernel_rfl) (by kernel_rfl) ?_
            refine WG.put rfl (v := .pointer (some ⟨x8, 2, none⟩)) (fun w => by first | rfl | (go_simp; done) | (simp [go_sem]; done)) ?_
            simp only [Act.put, List.setIfInBounds_toArray, List.set_cons_succ, List.set_cons_zero]
            refine WG.load1 rfl 3 _ rfl rfl S8 (v := .int .i64 0) rfl ld3 ?_
            simp only [Act.put, List.setIfInBounds_toArray, List.set_cons_succ, List.set_cons_zero]
            refine WG.put rfl (v := .bool false) (fun w => by first | rfl | (go_simp; done) | (simp [go_sem]; done)) ?_
            simp only [Act.put, List.setIfInBounds_toArray, List.set_cons_succ, List.set_cons_zero]
            refine WG.put rfl (v := .bool false) (fun w => by first | rfl | (go_simp; done) | (simp [go_sem]; done)) ?_
            simp only [Act.put, List.setIfInBounds_toArray, List.set_cons_succ, List.set_cons_zero]
            refine WG.put rfl (v := .slice (some ⟨bo, oo, none⟩) 1 co) (fun w => by first | rfl | (go_simp; done) | (simp [go_sem]; done)) ?_
            simp only [Act.put, List.setIfInBounds_toArray, List.set_cons_succ, List.set_cons_zero]
            refine WG.put rfl (v := .int .i64 1) (fun w => by first | rfl | (go_simp; done) | (simp [go_sem]; done)) ?_
            simp only [Act.put, List.setIfInBounds_toArray, List.set_cons_succ, List.set_cons_zero]
            refine WG.put rfl (v := .bool false) (fun w => by first | rfl | (go_simp; done) | (simp [go_sem]; done)) ?_
            simp only [Act.put, List.setIfInBounds_toArray, List.set_cons_succ, List.set_cons_zero]
            refine WG.put rfl (v := .bool false) (fun w => by first | rfl | (go_simp; done) | (simp [go_sem]; done)) ?_
            simp only [Act.put, List.setIfInBounds_toArray, List.set_cons_succ, List.set_cons_zero]
            refine WG.put rfl (v := .bool false) (fun w => by first | rfl | (go_simp; done) | (simp [go_sem]; done)) ?_
            simp only [Act.put, List.setIfInBounds_toArray, List.set_cons_succ, List.set_cons_zero]
            refine WG.put rfl (v := .slice (some ⟨bo, oo, none⟩) 1 co) (fun w => by first | rfl | (go_simp; done) | (simp [go_sem]; done)) ?_
            simp only [Act.put, List.setIfInBounds_toArray, List.set_cons_succ, List.set_cons_zero]
            refine WG.put rfl (v := .pointer (some ⟨bo, oo, none⟩)) (fun w => by first | rfl | (go_simp; done) | (simp [go_sem]; done)) ?_
            simp only [Act.put, List.setIfInBounds_toArray, List.set_cons_succ, List.set_cons_zero]
            refine WG.range rfl 38 _ rfl rfl (gtL X) hbo RX _ Try.underlying38 rfl info38 ?_
            simp only [Act.put, List.setIfInBounds_toArray, List.set_cons_succ, List.set_cons_zero]
            refine WG.call rfl (f := 46) (args := #[.agg (gtL X).toArray]) (v := .agg (gtL (bareG X)).toArray) (fun w _ => rbare_any X w) (fun w => by first | rfl | (go_simp; done)) ?_
            simp only [Act.put, List.setIfInBounds_toArray, List.set_cons_succ, List.set_cons_zero]
            refine WG.put rfl (v := .slice (some ⟨b0, o0, none⟩) gs.length cap) (fun w => by first | rfl | (go_simp; done) | (simp [go_sem]; done)) ?_
            simp only [Act.put, List.setIfInBounds_toArray, List.set_cons_succ, List.set_cons_zero]
            refine WG.put rfl (v := .int .i64 (j : Int)) (fun w => by first | rfl | (go_simp; done) | (simp [go_sem]; done)) ?_
            simp only [Act.put, List.setIfInBounds_toArray, List.set_cons_succ, List.set_cons_zero]
            refine WG.put rfl (v := .pointer (some ⟨b0, o0 + j * 7, none⟩)) (fun w => by first | rfl | (go_simp; done) | (simp [go_sem]; done)) ?_
            simp only [Act.put, List.setIfInBounds_toArray, List.set_cons_succ, List.set_cons_zero]
            refine WG.range rfl 38 _ rfl rfl (gtL ⟨k, tx, v, x1, x2, x3, x4⟩) hb0v RG _ Try.underlying38 rfl info38 ?_
            simp only [Act.put, List.setIfInBounds_toArray, List.set_cons_succ, List.set_cons_zero]
            refine WG.call rfl (f := 46) (args := #[.agg (gtL ⟨k, tx, v, x1, x2, x3, x4⟩).toArray]) (v := .agg (gtL ⟨k, tx, 0, 0, 0, 0, 0⟩).toArray) (fun w _ => rbare_any ⟨k, tx, v, x1, x2, x3, x4⟩ w) (fun w => by first | rfl | (go_simp; done)) ?_
            simp only [Act.put, List.setIfInBounds_toArray, List.set_cons_succ, List.set_cons_zero]
            refine WG.put rfl (v := .bool true) (fun w => by simp [go_sem, gtL, bareG]; exact hCC.out) ?_
            simp only [Act.put, List.setIfInBounds_toArray, List.set_cons_succ, List.set_cons_zero]
            refine WG.put rfl (v := .bool true) (fun w => by first | rfl | (go_simp; done) | (simp [go_sem]; done)) ?_
            simp only [Act.put, List.setIfInBounds_toArray, List.set_cons_succ, List.set_cons_zero]
            refine WG.put rfl (v := .bool true) (fun w => by first | rfl | (go_simp; done) | (simp [go_sem]; done)) ?_
            simp only [Act.put, List.setIfInBounds_toArray, List.set_cons_succ, List.set_cons_zero]
            refine WG.skip rfl ?_
            simp only [Act.put, List.setIfInBounds_toArray, List.set_cons_succ, List.set_cons_zero]
            refine WG.skip rfl ?_
            simp only [Act.put, List.setIfInBounds_toArray, List.set_cons_succ, List.set_cons_zero]
            refine WG.skip rfl ?_
            simp only [Act.put, List.setIfInBounds_toArray, List.set_cons_succ, List.set_cons_zero]
            refine WG.skip rfl ?_
            simp only [Act.put, List.setIfInBounds_toArray, List.set_cons_succ, List.set_cons_zero]
            refine WG.skip rfl ?_
            simp only [Act.put, List.setIfInBounds_toArray, List.set_cons_succ, List.set_cons_zero]
            refine WG.skip rfl ?_
            simp only [Act.put, List.setIfInBounds_toArray, List.set_cons_succ, List.set_cons_zero]
            refine WG.skip rfl ?_
            simp only [Act.put, List.setIfInBounds_toArray, List.set_cons_succ, List.set_cons_zero]
            refine WG.put rfl (v := .bool true) (fun w => by first | rfl | (go_simp; done) | (simp [go_sem]; done)) ?_
            simp only [Act.put, List.setIfInBounds_toArray, List.set_cons_succ, List.set_cons_zero]
            refine WG.put rfl (v := .bool true) (fun w => by first | rfl | (go_simp; done) | (simp [go_sem]; done)) ?_
            simp only [Act.put, List.setIfInBounds_toArray, List.set_cons_succ, List.set_cons_zero]
            refine WG.skip rfl ?_
            simp only [Act.put, List.setIfInBounds_toArray, List.set_cons_succ, List.set_cons_zero]
            refine WG.skip rfl ?_
            simp only [Act.put, List.setIfInBounds_toArray, List.set_cons_succ, List.set_cons_zero]
            refine WG.skip rfl ?_
            simp only [Act.put, List.setIfInBounds_toArray, List.set_cons_succ, List.set_cons_zero]
            refine WG.skip rfl ?_
            simp only [Act.put, List.setIfInBounds_toArray, List.set_cons_succ, List.set_cons_zero]
            refine WG.skip rfl ?_
            simp only [Act.put, List.setIfInBounds_toArray, List.set_cons_succ, List.set_cons_zero]
            refine WG.put rfl (v := .bool true) (fun w => by first | rfl | (go_simp; done) | (simp [go_sem]; done)) ?_
            simp only [Act.put, List.setIfInBounds_toArray, List.set_cons_succ, List.set_cons_zero]
            refine WG.nil ?_
            intro V4 B4
            have O4 := buf_below O3 B4
            clear B4 O3 S8 RG RX
            go_wp2_with fail
            go_ret2
            exact ⟨by rw [HW.out]; rfl, O4.2.1⟩
    · obtain rfl : j = gs.length := by omega
      have hi : ¬ (gs.length : Int) < gs.length := by omega
      have HW := write_all (gs := gs) (fun g hg => by obtain ⟨i, hi, rfl⟩ := List.mem_iff_getElem.1 hg; exact HS.out i _ hi (List.getElem?_eq_getElem hi))
      rw [List.take_of_length_le (Nat.le_refl _)] at hJ
      rw [hJ] at HW
      have HW2 : Hid (writeV gs = if 1048576 < J.length then .tuple #[.string ⟨#[]⟩, .int .i64 1] else .tuple #[.string ⟨J.toArray⟩, .int .i64 0]) := HW
      clear HW hJ HS HTS HBD HTK hlt
      by_cases hb : 1048576 < J.length
      · have hbi : (1048576 : Int) < J.length := by omega
        rw [if_pos hb] at HW2
        clear hb
        go_wp2_with fail
        go_ret2
        exact ⟨by rw [HW2.out]; rfl, HB.out.2.1⟩
      · have hbi : ¬ (1048576 : Int) < J.length := by omega
        rw [if_neg hb] at HW2
        clear hb
        go_wp2_with fail
        go_ret2
        exact ⟨by rw [HW2.out]; rfl, HB.out.2.1⟩
end Go.Proofs.Ytbelajboalikcaa
/- LexisWrites: the law. -/
namespace Go.Proofs.Ytbelajboalikcaa
open Go.RowKit Go.Shelf M
set_option linter.unusedSimpArgs false
set_option linter.unusedVariables false

def nine : GT := ⟨9, ⟨#[]⟩, 0, 0, 0, 0, 0⟩
def sumT (gs : List GT) : Nat := (gs.map fun g => 1 + g.text.size).sum
theorem sumT_step (gs : List GT) (j : Nat) (g : GT) (h : gs[j]? = some g) : sumT (gs.take (j + 1)) = sumT (gs.take j) + (1 + g.text.size) := by
  have hlt := (List.getElem?_eq_some_iff.1 h).1
  have e : gs[j] = g := by rw [List.getElem?_eq_getElem hlt] at h; exact Option.some.inj h
  unfold sumT
  rw [List.take_succ_eq_append_getElem hlt, List.map_append, List.sum_append, e]
  simp
theorem sumT_len : ∀ gs : List GT, gs.length ≤ sumT gs
  | [] => Nat.le_refl _
  | g :: gs => by
    have := sumT_len gs
    unfold sumT at this ⊢
    simp only [List.length_cons, List.map_cons, List.sum_cons]
    omega
theorem sumT_mem : ∀ (gs : List GT) (g : GT), g ∈ gs → g.text.size ≤ sumT gs
  | [], g, h => by cases h
  | x :: gs, g, h => by
    have := sumT_mem gs g
    unfold sumT at this ⊢
    simp only [List.map_cons, List.sum_cons]
    rcases List.mem_cons.1 h with rfl | h
    · omega
    · have := this h; omega
theorem own_le (g : GT) : (ownG g).length ≤ g.text.size + 2 := by
  unfold ownG ownF
  split
  · simp only [List.length_cons, List.length_append, List.length_nil, ← sizeL]; omega
  · rw [← sizeL]; omega
theorem join_le (gs : List GT) : ∀ j, j ≤ gs.length → (joinF ((gs.take j).map ownG)).length ≤ 3 * sumT (gs.take j)
  | 0, _ => by simp [joinF]
  | j + 1, h => by
    obtain ⟨g, hg⟩ : ∃ g, gs[j]? = some g := ⟨_, List.getElem?_eq_getElem (by omega)⟩
    have ih := join_le gs j (by omega)
    have ho := own_le g
    rw [join_step gs j g hg, sumT_step gs j g hg, List.length_append, List.length_append]
    have : (if 0 < j then [32] else ([] : List UInt8)).length ≤ 1 := by split <;> simp
    omega
theorem sumT_take (gs : List GT) : ∀ j, sumT (gs.take j) ≤ sumT gs := fun j => by
  have e := congrArg sumT (List.take_append_drop j gs)
  unfold sumT at e ⊢
  rw [List.map_append, List.sum_append] at e
  omega
/-- Tokens in memory, cell by cell. -/
theorem toks_cells {w : World} {ad : Addr} {gs : List GT} (h : Toks w (some ad) gs) : ∀ m u, (cellsG gs)[m]? = some u → w.cell? (ad.add m) = some u := fun m u hu => by
  have hm := (List.getElem?_eq_some_iff.1 hu).1
  rw [cellsG_len] at hm
  have hj : m / 7 < gs.length := by omega
  obtain ⟨g, hg⟩ : ∃ g, gs[m / 7]? = some g := ⟨_, List.getElem?_eq_getElem hj⟩
  obtain ⟨b, o, e, hb, hr⟩ := h _ g hg
  cases e
  have hi : m % 7 < (gtL g).length := by show m % 7 < 7; omega
  have h2 := cellsG_at gs _ g hg (m % 7) _ (List.getElem?_eq_getElem hi)
  rw [show m / 7 * 7 + m % 7 = m by omega, hu] at h2
  cases h2
  rw [Addr.add_mid]
  have := hr (m % 7) _ (List.getElem?_eq_getElem hi)
  rwa [show o + m / 7 * 7 + m % 7 = o + m by omega] at this
theorem toks_pre {w : World} {a : Option Addr} {gs hs : List GT} (h : Toks w a (gs ++ hs)) : Toks w a gs := fun j g hg => h j g (by
  rw [List.getElem?_append_left (List.getElem?_eq_some_iff.1 hg).1]; exact hg)
theorem writeV_form (gs : List GT) : ∃ (T : ByteArray) (E : Int), writeV gs = .tuple #[.string T, .int .i64 E] := by
  unfold writeV
  split
  · exact ⟨_, _, rfl⟩
  · split
    · exact ⟨_, _, rfl⟩
    · exact ⟨_, _, rfl⟩
theorem below_lit (w : World) (o : Obj) : Below w.heap.size w (w.alloc o) := (Below.refl _ w).alloc (Nat.le_refl _) o
theorem own_toks2 {W : World} {base n cap : Nat} {a : Option Addr} {gs : List GT} (h : W.ownsRow base 38 7 (.slice a n cap) n (cellsG gs)) (hn : gs.length = n) : Toks W a gs := by
  obtain ⟨a', c', e, hT⟩ := own_toks h hn
  cases e
  exact hT
theorem own_cap {W : World} {base n : Nat} {v : Value} {xs : List Value} (h : W.ownsRow base 38 7 v n xs) (hn : 0 < n) : ∃ g cap, v = .slice (some ⟨g, 0, none⟩) n cap ∧ n ≤ cap := by
  rcases h.2 with ⟨rfl, h0⟩ | ⟨g, cap, cur, rfl, hg, hh, h1, rest⟩
  · omega
  · exact ⟨g, cap, rfl, h1⟩

set_option maxRecDepth 100000 in
set_option maxHeartbeats 2000000 in
theorem same2_any (a b : Option Addr) (c d : Nat) (gs : List GT) (hn : gs.length ≤ 1073741824) (w : World) (hA : Toks w a gs) (hB : Toks w b gs) :
    Calls Try.prog 13 #[.slice a gs.length c, .slice b gs.length d] w fun e w' => e = .returned (.bool true) ∧ Below w.heap.size w w' := by
  go_enter Try.func13, Try.ntmps13
  go_wp2
  go_loopw [5] (fun i wr => ∃ j : Nat, j ≤ gs.length ∧ i = .int .i64 (j : Int) ∧ Hid (Below w.heap.size w wr)) (fun i _ => gs.length - (intOf i).toNat)
  case atStart => exact ⟨0, by omega, rfl, Below.refl _ _⟩
  case round =>
    obtain ⟨j, hj, rfl, HB⟩ := hrel
    by_cases hlt : j < gs.length
    · have hi' : (j : Int) < gs.length := by omega
      obtain ⟨g, hg⟩ : ∃ g, gs[j]? = some g := ⟨_, List.getElem?_eq_getElem hlt⟩
      obtain ⟨b1, o1, rfl, hb1, hr1⟩ := hA j g hg
      obtain ⟨b2, o2, rfl, hb2, hr2⟩ := hB j g hg
      have q1 : ∀ W, Below wr.heap.size wr W → W.rangeAt b1 (o1 + j * 7) (gtL g) := fun W hW i v hv => by
        rw [(HB.out.trans (hW.mono HB.out.size)).cell (p := ⟨b1, o1 + j * 7 + i, none⟩) hb1]; exact hr1 i v hv
      have q2 : ∀ W, Below wr.heap.size wr W → W.rangeAt b2 (o2 + j * 7) (gtL g) := fun W hW i v hv => by
        rw [(HB.out.trans (hW.mono HB.out.size)).cell (p := ⟨b2, o2 + j * 7 + i, none⟩) hb2]; exact hr2 i v hv
      clear hA hB hg hr1 hr2
      go_wp2_with fail
      refine grow_all (by kernel_rfl) (by kernel_rfl) ?_
      refine wpG_put rfl (v := .slice (some ⟨b1, o1, none⟩) gs.length c) (fun w => by first | rfl | (go_simp; done)) ?_
      refine wpG_put rfl (v := .int .i64 (j : Int)) (fun w => by first | rfl | (go_simp; done)) ?_
      simp only [Act.put, List.setIfInBounds_toArray, List.set_cons_succ, List.set_cons_zero]
      refine wpG_put rfl (v := .pointer (some ⟨b1, o1 + j * 7, none⟩)) (fun w => by first | rfl | (go_simp; done)) ?_
      refine wpG_value rfl (v := .agg (gtL g).toArray) (fun w hw => by unfold execOp; simp only [Sem.run_bind]; show ((Instr.loadAt 38 (.pointer (some ⟨b1, o1 + j * 7, none⟩))).run Try.prog w).andThen _ = _; rw [run_loadAt_mid w b1 (o1 + j * 7) 38 (gtL g) _ (q1 w hw) Try.underlying38 rfl info38]; rfl) ?_
      simp only [Act.put, List.setIfInBounds_toArray, List.set_cons_succ, List.set_cons_zero]
      refine wpG_put rfl (v := .slice (some ⟨b2, o2, none⟩) gs.length d) (fun w => by first | rfl | (go_simp; done)) ?_
      refine wpG_put rfl (v := .int .i64 (j : Int)) (fun w => by first | rfl | (go_simp; done)) ?_
      simp only [Act.put, List.setIfInBounds_toArray, List.set_cons_succ, List.set_cons_zero]
      refine wpG_put rfl (v := .pointer (some ⟨b2, o2 + j * 7, none⟩)) (fun w => by first | rfl | (go_simp; done)) ?_
      refine wpG_value rfl (v := .agg (gtL g).toArray) (fun w hw => by unfold execOp; simp only [Sem.run_bind]; show ((Instr.loadAt 38 (.pointer (some ⟨b2, o2 + j * 7, none⟩))).run Try.prog w).andThen _ = _; rw [run_loadAt_mid w b2 (o2 + j * 7) 38 (gtL g) _ (q2 w hw) Try.underlying38 rfl info38]; rfl) ?_
      simp only [Act.put, List.setIfInBounds_toArray, List.set_cons_succ, List.set_cons_zero]
      refine wpG_put rfl (v := .bool false) (fun w => by first | rfl | (go_simp; done) | (simp [go_sem, gtL]; done)) ?_
      simp only [Act.put, List.setIfInBounds_toArray, List.set_cons_succ, List.set_cons_zero]
      refine wpG_nil ?_
      intro W1 B1
      have H1 : Hid (Below w.heap.size w W1) := HB.out.trans (B1.mono HB.out.size)
      clear q1 q2 B1
      go_wp2_with fail
      go_roundw
      case rel => exact ⟨j + 1, by omega, by go_num, H1⟩
      case measure => simp [intOf]; omega
    · obtain rfl : j = gs.length := by omega
      clear hA hB
      go_wp2
      go_ret
      exact ⟨rfl, HB.out⟩
set_option maxRecDepth 100000 in
set_option maxHeartbeats 8000000 in
theorem writes_law (a : Option Addr) (cap : Nat) (gs : List GT) (hsz : ∀ g ∈ gs, g.text.size < 2305843009213693952) (hnil : a = none → gs = [] ∧ cap = 0) (w : World) (hT : Toks w a gs) :
    Calls Try.prog 6 #[.slice a gs.length cap] w fun e w' => e = .returned (.bool true) ∧ Below w.heap.size w w' := by
  obtain ⟨i0, hi0, hz0, hz1, hz2⟩ := parts38
  have HTS : Hid (∀ g ∈ gs, g.text.size < 2305843009213693952) := hsz
  have HTK : Hid (Toks w a gs) := hT
  have HNL : Hid (a = none → gs = [] ∧ cap = 0) := hnil
  clear hsz hT hnil
  go_enter Try.func6, Try.ntmps6
  go_wp2_with fail
  go_loop [3, 4] (fun n i => ∃ j N : Nat, j ≤ gs.length ∧ i = .int .i64 (j : Int) ∧ n = .int .i64 (N : Int) ∧ N < 4611686018427387904 ∧ j ≤ N ∧ Hid (sumT (gs.take j) = N)) (fun _ i => gs.length - (intOf i).toNat)
  case atStart => exact ⟨0, 0, by omega, rfl, rfl, by omega, by omega, rfl⟩
  case round =>
    obtain ⟨j, N, hj, rfl, rfl, hN, hjN, HN⟩ := hrel
    by_cases hbig : N < 67108864
    · have hbi : (N : Int) < 67108864 := by omega
      have hbj : ¬ (67108864 : Int) ≤ N := by omega
      by_cases hlt : j < gs.length
      · have hi : (j : Int) < gs.length := by omega
        obtain ⟨g, hg⟩ : ∃ g, gs[j]? = some g := ⟨_, List.getElem?_eq_getElem hlt⟩
        have htx := HTS.out g (List.mem_of_getElem? hg)
        obtain ⟨b0, o0, rfl, hb0, hrg⟩ := HTK.out j g hg
        have HN2 : Hid (sumT (gs.take (j + 1)) = N + (1 + g.text.size)) := (by show _ = _; rw [sumT_step gs j g hg, HN.out])
        obtain ⟨k, tx, v, x1, x2, x3, x4⟩ := g
        dsimp only at htx HN2
        have c1 : w.cell? ⟨b0, o0 + j * 7 + 1, none⟩ = some (.string tx) := hrg 1 _ rfl
        clear hrg hg HN HTS HTK HNL
        go_wp2_with fail
        go_round
        case rel => exact ⟨j + 1, N + (1 + tx.size), by omega, by go_num, by go_num, by omega, by omega, HN2⟩
        case measure => simp [intOf]; omega
      · obtain rfl : j = gs.length := by omega
        have hi : ¬ (gs.length : Int) < gs.length := by omega
        have hsum : sumT gs = N := (by have := HN.out; rwa [List.take_of_length_le (Nat.le_refl _)] at this)
        have hgl : gs.length ≤ 67108864 := (by have := sumT_len gs; omega)
        have cR := fun w hT => rwrite_any a cap gs (fun g hg => by have := sumT_mem gs g hg; omega) hgl (fun j hj => by have := join_le gs j hj; have := sumT_take gs j; omega) w hT
        have cW := fun a cap w hT => write_any a cap gs HTS.out (by omega) w hT
        have cS := fun a c b d w h1 h2 => same2_any a b c d gs (by omega) w h1 h2
        obtain ⟨T, E, hV⟩ := writeV_form gs
        rw [hV] at cR cW
        have CR : Hid (∀ w, Toks w a gs → _) := cR
        have CW : Hid (∀ a cap w, Toks w a gs → _) := cW
        have CS : Hid (∀ a c b d w, Toks w a gs → Toks w b gs → _) := cS
        have OWN0 : Hid (∀ W : World, (W.alloc (.cells #[] 38)).ownsRow W.heap.size 38 7 (.slice (some ⟨W.heap.size, 0, none⟩) 0 0) 0 []) := fun W => World.ownsRow_lit W #[] 0 (Nat.le_refl _) (by decide) rfl
        clear HN hV HTS cR cW cS hsum hlt hj
        have tk : True := trivial
        cases a with
        | none =>
          obtain ⟨rfl, rfl⟩ := HNL.out rfl
          clear HNL
          simp only [List.length_nil] at CR CW CS hgl hi hN hjN ⊢
          go_wp2_with (first
              | (at_builtin; clear tk; refine wpList_append_own_none rfl (.tmp 31) (.tmp 32) 24 rfl w.heap.size 38 i0 7 Try.underlying24 hi0 _ 0 [] rfl (OWN0.out w) rfl ?_; have Ba := below_lit w (.cells #[] 38); have own1 : Hid ((w.alloc (.cells #[] 38)).ownsRow w.heap.size 38 7 (.slice (some ⟨w.heap.size, 0, none⟩) 0 0) 0 (cellsG [])) := OWN0.out w; generalize w.alloc (.cells #[] 38) = wa at Ba own1 ⊢)
              | (refine wpList_buildG rfl _ rfl nine rfl ?_; intro wb b3 F3 N3; have own2 : Hid (wb.ownsRow w.heap.size 38 7 (.slice (some ⟨w.heap.size, 0, none⟩) 0 0) 0 (cellsG [])) := own_belowW own1.out (F3.trans (Below.refl _ _) (Nat.le_refl _)); have Bb : Below w.heap.size w wb := F3.trans Ba Ba.size; clear F3 own1 Ba)
              | (at_builtin; refine wpList_append_own _ rfl (.tmp 33) (.tmp 35) 24 rfl w.heap.size 38 i0 (.agg (tokL noTok).toArray) 7 64 Try.underlying24 hi0 hz0 hz1 hz2 rfl (by decide) _ 0 (cellsG []) rfl own2.out ⟨b3, 0, none⟩ 1 1 (gtL nine) rfl rfl (fun j u hj => by rw [Addr.add_mid, Nat.zero_add, N3.cell]; exact hj) (gt_one _) (by unfold maxLen; omega) (by omega) Bb.size ?_; intro v3 wc own3 gr3 _; rw [← cellsG_snoc] at own3; obtain ⟨g2, c2, rfl, hc2⟩ := own_cap own3 (by omega); have Bc : Below w.heap.size w wc := Bb.grown gr3 Bb.size (fun k e => (own2.out.lt k e).1); have TC : Hid (Toks wc (some ⟨g2, 0, none⟩) ([] ++ [nine])) := own_toks2 own3 (by simp); have hcc : (0 : Int) ≤ c2 := (by omega); clear own2 own3 gr3 Bb N3)
              | (go_at_call 22; refine (CW.out (some ⟨g2, 0, none⟩) c2 _ (toks_pre TC.out)).mono ?_; rintro e wd ⟨rfl, Bd⟩; have TD : Hid (Toks wd (some ⟨g2, 0, none⟩) ([] ++ [nine])) := TC.out.below Bd; have Be := Below.then Bc Bd; clear Bd Bc TC)
              | (go_at_call 23; refine (CR.out _ (HTK.out.below Be)).mono ?_; rintro e we ⟨rfl, Bf⟩; have TE : Hid (Toks we (some ⟨g2, 0, none⟩) ([] ++ [nine])) := TD.out.below Bf; have Bg := Below.then Be Bf; clear Bf Be TD)
              | (go_at_call 13; refine (CS.out _ _ _ _ _ (toks_pre TE.out) (HTK.out.below Bg)).mono ?_; rintro e wf ⟨rfl, Bh⟩; have TF := TE.out.below Bh; have Bi := Below.then Bg Bh; have q9 : wf.cell? ⟨g2, 0, none⟩ = some (.int .i64 9) := (by obtain ⟨b9, o9, e9, _, h9⟩ := TF 0 nine (by simp); cases e9; have := h9 0 _ rfl; simpa [nine] using this); clear Bh Bg TE TF))
          go_ret
          exact ⟨rfl, Bi⟩
        | some ad =>
          clear HNL
          go_wp2_with (first
              | (at_builtin; clear tk; refine wpList_append_own _ rfl (.tmp 31) (.tmp 32) 24 rfl w.heap.size 38 i0 (.agg (tokL noTok).toArray) 7 64 Try.underlying24 hi0 hz0 hz1 hz2 rfl (by decide) _ 0 [] rfl (OWN0.out w) ad gs.length cap (cellsG gs) rfl (cellsG_len gs) (fun m u hu => by rw [(below_lit w _).cell (World.block_lt_of_cell? w _ (toks_cells HTK.out m u hu))]; exact toks_cells HTK.out m u hu) (fun u hu => by obtain ⟨g, _, hg⟩ := List.mem_flatMap.1 hu; exact gt_one g u hg) (by unfold maxLen; omega) (by omega) (below_lit w _).size ?_; intro v1 wa own1x gr1 _; rw [List.nil_append, Nat.zero_add] at own1x; have own1 : Hid (wa.ownsRow w.heap.size 38 7 v1 gs.length (cellsG gs)) := own1x; have Ba : Below w.heap.size w wa := (below_lit w (.cells #[] 38)).grown gr1 (below_lit w _).size (fun k e => ((OWN0.out w).lt k e).1); clear own1x gr1)
              | (refine wpList_buildG rfl _ rfl nine rfl ?_; intro wb b3 F3 N3; have own2 : Hid (wb.ownsRow w.heap.size 38 7 v1 gs.length (cellsG gs)) := own_belowW own1.out (F3.trans (Below.refl _ _) (Nat.le_refl _)); have Bb : Below w.heap.size w wb := F3.trans Ba Ba.size; clear F3 own1 Ba)
              | (at_builtin; refine wpList_append_own _ rfl (.tmp 33) (.tmp 35) 24 rfl w.heap.size 38 i0 (.agg (tokL noTok).toArray) 7 64 Try.underlying24 hi0 hz0 hz1 hz2 rfl (by decide) _ gs.length (cellsG gs) rfl own2.out ⟨b3, 0, none⟩ 1 1 (gtL nine) rfl rfl (fun j u hj => by rw [Addr.add_mid, Nat.zero_add, N3.cell]; exact hj) (gt_one _) (by unfold maxLen; omega) (by omega) Bb.size ?_; intro v3 wc own3 gr3 _; rw [← cellsG_snoc] at own3; obtain ⟨g2, c2, rfl, hc2⟩ := own_cap own3 (by omega); have Bc : Below w.heap.size w wc := Bb.grown gr3 Bb.size (fun k e => (own2.out.lt k e).1); have TC : Hid (Toks wc (some ⟨g2, 0, none⟩) (gs ++ [nine])) := own_toks2 own3 (by simp); have hcc : ((gs.length : Int) : Int) ≤ c2 := (by omega); clear own2 own3 gr3 Bb N3)
              | (go_at_call 22; refine (CW.out (some ⟨g2, 0, none⟩) c2 _ (toks_pre TC.out)).mono ?_; rintro e wd ⟨rfl, Bd⟩; have TD : Hid (Toks wd (some ⟨g2, 0, none⟩) (gs ++ [nine])) := TC.out.below Bd; have Be := Below.then Bc Bd; clear Bd Bc TC)
              | (go_at_call 23; refine (CR.out _ (HTK.out.below Be)).mono ?_; rintro e we ⟨rfl, Bf⟩; have TE : Hid (Toks we (some ⟨g2, 0, none⟩) (gs ++ [nine])) := TD.out.below Bf; have Bg := Below.then Be Bf; clear Bf Be TD)
              | (go_at_call 13; refine (CS.out _ _ _ _ _ (toks_pre TE.out) (HTK.out.below Bg)).mono ?_; rintro e wf ⟨rfl, Bh⟩; have TF := TE.out.below Bh; have Bi := Below.then Bg Bh; have q9 : wf.cell? ⟨g2, gs.length * 7, none⟩ = some (.int .i64 9) := (by obtain ⟨b9, o9, e9, _, h9⟩ := TF gs.length nine (by simp); cases e9; have := h9 0 _ rfl; simpa [nine] using this); clear Bh Bg TE TF))
          go_ret
          exact ⟨rfl, Bi⟩
    · have hbi : ¬ (N : Int) < 67108864 := by omega
      have hbj : (67108864 : Int) ≤ N := by omega
      clear HN HTS HTK HNL
      by_cases hlt : j < gs.length
      · have hi : (j : Int) < gs.length := by omega
        go_wp2_with fail
        go_ret
        exact ⟨rfl, Below.refl _ _⟩
      · have hi : ¬ (j : Int) < gs.length := by omega
        go_wp2_with fail
        go_ret
        exact ⟨rfl, Below.refl _ _⟩
end Go.Proofs.Ytbelajboalikcaa

/- RA8, FQ, LW1 -/
import Derived.Test.YtegpnicajlndlaaRA7
import Derived.Test.YtegpnicajlndlaaQae
import Derived.ChangeKeysEq
import Derived.Test.YtegpnicajlndlaaQbp
namespace Go.Proofs.Ytegpnicajlndlaa
open Go.RowKit M
set_option linter.unusedSimpArgs false
set_option linter.unusedVariables false
theorem padTo_self (q : List Int) (m : Nat) (h : q.length = m) : padTo m q = q := by
 subst h
 refine List.ext_getElem (padTo_len _ _) fun i h1 h2 => ?_
 simp [padTo, h2]
theorem allR_self : ∀ (k : Nat) (rs : List (List ByteArray)) (ri : List (List Int)), k ≤ ri.length → (∀ (i : Nat) q, i < k → ri[i]? = some q → q.length = (rs.getD i []).length) → allR rs ri k = (ri.take k).flatten
 | 0, rs, ri, _, _ => by simp [allR]
 | k + 1, rs, ri, hk, h => by
  have hg : ri[k]? = some (ri.getD k []) := by simp [show k < ri.length by omega]
  rw [allR_next, allR_self k rs ri (by omega) (fun i q hi hq => h i q (by omega) hq), padTo_self _ _ (h k _ (by omega) hg)]
  rw [List.take_add_one, hg]
  simp
theorem end_self {p : PG} {pc : List Int} {regs : List (List Int)} {mem : List Int} (hv : Vld p) (hI : Inv p pc regs mem) : (allR p.regs regs p.regs.length ++ padTo p.locs.length mem).take 48 = regs.flatten ++ mem := by
 have e1 : regs.length = p.regs.length := hI.rl.trans hv.rl.symm
 rw [allR_self _ _ _ (by omega) (fun i q hi hq => by
  have : p.regs[i]? = some (p.regs.getD i []) := by simp [hi]
  exact hI.rs i _ _ this hq), padTo_self _ _ hI.ml, List.take_of_length_le (l := regs) (by omega), List.take_of_length_le]
 exact inv_48 hv hI
def StepA (ths : List (List Op5)) (n : Nat) (pc : List Int) (regs : List (List Int)) (mem : List Int) (i : Int) (w' : World) (v : Value) : Prop := match stepS ths pc regs mem i with
 | none => v = .agg [.slice none 0 0, .slice none 0 0, .slice none 0 0, .slice none 0 0, .slice none 0 0, .int .i64 0].toArray
 | some t => ∃ vpc vph vrg vmm vbf, v = .agg #[vpc, vph, vrg, vmm, vbf, .int .i64 (-1)] ∧ RSk w' vpc vph vrg vmm vbf n t.1 t.2.1 t.2.2
theorem rstep_any (p : PG) (hv : Vld p) (hf : p.Few) (pc : List Int) (regs : List (List Int)) (mem : List Int) (hI : Inv p pc regs mem) (i : Int) (n nm ct cp ch cr cm cb : Nat) (at0 ap ah ar am ab : Option Addr) (vr vl vi vj : Value) (w : World) (hn0 : p.threads.length = n) (hnm : mem.length = nm)
    (hT : RowsV w (.slice at0 n ct) op5L p.threads) (hS : RS w (.slice ap n cp) (.slice ah n ch) (.slice ar n cr) (.slice am nm cm) (.slice ab n cb) n pc regs mem) :
    Calls Try.prog 23 #[.agg #[.slice at0 n ct, vr, vl, vi, vj], .agg #[.slice ap n cp, .slice ah n ch, .slice ar n cr, .slice am nm cm, .slice ab n cb, .int .i64 (-1)], .agg #[.int .i64 i, .int .i64 1, .int .i64 0]] w fun e w' => ∃ v, e = .returned (.tuple #[v, .bool (stepS p.threads pc regs mem i).isSome]) ∧ StepA p.threads n pc regs mem i w' v ∧ Below w.heap.size w w' := by
 cases hs : stepS p.threads pc regs mem i with
 | none =>
  refine (rstep_none p hv hf pc regs mem hI i n nm ct cp ch cr cm cb at0 ap ah ar am ab vr vl vi vj w hn0 hnm hT hS hs).mono ?_
  rintro e w' ⟨rfl, hB⟩
  exact ⟨_, rfl, by unfold StepA; rw [hs], hB⟩
 | some t =>
  refine (rstep_some p hv hf pc regs mem hI i n nm ct cp ch cr cm cb at0 ap ah ar am ab vr vl vi vj w hn0 hnm hT hS t hs).mono ?_
  rintro e w' ⟨vpc, vph, vrg, vmm, vbf, rfl, hR, hB⟩
  exact ⟨_, rfl, by unfold StepA; rw [hs]; exact ⟨vpc, vph, vrg, vmm, vbf, rfl, hR⟩, hB⟩
end Go.Proofs.Ytegpnicajlndlaa
namespace Go.Proofs.Ytegpnicajlndlaa
open Go Go.RowKit M
set_option linter.unusedSimpArgs false
set_option linter.unusedVariables false
def finR (vs : List Int) : List Value := (padI vs).map (.int .i64)
theorem infoE2 : ∃ i, Try.prog.info? 2 = some i := by
 have h : (Try.prog.info? 2).isSome = true := by kernel_rfl
 exact Option.isSome_iff_exists.1 h
theorem cellsE2 : Try.prog.cellsOf 2 = 1 := by kernel_rfl
theorem partE2 (vs : List Int) (hv : vs.length ≤ 48) (w : World) (i : Nat) (hi : i < 48) : ∃ x : Int, (part 2 (finR vs).toArray (i * 1)).run Try.prog w = .ok (.int .i64 x) w := by
 obtain ⟨x, hx⟩ : ∃ x, (padI vs)[i]? = some x := ⟨_, List.getElem?_eq_getElem (by rw [padI_len hv]; exact hi)⟩
 refine ⟨x, ?_⟩
 unfold part
 have h : (finR vs)[i]? = some (Value.int .i64 x) := by unfold finR; rw [List.getElem?_map, hx]; rfl
 simp [Sem.run_bind, Try.isAgg2, h]
theorem eqItemsF (vs : List Int) (hv : vs.length ≤ 48) (w : World) (d : Nat) : ∀ is : List Nat, (∀ i ∈ is, i < 48) → (Op.eqItems (d + 1) 2 1 (finR vs).toArray (finR vs).toArray is).run Try.prog w = .ok true w
 | [], _ => by simp [Op.eqItems]
 | i :: is, h => by
  obtain ⟨x, h1⟩ := partE2 vs hv w i (h i (by simp))
  have h2 := eqItemsF vs hv w d is (fun j hj => h j (by simp [hj]))
  simp only [Op.eqItems, Sem.run_bind, h1, Result.andThen_ok]
  rw [run_equalIn_int w d 2 .i64 .i64 _ _ Try.underlying2]
  simpa using h2
theorem fieldsF : (Try.prog.fieldsOf 80).toList = [{ name := "N", type := 3, offset := 0, embedded := false, tag := "", pkgPath := "", byteOffset := 0 },
        { name := "V", type := 78, offset := 1, embedded := false, tag := "", pkgPath := "", byteOffset := 8 }] := by kernel_rfl
theorem stoodF : Try.prog.stoodInHeld 80 = false := by kernel_rfl
theorem undF : Try.prog.underlying 80 = some (.struct (Try.prog.fieldsOf 80)) := by kernel_rfl
theorem partFN (vs : List Int) (w : World) : (part 3 (finL vs).toArray 0).run Try.prog w = .ok (.int .i64 (vs.length : Int)) w := by
 have h : (finL vs)[0]? = some (Value.int .i64 (vs.length : Int)) := rfl
 unfold part; simp [Sem.run_bind, Try.isAgg3, h]
theorem ext_fin (vs : List Int) (hv : vs.length ≤ 48) : (finL vs).toArray.extract 1 49 = (finR vs).toArray := by
 rw [List.extract_toArray]
 congr 1
 unfold finL finR
 rw [List.extract_eq_take_drop, List.drop_succ_cons, List.drop_zero, List.take_of_length_le (by rw [List.length_map, padI_len hv]; omega)]
theorem partFR (vs : List Int) (hv : vs.length ≤ 48) (w : World) : (part 78 (finL vs).toArray 1).run Try.prog w = .ok (.agg (finR vs).toArray) w := by
 have e := ext_fin vs hv
 unfold part
 generalize (finL vs).toArray = c at *
 generalize (finR vs).toArray = r at *
 simp only [Sem.run_bind, Try.isAgg78, Try.sizeOf78, Result.andThen_ok, if_true, Sem.run_pure, Nat.reduceAdd, e]
theorem eqFieldsF (xs ys : Array Value) (d : Nat) : Op.eqFields (d + 2) xs ys [{ name := "N", type := 3, offset := 0, embedded := false, tag := "", pkgPath := "", byteOffset := 0 },
        { name := "V", type := 78, offset := 1, embedded := false, tag := "", pkgPath := "", byteOffset := 8 }] = (do
      let a ← part 3 xs 0
      let b ← part 3 ys 0
      let r ← Op.equalIn (d + 2) 3 a b
      if (!r) = true then pure false else do
       let a ← part 78 xs 1
       let b ← part 78 ys 1
       let r ← Op.equalIn (d + 2) 78 a b
       if (!r) = true then pure false else pure true) := by
 simp [Op.eqFields]
theorem equalF3 (n : Int) (w : World) (d : Nat) : (Op.equalIn (d + 2) 3 (.int .i64 n) (.int .i64 n)).run Try.prog w = .ok true w := by
 have := run_equalIn_int (P := Try.prog) w (d + 1) 3 .i64 .i64 n n Try.underlying3
 simpa using this
theorem equalFR (vs : List Int) (hv : vs.length ≤ 48) (w : World) (d : Nat) : (Op.equalIn (d + 2) 78 (.agg (finR vs).toArray) (.agg (finR vs).toArray)).run Try.prog w = .ok true w := by
 obtain ⟨i, hi⟩ := infoE2
 have := run_equalIn_array (P := Try.prog) w (d + 1) (finR vs).toArray (finR vs).toArray Try.underlying78 hi
 rw [cellsE2] at this
 rw [this]
 exact eqItemsF vs hv w d _ (by simp)
theorem equalFS (c : Array Value) (w : World) (d : Nat) : (Op.equalIn (d + 3) 80 (.agg c) (.agg c)).run Try.prog w = (Op.eqFields (d + 2) c c (Try.prog.fieldsOf 80).toList).run Try.prog w :=
 run_equalIn_struct w (d + 2) 80 c c undF stoodF
theorem eqDoF (c r : Array Value) (n : Int) (w : World) (E : TypeId → Value → Value → Sem Bool) (h0 : (E 3 (.int .i64 n) (.int .i64 n)).run Try.prog w = .ok true w) (h1 : (part 3 c 0).run Try.prog w = .ok (.int .i64 n) w) (h2 : (part 78 c 1).run Try.prog w = .ok (.agg r) w)
    (h3 : (E 78 (.agg r) (.agg r)).run Try.prog w = .ok true w) : (do
     let a ← part 3 c 0
     let b ← part 3 c 0
     let r ← E 3 a b
     if (!r) = true then pure false else do
      let a ← part 78 c 1
      let b ← part 78 c 1
      let r ← E 78 a b
      if (!r) = true then pure false else pure true : Sem Bool).run Try.prog w = .ok true w := by
 simp only [Sem.run_bind, h0, h1, h2, h3, Result.andThen_ok, Bool.not_true, Bool.false_eq_true, if_false, Sem.run_pure]
theorem equalFC (c r : Array Value) (n : Int) (w : World) (d : Nat) (h1 : (part 3 c 0).run Try.prog w = .ok (.int .i64 n) w) (h2 : (part 78 c 1).run Try.prog w = .ok (.agg r) w)
    (h3 : (Op.equalIn (d + 2) 78 (.agg r) (.agg r)).run Try.prog w = .ok true w) : (Op.equalIn (d + 3) 80 (.agg c) (.agg c)).run Try.prog w = .ok true w :=
 (equalFS c w d).trans ((congrArg (fun s : Sem Bool => s.run Try.prog w) ((congrArg (Op.eqFields (d + 2) c c) fieldsF).trans (eqFieldsF c c d))).trans
  (eqDoF c r n w (Op.equalIn (d + 2)) (equalF3 n w d) h1 h2 h3))
theorem equalFF (vs : List Int) (hv : vs.length ≤ 48) (w : World) : (Op.equalIn 10000 80 (.agg (finL vs).toArray) (.agg (finL vs).toArray)).run Try.prog w = .ok true w :=
 equalFC (finL vs).toArray (finR vs).toArray vs.length w 9997 (partFN vs w) (partFR vs hv w) (equalFR vs hv w 9997)
theorem eqlF (vs : List Int) (hv : vs.length ≤ 48) (w : World) : (binOp .eql 80 (.agg (finL vs).toArray) (.agg (finL vs).toArray)).run Try.prog w = .ok (.bool true) w := by
 have := equalFF vs hv w
 rw [run_eql_struct, this]; rfl
theorem eqGuardF (op : BinOp) (x y : Operand) (c d : Array Value) (w : World) : (eqGuard op 80 x y (.agg c) (.agg d)).run Try.prog w = .ok () w :=
 run_eqGuard_agg w op 80 x y _ _ (by kernel_rfl)
theorem exec_eqF {w : World} {op : Oper} {a : Act} {x y : Operand} {vs : List Int} (hv : vs.length ≤ 48) (ho : op.op = .binOp .eql 80 x y 80) (hx : a.eval x = .agg (finL vs).toArray) (hy : a.eval y = .agg (finL vs).toArray) : (execOp a.eval op).run Try.prog w = .ok (.value (.bool true)) w := by
 unfold execOp
 simp only [ho, hx, hy, Sem.run_bind, eqGuardF, eqlF vs hv w, Result.andThen_ok, Sem.run_pure]
end Go.Proofs.Ytegpnicajlndlaa
namespace Go.Proofs.Ytegpnicajlndlaa
open Go.RowKit M
set_option linter.unusedSimpArgs false
set_option linter.unusedVariables false
set_option maxRecDepth 100000 in
set_option maxHeartbeats 4000000 in
theorem samePicks_any (L : List Nat) (n : Nat) (hn0 : L.length = n) (hn : n ≤ 1048576) (a1 a2 : Option Addr) (c1 c2 : Nat) (w : World) (h1 : Seg w a1 (L.flatMap pkE)) (h2 : Seg w a2 (L.flatMap pkE)) :
    Calls Try.prog 61 #[.slice a1 n c1, .slice a2 n c2] w fun e w' => e = .returned (.bool true) ∧ Below w.heap.size w w' := by
 have HL : Hid (L.length = n) := hn0
 have H1 : Hid (Seg w a1 (L.flatMap pkE)) := h1
 have H2 : Hid (Seg w a2 (L.flatMap pkE)) := h2
 have hnI : (n : Int) ≤ 1048576 := by omega
 clear h1 h2 hn0
 go_enter Try.func61, Try.ntmps61
 go_wp2
 go_loopw [5] (fun i wr => ∃ k : Nat, k ≤ n ∧ i = .int .i64 (k : Int) ∧ Hid (Below w.heap.size w wr)) (fun i _ => n - (intOf i).toNat)
 case atStart => exact ⟨0, Nat.zero_le _, rfl, Below.refl _ _⟩
 case round =>
  obtain ⟨k, hk, rfl, HB⟩ := hrel
  by_cases hlt : k < n
  · have hki : (k : Int) < n := by omega
    obtain ⟨q, hq⟩ : ∃ q, L[k]? = some q := ⟨_, List.getElem?_eq_getElem (by rw [HL.out]; exact hlt)⟩
    obtain ⟨b1, o1, rfl, hb1, r1⟩ := pk_range (H1.out.below HB.out) hq
    obtain ⟨b2, o2, rfl, hb2, r2⟩ := pk_range (H2.out.below HB.out) hq
    clear hq
    go_wp2
    refine grow_allW (by kernel_rfl) (by kernel_rfl) ?_
    refine WG.put rfl (v := (.slice (some ⟨b1, o1, none⟩) n c1)) (fun w => by first | rfl | (go_simp; done) | (simp [go_sem, hki]; done) | (simp [execOp, go_sem, hki]; done)) ?_; simp only [sP]
    refine WG.put rfl (v := (.int .i64 (k : Int))) (fun w => by first | rfl | (go_simp; done) | (simp [go_sem, hki]; done) | (simp [execOp, go_sem, hki]; done)) ?_; simp only [sP]
    refine WG.put rfl (v := (.pointer (some ⟨b1, o1 + k * 3, none⟩))) (fun w => by first | rfl | (go_simp; done) | (simp [go_sem, hki]; done) | (simp [execOp, go_sem, hki]; done)) ?_; simp only [sP]
    refine WG.range rfl 68 _ rfl rfl (pkE q) hb1 r1 _ Try.underlying68 rfl infoPk3 ?_; simp only [sP]
    refine WG.put rfl (v := (.slice (some ⟨b2, o2, none⟩) n c2)) (fun w => by first | rfl | (go_simp; done) | (simp [go_sem, hki]; done) | (simp [execOp, go_sem, hki]; done)) ?_; simp only [sP]
    refine WG.put rfl (v := (.int .i64 (k : Int))) (fun w => by first | rfl | (go_simp; done) | (simp [go_sem, hki]; done) | (simp [execOp, go_sem, hki]; done)) ?_; simp only [sP]
    refine WG.put rfl (v := (.pointer (some ⟨b2, o2 + k * 3, none⟩))) (fun w => by first | rfl | (go_simp; done) | (simp [go_sem, hki]; done) | (simp [execOp, go_sem, hki]; done)) ?_; simp only [sP]
    refine WG.range rfl 68 _ rfl rfl (pkE q) hb2 r2 _ Try.underlying68 rfl infoPk3 ?_; simp only [sP]
    refine WG.put rfl (v := (.bool false)) (fun w => by first | rfl | (go_simp; done) | (simp [go_sem, pkE, hki]; done) | (simp [execOp, go_sem, pkE, hki]; done)) ?_; simp only [sP]
    refine WG.nil ?_
    intro w5 B5
    have HB5 : Hid (Below w.heap.size w w5) := Below.then HB.out B5
    clear r1 r2 B5
    go_wp2
    go_roundw
    case rel => exact ⟨k + 1, by omega, by go_num, HB5⟩
    case measure => simp [intOf]; omega
  · have e : k = n := by omega
    subst e
    have hki : ¬ (k : Int) < k := by omega
    go_wp2
    go_ret
    exact ⟨rfl, HB.out⟩
theorem equalIn_fn (w : World) (d : Nat) (t : TypeId) (ps rs : Array TypeId) (v : Bool) (f : Fn) (ys : Array Value) (h : Try.prog.underlying t = some (.func ps rs v)) : (Op.equalIn (d + 1) t (.func f #[] ys) .nilFunc).run Try.prog w = .ok false w := by
 simp [Op.equalIn, run_underlying h]
theorem equal_fn (w : World) (t : TypeId) (ps rs : Array TypeId) (v : Bool) (f : Fn) (ys : Array Value) (h : Try.prog.underlying t = some (.func ps rs v)) : (Op.equal t (.func f #[] ys) .nilFunc).run Try.prog w = .ok false w := equalIn_fn w 9999 t ps rs v f ys h
theorem neq_fn (w : World) (t : TypeId) (ps rs : Array TypeId) (v : Bool) (f : Fn) (ys : Array Value) (h : Try.prog.underlying t = some (.func ps rs v)) : (binOp .neq t (.func f #[] ys) .nilFunc).run Try.prog w = .ok (.bool true) w := by
 simp [binOp, equal_fn w t ps rs v f ys h]
theorem equalIn_nil (w : World) (d : Nat) (t : TypeId) (ps rs : Array TypeId) (v : Bool) (h : Try.prog.underlying t = some (.func ps rs v)) : (Op.equalIn (d + 1) t .nilFunc .nilFunc).run Try.prog w = .ok true w := by
 simp [Op.equalIn, run_underlying h]
theorem equal_nil (w : World) (t : TypeId) (ps rs : Array TypeId) (v : Bool) (h : Try.prog.underlying t = some (.func ps rs v)) : (Op.equal t .nilFunc .nilFunc).run Try.prog w = .ok true w := equalIn_nil w 9999 t ps rs v h
theorem neq_nil (w : World) (t : TypeId) (ps rs : Array TypeId) (v : Bool) (h : Try.prog.underlying t = some (.func ps rs v)) : (binOp .neq t .nilFunc .nilFunc).run Try.prog w = .ok (.bool false) w := by
 simp [binOp, equal_nil w t ps rs v h]
theorem five4 {v0 v1 v2 v3 : Value} {W : World} {b t : Nat} (h : IsS W b t [v0, v1, v2, v3]) : W.cell? ⟨b, 0, none⟩ = some v0 ∧ W.cell? ⟨b, 1, none⟩ = some v1 ∧ W.cell? ⟨b, 2, none⟩ = some v2 ∧ W.cell? ⟨b, 3, none⟩ = some v3 := ⟨h.cell 0, h.cell 1, h.cell 2, h.cell 3⟩
set_option maxRecDepth 100000 in
set_option maxHeartbeats 4000000 in
theorem right_yes (X : ByteArray) (bz bp bs be : Nat) (w : World) :
    Calls Try.prog 20 #[.agg #[.string X, mcF1 bz bp, mcF2 bz bs, mcF3 bz be]] w fun e w' => e = .returned (.bool true) ∧ Below w.heap.size w w' := by
 have t1 : True := trivial
 have e1 := fun w => neq_fn w 53 _ _ _ (.func 65) #[.pointer (some ⟨bz, 0, none⟩), .pointer (some ⟨bp, 0, none⟩)] Try.underlying53
 have e2 := fun w => neq_fn w 54 _ _ _ (.func 67) #[.pointer (some ⟨bz, 0, none⟩), .pointer (some ⟨bs, 0, none⟩)] Try.underlying54
 have e3 := fun w => neq_fn w 55 _ _ _ (.func 68) #[.pointer (some ⟨bz, 0, none⟩), .pointer (some ⟨be, 0, none⟩)] Try.underlying55
 go_enter Try.func20, Try.ntmps20
 go_wp2_with (first
  | (clear t1; refine wpList_boxS rfl 57 _ rfl [.string X, mcF1 bz bp, mcF2 bz bs, mcF3 bz be] rfl ?_; intro W0 b1 F0 C0; have B0 := F_b F0; obtain ⟨y0, y1, y2, y3⟩ := five4 C0; unfold mcF1 at y1; unfold mcF2 at y2; unfold mcF3 at y3; clear F0))
 go_ret
 exact ⟨rfl, B0⟩
set_option maxRecDepth 100000 in
set_option maxHeartbeats 4000000 in
theorem right_no (w : World) :
    Calls Try.prog 20 #[.agg zmc.toArray] w fun e w' => e = .returned (.bool false) ∧ Below w.heap.size w w' := by
 have t1 : True := trivial
 have e1 := fun w => neq_nil w 53 _ _ _ Try.underlying53
 go_enter Try.func20, Try.ntmps20
 go_wp2_with (first
  | (clear t1; refine wpList_boxS rfl 57 _ rfl zmc rfl ?_; intro W0 b1 F0 C0; have B0 := F_b F0; unfold zmc at C0; obtain ⟨y0, y1, y2, y3⟩ := five4 C0; clear F0))
 go_ret
 exact ⟨rfl, B0⟩
theorem neqlF (vs : List Int) (hv : vs.length ≤ 48) (w : World) : (binOp .neq 80 (.agg (finL vs).toArray) (.agg (finL vs).toArray)).run Try.prog w = .ok (.bool false) w := by
 have := equalFF vs hv w
 rw [run_neq_struct, this]; rfl
theorem exec_neqF {w : World} {op : Oper} {a : Act} {x y : Operand} {vs : List Int} (hv : vs.length ≤ 48) (ho : op.op = .binOp .neq 80 x y 80) (hx : a.eval x = .agg (finL vs).toArray) (hy : a.eval y = .agg (finL vs).toArray) : (execOp a.eval op).run Try.prog w = .ok (.value (.bool false)) w := by
 unfold execOp
 simp only [ho, hx, hy, Sem.run_bind, eqGuardF, neqlF vs hv w, Result.andThen_ok, Sem.run_pure]
end Go.Proofs.Ytegpnicajlndlaa

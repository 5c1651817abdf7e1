/- PL9, RA8, FQ, LW1, LW2 -/
import Derived.Test.YtegpnicajlndlaaQbm
import Derived.Test.YtegpnicajlndlaaQbj
import Derived.Test.YtegpnicajlndlaaQag
import Derived.ChangeKeysEq
namespace Go.Proofs.Ytegpnicajlndlaa
open Go.RowKit M
set_option linter.unusedSimpArgs false
set_option linter.unusedVariables false
def zmc : List Value := [.string ⟨#[]⟩, .nilFunc, .nilFunc, .nilFunc]
theorem zeroMc (w : World) : (zeroValue 57).run Try.prog w = .ok (.agg zmc.toArray) w := Try.zeroValue57 w
theorem infoMc : (Try.prog.info? 57).map (·.size) = some 4 := by kernel_rfl
theorem zmc_one : ∀ v ∈ zmc, v.oneCell' = true := by
 intro v hv
 unfold zmc at hv
 simp only [List.mem_cons, List.not_mem_nil, or_false] at hv
 rcases hv with rfl | rfl | rfl | rfl <;> rfl
theorem build0_mc {w : World} {op : Oper} {a : Act} (ho : op.op = .build 57 #[]) : (execOp a.eval op).run Try.prog w = .ok (.value (.agg zmc.toArray)) w := by
 have h : Try.t57.zero = some (.agg zmc.toArray) := by kernel_rfl
 unfold execOp
 simp [ho, go_sem, zeroValue, h]
def mcF1 (bz bp : Nat) : Value := .func (.func 65) #[] #[.pointer (some ⟨bz, 0, none⟩), .pointer (some ⟨bp, 0, none⟩)]
def mcF2 (bz bs : Nat) : Value := .func (.func 67) #[] #[.pointer (some ⟨bz, 0, none⟩), .pointer (some ⟨bs, 0, none⟩)]
def mcF3 (bz be : Nat) : Value := .func (.func 68) #[] #[.pointer (some ⟨bz, 0, none⟩), .pointer (some ⟨be, 0, none⟩)]
theorem build_mc {w : World} {op : Oper} {a : Act} {x0 x1 x2 x3 : Operand} {S : ByteArray} {bz bp bs be : Nat} (ho : op.op = .build 57 #[(0, x0), (1, x1), (2, x2), (3, x3)]) (h0 : a.eval x0 = .string S) (h1 : a.eval x1 = mcF1 bz bp) (h2 : a.eval x2 = mcF2 bz bs) (h3 : a.eval x3 = mcF3 bz be) :
    (execOp a.eval op).run Try.prog w = .ok (.value (.agg #[.string S, mcF1 bz bp, mcF2 bz bs, mcF3 bz be])) w := by
 have h : Try.t57.zero = some (.agg zmc.toArray) := by kernel_rfl
 generalize a.eval = ev at h0 h1 h2 h3 ⊢
 unfold execOp
 unfold mcF1 mcF2 mcF3 at *
 simp [ho, h0, h1, h2, h3, go_sem, zeroValue, h, zmc]
noncomputable def startX (p : PG) : ByteArray := ⟨(textS ⟨List.replicate p.threads.length 0, List.replicate p.threads.length 0, p.regInit, p.locInit, List.replicate p.threads.length [], -1⟩).toArray⟩
def shp3 (u1 u2 : Value) (nl : Nat) : List Value := [u1, u2, .int .i64 (nl : Int)]
theorem wpList_boxF {w : World} {ops : Array Oper} {rest : List Oper} {op : Oper} {a : Act} {Q : Exit → Act → World → Prop} (hgd : op.guard = none) (ty : TypeId) (x : Operand) (ho : op.op = .box ty x) (v : Value) (hx : a.eval x = v) (hv : v.cells = #[v])
    (h : ∀ W b, Fresh w W b → IsS W b ty [v] → wpList Try.prog ops Q rest (a.put op.dst (.pointer (some ⟨b, 0, none⟩))) W) : wpList Try.prog ops Q (op :: rest) a w := by
 refine wpList_plain hgd fun K hK => ?_
 unfold Oper.wp execOp
 simp only [ho, hx]
 have hb : (Instr.box ty v).run Try.prog w = .ok (.pointer (some ⟨w.heap.size, 0, none⟩)) (w.alloc (.cells [v].toArray ty)) := by
  simp [go_sem]
  exact congrArg (fun c => w.alloc (.cells c ty)) hv
 simp only [Sem.run_bind, hb, Result.andThen_ok, Sem.run_pure]
 exact hK _ _ (h _ _ (Fresh.alloc w _) (IsS.new w ty [v]))
theorem shp3_one {u1 u2 : Value} {nl : Nat} (h1 : u1.oneCell' = true) (h2 : u2.oneCell' = true) : ∀ v ∈ shp3 u1 u2 nl, v.oneCell' = true := by
 intro v hv
 unfold shp3 at hv
 simp only [List.mem_cons, List.not_mem_nil, or_false] at hv
 rcases hv with rfl | rfl | rfl
 · exact h1
 · exact h2
 · rfl
theorem mc_one {S : ByteArray} {bz bp bs be : Nat} : ∀ v ∈ [Value.string S, mcF1 bz bp, mcF2 bz bs, mcF3 bz be], v.oneCell' = true := by
 intro v hv
 simp only [List.mem_cons, List.not_mem_nil, or_false] at hv
 rcases hv with rfl | rfl | rfl | rfl <;> rfl
theorem stv_start {W : World} {B gp gh gb n : Nat} {vrg vmm : Value} {vs : List Value} {ri : List (List Int)} {li : List Int} (S : StO W B (.slice (some ⟨gp, 0, none⟩) n n) vrg vmm vs (List.replicate n 0) ri li) (Ih : IsS W gh 3 (List.replicate n (.int .i64 0))) (Ib : IsS W gb 48 (List.replicate n (.slice none 0 0))) :
    STV W ⟨List.replicate n 0, List.replicate n 0, ri, li, List.replicate n [], -1⟩ (.slice (some ⟨gp, 0, none⟩) n n) (.slice (some ⟨gh, 0, none⟩) n n) vrg vmm (.slice (some ⟨gb, 0, none⟩) n n) := by
 refine st_of_rows (n := n) (pc := List.replicate n 0) (regs := ri) (mem := li) ⟨?_, rep_row Ih, S.rg.rows, own_row S.mm, rep_rows Ib⟩ rfl (by simp)
 have := own_row S.pc
 rw [List.length_replicate] at this
 exact this
theorem padTo_self (q : List Int) (m : Nat) (h : q.length = m) : padTo m q = q := by
 subst h
 refine List.ext_getElem (padTo_len _ _) fun i h1 h2 => ?_
 simp [padTo, h2]
theorem allR_self : ∀ (k : Nat) (rs : List (List ByteArray)) (ri : List (List Int)), k ≤ ri.length → (∀ (i : Nat) q, i < k → ri[i]? = some q → q.length = (rs.getD i []).length) → allR rs ri k = (ri.take k).flatten
 | 0, rs, ri, _, _ => by simp [allR]
 | k + 1, rs, ri, hk, h => by
  have hg : ri[k]? = some (ri.getD k []) := by simp [show k < ri.length by omega]
  rw [allR_next, allR_self k rs ri (by omega) (fun i q hi hq => h i q (by omega) hq), padTo_self _ _ (h k _ (by omega) hg)]
  rw [List.take_add_one, hg]
  simp
theorem end_self {p : PG} {pc : List Int} {regs : List (List Int)} {mem : List Int} (hv : Vld p) (hI : Inv p pc regs mem) : (allR p.regs regs p.regs.length ++ padTo p.locs.length mem).take 48 = regs.flatten ++ mem := by
 have e1 : regs.length = p.regs.length := hI.rl.trans hv.rl.symm
 rw [allR_self _ _ _ (by omega) (fun i q hi hq => by
  have : p.regs[i]? = some (p.regs.getD i []) := by simp [hi]
  exact hI.rs i _ _ this hq), padTo_self _ _ hI.ml, List.take_of_length_le (l := regs) (by omega), List.take_of_length_le]
 exact inv_48 hv hI
end Go.Proofs.Ytegpnicajlndlaa
namespace Go.Proofs.Ytegpnicajlndlaa
open Go Go.RowKit M
set_option linter.unusedSimpArgs false
set_option linter.unusedVariables false
def finR (vs : List Int) : List Value := (padI vs).map (.int .i64)
theorem infoE2 : ∃ i, Try.prog.info? 2 = some i := by
 have h : (Try.prog.info? 2).isSome = true := by kernel_rfl
 exact Option.isSome_iff_exists.1 h
theorem cellsE2 : Try.prog.cellsOf 2 = 1 := by kernel_rfl
theorem partE2 (vs : List Int) (hv : vs.length ≤ 48) (w : World) (i : Nat) (hi : i < 48) : ∃ x : Int, (part 2 (finR vs).toArray (i * 1)).run Try.prog w = .ok (.int .i64 x) w := by
 obtain ⟨x, hx⟩ : ∃ x, (padI vs)[i]? = some x := ⟨_, List.getElem?_eq_getElem (by rw [padI_len hv]; exact hi)⟩
 refine ⟨x, ?_⟩
 unfold part
 have h : (finR vs)[i]? = some (Value.int .i64 x) := by unfold finR; rw [List.getElem?_map, hx]; rfl
 simp [Sem.run_bind, Try.isAgg2, h]
theorem eqItemsF (vs : List Int) (hv : vs.length ≤ 48) (w : World) (d : Nat) : ∀ is : List Nat, (∀ i ∈ is, i < 48) → (Op.eqItems (d + 1) 2 1 (finR vs).toArray (finR vs).toArray is).run Try.prog w = .ok true w
 | [], _ => by simp [Op.eqItems]
 | i :: is, h => by
  obtain ⟨x, h1⟩ := partE2 vs hv w i (h i (by simp))
  have h2 := eqItemsF vs hv w d is (fun j hj => h j (by simp [hj]))
  simp only [Op.eqItems, Sem.run_bind, h1, Result.andThen_ok]
  rw [run_equalIn_int w d 2 .i64 .i64 _ _ Try.underlying2]
  simpa using h2
theorem fieldsF : (Try.prog.fieldsOf 80).toList = [{ name := "N", type := 3, offset := 0, embedded := false, tag := "", pkgPath := "", byteOffset := 0 },
        { name := "V", type := 78, offset := 1, embedded := false, tag := "", pkgPath := "", byteOffset := 8 }] := by kernel_rfl
theorem stoodF : Try.prog.stoodInHeld 80 = false := by kernel_rfl
theorem undF : Try.prog.underlying 80 = some (.struct (Try.prog.fieldsOf 80)) := by kernel_rfl
theorem partFN (vs : List Int) (w : World) : (part 3 (finL vs).toArray 0).run Try.prog w = .ok (.int .i64 (vs.length : Int)) w := by
 have h : (finL vs)[0]? = some (Value.int .i64 (vs.length : Int)) := rfl
 unfold part; simp [Sem.run_bind, Try.isAgg3, h]
theorem ext_fin (vs : List Int) (hv : vs.length ≤ 48) : (finL vs).toArray.extract 1 49 = (finR vs).toArray := by
 rw [List.extract_toArray]
 congr 1
 unfold finL finR
 rw [List.extract_eq_take_drop, List.drop_succ_cons, List.drop_zero, List.take_of_length_le (by rw [List.length_map, padI_len hv]; omega)]
theorem partFR (vs : List Int) (hv : vs.length ≤ 48) (w : World) : (part 78 (finL vs).toArray 1).run Try.prog w = .ok (.agg (finR vs).toArray) w := by
 have e := ext_fin vs hv
 unfold part
 generalize (finL vs).toArray = c at *
 generalize (finR vs).toArray = r at *
 simp only [Sem.run_bind, Try.isAgg78, Try.sizeOf78, Result.andThen_ok, if_true, Sem.run_pure, Nat.reduceAdd, e]
theorem eqFieldsF (xs ys : Array Value) (d : Nat) : Op.eqFields (d + 2) xs ys [{ name := "N", type := 3, offset := 0, embedded := false, tag := "", pkgPath := "", byteOffset := 0 },
        { name := "V", type := 78, offset := 1, embedded := false, tag := "", pkgPath := "", byteOffset := 8 }] = (do
      let a ← part 3 xs 0
      let b ← part 3 ys 0
      let r ← Op.equalIn (d + 2) 3 a b
      if (!r) = true then pure false else do
       let a ← part 78 xs 1
       let b ← part 78 ys 1
       let r ← Op.equalIn (d + 2) 78 a b
       if (!r) = true then pure false else pure true) := by
 simp [Op.eqFields]
theorem equalF3 (n : Int) (w : World) (d : Nat) : (Op.equalIn (d + 2) 3 (.int .i64 n) (.int .i64 n)).run Try.prog w = .ok true w := by
 have := run_equalIn_int (P := Try.prog) w (d + 1) 3 .i64 .i64 n n Try.underlying3
 simpa using this
theorem equalFR (vs : List Int) (hv : vs.length ≤ 48) (w : World) (d : Nat) : (Op.equalIn (d + 2) 78 (.agg (finR vs).toArray) (.agg (finR vs).toArray)).run Try.prog w = .ok true w := by
 obtain ⟨i, hi⟩ := infoE2
 have := run_equalIn_array (P := Try.prog) w (d + 1) (finR vs).toArray (finR vs).toArray Try.underlying78 hi
 rw [cellsE2] at this
 rw [this]
 exact eqItemsF vs hv w d _ (by simp)
theorem equalFS (c : Array Value) (w : World) (d : Nat) : (Op.equalIn (d + 3) 80 (.agg c) (.agg c)).run Try.prog w = (Op.eqFields (d + 2) c c (Try.prog.fieldsOf 80).toList).run Try.prog w :=
 run_equalIn_struct w (d + 2) 80 c c undF stoodF
theorem eqDoF (c r : Array Value) (n : Int) (w : World) (E : TypeId → Value → Value → Sem Bool) (h0 : (E 3 (.int .i64 n) (.int .i64 n)).run Try.prog w = .ok true w) (h1 : (part 3 c 0).run Try.prog w = .ok (.int .i64 n) w) (h2 : (part 78 c 1).run Try.prog w = .ok (.agg r) w)
    (h3 : (E 78 (.agg r) (.agg r)).run Try.prog w = .ok true w) : (do
     let a ← part 3 c 0
     let b ← part 3 c 0
     let r ← E 3 a b
     if (!r) = true then pure false else do
      let a ← part 78 c 1
      let b ← part 78 c 1
      let r ← E 78 a b
      if (!r) = true then pure false else pure true : Sem Bool).run Try.prog w = .ok true w := by
 simp only [Sem.run_bind, h0, h1, h2, h3, Result.andThen_ok, Bool.not_true, Bool.false_eq_true, if_false, Sem.run_pure]
theorem equalFC (c r : Array Value) (n : Int) (w : World) (d : Nat) (h1 : (part 3 c 0).run Try.prog w = .ok (.int .i64 n) w) (h2 : (part 78 c 1).run Try.prog w = .ok (.agg r) w)
    (h3 : (Op.equalIn (d + 2) 78 (.agg r) (.agg r)).run Try.prog w = .ok true w) : (Op.equalIn (d + 3) 80 (.agg c) (.agg c)).run Try.prog w = .ok true w :=
 (equalFS c w d).trans ((congrArg (fun s : Sem Bool => s.run Try.prog w) ((congrArg (Op.eqFields (d + 2) c c) fieldsF).trans (eqFieldsF c c d))).trans
  (eqDoF c r n w (Op.equalIn (d + 2)) (equalF3 n w d) h1 h2 h3))
theorem equalFF (vs : List Int) (hv : vs.length ≤ 48) (w : World) : (Op.equalIn 10000 80 (.agg (finL vs).toArray) (.agg (finL vs).toArray)).run Try.prog w = .ok true w :=
 equalFC (finL vs).toArray (finR vs).toArray vs.length w 9997 (partFN vs w) (partFR vs hv w) (equalFR vs hv w 9997)
theorem eqlF (vs : List Int) (hv : vs.length ≤ 48) (w : World) : (binOp .eql 80 (.agg (finL vs).toArray) (.agg (finL vs).toArray)).run Try.prog w = .ok (.bool true) w := by
 have := equalFF vs hv w
 rw [run_eql_struct, this]; rfl
theorem eqGuardF (op : BinOp) (x y : Operand) (c d : Array Value) (w : World) : (eqGuard op 80 x y (.agg c) (.agg d)).run Try.prog w = .ok () w :=
 run_eqGuard_agg w op 80 x y _ _ (by kernel_rfl)
theorem exec_eqF {w : World} {op : Oper} {a : Act} {x y : Operand} {vs : List Int} (hv : vs.length ≤ 48) (ho : op.op = .binOp .eql 80 x y 80) (hx : a.eval x = .agg (finL vs).toArray) (hy : a.eval y = .agg (finL vs).toArray) : (execOp a.eval op).run Try.prog w = .ok (.value (.bool true)) w := by
 unfold execOp
 simp only [ho, hx, hy, Sem.run_bind, eqGuardF, eqlF vs hv w, Result.andThen_ok, Sem.run_pure]
end Go.Proofs.Ytegpnicajlndlaa
namespace Go.Proofs.Ytegpnicajlndlaa
open Go.RowKit M
set_option linter.unusedSimpArgs false
set_option linter.unusedVariables false
theorem equalIn_fn (w : World) (d : Nat) (t : TypeId) (ps rs : Array TypeId) (v : Bool) (f : Fn) (ys : Array Value) (h : Try.prog.underlying t = some (.func ps rs v)) : (Op.equalIn (d + 1) t (.func f #[] ys) .nilFunc).run Try.prog w = .ok false w := by
 simp [Op.equalIn, run_underlying h]
theorem equal_fn (w : World) (t : TypeId) (ps rs : Array TypeId) (v : Bool) (f : Fn) (ys : Array Value) (h : Try.prog.underlying t = some (.func ps rs v)) : (Op.equal t (.func f #[] ys) .nilFunc).run Try.prog w = .ok false w := equalIn_fn w 9999 t ps rs v f ys h
theorem neq_fn (w : World) (t : TypeId) (ps rs : Array TypeId) (v : Bool) (f : Fn) (ys : Array Value) (h : Try.prog.underlying t = some (.func ps rs v)) : (binOp .neq t (.func f #[] ys) .nilFunc).run Try.prog w = .ok (.bool true) w := by
 simp [binOp, equal_fn w t ps rs v f ys h]
theorem equalIn_nil (w : World) (d : Nat) (t : TypeId) (ps rs : Array TypeId) (v : Bool) (h : Try.prog.underlying t = some (.func ps rs v)) : (Op.equalIn (d + 1) t .nilFunc .nilFunc).run Try.prog w = .ok true w := by
 simp [Op.equalIn, run_underlying h]
theorem equal_nil (w : World) (t : TypeId) (ps rs : Array TypeId) (v : Bool) (h : Try.prog.underlying t = some (.func ps rs v)) : (Op.equal t .nilFunc .nilFunc).run Try.prog w = .ok true w := equalIn_nil w 9999 t ps rs v h
theorem neq_nil (w : World) (t : TypeId) (ps rs : Array TypeId) (v : Bool) (h : Try.prog.underlying t = some (.func ps rs v)) : (binOp .neq t .nilFunc .nilFunc).run Try.prog w = .ok (.bool false) w := by
 simp [binOp, equal_nil w t ps rs v h]
theorem five4 {v0 v1 v2 v3 : Value} {W : World} {b t : Nat} (h : IsS W b t [v0, v1, v2, v3]) : W.cell? ⟨b, 0, none⟩ = some v0 ∧ W.cell? ⟨b, 1, none⟩ = some v1 ∧ W.cell? ⟨b, 2, none⟩ = some v2 ∧ W.cell? ⟨b, 3, none⟩ = some v3 := ⟨h.cell 0, h.cell 1, h.cell 2, h.cell 3⟩
set_option maxRecDepth 100000 in
set_option maxHeartbeats 4000000 in
theorem right_yes (X : ByteArray) (bz bp bs be : Nat) (w : World) :
    Calls Try.prog 20 #[.agg #[.string X, mcF1 bz bp, mcF2 bz bs, mcF3 bz be]] w fun e w' => e = .returned (.bool true) ∧ Below w.heap.size w w' := by
 have t1 : True := trivial
 have e1 := fun w => neq_fn w 53 _ _ _ (.func 65) #[.pointer (some ⟨bz, 0, none⟩), .pointer (some ⟨bp, 0, none⟩)] Try.underlying53
 have e2 := fun w => neq_fn w 54 _ _ _ (.func 67) #[.pointer (some ⟨bz, 0, none⟩), .pointer (some ⟨bs, 0, none⟩)] Try.underlying54
 have e3 := fun w => neq_fn w 55 _ _ _ (.func 68) #[.pointer (some ⟨bz, 0, none⟩), .pointer (some ⟨be, 0, none⟩)] Try.underlying55
 go_enter Try.func20, Try.ntmps20
 go_wp2_with (first
  | (clear t1; refine wpList_boxS rfl 57 _ rfl [.string X, mcF1 bz bp, mcF2 bz bs, mcF3 bz be] rfl ?_; intro W0 b1 F0 C0; have B0 := F_b F0; obtain ⟨y0, y1, y2, y3⟩ := five4 C0; unfold mcF1 at y1; unfold mcF2 at y2; unfold mcF3 at y3; clear F0))
 go_ret
 exact ⟨rfl, B0⟩
set_option maxRecDepth 100000 in
set_option maxHeartbeats 4000000 in
theorem right_no (w : World) :
    Calls Try.prog 20 #[.agg zmc.toArray] w fun e w' => e = .returned (.bool false) ∧ Below w.heap.size w w' := by
 have t1 : True := trivial
 have e1 := fun w => neq_nil w 53 _ _ _ Try.underlying53
 go_enter Try.func20, Try.ntmps20
 go_wp2_with (first
  | (clear t1; refine wpList_boxS rfl 57 _ rfl zmc rfl ?_; intro W0 b1 F0 C0; have B0 := F_b F0; unfold zmc at C0; obtain ⟨y0, y1, y2, y3⟩ := five4 C0; clear F0))
 go_ret
 exact ⟨rfl, B0⟩
theorem neqlF (vs : List Int) (hv : vs.length ≤ 48) (w : World) : (binOp .neq 80 (.agg (finL vs).toArray) (.agg (finL vs).toArray)).run Try.prog w = .ok (.bool false) w := by
 have := equalFF vs hv w
 rw [run_neq_struct, this]; rfl
theorem exec_neqF {w : World} {op : Oper} {a : Act} {x y : Operand} {vs : List Int} (hv : vs.length ≤ 48) (ho : op.op = .binOp .neq 80 x y 80) (hx : a.eval x = .agg (finL vs).toArray) (hy : a.eval y = .agg (finL vs).toArray) : (execOp a.eval op).run Try.prog w = .ok (.value (.bool false)) w := by
 unfold execOp
 simp only [ho, hx, hy, Sem.run_bind, eqGuardF, neqlF vs hv w, Result.andThen_ok, Sem.run_pure]
theorem stpV_none : stpV none = .tuple #[.string ⟨#[]⟩, .bool false] := rfl
theorem endV_none : endV none = .tuple #[.agg (finL []).toArray, .bool false] := rfl
theorem stpV_some (s : ST) : stpV (some s) = .tuple #[.string ⟨(textS s).toArray⟩, .bool true] := rfl
theorem endV_some (s : ST) : endV (some s) = .tuple #[.agg (finL (s.regs.flatten ++ s.mem)).toArray, .bool true] := rfl
theorem zeroPk (w : World) : (zeroValue 68).run Try.prog w = .ok (.agg #[.int .i64 0, .int .i64 0, .int .i64 0]) w := Try.zeroValue68 w
theorem wpList_valueG {w : World} {ops : Array Oper} {rest : List Oper} {op : Oper} {a : Act} {Q : Exit → Act → World → Prop} {v : Value} (hw : Region.wanted op (yielded ops a.tmps) = true) (hr : (execOp a.eval op).run Try.prog w = .ok (.value v) w) (h : wpList Try.prog ops Q rest (a.put op.dst v) w) : wpList Try.prog ops Q (op :: rest) a w := by
 refine wpList_step fun K hK => ?_
 rw [if_pos hw]
 unfold Oper.wp
 rw [hr]
 exact hK _ _ h
section
variable {w : World} {ops : Array Oper} {rest : List Oper} {op : Oper} {a : Act} {Q : Exit → Act → World → Prop}
theorem wpList_loadO {b o t : Nat} {cs : List Value} {v : Value} (hgd : op.guard = none) (ty : TypeId) (x : Operand) (ho : op.op = .load ty x) (hx : a.eval x = .pointer (some ⟨b, o, none⟩)) (I : IsS w b t cs) (hv : cs[o]? = some v)
    (hl : ∀ w, w.cell? ⟨b, o, none⟩ = some v → (Instr.loadAt ty (.pointer (some ⟨b, o, none⟩))).run Try.prog w = .ok v w) (h : wpList Try.prog ops Q rest (a.put op.dst v) w) : wpList Try.prog ops Q (op :: rest) a w := by
 refine wpList_plain hgd fun K hK => ?_
 unfold Oper.wp execOp
 simp only [ho, hx, Sem.run_bind, hl w ((I.cell o).trans hv), Result.andThen_ok, Sem.run_pure]
 exact hK _ _ h
end
theorem rend2_any (p : PG) (hv : Vld p) (hf : p.Few) (s : ST) (hfit : Fits (shpOf p) s) (vt vr vl vi vj v1 v2 v3 v4 v5 : Value) (w : World) (hp : PGV w vt vr vl vi vj p) (hS : STV w s v1 v2 v3 v4 v5) :
    Calls Try.prog 30 #[.agg #[vt, vr, vl, vi, vj], v3, v4] w fun e w' => e = .returned (.agg (finL (s.regs.flatten ++ s.mem)).toArray) ∧ Below w.heap.size w w' := by
 obtain ⟨hI, _⟩ := inv_fits hv hfit
 have hfw := few_fits hv hfit
 obtain ⟨ar, cr, rfl⟩ := hp.r.form
 obtain ⟨al, cl, rfl, _, _⟩ := id hp.l
 obtain ⟨ai, ci, rfl⟩ := hS.rg.form
 obtain ⟨aj, cj, rfl, sj, _⟩ := id hS.mm
 rw [← end_self hv hI]
 exact end_any p.regs p.locs s.regs s.mem hf.r hf.rr hf.l hfw.rg hfw.rr hfw.mm vt vi vj ar cr al cl ai ci aj cj w hp.r hS.rg sj
end Go.Proofs.Ytegpnicajlndlaa

/- WordBack: the six texts of the law, and its loop over them. -/
import Derived.Test.YtlmnlfnodbfgiaaDoorF3
import Derived.Test.YtlmnlfnodbfgiaaDoorZ8
import Derived.Test.YtlmnlfnodbfgiaaDoorM4
import Derived.BigQuiet
namespace Go.Proofs.YtlmnlfnodbfgiaaDoor
open Go.RowKit M
set_option linter.unusedSimpArgs false
set_option linter.unusedVariables false

theorem zeros_snoc (k : Nat) : zeros (k + 1) = zeros k ++ [48] := by unfold zeros; rw [List.replicate_succ']
theorem zeros_len (k : Nat) : (zeros k).length = k := by unfold zeros; simp

set_option maxRecDepth 100000 in
theorem noughts_any (n : Int) (w : World) : Calls Tryd.prog 14 #[.int .i64 n] w fun e w' => e = .returned (.string ⟨(zeros (min n.toNat 100)).toArray⟩) ∧ w' = w := by
  go_enter Tryd.func14, Tryd.ntmps14
  go_wp2
  go_loop [3, 4] (fun s i => ∃ k : Nat, k ≤ min n.toNat 100 ∧ s = .string ⟨(zeros k).toArray⟩ ∧ i = .int .i64 (k : Int)) (fun _ i => 100 - (intOf i).toNat)
  case atStart => exact ⟨0, by omega, rfl, rfl⟩
  case round =>
    obtain ⟨k, hk, rfl, rfl⟩ := hrel
    by_cases hlt : k < min n.toNat 100
    · have h1 : (k : Int) < n := by omega
      have h2 : (k : Int) < 100 := by omega
      have hadd : (Op.stringOp .add ⟨(zeros k).toArray⟩ (ByteArray.mk #[48])).run Tryd.prog w = .ok (.string ⟨(zeros (k + 1)).toArray⟩) w := by
        rw [run_string_add_sum w _ _ (by rw [size_mk (zeros k), zeros_len]; show _ + 1 ≤ _; omega)]
        have := add_mk (zeros k) [48]
        show Result.ok (Value.string (_ ++ ByteArray.mk [48].toArray)) w = _
        rw [this, ← zeros_snoc]
      go_wp2
      go_round
      case rel => exact ⟨k + 1, by omega, rfl, by go_num⟩
      case measure => simp [intOf]; omega
    · have hke : k = min n.toNat 100 := by omega
      by_cases hn : (k : Int) < n
      · have h2 : ¬ (k : Int) < 100 := by omega
        have HK : Hid (k = min n.toNat 100) := hke
        clear hke hlt hk
        go_wp2
        go_ret
        exact ⟨by rw [HK.out]; rfl, rfl⟩
      · have HK : Hid (k = min n.toNat 100) := hke
        clear hke hlt hk
        go_wp2
        go_ret
        exact ⟨by rw [HK.out]; rfl, rfl⟩

/-- Six texts lie in a block of their own. -/
def six (A : Nat → ByteArray) : Array Value := #[.string (A 0), .string (A 1), .string (A 2), .string (A 3), .string (A 4), .string (A 5)]
def Is6 (w : World) (b : Nat) (A : Nat → ByteArray) : Prop := w.heap[b]? = some (.cells (six A) 26)
theorem six_at (A : Nat → ByteArray) (j : Nat) (h : j < 6) : (six A)[j]? = some (.string (A j)) := by
  match j, h with
  | 0, _ | 1, _ | 2, _ | 3, _ | 4, _ | 5, _ => rfl
theorem six_one (A : Nat → ByteArray) : (six A).all (·.oneCell') = true := by
  rw [Array.all_eq_true_iff_forall_mem]
  intro v hv
  simp only [six, List.mem_toArray, List.mem_cons, List.not_mem_nil, or_false] at hv
  rcases hv with rfl | rfl | rfl | rfl | rfl | rfl <;> rfl
theorem Is6.cell {w : World} {b : Nat} {A : Nat → ByteArray} (h : Is6 w b A) (j : Nat) (hj : j < 6) : w.cell? ⟨b, j, none⟩ = some (.string (A j)) := by
  rw [cell_of_row w b j (six A) 26 (0, 0) h]; exact six_at A j hj
theorem Is6.below {w w' : World} {b : Nat} {A : Nat → ByteArray} (h : Is6 w b A) (hb : Below w.heap.size w w') : Is6 w' b A := (hb.block b (Array.getElem?_eq_some_iff.1 h).1).trans h
theorem info26 : (Tryd.prog.info? 26).map (·.size) = some 6 := by kernel_rfl

/-- The block of the six texts was made since. -/
def Made6 (W : World) (v : Value) (w : World) : Prop := Below W.heap.size W w ∧ ∃ b, v = .pointer (some ⟨b, 0, none⟩) ∧ W.heap.size ≤ b ∧ Is6 w b (fun _ => ⟨#[]⟩)
theorem made6_grown (W : World) (v : Value) : Grown W (Made6 W v) :=
  ⟨fun _ h => h.1, fun w w' ⟨h1, b, h2, h3, h4⟩ k => ⟨h1.trans (k.mono h1.size), b, h2, h3, h4.below k⟩⟩
theorem made6_make {mo : Oper} (ho : mo.op = .alloc 26) (W : World) (a : Act) (w : World) (h : Below W.heap.size W w) : ∃ v w', (execOp a.eval mo).run Tryd.prog w = .ok (.value v) w' ∧ Made6 W v w' := by
  refine ⟨.pointer (some ⟨w.heap.size, 0, none⟩), w.alloc (.cells (six fun _ => ⟨#[]⟩) 26), ?_, ?_, w.heap.size, rfl, h.size, heap_alloc_last w _⟩
  · unfold execOp
    simp [ho, go_sem, Value.cells]
    rfl
  · exact h.alloc h.size _
theorem wpList_store6 {ops : Array Oper} {rest : List Oper} {op : Oper} {a : Act} {w : World} {Q : Exit → Act → World → Prop} (hgd : op.guard = none) (x y : Operand) (ho : op.op = .store 26 x y) {b : Nat} (hx : a.eval x = .pointer (some ⟨b, 0, none⟩)) {A A' : Nat → ByteArray} (hy : a.eval y = .agg (six A')) (hc : Is6 w b A)
    (h : ∀ W, Upd w W b → Is6 W b A' → wpList Tryd.prog ops Q rest (a.put op.dst undef) W) : wpList Tryd.prog ops Q (op :: rest) a w := by
  refine wpList_plain hgd fun K hK => ?_
  unfold Oper.wp execOp
  have hc' : w.heap[b]? = some (.cells (six A) 26 (0, 0)) := hc
  simp only [ho, hx, hy, Instr.storeAt, Instr.sureAddr, Sem.run_bind, Sem.run_pure, Result.andThen_ok,
    run_storeVar_row w b 26 26 (six A) (six A') hc' info26 rfl (six_one A')]
  refine hK _ _ (h _ (Upd.setRow w b _) ?_)
  unfold Is6
  rw [heap_setRow, if_pos rfl, hc']; rfl
end Go.Proofs.YtlmnlfnodbfgiaaDoor

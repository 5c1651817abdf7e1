/- Take's deferred closure catches what the reader throws. -/
import Derived.Test.YtjnbhcakfenbhaaDoorV7
import Derived.Defers
import Derived.StillTailTactics
namespace Go.Proofs.YtjnbhcakfenbhaaDoor
open Go.RowKit Go.Shelf M
set_option linter.unusedSimpArgs false
set_option linter.unusedVariables false

theorem wpList_allocO {w : World} {ops : Array Oper} {rest : List Oper} {op : Oper} {a : Act} {Q : Exit → Act → World → Prop} (hgd : op.guard = none) (ty : TypeId) (ho : op.op = .alloc ty) (v : Value) (hv : v.cells = #[v]) (hz : ∀ w, (zeroValue ty).run Tryd.prog w = .ok v w)
    (h : ∀ W b, Fresh w W b → IsS W b ty [v] → wpList Tryd.prog ops Q rest (a.put op.dst (.pointer (some ⟨b, 0, none⟩))) W) : wpList Tryd.prog ops Q (op :: rest) a w := by
  refine wpList_plain hgd fun K hK => ?_
  unfold Oper.wp
  have hr : (execOp a.eval op).run Tryd.prog w = .ok (.value (.pointer (some ⟨w.heap.size, 0, none⟩))) (w.alloc (.cells [v].toArray ty)) := by
    unfold execOp
    simp [ho, go_sem, hz]
    exact congrArg (fun c => w.alloc (.cells c ty)) hv
  rw [hr]
  exact hK _ _ (h _ _ (Fresh.alloc w _) (IsS.new w ty [v]))
theorem zCond (w : World) : (zeroValue 23).run Tryd.prog w = .ok (.slice none 0 0) w := Tryd.zeroValue23 w
theorem zInt (w : World) : (zeroValue 3).run Tryd.prog w = .ok (.int .i64 0) w := Tryd.zeroValue3 w
theorem zErr (w : World) : (zeroValue 39).run Tryd.prog w = .ok .nilIface w := Tryd.zeroValue39 w
theorem infoCond : (Tryd.prog.info? 23).map (·.size) = some 1 := by kernel_rfl
theorem infoErr : (Tryd.prog.info? 39).map (·.size) = some 1 := by kernel_rfl

set_option maxRecDepth 100000 in
/-- What was thrown is the error. -/
theorem cfault_any (p : Option Addr) (w : World) :
    Calls Tryd.prog 32 #[.iface 77 (.pointer p)] w fun en w' => en = .returned (.iface 77 (.pointer p)) ∧ w' = w := by
  have hta : ∀ w, (Instr.typeAssert (.iface 77 (.pointer p)) 20 77 true).run Tryd.prog w = .ok (.tuple #[.pointer p, .bool true]) w := fun w => by kernel_rfl
  go_enter Tryd.func32, Tryd.ntmps32
  go_wp2_with fail
  go_ret
  exact ⟨rfl, rfl⟩
set_option maxRecDepth 100000 in
theorem catch_idle (p q r : Addr) (w : World) :
    CallsD Tryd.prog 31 #[.pointer (some p), .pointer (some q), .pointer (some r)] .returning w fun e u' w' => e = .returned (.tuple #[]) ∧ u' = .returning ∧ w' = w := by
  refine callsD_of_wpS Tryd.func31 rfl fun c₀ cs hu => ?_
  apply wpS_seq
  apply wpS_region
  simp [wpOpsS, go_sem, recoverD, hu, Tryd.ntmps31, Exit.thenS]
  refine wpS_of_wp ?_
  change Code.wp _ _ _ { tmps := #[.pointer (some p), .pointer (some q), .pointer (some r), .nilIface, .nilIface, undef, undef, undef, undef], defers := [] } w
  go_wp2_with fail
  refine ⟨rfl, .returning, ?_, .tuple #[], (by simp [results, Tryd.results31, go_sem]), rfl, rfl, rfl⟩
  cases c₀
  simp_all
set_option maxRecDepth 100000 in
set_option maxHeartbeats 2000000 in
theorem catch_thrown (b1 b2 b3 : Nat) (h12 : b1 ≠ b2) (h13 : b1 ≠ b3) (h23 : b2 ≠ b3) (p : Option Addr) (v1 v2 v3 : Value) (older : List PanicEntry) (w : World) (h1 : IsS w b1 23 [v1]) (h2 : IsS w b2 3 [v2]) (h3 : IsS w b3 39 [v3]) :
    CallsD Tryd.prog 31 #[.pointer (some ⟨b1, 0, none⟩), .pointer (some ⟨b2, 0, none⟩), .pointer (some ⟨b3, 0, none⟩)] (.panicking ({ v := .iface 77 (.pointer p), recovered := false } :: older)) w fun e u' w' => e = .returned (.tuple #[]) ∧ u' = .panicking ({ v := .iface 77 (.pointer p), recovered := true } :: older) ∧
      IsS w' b1 23 [.slice none 0 0] ∧ IsS w' b2 3 [.int .i64 0] ∧ IsS w' b3 39 [.iface 77 (.pointer p)] ∧ w'.heap.size = w.heap.size ∧ (∀ k, k ≠ b1 → k ≠ b2 → k ≠ b3 → w'.heap[k]? = w.heap[k]?) ∧ w'.os = w.os ∧ w'.tape = w.tape ∧ w'.output = w.output := by
  have cF := fun w => cfault_any p w
  refine callsD_of_wpS Tryd.func31 rfl fun c₀ cs hu => ?_
  apply wpS_seq
  apply wpS_region
  simp [wpOpsS, go_sem, recoverD, hu, Tryd.ntmps31, Exit.thenS]
  refine wpS_of_wp ?_
  change Code.wp _ _ _ { tmps := #[.pointer (some ⟨b1, 0, none⟩), .pointer (some ⟨b2, 0, none⟩), .pointer (some ⟨b3, 0, none⟩), .iface 77 (.pointer p), .iface 77 (.pointer p), undef, undef, undef, undef], defers := [] } w
  go_wp2_with (first
    | (go_at_call 32; refine (cF _).mono ?_; rintro en W1 ⟨rfl, hW1⟩; replace hW1 := hW1.symm; subst hW1; clear cF)
    | (refine wpList_store1 rfl 23 _ _ rfl rfl (.slice none 0 0) rfl h1 (by simp) infoCond rfl ?_; intro W2 U2 E2x; have E2 : IsS W2 b1 23 [.slice none 0 0] := E2x; have I2 := h2.upd U2 (Ne.symm h12); have J2 := h3.upd U2 (Ne.symm h13); clear h1 h2 h3 E2x)
    | (refine wpList_store1 rfl 3 _ _ rfl rfl (.int .i64 0) rfl I2 (by simp) info3 rfl ?_; intro W3 U3 I3x; have I3 : IsS W3 b2 3 [.int .i64 0] := I3x; have E3 := E2.upd U3 h12; have J3 := J2.upd U3 (Ne.symm h23); clear E2 I2 J2 I3x)
    | (refine wpList_store1 rfl 39 _ _ rfl rfl (.iface 77 (.pointer p)) rfl J3 (by simp) infoErr rfl ?_; intro W4 U4 J4x; have J4 : IsS W4 b3 39 [.iface 77 (.pointer p)] := J4x; have E4 := E3.upd U4 h13; have I4 := I3.upd U4 h23; clear E3 I3 J3 J4x))
  refine ⟨rfl, _, rfl, .tuple #[], (by simp [results, Tryd.results31, go_sem]), rfl, rfl, E4, I4, J4, by rw [U4.size, U3.size, U2.size], fun k k1 k2 k3 => by rw [U4.block k k3, U3.block k k2, U2.block k k1], by rw [U4.os, U3.os, U2.os], by rw [U4.tape, U3.tape, U2.tape], by rw [U4.output, U3.output, U2.output]⟩
end Go.Proofs.YtjnbhcakfenbhaaDoor

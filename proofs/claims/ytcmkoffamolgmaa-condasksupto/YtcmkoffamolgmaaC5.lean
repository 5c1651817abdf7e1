/- deepest; Check. -/
import Derived.Test.YtcmkoffamolgmaaC4
namespace Go.Proofs.Ytcmkoffamolgmaa
open Go.RowKit M
set_option linter.unusedSimpArgs false
set_option linter.unusedVariables false

section
variable {w : World} {ops : Array Oper} {rest : List Oper} {op : Oper} {a : Act} {Q : Exit → Act → World → Prop}
theorem wpList_box1 (hgd : op.guard = none) (ty : TypeId) (x : Operand) (ho : op.op = .box ty x) (v : Value) (hx : a.eval x = v) (hv : v.cells = #[v])
    (h : ∀ W b, Fresh w W b → IsS W b ty [v] → wpList Try.prog ops Q rest (a.put op.dst (.pointer (some ⟨b, 0, none⟩))) W) : wpList Try.prog ops Q (op :: rest) a w := by
  refine wpList_plain hgd fun K hK => ?_
  unfold Oper.wp execOp
  simp only [ho, hx]
  have hb : (Instr.box ty v).run Try.prog w = .ok (.pointer (some ⟨w.heap.size, 0, none⟩)) (w.alloc (.cells [v].toArray ty)) := by
    simp [go_sem]
    exact congrArg (fun c => w.alloc (.cells c ty)) hv
  simp only [Sem.run_bind, hb, Result.andThen_ok, Sem.run_pure]
  exact hK _ _ (h _ _ (Fresh.alloc w _) (IsS.new w ty [v]))
theorem wpList_alloc1 (hgd : op.guard = none) (ty : TypeId) (ho : op.op = .alloc ty) (v : Value) (hv : v.cells = #[v]) (hz : ∀ w, (zeroValue ty).run Try.prog w = .ok v w)
    (h : ∀ W b, Fresh w W b → IsS W b ty [v] → wpList Try.prog ops Q rest (a.put op.dst (.pointer (some ⟨b, 0, none⟩))) W) : wpList Try.prog ops Q (op :: rest) a w := by
  refine wpList_plain hgd fun K hK => ?_
  unfold Oper.wp
  have hr : (execOp a.eval op).run Try.prog w = .ok (.value (.pointer (some ⟨w.heap.size, 0, none⟩))) (w.alloc (.cells [v].toArray ty)) := by
    unfold execOp
    simp [ho, go_sem, hz]
    exact congrArg (fun c => w.alloc (.cells c ty)) hv
  rw [hr]
  exact hK _ _ (h _ _ (Fresh.alloc w _) (IsS.new w ty [v]))
end
theorem zeroFnI (w : World) : (zeroValue 68).run Try.prog w = .ok .nilFunc w := Try.zeroValue68 w
theorem zeroFnII (w : World) : (zeroValue 60).run Try.prog w = .ok .nilFunc w := Try.zeroValue60 w
theorem infoFnI : (Try.prog.info? 68).map (·.size) = some 1 := by kernel_rfl
theorem infoFnII : (Try.prog.info? 60).map (·.size) = some 1 := by kernel_rfl

set_option maxRecDepth 100000 in
set_option maxHeartbeats 1000000 in
theorem deepest_any (ad : Option Addr) (cap : Nat) (ns : List Nd) (t : Tr) (ht : treeOf nmB ns = some t) (w : World) (hT : Nds w ad ns) :
    Calls Try.prog 24 #[.slice ad ns.length cap] w fun e w' => e = .returned (.int .i64 (t.deep : Int)) ∧ Below w.heap.size w w' := by
  obtain ⟨hA, hsz, hl1, hl2⟩ := tree_at ht
  have hmf : ∀ (fn : Fn) (first cap : Array Value) (w : World), (Instr.makeFunc fn first cap).run Try.prog w = .ok (.func fn first cap) w := fun _ _ _ _ => rfl
  have HD : Hid (∀ bc bd bp, DeepA bc bd bp ad cap ns (ns.length - 1) t.deep) := (by
    intro bc bd bp
    have := deep_tree (bc := bc) (bd := bd) (bp := bp) (ad := ad) (cap := cap) hl2 t 0 hA
    unfold Tr.root at this
    rw [hsz, Nat.zero_add] at this
    exact this)
  clear hA hsz ht
  go_enter Try.func24, Try.ntmps24
  go_wp2_with (first
    | (refine wpList_box1 rfl 23 _ rfl (.slice ad ns.length cap) rfl rfl ?_; intro W1 bc F1 C1; have B1 := F1.trans (Below.refl _ w) (Nat.le_refl _); clear F1)
    | (refine wpList_alloc1 rfl 68 rfl .nilFunc rfl zeroFnI ?_; intro W2 bd F2 D2; have C2 := C1.fresh F2; have B2 := F2.trans B1 B1.size; have hcd : bc ≠ bd := (by have := C1.lt; have := F2.at'; omega); have hbd : w.heap.size ≤ bd := (by have := B1.size; have := F2.at'; omega); clear F2 C1 B1)
    | (refine wpList_alloc1 rfl 60 rfl .nilFunc rfl zeroFnII ?_; intro W3 bp F3 P3; have C3 := C2.fresh F3; have D3 := D2.fresh F3; have B3 := F3.trans B2 B2.size; have hcp : bc ≠ bp := (by have := C2.lt; have := F3.at'; omega); have hdp : bd ≠ bp := (by have := D2.lt; have := F3.at'; omega); have hbp : w.heap.size ≤ bp := (by have := B2.size; have := F3.at'; omega); clear F3 C2 D2 B2)
    | (refine wpList_store1 rfl 60 _ _ rfl rfl (.func (.func 34) #[] #[.pointer (some ⟨bc, 0, none⟩), .pointer (some ⟨bd, 0, none⟩)]) rfl P3 (by simp) infoFnII rfl ?_; intro W4 U4 P4; have C4 := C3.upd U4 hcp; have D4 := D3.upd U4 hdp; have B4 := U4.trans B3 hbp; clear U4 C3 D3 B3 P3)
    | (refine wpList_store1 rfl 68 _ _ rfl rfl (.func (.func 36) #[] #[.pointer (some ⟨bc, 0, none⟩), .pointer (some ⟨bp, 0, none⟩)]) rfl D4 (by simp) infoFnI rfl ?_; intro W5 U5 D5; have C5 := C4.upd U5 hcd; have P5 := P4.upd U5 (fun e => hdp e.symm); have B5 := U5.trans B4 hbd; have hW5 : DeepW W5 bc bd bp ad cap ns := ⟨C5.cell 0, D5.cell 0, P5.cell 0, hT.below B5⟩; have cc := hW5.c; have cd := hW5.d; clear U5 C4 D4 B4 P4)
    | (go_at_call 36; have cD := HD.out bc bd bp W5 hW5; rw [show ((ns.length - 1 : Nat) : Int) = (ns.length : Int) - 1 by omega] at cD; refine cD.mono ?_; rintro e W6 ⟨rfl, B6⟩; clear cD))
  go_ret
  exact ⟨rfl, Below.then B5 B6⟩

set_option maxRecDepth 100000 in
set_option maxHeartbeats 1000000 in
theorem check_any (ad : Option Addr) (cap : Nat) (ns : List Nd) (hs : ∀ n ∈ ns, n.nm.size ≤ maxLen) (hn : ns.length ≤ 16777216) (w : World) (hT : Nds w ad ns) :
    Calls Try.prog 14 #[.slice ad ns.length cap] w fun e w' => e = .returned (.int .i64 (checkF nmB ns)) ∧ Below w.heap.size w w' := by
  have cM := makes_any ad cap ns hs hn w hT
  cases ht : treeOf nmB ns with
  | none =>
    have HV : Hid (checkF nmB ns = 60) := (by show _ = _; unfold checkF; rw [ht])
    rw [ht] at cM
    go_enter Try.func14, Try.ntmps14
    go_wp2_with (first
      | (go_at_call 23; refine cM.mono ?_; rintro e W1 ⟨rfl, B1⟩))
    go_ret
    exact ⟨ret_int HV.out.symm, B1⟩
  | some t =>
    have HV : Hid (checkF nmB ns = if 64 < t.deep then 2 else 0) := (by show _ = _; unfold checkF; rw [ht])
    rw [ht] at cM
    have cD := fun W h => deepest_any ad cap ns t ht W h
    clear ht
    by_cases hd : 64 < t.deep
    · have hd' : (64 : Int) < t.deep := by omega
      rw [if_pos hd] at HV
      clear hd
      go_enter Try.func14, Try.ntmps14
      go_wp2_with (first
        | (go_at_call 23; refine cM.mono ?_; rintro e W1 ⟨rfl, B1⟩)
        | (go_at_call 24; refine (cD W1 (hT.below B1)).mono ?_; rintro e W2 ⟨rfl, B2⟩))
      go_ret
      exact ⟨ret_int HV.out.symm, Below.then B1 B2⟩
    · have hd' : ¬ (64 : Int) < t.deep := by omega
      rw [if_neg hd] at HV
      clear hd
      go_enter Try.func14, Try.ntmps14
      go_wp2_with (first
        | (go_at_call 23; refine cM.mono ?_; rintro e W1 ⟨rfl, B1⟩)
        | (go_at_call 24; refine (cD W1 (hT.below B1)).mono ?_; rintro e W2 ⟨rfl, B2⟩))
      go_ret
      exact ⟨ret_int HV.out.symm, Below.then B1 B2⟩
end Go.Proofs.Ytcmkoffamolgmaa

/- A table's machine, made. -/
import Derived.Test.YtmoieckmbimgoaaG5
import Derived.Test.YtmoieckmbimgoaaG3
namespace Go.Proofs.Ytmoieckmbimgoaa
open Go.RowKit M
set_option linter.unusedSimpArgs false
set_option linter.unusedVariables false

/-- One of the machine's functions: it is there, or it is not. -/
def fnV (f : Nat) (bn bg : Nat) (h : Bool) : Value := if h then .func (.func f) #[] #[.pointer (some ⟨bn, 0, none⟩), .pointer (some ⟨bg, 0, none⟩)] else .nilFunc
def holB (g : GR) (k : Int) : Bool := bits BinOp.and IntKind.i64 g.holes k == 0
/-- The machine as a value. -/
def mcL (S : ByteArray) (g : GR) (bn bg : Nat) : List Value := [.string S, fnV 21 bn bg (holB g 1), fnV 22 bn bg (holB g 2), fnV 23 bn bg (holB g 4)]
def str0 : ByteArray := ⟨#[0]⟩
theorem zeroMc (w : World) : (zeroValue 32).run Try.prog w = .ok (.agg [Value.string ⟨#[]⟩, .nilFunc, .nilFunc, .nilFunc].toArray) w := by
  have h : Try.t32.zero = some (.agg [Value.string ⟨#[]⟩, .nilFunc, .nilFunc, .nilFunc].toArray) := by kernel_rfl
  simp [go_sem, zeroValue, h]
theorem zeroFn (w : World) : (zeroValue 53).run Try.prog w = .ok .nilFunc w := by
  have h : Try.t53.zero = some .nilFunc := by kernel_rfl
  simp [go_sem, zeroValue, h]
theorem infoF1 : (Try.prog.info? 53).map (·.size) = some 1 := by kernel_rfl
theorem infoF2 : (Try.prog.info? 28).map (·.size) = some 1 := by kernel_rfl
theorem infoF3 : (Try.prog.info? 29).map (·.size) = some 1 := by kernel_rfl
theorem infoF4 : (Try.prog.info? 30).map (·.size) = some 1 := by kernel_rfl
theorem wpList_alloc1F {w : World} {ops : Array Oper} {rest : List Oper} {op : Oper} {a : Act} {Q : Exit → Act → World → Prop} (hgd : op.guard = none) (ho : op.op = .alloc 53)
    (h : ∀ W b, Fresh w W b → IsS W b 53 [.nilFunc] → wpList Try.prog ops Q rest (a.put op.dst (.pointer (some ⟨b, 0, none⟩))) W) : wpList Try.prog ops Q (op :: rest) a w := by
  refine wpList_plain hgd fun K hK => ?_
  have hr : (execOp a.eval op).run Try.prog w = .ok (.value (.pointer (some ⟨w.heap.size, 0, none⟩))) (w.alloc (.cells #[.nilFunc] 53)) := by
    unfold execOp
    simp [ho, go_sem, Value.cells, zeroFn]
  unfold Oper.wp
  rw [hr]
  exact hK _ _ (h _ _ (Fresh.alloc w _) (IsS.new w _ [.nilFunc]))
theorem one4 {a b c : Value} {S : ByteArray} (ha : a.oneCell' = true) (hb : b.oneCell' = true) (hc : c.oneCell' = true) : ∀ v ∈ [Value.string S, a, b, c], v.oneCell' = true := by
  intro v hv
  simp only [List.mem_cons, List.not_mem_nil, or_false] at hv
  rcases hv with rfl | rfl | rfl | rfl
  · rfl
  · exact ha
  · exact hb
  · exact hc
theorem fnV_one (f bn bg : Nat) (h : Bool) : (fnV f bn bg h).oneCell' = true := by unfold fnV; cases h <;> rfl
set_option maxRecDepth 100000 in
set_option maxHeartbeats 4000000 in
theorem machine_fff (g : GR) (a : Option Addr) (c n : Nat) (H : Int) (hn : g.to.length = n) (hH : g.holes = H) (c1 : (bits BinOp.and IntKind.i64 H 1 == 0) = false) (c2 : (bits BinOp.and IntKind.i64 H 2 == 0) = false) (c4 : (bits BinOp.and IntKind.i64 H 4 == 0) = false) (w : World) (hR : RowsV w (.slice a n c) intE g.to) :
    Calls Try.prog 6 #[.agg #[.slice a n c, .int .u64 g.ends, .bool g.odd, .int .i64 H]] w fun e w' => ∃ b3 b1, e = .returned (.agg [.string str0, .nilFunc, .nilFunc, .nilFunc].toArray) ∧ MG w' g b3 b1 ∧ Below w.heap.size w w' := by
  have HR : Hid (RowsV w (.slice a n c) intE g.to) := hR
  have HN : Hid (g.to.length = n) := hn
  have HHH : Hid (g.holes = H) := hH
  obtain ⟨en, hen⟩ : ∃ e, g.ends = e := ⟨_, rfl⟩
  obtain ⟨od, hod⟩ : ∃ e, g.odd = e := ⟨_, rfl⟩
  have HEO : Hid (g.ends = en ∧ g.odd = od) := ⟨hen, hod⟩
  rw [hen, hod]
  clear hR hn hH hen hod
  have t1 : True := trivial
  have t2 : True := trivial
  have t3 : True := trivial
  have t4 : True := trivial
  have t5 : True := trivial
  have t6 : True := trivial
  have t7 : True := trivial
  have t8 : True := trivial
  have t9 : True := trivial
  have t20 : True := trivial
  have t21 : True := trivial
  have t22 : True := trivial
  go_enter Try.func6, Try.ntmps6
  go_wp2_with (first
    | (clear t1; refine wpList_boxS rfl 25 _ rfl [.slice a n c, .int .u64 en, .bool od, .int .i64 H] rfl ?_; intro W1 b1 F1 G1; have V1 := F_b F1; have hb1 : w.heap.size ≤ b1 := Nat.le_of_eq F1.at'.symm; clear F1)
    | (clear t2; refine wpList_allocS rfl 32 rfl _ zeroMc ?_; intro W2 b2 F2 R2; have h12 : b1 < b2 := (by have := F2.at'; have := G1.lt; omega); have G2 := G1.fresh F2; have V2 := Below.then V1 (F_b F2); clear F2 G1 V1)
    | (clear t3; refine wpList_alloc1F rfl rfl ?_; intro W3 b3 F3 N3; have h23 : b2 < b3 := (by have := F3.at'; have := R2.lt; omega); have G3 := G2.fresh F3; have R3 := R2.fresh F3; have V3 := Below.then V2 (F_b F3); clear F3 G2 R2 V2)
    | (clear t4; refine wpList_store1 rfl 53 _ _ rfl rfl (.func (.func 20) #[] #[.pointer (some ⟨b1, 0, none⟩)]) rfl N3 (by decide) infoF1 rfl ?_; intro W4 U4 N4; have G4 := G3.upd U4 (by omega); have R4 := R3.upd U4 (by omega); have V4 := U4.trans V3 (show w.heap.size ≤ b3 by omega); clear U4 G3 R3 V3 N3)
    | (clear t20; refine wpList_allocS rfl 32 rfl _ zeroMc ?_; intro W20 b4 F5 C20; have h34 : b3 < b4 := (by have := F5.at'; have := N4.lt; omega); have G20 := G4.fresh F5; have R20 := R4.fresh F5; have N20 := N4.fresh F5; have V20 := Below.then V4 (F_b F5); clear F5 G4 R4 N4 V4)
    | (clear t5; refine wpList_storeW rfl 32 _ _ rfl rfl [.string str0, .nilFunc, .nilFunc, .nilFunc] rfl C20 rfl infoMc (one4 rfl rfl rfl) ?_; intro W5 U5 C5; have G5 := G20.upd U5 (by omega); have R5 := R20.upd U5 (by omega); have N5 := N20.upd U5 (by omega); have V5 := U5.trans V20 (show w.heap.size ≤ b4 by omega); have yh5 := G5.cell 3; simp only [List.getElem?_cons_zero, List.getElem?_cons_succ] at yh5; clear U5 G20 R20 N20 V20 C20)
    | (clear t21; refine wpList_loadW rfl 32 _ rfl rfl C5 _ Try.underlying32 rfl infoMc ?_)
    | (clear t22; refine wpList_storeW rfl 32 _ _ rfl rfl [.string str0, .nilFunc, .nilFunc, .nilFunc] rfl R5 rfl infoMc (one4 rfl rfl rfl) ?_; intro W30 U30 R30; have G30 := G5.upd U30 (by omega); have N30 := N5.upd U30 (by omega); have V30 := U30.trans V5 (show w.heap.size ≤ b2 by omega)))
  refine ret_S rfl rfl rfl R30 _ Try.underlying32 rfl infoMc ⟨b3, b1, rfl, ⟨⟨a, c, ?_, ?_⟩, N30⟩, V30⟩
  · rw [HN.out, HHH.out, HEO.out.1, HEO.out.2]; exact G30
  · rw [HN.out]; exact HR.out.below V30
set_option maxRecDepth 100000 in
set_option maxHeartbeats 4000000 in
theorem machine_fft (g : GR) (a : Option Addr) (c n : Nat) (H : Int) (hn : g.to.length = n) (hH : g.holes = H) (c1 : (bits BinOp.and IntKind.i64 H 1 == 0) = false) (c2 : (bits BinOp.and IntKind.i64 H 2 == 0) = false) (c4 : (bits BinOp.and IntKind.i64 H 4 == 0) = true) (w : World) (hR : RowsV w (.slice a n c) intE g.to) :
    Calls Try.prog 6 #[.agg #[.slice a n c, .int .u64 g.ends, .bool g.odd, .int .i64 H]] w fun e w' => ∃ b3 b1, e = .returned (.agg [.string str0, .nilFunc, .nilFunc, .func (.func 23) #[] #[.pointer (some ⟨b3, 0, none⟩), .pointer (some ⟨b1, 0, none⟩)]].toArray) ∧ MG w' g b3 b1 ∧ Below w.heap.size w w' := by
  have HR : Hid (RowsV w (.slice a n c) intE g.to) := hR
  have HN : Hid (g.to.length = n) := hn
  have HHH : Hid (g.holes = H) := hH
  obtain ⟨en, hen⟩ : ∃ e, g.ends = e := ⟨_, rfl⟩
  obtain ⟨od, hod⟩ : ∃ e, g.odd = e := ⟨_, rfl⟩
  have HEO : Hid (g.ends = en ∧ g.odd = od) := ⟨hen, hod⟩
  rw [hen, hod]
  clear hR hn hH hen hod
  have t1 : True := trivial
  have t2 : True := trivial
  have t3 : True := trivial
  have t4 : True := trivial
  have t5 : True := trivial
  have t6 : True := trivial
  have t7 : True := trivial
  have t8 : True := trivial
  have t9 : True := trivial
  have t20 : True := trivial
  have t21 : True := trivial
  have t22 : True := trivial
  go_enter Try.func6, Try.ntmps6
  go_wp2_with (first
    | (clear t1; refine wpList_boxS rfl 25 _ rfl [.slice a n c, .int .u64 en, .bool od, .int .i64 H] rfl ?_; intro W1 b1 F1 G1; have V1 := F_b F1; have hb1 : w.heap.size ≤ b1 := Nat.le_of_eq F1.at'.symm; clear F1)
    | (clear t2; refine wpList_allocS rfl 32 rfl _ zeroMc ?_; intro W2 b2 F2 R2; have h12 : b1 < b2 := (by have := F2.at'; have := G1.lt; omega); have G2 := G1.fresh F2; have V2 := Below.then V1 (F_b F2); clear F2 G1 V1)
    | (clear t3; refine wpList_alloc1F rfl rfl ?_; intro W3 b3 F3 N3; have h23 : b2 < b3 := (by have := F3.at'; have := R2.lt; omega); have G3 := G2.fresh F3; have R3 := R2.fresh F3; have V3 := Below.then V2 (F_b F3); clear F3 G2 R2 V2)
    | (clear t4; refine wpList_store1 rfl 53 _ _ rfl rfl (.func (.func 20) #[] #[.pointer (some ⟨b1, 0, none⟩)]) rfl N3 (by decide) infoF1 rfl ?_; intro W4 U4 N4; have G4 := G3.upd U4 (by omega); have R4 := R3.upd U4 (by omega); have V4 := U4.trans V3 (show w.heap.size ≤ b3 by omega); clear U4 G3 R3 V3 N3)
    | (clear t20; refine wpList_allocS rfl 32 rfl _ zeroMc ?_; intro W20 b4 F5 C20; have h34 : b3 < b4 := (by have := F5.at'; have := N4.lt; omega); have G20 := G4.fresh F5; have R20 := R4.fresh F5; have N20 := N4.fresh F5; have V20 := Below.then V4 (F_b F5); clear F5 G4 R4 N4 V4)
    | (clear t5; refine wpList_storeW rfl 32 _ _ rfl rfl [.string str0, .nilFunc, .nilFunc, .nilFunc] rfl C20 rfl infoMc (one4 rfl rfl rfl) ?_; intro W5 U5 C5; have G5 := G20.upd U5 (by omega); have R5 := R20.upd U5 (by omega); have N5 := N20.upd U5 (by omega); have V5 := U5.trans V20 (show w.heap.size ≤ b4 by omega); have yh5 := G5.cell 3; simp only [List.getElem?_cons_zero, List.getElem?_cons_succ] at yh5; clear U5 G20 R20 N20 V20 C20)
    | (clear t6; refine wpList_store1 rfl 30 _ _ rfl rfl (.func (.func 23) #[] #[.pointer (some ⟨b3, 0, none⟩), .pointer (some ⟨b1, 0, none⟩)]) rfl C5 (show 3 < 4 by decide) infoF4 rfl ?_; intro W6 U6 D6; have C6 : IsS W6 b4 32 [.string str0, .nilFunc, .nilFunc, .func (.func 23) #[] #[.pointer (some ⟨b3, 0, none⟩), .pointer (some ⟨b1, 0, none⟩)]] := D6; have G6 := G5.upd U6 (by omega); have N6 := N5.upd U6 (by omega); have R6 := R5.upd U6 (by omega); have V6 := U6.trans V5 (show w.heap.size ≤ b4 by omega); have yh6 := G6.cell 3; simp only [List.getElem?_cons_zero, List.getElem?_cons_succ] at yh6; clear D6 C5 G5 N5 R5 V5 U6)
    | (clear t21; refine wpList_loadW rfl 32 _ rfl rfl C6 _ Try.underlying32 rfl infoMc ?_)
    | (clear t22; refine wpList_storeW rfl 32 _ _ rfl rfl [.string str0, .nilFunc, .nilFunc, .func (.func 23) #[] #[.pointer (some ⟨b3, 0, none⟩), .pointer (some ⟨b1, 0, none⟩)]] rfl R6 rfl infoMc (one4 rfl rfl rfl) ?_; intro W30 U30 R30; have G30 := G6.upd U30 (by omega); have N30 := N6.upd U30 (by omega); have V30 := U30.trans V6 (show w.heap.size ≤ b2 by omega)))
  refine ret_S rfl rfl rfl R30 _ Try.underlying32 rfl infoMc ⟨b3, b1, rfl, ⟨⟨a, c, ?_, ?_⟩, N30⟩, V30⟩
  · rw [HN.out, HHH.out, HEO.out.1, HEO.out.2]; exact G30
  · rw [HN.out]; exact HR.out.below V30
set_option maxRecDepth 100000 in
set_option maxHeartbeats 4000000 in
theorem machine_ftf (g : GR) (a : Option Addr) (c n : Nat) (H : Int) (hn : g.to.length = n) (hH : g.holes = H) (c1 : (bits BinOp.and IntKind.i64 H 1 == 0) = false) (c2 : (bits BinOp.and IntKind.i64 H 2 == 0) = true) (c4 : (bits BinOp.and IntKind.i64 H 4 == 0) = false) (w : World) (hR : RowsV w (.slice a n c) intE g.to) :
    Calls Try.prog 6 #[.agg #[.slice a n c, .int .u64 g.ends, .bool g.odd, .int .i64 H]] w fun e w' => ∃ b3 b1, e = .returned (.agg [.string str0, .nilFunc, .func (.func 22) #[] #[.pointer (some ⟨b3, 0, none⟩), .pointer (some ⟨b1, 0, none⟩)], .nilFunc].toArray) ∧ MG w' g b3 b1 ∧ Below w.heap.size w w' := by
  have HR : Hid (RowsV w (.slice a n c) intE g.to) := hR
  have HN : Hid (g.to.length = n) := hn
  have HHH : Hid (g.holes = H) := hH
  obtain ⟨en, hen⟩ : ∃ e, g.ends = e := ⟨_, rfl⟩
  obtain ⟨od, hod⟩ : ∃ e, g.odd = e := ⟨_, rfl⟩
  have HEO : Hid (g.ends = en ∧ g.odd = od) := ⟨hen, hod⟩
  rw [hen, hod]
  clear hR hn hH hen hod
  have t1 : True := trivial
  have t2 : True := trivial
  have t3 : True := trivial
  have t4 : True := trivial
  have t5 : True := trivial
  have t6 : True := trivial
  have t7 : True := trivial
  have t8 : True := trivial
  have t9 : True := trivial
  have t20 : True := trivial
  have t21 : True := trivial
  have t22 : True := trivial
  go_enter Try.func6, Try.ntmps6
  go_wp2_with (first
    | (clear t1; refine wpList_boxS rfl 25 _ rfl [.slice a n c, .int .u64 en, .bool od, .int .i64 H] rfl ?_; intro W1 b1 F1 G1; have V1 := F_b F1; have hb1 : w.heap.size ≤ b1 := Nat.le_of_eq F1.at'.symm; clear F1)
    | (clear t2; refine wpList_allocS rfl 32 rfl _ zeroMc ?_; intro W2 b2 F2 R2; have h12 : b1 < b2 := (by have := F2.at'; have := G1.lt; omega); have G2 := G1.fresh F2; have V2 := Below.then V1 (F_b F2); clear F2 G1 V1)
    | (clear t3; refine wpList_alloc1F rfl rfl ?_; intro W3 b3 F3 N3; have h23 : b2 < b3 := (by have := F3.at'; have := R2.lt; omega); have G3 := G2.fresh F3; have R3 := R2.fresh F3; have V3 := Below.then V2 (F_b F3); clear F3 G2 R2 V2)
    | (clear t4; refine wpList_store1 rfl 53 _ _ rfl rfl (.func (.func 20) #[] #[.pointer (some ⟨b1, 0, none⟩)]) rfl N3 (by decide) infoF1 rfl ?_; intro W4 U4 N4; have G4 := G3.upd U4 (by omega); have R4 := R3.upd U4 (by omega); have V4 := U4.trans V3 (show w.heap.size ≤ b3 by omega); clear U4 G3 R3 V3 N3)
    | (clear t20; refine wpList_allocS rfl 32 rfl _ zeroMc ?_; intro W20 b4 F5 C20; have h34 : b3 < b4 := (by have := F5.at'; have := N4.lt; omega); have G20 := G4.fresh F5; have R20 := R4.fresh F5; have N20 := N4.fresh F5; have V20 := Below.then V4 (F_b F5); clear F5 G4 R4 N4 V4)
    | (clear t5; refine wpList_storeW rfl 32 _ _ rfl rfl [.string str0, .nilFunc, .nilFunc, .nilFunc] rfl C20 rfl infoMc (one4 rfl rfl rfl) ?_; intro W5 U5 C5; have G5 := G20.upd U5 (by omega); have R5 := R20.upd U5 (by omega); have N5 := N20.upd U5 (by omega); have V5 := U5.trans V20 (show w.heap.size ≤ b4 by omega); have yh5 := G5.cell 3; simp only [List.getElem?_cons_zero, List.getElem?_cons_succ] at yh5; clear U5 G20 R20 N20 V20 C20)
    | (clear t6; refine wpList_store1 rfl 29 _ _ rfl rfl (.func (.func 22) #[] #[.pointer (some ⟨b3, 0, none⟩), .pointer (some ⟨b1, 0, none⟩)]) rfl C5 (show 2 < 4 by decide) infoF3 rfl ?_; intro W6 U6 D6; have C6 : IsS W6 b4 32 [.string str0, .nilFunc, .func (.func 22) #[] #[.pointer (some ⟨b3, 0, none⟩), .pointer (some ⟨b1, 0, none⟩)], .nilFunc] := D6; have G6 := G5.upd U6 (by omega); have N6 := N5.upd U6 (by omega); have R6 := R5.upd U6 (by omega); have V6 := U6.trans V5 (show w.heap.size ≤ b4 by omega); have yh6 := G6.cell 3; simp only [List.getElem?_cons_zero, List.getElem?_cons_succ] at yh6; clear D6 C5 G5 N5 R5 V5 U6)
    | (clear t21; refine wpList_loadW rfl 32 _ rfl rfl C6 _ Try.underlying32 rfl infoMc ?_)
    | (clear t22; refine wpList_storeW rfl 32 _ _ rfl rfl [.string str0, .nilFunc, .func (.func 22) #[] #[.pointer (some ⟨b3, 0, none⟩), .pointer (some ⟨b1, 0, none⟩)], .nilFunc] rfl R6 rfl infoMc (one4 rfl rfl rfl) ?_; intro W30 U30 R30; have G30 := G6.upd U30 (by omega); have N30 := N6.upd U30 (by omega); have V30 := U30.trans V6 (show w.heap.size ≤ b2 by omega)))
  refine ret_S rfl rfl rfl R30 _ Try.underlying32 rfl infoMc ⟨b3, b1, rfl, ⟨⟨a, c, ?_, ?_⟩, N30⟩, V30⟩
  · rw [HN.out, HHH.out, HEO.out.1, HEO.out.2]; exact G30
  · rw [HN.out]; exact HR.out.below V30
set_option maxRecDepth 100000 in
set_option maxHeartbeats 4000000 in
theorem machine_ftt (g : GR) (a : Option Addr) (c n : Nat) (H : Int) (hn : g.to.length = n) (hH : g.holes = H) (c1 : (bits BinOp.and IntKind.i64 H 1 == 0) = false) (c2 : (bits BinOp.and IntKind.i64 H 2 == 0) = true) (c4 : (bits BinOp.and IntKind.i64 H 4 == 0) = true) (w : World) (hR : RowsV w (.slice a n c) intE g.to) :
    Calls Try.prog 6 #[.agg #[.slice a n c, .int .u64 g.ends, .bool g.odd, .int .i64 H]] w fun e w' => ∃ b3 b1, e = .returned (.agg [.string str0, .nilFunc, .func (.func 22) #[] #[.pointer (some ⟨b3, 0, none⟩), .pointer (some ⟨b1, 0, none⟩)], .func (.func 23) #[] #[.pointer (some ⟨b3, 0, none⟩), .pointer (some ⟨b1, 0, none⟩)]].toArray) ∧ MG w' g b3 b1 ∧ Below w.heap.size w w' := by
  have HR : Hid (RowsV w (.slice a n c) intE g.to) := hR
  have HN : Hid (g.to.length = n) := hn
  have HHH : Hid (g.holes = H) := hH
  obtain ⟨en, hen⟩ : ∃ e, g.ends = e := ⟨_, rfl⟩
  obtain ⟨od, hod⟩ : ∃ e, g.odd = e := ⟨_, rfl⟩
  have HEO : Hid (g.ends = en ∧ g.odd = od) := ⟨hen, hod⟩
  rw [hen, hod]
  clear hR hn hH hen hod
  have t1 : True := trivial
  have t2 : True := trivial
  have t3 : True := trivial
  have t4 : True := trivial
  have t5 : True := trivial
  have t6 : True := trivial
  have t7 : True := trivial
  have t8 : True := trivial
  have t9 : True := trivial
  have t20 : True := trivial
  have t21 : True := trivial
  have t22 : True := trivial
  go_enter Try.func6, Try.ntmps6
  go_wp2_with (first
    | (clear t1; refine wpList_boxS rfl 25 _ rfl [.slice a n c, .int .u64 en, .bool od, .int .i64 H] rfl ?_; intro W1 b1 F1 G1; have V1 := F_b F1; have hb1 : w.heap.size ≤ b1 := Nat.le_of_eq F1.at'.symm; clear F1)
    | (clear t2; refine wpList_allocS rfl 32 rfl _ zeroMc ?_; intro W2 b2 F2 R2; have h12 : b1 < b2 := (by have := F2.at'; have := G1.lt; omega); have G2 := G1.fresh F2; have V2 := Below.then V1 (F_b F2); clear F2 G1 V1)
    | (clear t3; refine wpList_alloc1F rfl rfl ?_; intro W3 b3 F3 N3; have h23 : b2 < b3 := (by have := F3.at'; have := R2.lt; omega); have G3 := G2.fresh F3; have R3 := R2.fresh F3; have V3 := Below.then V2 (F_b F3); clear F3 G2 R2 V2)
    | (clear t4; refine wpList_store1 rfl 53 _ _ rfl rfl (.func (.func 20) #[] #[.pointer (some ⟨b1, 0, none⟩)]) rfl N3 (by decide) infoF1 rfl ?_; intro W4 U4 N4; have G4 := G3.upd U4 (by omega); have R4 := R3.upd U4 (by omega); have V4 := U4.trans V3 (show w.heap.size ≤ b3 by omega); clear U4 G3 R3 V3 N3)
    | (clear t20; refine wpList_allocS rfl 32 rfl _ zeroMc ?_; intro W20 b4 F5 C20; have h34 : b3 < b4 := (by have := F5.at'; have := N4.lt; omega); have G20 := G4.fresh F5; have R20 := R4.fresh F5; have N20 := N4.fresh F5; have V20 := Below.then V4 (F_b F5); clear F5 G4 R4 N4 V4)
    | (clear t5; refine wpList_storeW rfl 32 _ _ rfl rfl [.string str0, .nilFunc, .nilFunc, .nilFunc] rfl C20 rfl infoMc (one4 rfl rfl rfl) ?_; intro W5 U5 C5; have G5 := G20.upd U5 (by omega); have R5 := R20.upd U5 (by omega); have N5 := N20.upd U5 (by omega); have V5 := U5.trans V20 (show w.heap.size ≤ b4 by omega); have yh5 := G5.cell 3; simp only [List.getElem?_cons_zero, List.getElem?_cons_succ] at yh5; clear U5 G20 R20 N20 V20 C20)
    | (clear t6; refine wpList_store1 rfl 29 _ _ rfl rfl (.func (.func 22) #[] #[.pointer (some ⟨b3, 0, none⟩), .pointer (some ⟨b1, 0, none⟩)]) rfl C5 (show 2 < 4 by decide) infoF3 rfl ?_; intro W6 U6 D6; have C6 : IsS W6 b4 32 [.string str0, .nilFunc, .func (.func 22) #[] #[.pointer (some ⟨b3, 0, none⟩), .pointer (some ⟨b1, 0, none⟩)], .nilFunc] := D6; have G6 := G5.upd U6 (by omega); have N6 := N5.upd U6 (by omega); have R6 := R5.upd U6 (by omega); have V6 := U6.trans V5 (show w.heap.size ≤ b4 by omega); have yh6 := G6.cell 3; simp only [List.getElem?_cons_zero, List.getElem?_cons_succ] at yh6; clear D6 C5 G5 N5 R5 V5 U6)
    | (clear t7; refine wpList_store1 rfl 30 _ _ rfl rfl (.func (.func 23) #[] #[.pointer (some ⟨b3, 0, none⟩), .pointer (some ⟨b1, 0, none⟩)]) rfl C6 (show 3 < 4 by decide) infoF4 rfl ?_; intro W7 U7 D7; have C7 : IsS W7 b4 32 [.string str0, .nilFunc, .func (.func 22) #[] #[.pointer (some ⟨b3, 0, none⟩), .pointer (some ⟨b1, 0, none⟩)], .func (.func 23) #[] #[.pointer (some ⟨b3, 0, none⟩), .pointer (some ⟨b1, 0, none⟩)]] := D7; have G7 := G6.upd U7 (by omega); have N7 := N6.upd U7 (by omega); have R7 := R6.upd U7 (by omega); have V7 := U7.trans V6 (show w.heap.size ≤ b4 by omega); have yh7 := G7.cell 3; simp only [List.getElem?_cons_zero, List.getElem?_cons_succ] at yh7; clear D7 C6 G6 N6 R6 V6 U7)
    | (clear t21; refine wpList_loadW rfl 32 _ rfl rfl C7 _ Try.underlying32 rfl infoMc ?_)
    | (clear t22; refine wpList_storeW rfl 32 _ _ rfl rfl [.string str0, .nilFunc, .func (.func 22) #[] #[.pointer (some ⟨b3, 0, none⟩), .pointer (some ⟨b1, 0, none⟩)], .func (.func 23) #[] #[.pointer (some ⟨b3, 0, none⟩), .pointer (some ⟨b1, 0, none⟩)]] rfl R7 rfl infoMc (one4 rfl rfl rfl) ?_; intro W30 U30 R30; have G30 := G7.upd U30 (by omega); have N30 := N7.upd U30 (by omega); have V30 := U30.trans V7 (show w.heap.size ≤ b2 by omega)))
  refine ret_S rfl rfl rfl R30 _ Try.underlying32 rfl infoMc ⟨b3, b1, rfl, ⟨⟨a, c, ?_, ?_⟩, N30⟩, V30⟩
  · rw [HN.out, HHH.out, HEO.out.1, HEO.out.2]; exact G30
  · rw [HN.out]; exact HR.out.below V30
set_option maxRecDepth 100000 in
set_option maxHeartbeats 4000000 in
theorem machine_tff (g : GR) (a : Option Addr) (c n : Nat) (H : Int) (hn : g.to.length = n) (hH : g.holes = H) (c1 : (bits BinOp.and IntKind.i64 H 1 == 0) = true) (c2 : (bits BinOp.and IntKind.i64 H 2 == 0) = false) (c4 : (bits BinOp.and IntKind.i64 H 4 == 0) = false) (w : World) (hR : RowsV w (.slice a n c) intE g.to) :
    Calls Try.prog 6 #[.agg #[.slice a n c, .int .u64 g.ends, .bool g.odd, .int .i64 H]] w fun e w' => ∃ b3 b1, e = .returned (.agg [.string str0, .func (.func 21) #[] #[.pointer (some ⟨b3, 0, none⟩), .pointer (some ⟨b1, 0, none⟩)], .nilFunc, .nilFunc].toArray) ∧ MG w' g b3 b1 ∧ Below w.heap.size w w' := by
  have HR : Hid (RowsV w (.slice a n c) intE g.to) := hR
  have HN : Hid (g.to.length = n) := hn
  have HHH : Hid (g.holes = H) := hH
  obtain ⟨en, hen⟩ : ∃ e, g.ends = e := ⟨_, rfl⟩
  obtain ⟨od, hod⟩ : ∃ e, g.odd = e := ⟨_, rfl⟩
  have HEO : Hid (g.ends = en ∧ g.odd = od) := ⟨hen, hod⟩
  rw [hen, hod]
  clear hR hn hH hen hod
  have t1 : True := trivial
  have t2 : True := trivial
  have t3 : True := trivial
  have t4 : True := trivial
  have t5 : True := trivial
  have t6 : True := trivial
  have t7 : True := trivial
  have t8 : True := trivial
  have t9 : True := trivial
  have t20 : True := trivial
  have t21 : True := trivial
  have t22 : True := trivial
  go_enter Try.func6, Try.ntmps6
  go_wp2_with (first
    | (clear t1; refine wpList_boxS rfl 25 _ rfl [.slice a n c, .int .u64 en, .bool od, .int .i64 H] rfl ?_; intro W1 b1 F1 G1; have V1 := F_b F1; have hb1 : w.heap.size ≤ b1 := Nat.le_of_eq F1.at'.symm; clear F1)
    | (clear t2; refine wpList_allocS rfl 32 rfl _ zeroMc ?_; intro W2 b2 F2 R2; have h12 : b1 < b2 := (by have := F2.at'; have := G1.lt; omega); have G2 := G1.fresh F2; have V2 := Below.then V1 (F_b F2); clear F2 G1 V1)
    | (clear t3; refine wpList_alloc1F rfl rfl ?_; intro W3 b3 F3 N3; have h23 : b2 < b3 := (by have := F3.at'; have := R2.lt; omega); have G3 := G2.fresh F3; have R3 := R2.fresh F3; have V3 := Below.then V2 (F_b F3); clear F3 G2 R2 V2)
    | (clear t4; refine wpList_store1 rfl 53 _ _ rfl rfl (.func (.func 20) #[] #[.pointer (some ⟨b1, 0, none⟩)]) rfl N3 (by decide) infoF1 rfl ?_; intro W4 U4 N4; have G4 := G3.upd U4 (by omega); have R4 := R3.upd U4 (by omega); have V4 := U4.trans V3 (show w.heap.size ≤ b3 by omega); clear U4 G3 R3 V3 N3)
    | (clear t20; refine wpList_allocS rfl 32 rfl _ zeroMc ?_; intro W20 b4 F5 C20; have h34 : b3 < b4 := (by have := F5.at'; have := N4.lt; omega); have G20 := G4.fresh F5; have R20 := R4.fresh F5; have N20 := N4.fresh F5; have V20 := Below.then V4 (F_b F5); clear F5 G4 R4 N4 V4)
    | (clear t5; refine wpList_storeW rfl 32 _ _ rfl rfl [.string str0, .nilFunc, .nilFunc, .nilFunc] rfl C20 rfl infoMc (one4 rfl rfl rfl) ?_; intro W5 U5 C5; have G5 := G20.upd U5 (by omega); have R5 := R20.upd U5 (by omega); have N5 := N20.upd U5 (by omega); have V5 := U5.trans V20 (show w.heap.size ≤ b4 by omega); have yh5 := G5.cell 3; simp only [List.getElem?_cons_zero, List.getElem?_cons_succ] at yh5; clear U5 G20 R20 N20 V20 C20)
    | (clear t6; refine wpList_store1 rfl 28 _ _ rfl rfl (.func (.func 21) #[] #[.pointer (some ⟨b3, 0, none⟩), .pointer (some ⟨b1, 0, none⟩)]) rfl C5 (show 1 < 4 by decide) infoF2 rfl ?_; intro W6 U6 D6; have C6 : IsS W6 b4 32 [.string str0, .func (.func 21) #[] #[.pointer (some ⟨b3, 0, none⟩), .pointer (some ⟨b1, 0, none⟩)], .nilFunc, .nilFunc] := D6; have G6 := G5.upd U6 (by omega); have N6 := N5.upd U6 (by omega); have R6 := R5.upd U6 (by omega); have V6 := U6.trans V5 (show w.heap.size ≤ b4 by omega); have yh6 := G6.cell 3; simp only [List.getElem?_cons_zero, List.getElem?_cons_succ] at yh6; clear D6 C5 G5 N5 R5 V5 U6)
    | (clear t21; refine wpList_loadW rfl 32 _ rfl rfl C6 _ Try.underlying32 rfl infoMc ?_)
    | (clear t22; refine wpList_storeW rfl 32 _ _ rfl rfl [.string str0, .func (.func 21) #[] #[.pointer (some ⟨b3, 0, none⟩), .pointer (some ⟨b1, 0, none⟩)], .nilFunc, .nilFunc] rfl R6 rfl infoMc (one4 rfl rfl rfl) ?_; intro W30 U30 R30; have G30 := G6.upd U30 (by omega); have N30 := N6.upd U30 (by omega); have V30 := U30.trans V6 (show w.heap.size ≤ b2 by omega)))
  refine ret_S rfl rfl rfl R30 _ Try.underlying32 rfl infoMc ⟨b3, b1, rfl, ⟨⟨a, c, ?_, ?_⟩, N30⟩, V30⟩
  · rw [HN.out, HHH.out, HEO.out.1, HEO.out.2]; exact G30
  · rw [HN.out]; exact HR.out.below V30
set_option maxRecDepth 100000 in
set_option maxHeartbeats 4000000 in
theorem machine_tft (g : GR) (a : Option Addr) (c n : Nat) (H : Int) (hn : g.to.length = n) (hH : g.holes = H) (c1 : (bits BinOp.and IntKind.i64 H 1 == 0) = true) (c2 : (bits BinOp.and IntKind.i64 H 2 == 0) = false) (c4 : (bits BinOp.and IntKind.i64 H 4 == 0) = true) (w : World) (hR : RowsV w (.slice a n c) intE g.to) :
    Calls Try.prog 6 #[.agg #[.slice a n c, .int .u64 g.ends, .bool g.odd, .int .i64 H]] w fun e w' => ∃ b3 b1, e = .returned (.agg [.string str0, .func (.func 21) #[] #[.pointer (some ⟨b3, 0, none⟩), .pointer (some ⟨b1, 0, none⟩)], .nilFunc, .func (.func 23) #[] #[.pointer (some ⟨b3, 0, none⟩), .pointer (some ⟨b1, 0, none⟩)]].toArray) ∧ MG w' g b3 b1 ∧ Below w.heap.size w w' := by
  have HR : Hid (RowsV w (.slice a n c) intE g.to) := hR
  have HN : Hid (g.to.length = n) := hn
  have HHH : Hid (g.holes = H) := hH
  obtain ⟨en, hen⟩ : ∃ e, g.ends = e := ⟨_, rfl⟩
  obtain ⟨od, hod⟩ : ∃ e, g.odd = e := ⟨_, rfl⟩
  have HEO : Hid (g.ends = en ∧ g.odd = od) := ⟨hen, hod⟩
  rw [hen, hod]
  clear hR hn hH hen hod
  have t1 : True := trivial
  have t2 : True := trivial
  have t3 : True := trivial
  have t4 : True := trivial
  have t5 : True := trivial
  have t6 : True := trivial
  have t7 : True := trivial
  have t8 : True := trivial
  have t9 : True := trivial
  have t20 : True := trivial
  have t21 : True := trivial
  have t22 : True := trivial
  go_enter Try.func6, Try.ntmps6
  go_wp2_with (first
    | (clear t1; refine wpList_boxS rfl 25 _ rfl [.slice a n c, .int .u64 en, .bool od, .int .i64 H] rfl ?_; intro W1 b1 F1 G1; have V1 := F_b F1; have hb1 : w.heap.size ≤ b1 := Nat.le_of_eq F1.at'.symm; clear F1)
    | (clear t2; refine wpList_allocS rfl 32 rfl _ zeroMc ?_; intro W2 b2 F2 R2; have h12 : b1 < b2 := (by have := F2.at'; have := G1.lt; omega); have G2 := G1.fresh F2; have V2 := Below.then V1 (F_b F2); clear F2 G1 V1)
    | (clear t3; refine wpList_alloc1F rfl rfl ?_; intro W3 b3 F3 N3; have h23 : b2 < b3 := (by have := F3.at'; have := R2.lt; omega); have G3 := G2.fresh F3; have R3 := R2.fresh F3; have V3 := Below.then V2 (F_b F3); clear F3 G2 R2 V2)
    | (clear t4; refine wpList_store1 rfl 53 _ _ rfl rfl (.func (.func 20) #[] #[.pointer (some ⟨b1, 0, none⟩)]) rfl N3 (by decide) infoF1 rfl ?_; intro W4 U4 N4; have G4 := G3.upd U4 (by omega); have R4 := R3.upd U4 (by omega); have V4 := U4.trans V3 (show w.heap.size ≤ b3 by omega); clear U4 G3 R3 V3 N3)
    | (clear t20; refine wpList_allocS rfl 32 rfl _ zeroMc ?_; intro W20 b4 F5 C20; have h34 : b3 < b4 := (by have := F5.at'; have := N4.lt; omega); have G20 := G4.fresh F5; have R20 := R4.fresh F5; have N20 := N4.fresh F5; have V20 := Below.then V4 (F_b F5); clear F5 G4 R4 N4 V4)
    | (clear t5; refine wpList_storeW rfl 32 _ _ rfl rfl [.string str0, .nilFunc, .nilFunc, .nilFunc] rfl C20 rfl infoMc (one4 rfl rfl rfl) ?_; intro W5 U5 C5; have G5 := G20.upd U5 (by omega); have R5 := R20.upd U5 (by omega); have N5 := N20.upd U5 (by omega); have V5 := U5.trans V20 (show w.heap.size ≤ b4 by omega); have yh5 := G5.cell 3; simp only [List.getElem?_cons_zero, List.getElem?_cons_succ] at yh5; clear U5 G20 R20 N20 V20 C20)
    | (clear t6; refine wpList_store1 rfl 28 _ _ rfl rfl (.func (.func 21) #[] #[.pointer (some ⟨b3, 0, none⟩), .pointer (some ⟨b1, 0, none⟩)]) rfl C5 (show 1 < 4 by decide) infoF2 rfl ?_; intro W6 U6 D6; have C6 : IsS W6 b4 32 [.string str0, .func (.func 21) #[] #[.pointer (some ⟨b3, 0, none⟩), .pointer (some ⟨b1, 0, none⟩)], .nilFunc, .nilFunc] := D6; have G6 := G5.upd U6 (by omega); have N6 := N5.upd U6 (by omega); have R6 := R5.upd U6 (by omega); have V6 := U6.trans V5 (show w.heap.size ≤ b4 by omega); have yh6 := G6.cell 3; simp only [List.getElem?_cons_zero, List.getElem?_cons_succ] at yh6; clear D6 C5 G5 N5 R5 V5 U6)
    | (clear t7; refine wpList_store1 rfl 30 _ _ rfl rfl (.func (.func 23) #[] #[.pointer (some ⟨b3, 0, none⟩), .pointer (some ⟨b1, 0, none⟩)]) rfl C6 (show 3 < 4 by decide) infoF4 rfl ?_; intro W7 U7 D7; have C7 : IsS W7 b4 32 [.string str0, .func (.func 21) #[] #[.pointer (some ⟨b3, 0, none⟩), .pointer (some ⟨b1, 0, none⟩)], .nilFunc, .func (.func 23) #[] #[.pointer (some ⟨b3, 0, none⟩), .pointer (some ⟨b1, 0, none⟩)]] := D7; have G7 := G6.upd U7 (by omega); have N7 := N6.upd U7 (by omega); have R7 := R6.upd U7 (by omega); have V7 := U7.trans V6 (show w.heap.size ≤ b4 by omega); have yh7 := G7.cell 3; simp only [List.getElem?_cons_zero, List.getElem?_cons_succ] at yh7; clear D7 C6 G6 N6 R6 V6 U7)
    | (clear t21; refine wpList_loadW rfl 32 _ rfl rfl C7 _ Try.underlying32 rfl infoMc ?_)
    | (clear t22; refine wpList_storeW rfl 32 _ _ rfl rfl [.string str0, .func (.func 21) #[] #[.pointer (some ⟨b3, 0, none⟩), .pointer (some ⟨b1, 0, none⟩)], .nilFunc, .func (.func 23) #[] #[.pointer (some ⟨b3, 0, none⟩), .pointer (some ⟨b1, 0, none⟩)]] rfl R7 rfl infoMc (one4 rfl rfl rfl) ?_; intro W30 U30 R30; have G30 := G7.upd U30 (by omega); have N30 := N7.upd U30 (by omega); have V30 := U30.trans V7 (show w.heap.size ≤ b2 by omega)))
  refine ret_S rfl rfl rfl R30 _ Try.underlying32 rfl infoMc ⟨b3, b1, rfl, ⟨⟨a, c, ?_, ?_⟩, N30⟩, V30⟩
  · rw [HN.out, HHH.out, HEO.out.1, HEO.out.2]; exact G30
  · rw [HN.out]; exact HR.out.below V30
set_option maxRecDepth 100000 in
set_option maxHeartbeats 4000000 in
theorem machine_ttf (g : GR) (a : Option Addr) (c n : Nat) (H : Int) (hn : g.to.length = n) (hH : g.holes = H) (c1 : (bits BinOp.and IntKind.i64 H 1 == 0) = true) (c2 : (bits BinOp.and IntKind.i64 H 2 == 0) = true) (c4 : (bits BinOp.and IntKind.i64 H 4 == 0) = false) (w : World) (hR : RowsV w (.slice a n c) intE g.to) :
    Calls Try.prog 6 #[.agg #[.slice a n c, .int .u64 g.ends, .bool g.odd, .int .i64 H]] w fun e w' => ∃ b3 b1, e = .returned (.agg [.string str0, .func (.func 21) #[] #[.pointer (some ⟨b3, 0, none⟩), .pointer (some ⟨b1, 0, none⟩)], .func (.func 22) #[] #[.pointer (some ⟨b3, 0, none⟩), .pointer (some ⟨b1, 0, none⟩)], .nilFunc].toArray) ∧ MG w' g b3 b1 ∧ Below w.heap.size w w' := by
  have HR : Hid (RowsV w (.slice a n c) intE g.to) := hR
  have HN : Hid (g.to.length = n) := hn
  have HHH : Hid (g.holes = H) := hH
  obtain ⟨en, hen⟩ : ∃ e, g.ends = e := ⟨_, rfl⟩
  obtain ⟨od, hod⟩ : ∃ e, g.odd = e := ⟨_, rfl⟩
  have HEO : Hid (g.ends = en ∧ g.odd = od) := ⟨hen, hod⟩
  rw [hen, hod]
  clear hR hn hH hen hod
  have t1 : True := trivial
  have t2 : True := trivial
  have t3 : True := trivial
  have t4 : True := trivial
  have t5 : True := trivial
  have t6 : True := trivial
  have t7 : True := trivial
  have t8 : True := trivial
  have t9 : True := trivial
  have t20 : True := trivial
  have t21 : True := trivial
  have t22 : True := trivial
  go_enter Try.func6, Try.ntmps6
  go_wp2_with (first
    | (clear t1; refine wpList_boxS rfl 25 _ rfl [.slice a n c, .int .u64 en, .bool od, .int .i64 H] rfl ?_; intro W1 b1 F1 G1; have V1 := F_b F1; have hb1 : w.heap.size ≤ b1 := Nat.le_of_eq F1.at'.symm; clear F1)
    | (clear t2; refine wpList_allocS rfl 32 rfl _ zeroMc ?_; intro W2 b2 F2 R2; have h12 : b1 < b2 := (by have := F2.at'; have := G1.lt; omega); have G2 := G1.fresh F2; have V2 := Below.then V1 (F_b F2); clear F2 G1 V1)
    | (clear t3; refine wpList_alloc1F rfl rfl ?_; intro W3 b3 F3 N3; have h23 : b2 < b3 := (by have := F3.at'; have := R2.lt; omega); have G3 := G2.fresh F3; have R3 := R2.fresh F3; have V3 := Below.then V2 (F_b F3); clear F3 G2 R2 V2)
    | (clear t4; refine wpList_store1 rfl 53 _ _ rfl rfl (.func (.func 20) #[] #[.pointer (some ⟨b1, 0, none⟩)]) rfl N3 (by decide) infoF1 rfl ?_; intro W4 U4 N4; have G4 := G3.upd U4 (by omega); have R4 := R3.upd U4 (by omega); have V4 := U4.trans V3 (show w.heap.size ≤ b3 by omega); clear U4 G3 R3 V3 N3)
    | (clear t20; refine wpList_allocS rfl 32 rfl _ zeroMc ?_; intro W20 b4 F5 C20; have h34 : b3 < b4 := (by have := F5.at'; have := N4.lt; omega); have G20 := G4.fresh F5; have R20 := R4.fresh F5; have N20 := N4.fresh F5; have V20 := Below.then V4 (F_b F5); clear F5 G4 R4 N4 V4)
    | (clear t5; refine wpList_storeW rfl 32 _ _ rfl rfl [.string str0, .nilFunc, .nilFunc, .nilFunc] rfl C20 rfl infoMc (one4 rfl rfl rfl) ?_; intro W5 U5 C5; have G5 := G20.upd U5 (by omega); have R5 := R20.upd U5 (by omega); have N5 := N20.upd U5 (by omega); have V5 := U5.trans V20 (show w.heap.size ≤ b4 by omega); have yh5 := G5.cell 3; simp only [List.getElem?_cons_zero, List.getElem?_cons_succ] at yh5; clear U5 G20 R20 N20 V20 C20)
    | (clear t6; refine wpList_store1 rfl 28 _ _ rfl rfl (.func (.func 21) #[] #[.pointer (some ⟨b3, 0, none⟩), .pointer (some ⟨b1, 0, none⟩)]) rfl C5 (show 1 < 4 by decide) infoF2 rfl ?_; intro W6 U6 D6; have C6 : IsS W6 b4 32 [.string str0, .func (.func 21) #[] #[.pointer (some ⟨b3, 0, none⟩), .pointer (some ⟨b1, 0, none⟩)], .nilFunc, .nilFunc] := D6; have G6 := G5.upd U6 (by omega); have N6 := N5.upd U6 (by omega); have R6 := R5.upd U6 (by omega); have V6 := U6.trans V5 (show w.heap.size ≤ b4 by omega); have yh6 := G6.cell 3; simp only [List.getElem?_cons_zero, List.getElem?_cons_succ] at yh6; clear D6 C5 G5 N5 R5 V5 U6)
    | (clear t7; refine wpList_store1 rfl 29 _ _ rfl rfl (.func (.func 22) #[] #[.pointer (some ⟨b3, 0, none⟩), .pointer (some ⟨b1, 0, none⟩)]) rfl C6 (show 2 < 4 by decide) infoF3 rfl ?_; intro W7 U7 D7; have C7 : IsS W7 b4 32 [.string str0, .func (.func 21) #[] #[.pointer (some ⟨b3, 0, none⟩), .pointer (some ⟨b1, 0, none⟩)], .func (.func 22) #[] #[.pointer (some ⟨b3, 0, none⟩), .pointer (some ⟨b1, 0, none⟩)], .nilFunc] := D7; have G7 := G6.upd U7 (by omega); have N7 := N6.upd U7 (by omega); have R7 := R6.upd U7 (by omega); have V7 := U7.trans V6 (show w.heap.size ≤ b4 by omega); have yh7 := G7.cell 3; simp only [List.getElem?_cons_zero, List.getElem?_cons_succ] at yh7; clear D7 C6 G6 N6 R6 V6 U7)
    | (clear t21; refine wpList_loadW rfl 32 _ rfl rfl C7 _ Try.underlying32 rfl infoMc ?_)
    | (clear t22; refine wpList_storeW rfl 32 _ _ rfl rfl [.string str0, .func (.func 21) #[] #[.pointer (some ⟨b3, 0, none⟩), .pointer (some ⟨b1, 0, none⟩)], .func (.func 22) #[] #[.pointer (some ⟨b3, 0, none⟩), .pointer (some ⟨b1, 0, none⟩)], .nilFunc] rfl R7 rfl infoMc (one4 rfl rfl rfl) ?_; intro W30 U30 R30; have G30 := G7.upd U30 (by omega); have N30 := N7.upd U30 (by omega); have V30 := U30.trans V7 (show w.heap.size ≤ b2 by omega)))
  refine ret_S rfl rfl rfl R30 _ Try.underlying32 rfl infoMc ⟨b3, b1, rfl, ⟨⟨a, c, ?_, ?_⟩, N30⟩, V30⟩
  · rw [HN.out, HHH.out, HEO.out.1, HEO.out.2]; exact G30
  · rw [HN.out]; exact HR.out.below V30
set_option maxRecDepth 100000 in
set_option maxHeartbeats 4000000 in
theorem machine_ttt (g : GR) (a : Option Addr) (c n : Nat) (H : Int) (hn : g.to.length = n) (hH : g.holes = H) (c1 : (bits BinOp.and IntKind.i64 H 1 == 0) = true) (c2 : (bits BinOp.and IntKind.i64 H 2 == 0) = true) (c4 : (bits BinOp.and IntKind.i64 H 4 == 0) = true) (w : World) (hR : RowsV w (.slice a n c) intE g.to) :
    Calls Try.prog 6 #[.agg #[.slice a n c, .int .u64 g.ends, .bool g.odd, .int .i64 H]] w fun e w' => ∃ b3 b1, e = .returned (.agg [.string str0, .func (.func 21) #[] #[.pointer (some ⟨b3, 0, none⟩), .pointer (some ⟨b1, 0, none⟩)], .func (.func 22) #[] #[.pointer (some ⟨b3, 0, none⟩), .pointer (some ⟨b1, 0, none⟩)], .func (.func 23) #[] #[.pointer (some ⟨b3, 0, none⟩), .pointer (some ⟨b1, 0, none⟩)]].toArray) ∧ MG w' g b3 b1 ∧ Below w.heap.size w w' := by
  have HR : Hid (RowsV w (.slice a n c) intE g.to) := hR
  have HN : Hid (g.to.length = n) := hn
  have HHH : Hid (g.holes = H) := hH
  obtain ⟨en, hen⟩ : ∃ e, g.ends = e := ⟨_, rfl⟩
  obtain ⟨od, hod⟩ : ∃ e, g.odd = e := ⟨_, rfl⟩
  have HEO : Hid (g.ends = en ∧ g.odd = od) := ⟨hen, hod⟩
  rw [hen, hod]
  clear hR hn hH hen hod
  have t1 : True := trivial
  have t2 : True := trivial
  have t3 : True := trivial
  have t4 : True := trivial
  have t5 : True := trivial
  have t6 : True := trivial
  have t7 : True := trivial
  have t8 : True := trivial
  have t9 : True := trivial
  have t20 : True := trivial
  have t21 : True := trivial
  have t22 : True := trivial
  go_enter Try.func6, Try.ntmps6
  go_wp2_with (first
    | (clear t1; refine wpList_boxS rfl 25 _ rfl [.slice a n c, .int .u64 en, .bool od, .int .i64 H] rfl ?_; intro W1 b1 F1 G1; have V1 := F_b F1; have hb1 : w.heap.size ≤ b1 := Nat.le_of_eq F1.at'.symm; clear F1)
    | (clear t2; refine wpList_allocS rfl 32 rfl _ zeroMc ?_; intro W2 b2 F2 R2; have h12 : b1 < b2 := (by have := F2.at'; have := G1.lt; omega); have G2 := G1.fresh F2; have V2 := Below.then V1 (F_b F2); clear F2 G1 V1)
    | (clear t3; refine wpList_alloc1F rfl rfl ?_; intro W3 b3 F3 N3; have h23 : b2 < b3 := (by have := F3.at'; have := R2.lt; omega); have G3 := G2.fresh F3; have R3 := R2.fresh F3; have V3 := Below.then V2 (F_b F3); clear F3 G2 R2 V2)
    | (clear t4; refine wpList_store1 rfl 53 _ _ rfl rfl (.func (.func 20) #[] #[.pointer (some ⟨b1, 0, none⟩)]) rfl N3 (by decide) infoF1 rfl ?_; intro W4 U4 N4; have G4 := G3.upd U4 (by omega); have R4 := R3.upd U4 (by omega); have V4 := U4.trans V3 (show w.heap.size ≤ b3 by omega); clear U4 G3 R3 V3 N3)
    | (clear t20; refine wpList_allocS rfl 32 rfl _ zeroMc ?_; intro W20 b4 F5 C20; have h34 : b3 < b4 := (by have := F5.at'; have := N4.lt; omega); have G20 := G4.fresh F5; have R20 := R4.fresh F5; have N20 := N4.fresh F5; have V20 := Below.then V4 (F_b F5); clear F5 G4 R4 N4 V4)
    | (clear t5; refine wpList_storeW rfl 32 _ _ rfl rfl [.string str0, .nilFunc, .nilFunc, .nilFunc] rfl C20 rfl infoMc (one4 rfl rfl rfl) ?_; intro W5 U5 C5; have G5 := G20.upd U5 (by omega); have R5 := R20.upd U5 (by omega); have N5 := N20.upd U5 (by omega); have V5 := U5.trans V20 (show w.heap.size ≤ b4 by omega); have yh5 := G5.cell 3; simp only [List.getElem?_cons_zero, List.getElem?_cons_succ] at yh5; clear U5 G20 R20 N20 V20 C20)
    | (clear t6; refine wpList_store1 rfl 28 _ _ rfl rfl (.func (.func 21) #[] #[.pointer (some ⟨b3, 0, none⟩), .pointer (some ⟨b1, 0, none⟩)]) rfl C5 (show 1 < 4 by decide) infoF2 rfl ?_; intro W6 U6 D6; have C6 : IsS W6 b4 32 [.string str0, .func (.func 21) #[] #[.pointer (some ⟨b3, 0, none⟩), .pointer (some ⟨b1, 0, none⟩)], .nilFunc, .nilFunc] := D6; have G6 := G5.upd U6 (by omega); have N6 := N5.upd U6 (by omega); have R6 := R5.upd U6 (by omega); have V6 := U6.trans V5 (show w.heap.size ≤ b4 by omega); have yh6 := G6.cell 3; simp only [List.getElem?_cons_zero, List.getElem?_cons_succ] at yh6; clear D6 C5 G5 N5 R5 V5 U6)
    | (clear t7; refine wpList_store1 rfl 29 _ _ rfl rfl (.func (.func 22) #[] #[.pointer (some ⟨b3, 0, none⟩), .pointer (some ⟨b1, 0, none⟩)]) rfl C6 (show 2 < 4 by decide) infoF3 rfl ?_; intro W7 U7 D7; have C7 : IsS W7 b4 32 [.string str0, .func (.func 21) #[] #[.pointer (some ⟨b3, 0, none⟩), .pointer (some ⟨b1, 0, none⟩)], .func (.func 22) #[] #[.pointer (some ⟨b3, 0, none⟩), .pointer (some ⟨b1, 0, none⟩)], .nilFunc] := D7; have G7 := G6.upd U7 (by omega); have N7 := N6.upd U7 (by omega); have R7 := R6.upd U7 (by omega); have V7 := U7.trans V6 (show w.heap.size ≤ b4 by omega); have yh7 := G7.cell 3; simp only [List.getElem?_cons_zero, List.getElem?_cons_succ] at yh7; clear D7 C6 G6 N6 R6 V6 U7)
    | (clear t8; refine wpList_store1 rfl 30 _ _ rfl rfl (.func (.func 23) #[] #[.pointer (some ⟨b3, 0, none⟩), .pointer (some ⟨b1, 0, none⟩)]) rfl C7 (show 3 < 4 by decide) infoF4 rfl ?_; intro W8 U8 D8; have C8 : IsS W8 b4 32 [.string str0, .func (.func 21) #[] #[.pointer (some ⟨b3, 0, none⟩), .pointer (some ⟨b1, 0, none⟩)], .func (.func 22) #[] #[.pointer (some ⟨b3, 0, none⟩), .pointer (some ⟨b1, 0, none⟩)], .func (.func 23) #[] #[.pointer (some ⟨b3, 0, none⟩), .pointer (some ⟨b1, 0, none⟩)]] := D8; have G8 := G7.upd U8 (by omega); have N8 := N7.upd U8 (by omega); have R8 := R7.upd U8 (by omega); have V8 := U8.trans V7 (show w.heap.size ≤ b4 by omega); have yh8 := G8.cell 3; simp only [List.getElem?_cons_zero, List.getElem?_cons_succ] at yh8; clear D8 C7 G7 N7 R7 V7 U8)
    | (clear t21; refine wpList_loadW rfl 32 _ rfl rfl C8 _ Try.underlying32 rfl infoMc ?_)
    | (clear t22; refine wpList_storeW rfl 32 _ _ rfl rfl [.string str0, .func (.func 21) #[] #[.pointer (some ⟨b3, 0, none⟩), .pointer (some ⟨b1, 0, none⟩)], .func (.func 22) #[] #[.pointer (some ⟨b3, 0, none⟩), .pointer (some ⟨b1, 0, none⟩)], .func (.func 23) #[] #[.pointer (some ⟨b3, 0, none⟩), .pointer (some ⟨b1, 0, none⟩)]] rfl R8 rfl infoMc (one4 rfl rfl rfl) ?_; intro W30 U30 R30; have G30 := G8.upd U30 (by omega); have N30 := N8.upd U30 (by omega); have V30 := U30.trans V8 (show w.heap.size ≤ b2 by omega)))
  refine ret_S rfl rfl rfl R30 _ Try.underlying32 rfl infoMc ⟨b3, b1, rfl, ⟨⟨a, c, ?_, ?_⟩, N30⟩, V30⟩
  · rw [HN.out, HHH.out, HEO.out.1, HEO.out.2]; exact G30
  · rw [HN.out]; exact HR.out.below V30
theorem machine_any (g : GR) (a : Option Addr) (c n : Nat) (hn : g.to.length = n) (w : World) (hR : RowsV w (.slice a n c) intE g.to) :
    Calls Try.prog 6 #[.agg #[.slice a n c, .int .u64 g.ends, .bool g.odd, .int .i64 g.holes]] w fun e w' => ∃ bn bg, e = .returned (.agg (mcL str0 g bn bg).toArray) ∧ MG w' g bn bg ∧ Below w.heap.size w w' := by
  cases c1 : holB g 1 <;> cases c2 : holB g 2 <;> cases c4 : holB g 4
  · refine (machine_fff g a c n g.holes hn rfl c1 c2 c4 w hR).mono fun e w' h => ?_
    obtain ⟨b3, b1, he, h1, h2⟩ := h
    exact ⟨b3, b1, by rw [he]; unfold mcL; rw [c1, c2, c4]; rfl, h1, h2⟩
  · refine (machine_fft g a c n g.holes hn rfl c1 c2 c4 w hR).mono fun e w' h => ?_
    obtain ⟨b3, b1, he, h1, h2⟩ := h
    exact ⟨b3, b1, by rw [he]; unfold mcL; rw [c1, c2, c4]; rfl, h1, h2⟩
  · refine (machine_ftf g a c n g.holes hn rfl c1 c2 c4 w hR).mono fun e w' h => ?_
    obtain ⟨b3, b1, he, h1, h2⟩ := h
    exact ⟨b3, b1, by rw [he]; unfold mcL; rw [c1, c2, c4]; rfl, h1, h2⟩
  · refine (machine_ftt g a c n g.holes hn rfl c1 c2 c4 w hR).mono fun e w' h => ?_
    obtain ⟨b3, b1, he, h1, h2⟩ := h
    exact ⟨b3, b1, by rw [he]; unfold mcL; rw [c1, c2, c4]; rfl, h1, h2⟩
  · refine (machine_tff g a c n g.holes hn rfl c1 c2 c4 w hR).mono fun e w' h => ?_
    obtain ⟨b3, b1, he, h1, h2⟩ := h
    exact ⟨b3, b1, by rw [he]; unfold mcL; rw [c1, c2, c4]; rfl, h1, h2⟩
  · refine (machine_tft g a c n g.holes hn rfl c1 c2 c4 w hR).mono fun e w' h => ?_
    obtain ⟨b3, b1, he, h1, h2⟩ := h
    exact ⟨b3, b1, by rw [he]; unfold mcL; rw [c1, c2, c4]; rfl, h1, h2⟩
  · refine (machine_ttf g a c n g.holes hn rfl c1 c2 c4 w hR).mono fun e w' h => ?_
    obtain ⟨b3, b1, he, h1, h2⟩ := h
    exact ⟨b3, b1, by rw [he]; unfold mcL; rw [c1, c2, c4]; rfl, h1, h2⟩
  · refine (machine_ttt g a c n g.holes hn rfl c1 c2 c4 w hR).mono fun e w' h => ?_
    obtain ⟨b3, b1, he, h1, h2⟩ := h
    exact ⟨b3, b1, by rw [he]; unfold mcL; rw [c1, c2, c4]; rfl, h1, h2⟩
end Go.Proofs.Ytmoieckmbimgoaa

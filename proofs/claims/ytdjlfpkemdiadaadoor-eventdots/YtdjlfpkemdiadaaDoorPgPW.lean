/- Whether an instruction can be made: the program's side. -/
import Derived.Test.YtdjlfpkemdiadaaDoorPgPV
namespace Go.Proofs.YtdjlfpkemdiadaaDoor
open Go.RowKit M
set_option linter.unusedSimpArgs false
set_option linter.unusedVariables false

def eaxAt (regs : List ByteArray) (i : Int) : Bool := match regs[i.toNat]? with
  | some s => s.toList == [69, 65, 88]
  | none => false
def opOk (o : Op5) (regs : List ByteArray) (nl : Nat) : Bool :=
  uOk o.kind && (uImm o.kind || o.imm == 0) && numOk o.reg (uReg o.kind || o.kind == 8) regs.length && numOk o.src (uSrc o.kind) regs.length && numOk o.loc (uLoc o.kind) nl && (!(o.kind == 8) || eaxAt regs o.reg)
theorem four {W : World} {b t : Nat} {v0 v1 v2 v3 : Value} (h : IsS W b t [v0, v1, v2, v3]) : W.cell? ⟨b, 0, none⟩ = some v0 ∧ W.cell? ⟨b, 1, none⟩ = some v1 ∧ W.cell? ⟨b, 2, none⟩ = some v2 ∧ W.cell? ⟨b, 3, none⟩ = some v3 := ⟨h.cell 0, h.cell 1, h.cell 2, h.cell 3⟩
theorem five {W : World} {b t : Nat} {v0 v1 v2 v3 v4 : Value} (h : IsS W b t [v0, v1, v2, v3, v4]) : W.cell? ⟨b, 0, none⟩ = some v0 ∧ W.cell? ⟨b, 1, none⟩ = some v1 ∧ W.cell? ⟨b, 2, none⟩ = some v2 ∧ W.cell? ⟨b, 3, none⟩ = some v3 ∧ W.cell? ⟨b, 4, none⟩ = some v4 := ⟨h.cell 0, h.cell 1, h.cell 2, h.cell 3, h.cell 4⟩
set_option maxRecDepth 100000 in
set_option maxHeartbeats 8000000 in
theorem vop_plain (k reg src loc imm : Int) (b0 b1 b2 b3 ok : Bool) (h8 : (k == 8) = false) (a1 : Option Addr) (nr c1 : Nat) (a2 : Option Addr) (nl c2 : Nat) (w : World)
    (cU : ∀ w, Calls Tryd.prog 89 #[.int .i64 k] w fun en w' => en = .returned (.tuple #[.agg #[.bool b0, .bool b1, .bool b2, .bool b3], .bool ok]) ∧ Below w.heap.size w w') :
    Calls Tryd.prog 69 #[.agg #[.int .i64 k, .int .i64 reg, .int .i64 src, .int .i64 loc, .int .i64 imm], .slice a1 nr c1, .slice a2 nl c2] w fun en w' => en = .returned (.bool (ok && (b3 || imm == 0) && numOk reg b0 nr && numOk src b1 nr && numOk loc b2 nl)) ∧ Below w.heap.size w w' := by
  obtain ⟨n1, hn1⟩ : ∃ n, numOk reg b0 nr = n := ⟨_, rfl⟩
  obtain ⟨n2, hn2⟩ : ∃ n, numOk src b1 nr = n := ⟨_, rfl⟩
  obtain ⟨n3, hn3⟩ : ∃ n, numOk loc b2 nl = n := ⟨_, rfl⟩
  have k1 := fun w => validNumber_any reg b0 nr w
  have k2 := fun w => validNumber_any src b1 nr w
  have k3 := fun w => validNumber_any loc b2 nl w
  rw [hn1] at k1 ⊢
  rw [hn2] at k2 ⊢
  rw [hn3] at k3 ⊢
  clear hn1 hn2 hn3
  have t1 : True := trivial
  have t2 : True := trivial
  have t3 : True := trivial
  have t5 : True := trivial
  have t6 : True := trivial
  have t7 : True := trivial
  cases ok <;> cases b3 <;> cases b0 <;> (try cases n1) <;> (try cases n2)
  all_goals
    go_enter Tryd.func69, Tryd.ntmps69
    go_wp2_with (first
      | (clear t1; refine wpList_boxS rfl 58 _ rfl [.int .i64 k, .int .i64 reg, .int .i64 src, .int .i64 loc, .int .i64 imm] rfl ?_; intro W1 bb F1 C1; have B1 : Below w.heap.size w W1 := F1.trans (Below.refl _ w) (Nat.le_refl _); obtain ⟨x0, x1, x2, x3, x4⟩ := five C1; clear F1)
      | (clear t5; go_at_call 89; refine (cU _).mono ?_; rintro en W2 ⟨rfl, B2x⟩; have C2 := C1.grown B2x; have B2 := Below.then B1 B2x; clear B2x cU C1 x0 x1 x2 x3 x4)
      | (clear t2; refine wpList_allocS rfl 116 rfl [.bool false, .bool false, .bool false, .bool false] Tryd.zeroValue116 ?_; intro W3 b3 F3 D3; have C3 := C2.fresh F3; have B3 := F3.trans B2 B2.size; have h3 : w.heap.size ≤ b3 := Nat.le_trans B2.size (Nat.le_of_eq F3.at'.symm); have n13 : bb ≠ b3 := (by have := C2.lt; have := F3.at'; omega); clear F3 C2)
      | (clear t3; refine wpList_storeS rfl 116 _ _ rfl rfl [_, _, _, _] rfl D3 (by simp) infoUse (by simp [Value.oneCell']) ?_; intro W4 U4 D4x; have C4 := C3.upd U4 n13; have B4 := U4.trans B3 h3; obtain ⟨x0, x1, x2, x3, x4⟩ := five C4; obtain ⟨y0, y1, y2, y3⟩ := four D4x; clear U4 C3 D3 D4x)
      | (clear t6; go_at_call 90; refine (k1 _).mono ?_; rintro en w' ⟨rfl, hw⟩; replace hw := hw.symm; subst hw)
      | (clear t7; go_at_call 90; refine (k2 _).mono ?_; rintro en w' ⟨rfl, hw⟩; replace hw := hw.symm; subst hw)
      | (go_at_call 90; refine (k3 _).mono ?_; rintro en w' ⟨rfl, hw⟩; replace hw := hw.symm; subst hw))
    all_goals
      go_ret
      refine ⟨ret_boolP ?_, B4⟩
      clear x0 x1 x2 x3 x4 y0 y1 y2 y3 k1 k2 k3 C4 B1 B2 B3 B4
      first | rfl | (cases n3 <;> cases hz : (imm == 0) <;> first | rfl | (simp_all [bne]; done))
def useC : List Value := [.bool false, .bool true, .bool true, .bool false]
set_option maxRecDepth 100000 in
set_option maxHeartbeats 8000000 in
theorem vop_cmp (reg src loc imm : Int) (regs : List ByteArray) (hr : regs.length ≤ 1048576) (a1 : Option Addr) (c1 : Nat) (a2 : Option Addr) (nl c2 : Nat) (w : World) (hs : Seg w a1 (regs.flatMap strE)) :
    Calls Tryd.prog 69 #[.agg #[.int .i64 8, .int .i64 reg, .int .i64 src, .int .i64 loc, .int .i64 imm], .slice a1 regs.length c1, .slice a2 nl c2] w fun en w' => en = .returned (.bool ((imm == 0) && numOk reg true regs.length && numOk src true regs.length && numOk loc true nl && eaxAt regs reg)) ∧ Below w.heap.size w w' := by
  have cU : ∀ w, Calls Tryd.prog 89 #[.int .i64 8] w fun en w' => en = .returned (.tuple #[.agg #[.bool false, .bool true, .bool true, .bool false], .bool true]) ∧ Below w.heap.size w w' := fun w => usesOf_any 8 w
  obtain ⟨nr, hnr⟩ : ∃ n, regs.length = n := ⟨_, rfl⟩
  have HNR : Hid (regs.length = nr) := hnr
  rw [hnr] at hr ⊢
  clear hnr
  obtain ⟨n1, hn1⟩ : ∃ n, numOk reg true nr = n := ⟨_, rfl⟩
  obtain ⟨n2, hn2⟩ : ∃ n, numOk src true nr = n := ⟨_, rfl⟩
  obtain ⟨n3, hn3⟩ : ∃ n, numOk loc true nl = n := ⟨_, rfl⟩
  have k1 := fun w => validNumber_any reg true nr w
  have k2 := fun w => validNumber_any src true nr w
  have k3 := fun w => validNumber_any loc true nl w
  rw [hn1] at k1 ⊢
  rw [hn2] at k2 ⊢
  rw [hn3] at k3 ⊢
  have HN1 : Hid (numOk reg true nr = n1) := hn1
  have HS : Hid (Seg w a1 (regs.flatMap strE)) := hs
  clear hn1 hn2 hn3 hs
  obtain ⟨ea, hea⟩ : ∃ e, eaxAt regs reg = e := ⟨_, rfl⟩
  have HEA : Hid (eaxAt regs reg = ea) := hea
  rw [hea]
  clear hea
  have t1 : True := trivial
  have t2 : True := trivial
  have t3 : True := trivial
  have t5 : True := trivial
  have t6 : True := trivial
  have t7 : True := trivial
  cases n1 with
  | false =>
    go_enter Tryd.func69, Tryd.ntmps69
    go_wp2_with (first
      | (clear t1; refine wpList_boxS rfl 58 _ rfl [.int .i64 8, .int .i64 reg, .int .i64 src, .int .i64 loc, .int .i64 imm] rfl ?_; intro W1 bb F1 C1; have B1 : Below w.heap.size w W1 := F1.trans (Below.refl _ w) (Nat.le_refl _); obtain ⟨x0, x1, x2, x3, x4⟩ := five C1; clear F1)
      | (clear t5; go_at_call 89; refine (cU _).mono ?_; rintro en W2 ⟨rfl, B2x⟩; have C2 := C1.grown B2x; have B2 := Below.then B1 B2x; clear B2x cU C1 x0 x1 x2 x3 x4)
      | (clear t2; refine wpList_allocS rfl 116 rfl [.bool false, .bool false, .bool false, .bool false] Tryd.zeroValue116 ?_; intro W3 b3 F3 D3; have C3 := C2.fresh F3; have B3 := F3.trans B2 B2.size; have h3 : w.heap.size ≤ b3 := Nat.le_trans B2.size (Nat.le_of_eq F3.at'.symm); have n13 : bb ≠ b3 := (by have := C2.lt; have := F3.at'; omega); clear F3 C2)
      | (clear t3; refine wpList_storeS rfl 116 _ _ rfl rfl [_, _, _, _] rfl D3 (by simp) infoUse (by simp [Value.oneCell']) ?_; intro W4 U4 D4x; have C4 := C3.upd U4 n13; have B4 := U4.trans B3 h3; obtain ⟨x0, x1, x2, x3, x4⟩ := five C4; obtain ⟨y0, y1, y2, y3⟩ := four D4x; clear U4 C3 D3 D4x)
      | (clear t6; go_at_call 90; refine (k1 _).mono ?_; rintro en w' ⟨rfl, hw⟩; replace hw := hw.symm; subst hw)
      | (clear t7; go_at_call 90; refine (k2 _).mono ?_; rintro en w' ⟨rfl, hw⟩; replace hw := hw.symm; subst hw)
      | (go_at_call 90; refine (k3 _).mono ?_; rintro en w' ⟨rfl, hw⟩; replace hw := hw.symm; subst hw))
    all_goals
      go_ret
      refine ⟨ret_boolP ?_, B4⟩
      clear x0 x1 x2 x3 x4 y0 y1 y2 y3 k1 k2 k3 C4 B1 B2 B3 B4
      first | rfl | (cases hz : (imm == 0) <;> first | rfl | (simp_all [bne]; done))
  | true =>
    have hin : 0 ≤ reg ∧ reg < nr := by have := HN1.out; simp [numOk] at this; exact this
    obtain ⟨r, rfl⟩ : ∃ r : Nat, reg = r := ⟨reg.toNat, by omega⟩
    have hlt : r < nr := by omega
    have hli : (r : Int) < nr := by omega
    obtain ⟨S, hS⟩ : ∃ S, regs[r]? = some S := ⟨_, List.getElem?_eq_getElem (by rw [HNR.out]; exact hlt)⟩
    obtain ⟨bq, oq, rfl, hbq, hcq⟩ := HS.out.str hS
    have hes : (S.toList == [69, 65, 88]) = ea := by have := HEA.out; simp only [eaxAt, Int.toNat_natCast, hS] at this; exact this
    clear hin hS
    cases n2 <;> cases ea
    all_goals
      go_enter Tryd.func69, Tryd.ntmps69
      go_wp2_with (first
        | (clear t1; refine wpList_boxS rfl 58 _ rfl [.int .i64 8, .int .i64 (r : Int), .int .i64 src, .int .i64 loc, .int .i64 imm] rfl ?_; intro W1 bb F1 C1; have B1 : Below w.heap.size w W1 := F1.trans (Below.refl _ w) (Nat.le_refl _); obtain ⟨x0, x1, x2, x3, x4⟩ := five C1; clear F1)
        | (clear t5; go_at_call 89; refine (cU _).mono ?_; rintro en W2 ⟨rfl, B2x⟩; have C2 := C1.grown B2x; have B2 := Below.then B1 B2x; clear B2x cU C1 x0 x1 x2 x3 x4)
        | (clear t2; refine wpList_allocS rfl 116 rfl [.bool false, .bool false, .bool false, .bool false] Tryd.zeroValue116 ?_; intro W3 b3 F3 D3; have C3 := C2.fresh F3; have B3 := F3.trans B2 B2.size; have h3 : w.heap.size ≤ b3 := Nat.le_trans B2.size (Nat.le_of_eq F3.at'.symm); have n13 : bb ≠ b3 := (by have := C2.lt; have := F3.at'; omega); clear F3 C2)
        | (clear t3; refine wpList_storeS rfl 116 _ _ rfl rfl [_, _, _, _] rfl D3 (by simp) infoUse (by simp [Value.oneCell']) ?_; intro W4 U4 D4x; have C4 := C3.upd U4 n13; have B4 := U4.trans B3 h3; have hcq4 : W4.cell? ⟨bq, oq + r, none⟩ = some (.string S) := (by rw [B4.cell (p := ⟨bq, oq + r, none⟩) hbq]; exact hcq); obtain ⟨x0, x1, x2, x3, x4⟩ := five C4; obtain ⟨y0, y1, y2, y3⟩ := four D4x; clear U4 C3 D3 D4x)
        | (clear t6; go_at_call 90; refine (k1 _).mono ?_; rintro en w' ⟨rfl, hw⟩; replace hw := hw.symm; subst hw)
        | (clear t7; go_at_call 90; refine (k2 _).mono ?_; rintro en w' ⟨rfl, hw⟩; replace hw := hw.symm; subst hw)
        | (go_at_call 90; refine (k3 _).mono ?_; rintro en w' ⟨rfl, hw⟩; replace hw := hw.symm; subst hw))

      all_goals
        go_ret
        refine ⟨ret_boolP ?_, B4⟩
        clear x0 x1 x2 x3 x4 y0 y1 y2 y3 k1 k2 k3 C4 B1 B2 B3 B4 hcq4 hcq
        first | rfl | (cases n3 <;> cases hz : (imm == 0) <;> first | rfl | (simp_all [bne]; done))
theorem validOp_any (o : Op5) (regs : List ByteArray) (hr : regs.length ≤ 1048576) (a1 : Option Addr) (c1 : Nat) (a2 : Option Addr) (nl c2 : Nat) (w : World) (hs : Seg w a1 (regs.flatMap strE)) :
    Calls Tryd.prog 69 #[.agg (op5L o).toArray, .slice a1 regs.length c1, .slice a2 nl c2] w fun en w' => en = .returned (.bool (opOk o regs nl)) ∧ Below w.heap.size w w' := by
  obtain ⟨k, reg, src, loc, imm⟩ := o
  by_cases h8 : k = 8
  · subst h8
    refine (vop_cmp reg src loc imm regs hr a1 c1 a2 nl c2 w hs).mono ?_
    rintro en w' ⟨rfl, hB⟩
    refine ⟨ret_boolP ?_, hB⟩
    simp [opOk, uOk, uImm, uReg, uSrc, uLoc]
  · have h8' : (k == 8) = false := by simpa using h8
    refine (vop_plain k reg src loc imm (uReg k) (uSrc k) (uLoc k) (uImm k) (uOk k) h8' a1 regs.length c1 a2 nl c2 w (fun w => usesOf_any k w)).mono ?_
    rintro en w' ⟨rfl, hB⟩
    refine ⟨ret_boolP ?_, hB⟩
    simp [opOk, h8']
end Go.Proofs.YtdjlfpkemdiadaaDoor

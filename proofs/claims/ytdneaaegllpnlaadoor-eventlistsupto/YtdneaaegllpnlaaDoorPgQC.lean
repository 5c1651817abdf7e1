/- right: the reference's side, whole. -/
import Derived.Test.YtdneaaegllpnlaaDoorPgQB
namespace Go.Proofs.YtdneaaegllpnlaaDoor
open Go.RowKit M
set_option linter.unusedSimpArgs false
set_option linter.unusedVariables false

set_option maxRecDepth 100000 in
set_option maxHeartbeats 8000000 in
theorem right_8 (reg src loc imm : Int) (a1 : Option Addr) (nr c1 : Nat) (nl : Nat) (e : Int) (w : World)
    (cN : ∀ w', Below w.heap.size w w' → Calls Tryd.prog 111 #[.slice a1 nr c1, .string ⟨#[69, 65, 88]⟩] w' fun en w'' => en = .returned (.int .i64 e) ∧ w'' = w') :
    Calls Tryd.prog 91 #[.agg #[.int .i64 8, .int .i64 reg, .int .i64 src, .int .i64 loc, .int .i64 imm], .slice a1 nr c1, .int .i64 (nl : Int)] w fun en w' => en = .returned (.bool ((!decide (e < 0) && (reg == e)) && numOk src true nr && numOk loc true nl && (imm == 0))) ∧ Below w.heap.size w w' := by
  have cU : ∀ w, Calls Tryd.prog 110 #[.int .i64 8] w fun en w' => en = .returned (.tuple #[.bool false, .bool true, .bool true, .bool false]) ∧ w' = w := fun w => uses_any 8 w
  have t1 : True := trivial
  · go_enter Tryd.func91, Tryd.ntmps91
    go_wp2_with (first
      | (clear t1; refine wpList_boxS rfl 75 _ rfl [.int .i64 8, .int .i64 reg, .int .i64 src, .int .i64 loc, .int .i64 imm] rfl ?_; intro W1 bb F1 C1; have B1 : Below w.heap.size w W1 := F1.trans (Below.refl _ w) (Nat.le_refl _); obtain ⟨x0, x1, x2, x3, x4⟩ := five C1; clear F1)
      | (go_at_call 110; refine (cU _).mono ?_; rintro en w' ⟨rfl, hw⟩; replace hw := hw.symm; subst hw)
      | (go_at_call 111; refine (cN _ B1).mono ?_; rintro en w' ⟨rfl, hw⟩; replace hw := hw.symm; subst hw))
    all_goals
      go_ret
      refine ⟨ret_boolP ?_, B1⟩
      clear x0 x1 x2 x3 x4 C1 B1 cN
      simp only [numOk, beq_iff_eq, bne_iff_ne, ne_eq, bne_eq_false_iff_eq] at *
      all_goals first | (have hee : 0 ≤ e ∧ reg = e := (by assumption); have e1 : decide (loc < 0) = false := (by simp; omega); have e2 : decide ((nl : Int) ≤ loc) = false := (by simp; omega); have e3 : decide (e < 0) = false := (by simp; omega); have e4 : decide (0 ≤ loc) = true := (by simp; omega); have e5 : decide (loc < (nl : Int)) = true := (by simp; omega); have e6 : decide (0 ≤ src) = true := (by simp; omega); have e7 : decide (src < (nr : Int)) = true := (by simp; omega); have e8 : (reg == e) = true := (by simp; omega); rw [e1, e2, e3, e4, e5, e6, e7, e8]; cases hi : (imm == 0) <;> simp [bne, hi]) | rfl | (simp [*]; done) | (simp [*]; omega) | (by_cases hi : imm = 0 <;> simp [*] <;> done) | (by_cases hi : imm = 0 <;> simp [*] <;> omega) | (by_cases hi : imm = 0 <;> simp [bne, *] <;> done)
set_option maxRecDepth 100000 in
set_option maxHeartbeats 8000000 in
theorem right_none (k reg src loc imm : Int) (hk : k < 1 ∨ 9 < k) (a1 : Option Addr) (nr c1 : Nat) (nl : Nat) (w : World) :
    Calls Tryd.prog 91 #[.agg #[.int .i64 k, .int .i64 reg, .int .i64 src, .int .i64 loc, .int .i64 imm], .slice a1 nr c1, .int .i64 (nl : Int)] w fun en w' => en = .returned (.bool false) ∧ Below w.heap.size w w' := by
  have cU : ∀ w, Calls Tryd.prog 110 #[.int .i64 k] w fun en w' => en = .returned (.tuple #[.bool (uReg k), .bool (uSrc k), .bool (uLoc k), .bool (uImm k)]) ∧ w' = w := fun w => uses_any k w
  have t1 : True := trivial
  rcases hk with hk | hk
  · go_enter Tryd.func91, Tryd.ntmps91
    go_wp2_with (first
      | (clear t1; refine wpList_boxS rfl 75 _ rfl [.int .i64 k, .int .i64 reg, .int .i64 src, .int .i64 loc, .int .i64 imm] rfl ?_; intro W1 bb F1 C1; have B1 : Below w.heap.size w W1 := F1.trans (Below.refl _ w) (Nat.le_refl _); obtain ⟨x0, x1, x2, x3, x4⟩ := five C1; clear F1)
      | (go_at_call 110; refine (cU _).mono ?_; rintro en w' ⟨rfl, hw⟩; replace hw := hw.symm; subst hw))
    go_ret
    exact ⟨rfl, B1⟩
  · have hk1 : ¬ k < 1 := by omega
    go_enter Tryd.func91, Tryd.ntmps91
    go_wp2_with (first
      | (clear t1; refine wpList_boxS rfl 75 _ rfl [.int .i64 k, .int .i64 reg, .int .i64 src, .int .i64 loc, .int .i64 imm] rfl ?_; intro W1 bb F1 C1; have B1 : Below w.heap.size w W1 := F1.trans (Below.refl _ w) (Nat.le_refl _); obtain ⟨x0, x1, x2, x3, x4⟩ := five C1; clear F1)
      | (go_at_call 110; refine (cU _).mono ?_; rintro en w' ⟨rfl, hw⟩; replace hw := hw.symm; subst hw))
    go_ret
    exact ⟨rfl, B1⟩
theorem right_anyP (o : Op5) (regs : List ByteArray) (hr : regs.length ≤ 1048576) (a1 : Option Addr) (c1 nl : Nat) (w : World) (hs : Seg w a1 (regs.flatMap strE)) :
    Calls Tryd.prog 91 #[.agg (op5L o).toArray, .slice a1 regs.length c1, .int .i64 (nl : Int)] w fun en w' => en = .returned (.bool (rightBP o regs nl)) ∧ Below w.heap.size w w' := by
  obtain ⟨k, reg, src, loc, imm⟩ := o
  by_cases hk : k < 1 ∨ 9 < k
  · refine (right_none k reg src loc imm hk a1 regs.length c1 nl w).mono ?_
    rintro en w' ⟨rfl, hB⟩
    refine ⟨ret_boolP ?_, hB⟩
    have : uOk k = false := by simp only [uOk, decide_eq_false_iff_not]; omega
    simp [rightBP, this]
  · have hc : k = 1 ∨ k = 2 ∨ k = 3 ∨ k = 4 ∨ k = 5 ∨ k = 6 ∨ k = 7 ∨ k = 9 ∨ k = 8 := by omega
    rcases hc with rfl | rfl | rfl | rfl | rfl | rfl | rfl | rfl | rfl
    · refine (right_1 reg src loc imm a1 regs.length c1 nl w).mono ?_
      rintro en w' ⟨rfl, hB⟩
      exact ⟨ret_boolP (by simp [rightBP, uOk, uReg, uSrc, uLoc, uImm]), hB⟩
    · refine (right_2 reg src loc imm a1 regs.length c1 nl w).mono ?_
      rintro en w' ⟨rfl, hB⟩
      exact ⟨ret_boolP (by simp [rightBP, uOk, uReg, uSrc, uLoc, uImm]), hB⟩
    · refine (right_3 reg src loc imm a1 regs.length c1 nl w).mono ?_
      rintro en w' ⟨rfl, hB⟩
      exact ⟨ret_boolP (by simp [rightBP, uOk, uReg, uSrc, uLoc, uImm]), hB⟩
    · refine (right_4 reg src loc imm a1 regs.length c1 nl w).mono ?_
      rintro en w' ⟨rfl, hB⟩
      exact ⟨ret_boolP (by simp [rightBP, uOk, uReg, uSrc, uLoc, uImm]), hB⟩
    · refine (right_5 reg src loc imm a1 regs.length c1 nl w).mono ?_
      rintro en w' ⟨rfl, hB⟩
      exact ⟨ret_boolP (by simp [rightBP, uOk, uReg, uSrc, uLoc, uImm]), hB⟩
    · refine (right_6 reg src loc imm a1 regs.length c1 nl w).mono ?_
      rintro en w' ⟨rfl, hB⟩
      exact ⟨ret_boolP (by simp [rightBP, uOk, uReg, uSrc, uLoc, uImm]), hB⟩
    · refine (right_7 reg src loc imm a1 regs.length c1 nl w).mono ?_
      rintro en w' ⟨rfl, hB⟩
      exact ⟨ret_boolP (by simp [rightBP, uOk, uReg, uSrc, uLoc, uImm]), hB⟩
    · refine (right_9 reg src loc imm a1 regs.length c1 nl w).mono ?_
      rintro en w' ⟨rfl, hB⟩
      exact ⟨ret_boolP (by simp [rightBP, uOk, uReg, uSrc, uLoc, uImm]), hB⟩
    · refine (right_8 reg src loc imm a1 regs.length c1 nl _ w (fun w' hB => number_any regs hr eax a1 c1 w' (hs.below hB))).mono ?_
      rintro en w' ⟨rfl, hB⟩
      exact ⟨ret_boolP (by simp [rightBP, uOk, uReg, uSrc, uLoc, uImm]), hB⟩
end Go.Proofs.YtdneaaegllpnlaaDoor

/- right: whether an instruction can be made: the reference's side. -/
import Derived.Test.YtdneaaegllpnlaaDoorPgQA
namespace Go.Proofs.YtdneaaegllpnlaaDoor
open Go.RowKit M
set_option linter.unusedSimpArgs false
set_option linter.unusedVariables false

def eax : ByteArray := ⟨#[69, 65, 88]⟩
def rightBP (o : Op5) (regs : List ByteArray) (nl : Nat) : Bool :=
  uOk o.kind && (if o.kind = 8 then (!decide (idxO (numF regs eax) < 0) && (o.reg == idxO (numF regs eax))) else numOk o.reg (uReg o.kind) regs.length) && numOk o.src (uSrc o.kind) regs.length && numOk o.loc (uLoc o.kind) nl && (uImm o.kind || o.imm == 0)
set_option maxRecDepth 100000 in
set_option maxHeartbeats 8000000 in
theorem right_1 (reg src loc imm : Int) (a1 : Option Addr) (nr c1 : Nat) (nl : Nat) (w : World) :
    Calls Tryd.prog 91 #[.agg #[.int .i64 1, .int .i64 reg, .int .i64 src, .int .i64 loc, .int .i64 imm], .slice a1 nr c1, .int .i64 (nl : Int)] w fun en w' => en = .returned (.bool (numOk reg true nr && numOk src false nr && numOk loc false nl && (true || imm == 0))) ∧ Below w.heap.size w w' := by
  have cU : ∀ w, Calls Tryd.prog 110 #[.int .i64 1] w fun en w' => en = .returned (.tuple #[.bool true, .bool false, .bool false, .bool true]) ∧ w' = w := fun w => uses_any 1 w
  have t1 : True := trivial
  · go_enter Tryd.func91, Tryd.ntmps91
    go_wp2_with (first
      | (clear t1; refine wpList_boxS rfl 75 _ rfl [.int .i64 1, .int .i64 reg, .int .i64 src, .int .i64 loc, .int .i64 imm] rfl ?_; intro W1 bb F1 C1; have B1 : Below w.heap.size w W1 := F1.trans (Below.refl _ w) (Nat.le_refl _); obtain ⟨x0, x1, x2, x3, x4⟩ := five C1; clear F1)
      | (go_at_call 110; refine (cU _).mono ?_; rintro en w' ⟨rfl, hw⟩; replace hw := hw.symm; subst hw))
    all_goals
      go_ret
      refine ⟨ret_boolP ?_, B1⟩
      clear x0 x1 x2 x3 x4 C1 B1
      simp only [numOk, beq_iff_eq, bne_iff_ne, ne_eq, bne_eq_false_iff_eq] at *
      first | rfl | (simp [*]; done) | (simp [*]; omega) | (by_cases hi : imm = 0 <;> simp [*] <;> done) | (by_cases hi : imm = 0 <;> simp [*] <;> omega) | (by_cases hi : imm = 0 <;> simp [bne, *] <;> done)
set_option maxRecDepth 100000 in
set_option maxHeartbeats 8000000 in
theorem right_2 (reg src loc imm : Int) (a1 : Option Addr) (nr c1 : Nat) (nl : Nat) (w : World) :
    Calls Tryd.prog 91 #[.agg #[.int .i64 2, .int .i64 reg, .int .i64 src, .int .i64 loc, .int .i64 imm], .slice a1 nr c1, .int .i64 (nl : Int)] w fun en w' => en = .returned (.bool (numOk reg true nr && numOk src true nr && numOk loc false nl && (false || imm == 0))) ∧ Below w.heap.size w w' := by
  have cU : ∀ w, Calls Tryd.prog 110 #[.int .i64 2] w fun en w' => en = .returned (.tuple #[.bool true, .bool true, .bool false, .bool false]) ∧ w' = w := fun w => uses_any 2 w
  have t1 : True := trivial
  · go_enter Tryd.func91, Tryd.ntmps91
    go_wp2_with (first
      | (clear t1; refine wpList_boxS rfl 75 _ rfl [.int .i64 2, .int .i64 reg, .int .i64 src, .int .i64 loc, .int .i64 imm] rfl ?_; intro W1 bb F1 C1; have B1 : Below w.heap.size w W1 := F1.trans (Below.refl _ w) (Nat.le_refl _); obtain ⟨x0, x1, x2, x3, x4⟩ := five C1; clear F1)
      | (go_at_call 110; refine (cU _).mono ?_; rintro en w' ⟨rfl, hw⟩; replace hw := hw.symm; subst hw))
    all_goals
      go_ret
      refine ⟨ret_boolP ?_, B1⟩
      clear x0 x1 x2 x3 x4 C1 B1
      simp only [numOk, beq_iff_eq, bne_iff_ne, ne_eq, bne_eq_false_iff_eq] at *
      first | rfl | (simp [*]; done) | (simp [*]; omega) | (by_cases hi : imm = 0 <;> simp [*] <;> done) | (by_cases hi : imm = 0 <;> simp [*] <;> omega) | (by_cases hi : imm = 0 <;> simp [bne, *] <;> done)
set_option maxRecDepth 100000 in
set_option maxHeartbeats 8000000 in
theorem right_3 (reg src loc imm : Int) (a1 : Option Addr) (nr c1 : Nat) (nl : Nat) (w : World) :
    Calls Tryd.prog 91 #[.agg #[.int .i64 3, .int .i64 reg, .int .i64 src, .int .i64 loc, .int .i64 imm], .slice a1 nr c1, .int .i64 (nl : Int)] w fun en w' => en = .returned (.bool (numOk reg true nr && numOk src false nr && numOk loc true nl && (false || imm == 0))) ∧ Below w.heap.size w w' := by
  have cU : ∀ w, Calls Tryd.prog 110 #[.int .i64 3] w fun en w' => en = .returned (.tuple #[.bool true, .bool false, .bool true, .bool false]) ∧ w' = w := fun w => uses_any 3 w
  have t1 : True := trivial
  · go_enter Tryd.func91, Tryd.ntmps91
    go_wp2_with (first
      | (clear t1; refine wpList_boxS rfl 75 _ rfl [.int .i64 3, .int .i64 reg, .int .i64 src, .int .i64 loc, .int .i64 imm] rfl ?_; intro W1 bb F1 C1; have B1 : Below w.heap.size w W1 := F1.trans (Below.refl _ w) (Nat.le_refl _); obtain ⟨x0, x1, x2, x3, x4⟩ := five C1; clear F1)
      | (go_at_call 110; refine (cU _).mono ?_; rintro en w' ⟨rfl, hw⟩; replace hw := hw.symm; subst hw))
    all_goals
      go_ret
      refine ⟨ret_boolP ?_, B1⟩
      clear x0 x1 x2 x3 x4 C1 B1
      simp only [numOk, beq_iff_eq, bne_iff_ne, ne_eq, bne_eq_false_iff_eq] at *
      first | rfl | (simp [*]; done) | (simp [*]; omega) | (by_cases hi : imm = 0 <;> simp [*] <;> done) | (by_cases hi : imm = 0 <;> simp [*] <;> omega) | (by_cases hi : imm = 0 <;> simp [bne, *] <;> done)
set_option maxRecDepth 100000 in
set_option maxHeartbeats 8000000 in
theorem right_4 (reg src loc imm : Int) (a1 : Option Addr) (nr c1 : Nat) (nl : Nat) (w : World) :
    Calls Tryd.prog 91 #[.agg #[.int .i64 4, .int .i64 reg, .int .i64 src, .int .i64 loc, .int .i64 imm], .slice a1 nr c1, .int .i64 (nl : Int)] w fun en w' => en = .returned (.bool (numOk reg false nr && numOk src false nr && numOk loc true nl && (true || imm == 0))) ∧ Below w.heap.size w w' := by
  have cU : ∀ w, Calls Tryd.prog 110 #[.int .i64 4] w fun en w' => en = .returned (.tuple #[.bool false, .bool false, .bool true, .bool true]) ∧ w' = w := fun w => uses_any 4 w
  have t1 : True := trivial
  · go_enter Tryd.func91, Tryd.ntmps91
    go_wp2_with (first
      | (clear t1; refine wpList_boxS rfl 75 _ rfl [.int .i64 4, .int .i64 reg, .int .i64 src, .int .i64 loc, .int .i64 imm] rfl ?_; intro W1 bb F1 C1; have B1 : Below w.heap.size w W1 := F1.trans (Below.refl _ w) (Nat.le_refl _); obtain ⟨x0, x1, x2, x3, x4⟩ := five C1; clear F1)
      | (go_at_call 110; refine (cU _).mono ?_; rintro en w' ⟨rfl, hw⟩; replace hw := hw.symm; subst hw))
    all_goals
      go_ret
      refine ⟨ret_boolP ?_, B1⟩
      clear x0 x1 x2 x3 x4 C1 B1
      simp only [numOk, beq_iff_eq, bne_iff_ne, ne_eq, bne_eq_false_iff_eq] at *
      first | rfl | (simp [*]; done) | (simp [*]; omega) | (by_cases hi : imm = 0 <;> simp [*] <;> done) | (by_cases hi : imm = 0 <;> simp [*] <;> omega) | (by_cases hi : imm = 0 <;> simp [bne, *] <;> done)
set_option maxRecDepth 100000 in
set_option maxHeartbeats 8000000 in
theorem right_5 (reg src loc imm : Int) (a1 : Option Addr) (nr c1 : Nat) (nl : Nat) (w : World) :
    Calls Tryd.prog 91 #[.agg #[.int .i64 5, .int .i64 reg, .int .i64 src, .int .i64 loc, .int .i64 imm], .slice a1 nr c1, .int .i64 (nl : Int)] w fun en w' => en = .returned (.bool (numOk reg false nr && numOk src true nr && numOk loc true nl && (false || imm == 0))) ∧ Below w.heap.size w w' := by
  have cU : ∀ w, Calls Tryd.prog 110 #[.int .i64 5] w fun en w' => en = .returned (.tuple #[.bool false, .bool true, .bool true, .bool false]) ∧ w' = w := fun w => uses_any 5 w
  have t1 : True := trivial
  · go_enter Tryd.func91, Tryd.ntmps91
    go_wp2_with (first
      | (clear t1; refine wpList_boxS rfl 75 _ rfl [.int .i64 5, .int .i64 reg, .int .i64 src, .int .i64 loc, .int .i64 imm] rfl ?_; intro W1 bb F1 C1; have B1 : Below w.heap.size w W1 := F1.trans (Below.refl _ w) (Nat.le_refl _); obtain ⟨x0, x1, x2, x3, x4⟩ := five C1; clear F1)
      | (go_at_call 110; refine (cU _).mono ?_; rintro en w' ⟨rfl, hw⟩; replace hw := hw.symm; subst hw))
    all_goals
      go_ret
      refine ⟨ret_boolP ?_, B1⟩
      clear x0 x1 x2 x3 x4 C1 B1
      simp only [numOk, beq_iff_eq, bne_iff_ne, ne_eq, bne_eq_false_iff_eq] at *
      first | rfl | (simp [*]; done) | (simp [*]; omega) | (by_cases hi : imm = 0 <;> simp [*] <;> done) | (by_cases hi : imm = 0 <;> simp [*] <;> omega) | (by_cases hi : imm = 0 <;> simp [bne, *] <;> done)
set_option maxRecDepth 100000 in
set_option maxHeartbeats 8000000 in
theorem right_6 (reg src loc imm : Int) (a1 : Option Addr) (nr c1 : Nat) (nl : Nat) (w : World) :
    Calls Tryd.prog 91 #[.agg #[.int .i64 6, .int .i64 reg, .int .i64 src, .int .i64 loc, .int .i64 imm], .slice a1 nr c1, .int .i64 (nl : Int)] w fun en w' => en = .returned (.bool (numOk reg false nr && numOk src false nr && numOk loc false nl && (false || imm == 0))) ∧ Below w.heap.size w w' := by
  have cU : ∀ w, Calls Tryd.prog 110 #[.int .i64 6] w fun en w' => en = .returned (.tuple #[.bool false, .bool false, .bool false, .bool false]) ∧ w' = w := fun w => uses_any 6 w
  have t1 : True := trivial
  · go_enter Tryd.func91, Tryd.ntmps91
    go_wp2_with (first
      | (clear t1; refine wpList_boxS rfl 75 _ rfl [.int .i64 6, .int .i64 reg, .int .i64 src, .int .i64 loc, .int .i64 imm] rfl ?_; intro W1 bb F1 C1; have B1 : Below w.heap.size w W1 := F1.trans (Below.refl _ w) (Nat.le_refl _); obtain ⟨x0, x1, x2, x3, x4⟩ := five C1; clear F1)
      | (go_at_call 110; refine (cU _).mono ?_; rintro en w' ⟨rfl, hw⟩; replace hw := hw.symm; subst hw))
    all_goals
      go_ret
      refine ⟨ret_boolP ?_, B1⟩
      clear x0 x1 x2 x3 x4 C1 B1
      simp only [numOk, beq_iff_eq, bne_iff_ne, ne_eq, bne_eq_false_iff_eq] at *
      first | rfl | (simp [*]; done) | (simp [*]; omega) | (by_cases hi : imm = 0 <;> simp [*] <;> done) | (by_cases hi : imm = 0 <;> simp [*] <;> omega) | (by_cases hi : imm = 0 <;> simp [bne, *] <;> done)
set_option maxRecDepth 100000 in
set_option maxHeartbeats 8000000 in
theorem right_7 (reg src loc imm : Int) (a1 : Option Addr) (nr c1 : Nat) (nl : Nat) (w : World) :
    Calls Tryd.prog 91 #[.agg #[.int .i64 7, .int .i64 reg, .int .i64 src, .int .i64 loc, .int .i64 imm], .slice a1 nr c1, .int .i64 (nl : Int)] w fun en w' => en = .returned (.bool (numOk reg true nr && numOk src false nr && numOk loc true nl && (false || imm == 0))) ∧ Below w.heap.size w w' := by
  have cU : ∀ w, Calls Tryd.prog 110 #[.int .i64 7] w fun en w' => en = .returned (.tuple #[.bool true, .bool false, .bool true, .bool false]) ∧ w' = w := fun w => uses_any 7 w
  have t1 : True := trivial
  · go_enter Tryd.func91, Tryd.ntmps91
    go_wp2_with (first
      | (clear t1; refine wpList_boxS rfl 75 _ rfl [.int .i64 7, .int .i64 reg, .int .i64 src, .int .i64 loc, .int .i64 imm] rfl ?_; intro W1 bb F1 C1; have B1 : Below w.heap.size w W1 := F1.trans (Below.refl _ w) (Nat.le_refl _); obtain ⟨x0, x1, x2, x3, x4⟩ := five C1; clear F1)
      | (go_at_call 110; refine (cU _).mono ?_; rintro en w' ⟨rfl, hw⟩; replace hw := hw.symm; subst hw))
    all_goals
      go_ret
      refine ⟨ret_boolP ?_, B1⟩
      clear x0 x1 x2 x3 x4 C1 B1
      simp only [numOk, beq_iff_eq, bne_iff_ne, ne_eq, bne_eq_false_iff_eq] at *
      first | rfl | (simp [*]; done) | (simp [*]; omega) | (by_cases hi : imm = 0 <;> simp [*] <;> done) | (by_cases hi : imm = 0 <;> simp [*] <;> omega) | (by_cases hi : imm = 0 <;> simp [bne, *] <;> done)
set_option maxRecDepth 100000 in
set_option maxHeartbeats 8000000 in
theorem right_9 (reg src loc imm : Int) (a1 : Option Addr) (nr c1 : Nat) (nl : Nat) (w : World) :
    Calls Tryd.prog 91 #[.agg #[.int .i64 9, .int .i64 reg, .int .i64 src, .int .i64 loc, .int .i64 imm], .slice a1 nr c1, .int .i64 (nl : Int)] w fun en w' => en = .returned (.bool (numOk reg true nr && numOk src false nr && numOk loc true nl && (false || imm == 0))) ∧ Below w.heap.size w w' := by
  have cU : ∀ w, Calls Tryd.prog 110 #[.int .i64 9] w fun en w' => en = .returned (.tuple #[.bool true, .bool false, .bool true, .bool false]) ∧ w' = w := fun w => uses_any 9 w
  have t1 : True := trivial
  · go_enter Tryd.func91, Tryd.ntmps91
    go_wp2_with (first
      | (clear t1; refine wpList_boxS rfl 75 _ rfl [.int .i64 9, .int .i64 reg, .int .i64 src, .int .i64 loc, .int .i64 imm] rfl ?_; intro W1 bb F1 C1; have B1 : Below w.heap.size w W1 := F1.trans (Below.refl _ w) (Nat.le_refl _); obtain ⟨x0, x1, x2, x3, x4⟩ := five C1; clear F1)
      | (go_at_call 110; refine (cU _).mono ?_; rintro en w' ⟨rfl, hw⟩; replace hw := hw.symm; subst hw))
    all_goals
      go_ret
      refine ⟨ret_boolP ?_, B1⟩
      clear x0 x1 x2 x3 x4 C1 B1
      simp only [numOk, beq_iff_eq, bne_iff_ne, ne_eq, bne_eq_false_iff_eq] at *
      first | rfl | (simp [*]; done) | (simp [*]; omega) | (by_cases hi : imm = 0 <;> simp [*] <;> done) | (by_cases hi : imm = 0 <;> simp [*] <;> omega) | (by_cases hi : imm = 0 <;> simp [bne, *] <;> done)
end Go.Proofs.YtdneaaegllpnlaaDoor

/- Several texts in one: I5, I6, I7, I8. -/
import Derived.Test.YtpbcngnginffgaaI4
import Derived.Defers
import Derived.Recover
/- Instruction's closure; fault; the deferred closure of read. -/
namespace Go.Proofs.Ytpbcngnginffgaa
open Go.RowKit Go.Shelf M
set_option linter.unusedSimpArgs false
set_option linter.unusedVariables false

/-- A whole text as one instruction. -/
def wholeR (D : TT) : RS := if ((instrR D ⟨0, none⟩).F.isNone && (!((D.cur (instrR D ⟨0, none⟩).k).kind == 0) || D.bad.isSome)) = true then wrongR D (instrR D ⟨0, none⟩) else instrR D ⟨0, none⟩
theorem whole_ups {D : TT} {f : Nat × Nat × Nat} (h : Ups D (instrR D ⟨0, none⟩) f) : (wholeR D).F = some f := by
  unfold wholeR
  rcases ups_cases h with h | ⟨h1, h2, h3⟩
  · rw [h]; exact h
  · have hb : D.bad.isSome = true := by unfold TT.badAt at h2; simp only [Bool.and_eq_true] at h2; exact h2.2
    rw [h1, hb]
    simp only [Option.isNone_none, Bool.or_true, Bool.and_self, if_true]
    rw [wrongR_none h1, h3]
theorem whole_more {D : TT} (g : Goes D (instrR D ⟨0, none⟩)) (h : (D.cur (instrR D ⟨0, none⟩).k).kind ≠ 0) : (wholeR D).F = some (D.wr (instrR D ⟨0, none⟩).k) := by
  unfold wholeR
  rw [g.1]
  have : ((D.cur (instrR D ⟨0, none⟩).k).kind == 0) = false := by simpa using h
  rw [this]
  simp only [Option.isNone_none, Bool.not_false, Bool.true_or, Bool.and_self, if_true]
  rw [wrongR_none g.1]
theorem whole_end {D : TT} (g : Goes D (instrR D ⟨0, none⟩)) (h : (D.cur (instrR D ⟨0, none⟩).k).kind = 0) : (wholeR D).F = none := by
  unfold wholeR
  rw [g.1, h]
  have : D.bad.isSome = false := by
    have := g.2
    unfold TT.badAt at this
    rw [h] at this
    simpa using this
  rw [this]
  exact g.1
/-- Three blocks are turned, all others stand; memory may grow. -/
structure Th (w W : World) (a b c : Nat) : Prop where
  os : W.os = w.os
  tape : W.tape = w.tape
  output : W.output = w.output
  size : w.heap.size ≤ W.heap.size
  block : ∀ k, k < w.heap.size → k ≠ a → k ≠ b → k ≠ c → W.heap[k]? = w.heap[k]?
section
variable {w W W' : World} {a b c d t : Nat} {cs : List Value}
theorem Th.of_tw (h : Tw w W a b) (c : Nat) : Th w W a b c := ⟨h.os, h.tape, h.output, h.size, fun k hk h1 h2 _ => h.block k hk h1 h2⟩
theorem Th.upd (h : Th w W a b c) (U : Upd W W' c) : Th w W' a b c := ⟨U.os.trans h.os, U.tape.trans h.tape, U.output.trans h.output, by rw [U.size]; exact h.size, fun k hk h1 h2 h3 => (U.block k h3).trans (h.block k hk h1 h2 h3)⟩
theorem Th.grow (h : Th w W a b c) (B : Below W.heap.size W W') : Th w W' a b c := ⟨B.os.trans h.os, B.tape.trans h.tape, B.output.trans h.output, Nat.le_trans h.size B.size, fun k hk h1 h2 h3 => (B.block k (Nat.lt_of_lt_of_le hk h.size)).trans (h.block k hk h1 h2 h3)⟩
theorem IsS.th (h : IsS w d t cs) (T : Th w W a b c) (h1 : d ≠ a) (h2 : d ≠ b) (h3 : d ≠ c) : IsS W d t cs := (T.block d h.lt h1 h2 h3).trans h
theorem Th.below {w0 : World} {B : Nat} (h : Below B w0 w) (ha : B ≤ a) (hb : B ≤ b) (hc : B ≤ c) (hs : B ≤ w.heap.size) (T : Th w W a b c) : Below B w0 W :=
  ⟨T.os.trans h.os, T.tape.trans h.tape, T.output.trans h.output, Nat.le_trans h.size T.size, fun k hk => (T.block k (by omega) (by omega) (by omega) (by omega)).trans (h.block k hk)⟩
end
section
variable {D : TT} {s : ByteArray} {br bl : Nat}
set_option maxRecDepth 100000 in
set_option maxHeartbeats 2000000 in
theorem inst1_any (hsz : s.size < 4611686018427387904) (g : D.badAt 0 = false) (b4 : Nat) (w : World) (hP : PR D s w br bl 0) (hI : IsS w b4 23 (inL noIn)) (h1 : b4 ≠ br) (h2 : b4 ≠ bl) :
    Calls Try.prog 8 #[.pointer (some ⟨br, 0, none⟩), .pointer (some ⟨b4, 0, none⟩)] w fun en w' => ((wholeR D).F = none → en = .returned (.tuple #[]) ∧ IsS w' b4 23 (inL (instrT D ⟨0, none⟩))) ∧ (∀ f, (wholeR D).F = some f → Thr w f en w') ∧ Th w w' br bl b4 := by
  have hb1 := hP.tok.lt
  have hb2 := hP.ltl
  have hb4 := hI.lt
  have c1 := instr_any hsz ⟨0, none⟩ ⟨rfl, g⟩ w hP
  rcases goes_or D (instrR D ⟨0, none⟩) with g1 | ⟨f, u1⟩
  · by_cases hk : (D.cur (instrR D ⟨0, none⟩).k).kind = 0
    · have hw := whole_end g1 hk
      have hk' : (((D.cur (instrR D ⟨0, none⟩).k).kind : Int) == 0) = true := by simp [hk]
      go_enter Try.func8, Try.ntmps8
      go_wp2_with (first
        | (go_at_call 9; refine c1.mono ?_; rintro en W1 O1; obtain ⟨rfl, P1⟩ := O1.goes g1; have T1 := O1.tw; have I1 := hI.tw T1 h1 h2; clear O1 c1)
        | (refine wpList_storeS rfl 23 _ _ rfl rfl (inL (instrT D ⟨0, none⟩)) rfl I1 (by simp [inL, noIn]) infoI (in_one _) ?_; intro W2 U2 I2x; have I2 : IsS W2 b4 23 (inL (instrT D ⟨0, none⟩)) := I2x; have P2 := P1.upd U2 (Ne.symm h1) (Ne.symm h2); have BB : Th w W2 br bl b4 := (Th.of_tw T1 b4).upd U2; have d1 : W2.cell? ⟨br, 1, none⟩ = some (.int .i64 ((D.cur (instrR D ⟨0, none⟩).k).kind : Int)) := P2.tok.cell 1)
        | (go_at_call 10; refine (must_true br _).mono ?_; rintro e w' ⟨rfl, hw'⟩; replace hw' := hw'.symm; subst hw'))
      refine ⟨rfl, .tuple #[], (by simp [results, Try.results8, go_sem]), fun _ => ⟨rfl, I2⟩, fun f hf => ?_, BB⟩
      rw [hw] at hf; cases hf
    · have hw := whole_more g1 hk
      have hk' : (((D.cur (instrR D ⟨0, none⟩).k).kind : Int) == 0) = false := by simpa using hk
      have hwr := wr_ok g1.2
      go_enter Try.func8, Try.ntmps8
      go_wp2_with (first
        | (go_at_call 9; refine c1.mono ?_; rintro en W1 O1; obtain ⟨rfl, P1⟩ := O1.goes g1; have T1 := O1.tw; have I1 := hI.tw T1 h1 h2; clear O1 c1)
        | (refine wpList_storeS rfl 23 _ _ rfl rfl (inL (instrT D ⟨0, none⟩)) rfl I1 (by simp [inL, noIn]) infoI (in_one _) ?_; intro W2 U2 I2x; have P2 := P1.upd U2 (Ne.symm h1) (Ne.symm h2); have BB : Th w W2 br bl b4 := (Th.of_tw T1 b4).upd U2; have hs2 : W2.heap.size = W1.heap.size := U2.size; have d1 : W2.cell? ⟨br, 1, none⟩ = some (.int .i64 ((D.cur (instrR D ⟨0, none⟩).k).kind : Int)) := P2.tok.cell 1)
        | (go_at_call 10; refine (must_false br bl _ _ P2.tok).mono ?_; rintro en W3 ⟨⟨bp, rfl, hb, hJ⟩, B3⟩))
      refine ⟨rfl, fun h => (by rw [hw] at h; cases h), fun f hf => ?_, BB.grow B3⟩
      rw [hw] at hf
      cases hf
      refine ⟨bp, rfl, Nat.le_trans T1.size (by omega), ?_⟩
      rw [hwr]; exact hJ
  · have hw := whole_ups u1
    go_enter Try.func8, Try.ntmps8
    go_wp2_with (first
      | (go_at_call 9; refine c1.mono ?_; rintro en W1 O1; have T1 := O1.tw; obtain ⟨bp, rfl, hb, hJ⟩ := O1.ups f u1; clear O1 c1))
    refine ⟨rfl, fun h => (by rw [hw] at h; cases h), fun f' hf => ?_, Th.of_tw T1 b4⟩
    rw [hw] at hf
    cases hf
    exact ⟨bp, rfl, hb, hJ⟩
end
set_option maxRecDepth 100000 in
set_option maxHeartbeats 2000000 in
theorem pfault_any (et : TypeId) (eu : Value) (w : World) : Calls Try.prog 17 #[.iface 69 (.agg #[.iface et eu])] w fun en w' => en = .returned (.iface et eu) ∧ Below w.heap.size w w' := by
  have hta : ∀ w, (Instr.typeAssert (.iface 69 (.agg #[.iface et eu])) 20 69 true).run Try.prog w = .ok (.tuple #[.agg #[.iface et eu], .bool true]) w := fun w => by kernel_rfl
  go_enter Try.func17, Try.ntmps17
  go_wp2_with (first
    | (refine wpList_allocS rfl 69 rfl [.nilIface] Try.zeroValue69 ?_; intro W2 b2 F2 N2; have B2 := F2.trans (Below.refl _ w) (Nat.le_refl _); have h2 : w.heap.size ≤ b2 := Nat.le_of_eq F2.at'.symm; clear F2)
    | (refine wpList_storeS rfl 69 _ _ rfl rfl [.iface et eu] rfl N2 (by simp) (by kernel_rfl) (by intro v hv; simp at hv; subst hv; rfl) ?_; intro W4 U4 N4x; have N4 : IsS W4 b2 69 [.iface et eu] := N4x; have B4 := U4.trans B2 h2; have c0 : W4.cell? ⟨b2, 0, none⟩ = some (.iface et eu) := N4.cell 0))
  go_ret
  exact ⟨rfl, B4⟩
end Go.Proofs.Ytpbcngnginffgaa
/- read: the deferred closure catches what the reader throws. -/
namespace Go.Proofs.Ytpbcngnginffgaa
open Go.RowKit Go.Shelf M
set_option linter.unusedSimpArgs false
set_option linter.unusedVariables false

set_option maxRecDepth 100000 in
theorem catch_idle (p : Addr) (w : World) :
    CallsD Try.prog 16 #[.pointer (some p)] .returning w fun e u' w' => e = .returned (.tuple #[]) ∧ u' = .returning ∧ w' = w := by
  refine callsD_of_wpS Try.func16 rfl fun c₀ cs hu => ?_
  apply wpS_seq
  apply wpS_region
  simp [wpOpsS, go_sem, recoverD, hu, Try.ntmps16, Exit.thenS]
  refine wpS_of_wp ?_
  change Code.wp _ _ _ { tmps := #[.pointer (some p), .nilIface, .nilIface, undef, undef, undef, undef], defers := [] } w
  go_wp2_with fail
  refine ⟨rfl, .returning, ?_, .tuple #[], (by simp [results, Try.results16, go_sem]), rfl, rfl, rfl⟩
  cases c₀
  simp_all
set_option maxRecDepth 100000 in
set_option maxHeartbeats 2000000 in
theorem catch_thrown (b : Nat) (et : TypeId) (eu v0 : Value) (ho : eu.oneCell' = true) (older : List PanicEntry) (w : World) (hE : IsS w b 25 [v0]) :
    CallsD Try.prog 16 #[.pointer (some ⟨b, 0, none⟩)] (.panicking ({ v := .iface 69 (.agg #[.iface et eu]), recovered := false } :: older)) w fun e u' w' => e = .returned (.tuple #[]) ∧ u' = .panicking ({ v := .iface 69 (.agg #[.iface et eu]), recovered := true } :: older) ∧ IsS w' b 25 [.iface et eu] ∧ Turn w w' b := by
  have cF := fun w => pfault_any et eu w
  refine callsD_of_wpS Try.func16 rfl fun c₀ cs hu => ?_
  apply wpS_seq
  apply wpS_region
  simp [wpOpsS, go_sem, recoverD, hu, Try.ntmps16, Exit.thenS]
  refine wpS_of_wp ?_
  change Code.wp _ _ _ { tmps := #[.pointer (some ⟨b, 0, none⟩), .iface 69 (.agg #[.iface et eu]), .iface 69 (.agg #[.iface et eu]), undef, undef, undef, undef], defers := [] } w
  go_wp2_with (first
    | (go_at_call 17; refine (cF _).mono ?_; rintro en W1 ⟨rfl, B1⟩; have E1 := hE.grown B1; clear cF)
    | (refine wpList_store1 rfl 25 _ _ rfl rfl (.iface et eu) rfl E1 (by simp) (by kernel_rfl) rfl ?_; intro W2 U2 E2))
  refine ⟨rfl, _, rfl, .tuple #[], (by simp [results, Try.results16, go_sem]), rfl, rfl, by simpa using E2, (Turn.of_below B1 b).trans (Turn.of_upd U2)⟩
end Go.Proofs.Ytpbcngnginffgaa
/- read, with Instruction's closure; Instruction. -/
namespace Go.Proofs.Ytpbcngnginffgaa
open Go.RowKit Go.Shelf M
set_option linter.unusedSimpArgs false
set_option linter.unusedVariables false

theorem wpList_allocE {w : World} {ops : Array Oper} {rest : List Oper} {op : Oper} {a : Act} {Q : Exit → Act → World → Prop} (hgd : op.guard = none) (ho : op.op = .alloc 25)
    (h : ∀ W b, Fresh w W b → IsS W b 25 [.nilIface] → wpList Try.prog ops Q rest (a.put op.dst (.pointer (some ⟨b, 0, none⟩))) W) : wpList Try.prog ops Q (op :: rest) a w := by
  refine wpList_plain hgd fun K hK => ?_
  have hr : (execOp a.eval op).run Try.prog w = .ok (.value (.pointer (some ⟨w.heap.size, 0, none⟩))) (w.alloc (.cells #[.nilIface] 25)) := by
    unfold execOp
    simp [ho, go_sem, Value.cells]
  unfold Oper.wp
  rw [hr]
  exact hK _ _ (h _ _ (Fresh.alloc w _) (IsS.new w 25 [.nilIface]))
section
variable {D : TT} {s : ByteArray} {br bl : Nat}
/-- The first token is read. -/
theorem first_adv (hsz : s.size < 4611686018427387904) (hl : s.data.toList.length ≤ 1048576) (hR : Rest s.data.toList D.bad (.ok 0) D.T) (w : World) (hP : IsS w br 42 (rdrL bl noTok)) (hL : PLex w bl s (.ok 0)) (hne : br ≠ bl) :
    Calls Try.prog 19 #[.pointer (some ⟨br, 0, none⟩)] w fun en w' => OutP D s w br bl ⟨0, none⟩ (.tuple #[]) en w' := by
  have hg : LS.good s.data.toList (.ok 0) := ⟨Nat.zero_le _, hl⟩
  have cur0 : ∀ {t : Tok} {T : List Tok}, D.T = t :: T → D.cur 0 = t ∧ D.T.drop 1 = T := fun h => by unfold TT.cur; rw [h]; exact ⟨rfl, rfl⟩
  generalize hd : D.T = T at hR
  cases hR with
  | fin hs h0 hb =>
    obtain ⟨e1, e2⟩ := cur0 hd
    refine (advance_ok s hsz br bl _ _ _ _ hg hs w hP hL hne).mono ?_
    rintro en w' ⟨rfl, R, L, T⟩
    refine OutP.ret ⟨rfl, ?_⟩ ⟨?_, ⟨_, L, step_good hg hs, fun h => absurd (by rw [e1]; exact h0) h⟩, hne⟩ T
    · unfold TT.badAt; rw [hb]; simp
    · show IsS w' br _ (rdrL bl (D.cur 0)); rw [e1]; exact R
  | bad hs h0 hb =>
    rename_i x y e t t'
    obtain ⟨e1, e2⟩ := cur0 hd
    refine (advance_err s hsz br bl _ _ _ _ _ rfl hg hs w hP hL hne).mono ?_
    rintro en w' ⟨⟨ev, rfl, E, O⟩, T⟩
    obtain ⟨g, rfl, hg'⟩ := E
    have hbad : D.badAt 0 = true := by unfold TT.badAt; rw [hb, e1, h0]; rfl
    have hwr : D.wr 0 = (x, y, e) := by unfold TT.wr; rw [hbad, hb]; rfl
    refine OutP.thrown (f := D.wr 0) (ups_bad rfl hbad) ?_ T
    rw [hwr]
    exact ⟨g, rfl, O, hg'⟩
  | tok hs h0 hr' =>
    obtain ⟨e1, e2⟩ := cur0 hd
    refine (advance_ok s hsz br bl _ _ _ _ hg hs w hP hL hne).mono ?_
    rintro en w' ⟨rfl, R, L, T⟩
    refine OutP.ret ⟨rfl, ?_⟩ ⟨?_, ⟨_, L, step_good hg hs, fun h => by rw [e2]; exact hr'⟩, hne⟩ T
    · unfold TT.badAt; rw [e1]; simp [h0]
    · show IsS w' br _ (rdrL bl (D.cur 0)); rw [e1]; exact R
end
theorem whole_bad {D : TT} {f : Nat × Nat × Nat} (h : Ups D ⟨0, none⟩ f) : (wholeR D).F = some f := by
  refine whole_ups ?_
  unfold instrR
  rw [ups_isB h, ups_isB h, ups_isB h, ups_isB h]
  exact ups_wrong h
set_option maxRecDepth 100000 in
set_option maxHeartbeats 2000000 in
theorem read_long (s : ByteArray) (hsz : s.size < 4611686018427387904) (hl : 1048576 < s.data.toList.length) (fv : Value) (B : Nat) (w : World) (hB : B ≤ w.heap.size) :
    Calls Try.prog 7 #[.string s, fv] w fun en w' => en = .returned (.iface 59 (.int .i64 1)) ∧ Below w.heap.size w w' := by
  have hmf : ∀ (fn : Fn) (first cap : Array Value) (w : World), (Instr.makeFunc fn first cap).run Try.prog w = .ok (.func fn first cap) w := fun _ _ _ _ => rfl
  have cN := fun w => pnew_any s w
  have hst : LS.start s.data.toList = .long := if_pos hl
  rw [hst] at cN
  have cA := fun w br bl hR hL hne => advance_err s hsz br bl noTok noTok .long .long .long rfl hl .long w hR hL hne
  go_enter_defers Try.func7, Try.ntmps7
  go_wp2_with (first
    | (refine wpList_allocE rfl rfl ?_; intro W1 b1 F1 E1; have B1 := F1.trans (Below.refl _ w) (Nat.le_refl _); have h1 : w.heap.size ≤ b1 := Nat.le_of_eq F1.at'.symm; clear F1)
    | (go_at_call 18; refine (cN _).mono ?_; rintro en W2 ⟨⟨bl, rfl, hbl, L2⟩, B2x⟩; have E2 := E1.grown B2x; have B2 := Below.then B1 B2x; have hl2 : w.heap.size ≤ bl := Nat.le_trans B1.size hbl; have hb1l : b1 ≠ bl := (by have := E1.lt; omega); clear cN B2x E1)
    | (refine wpList_boxS rfl 42 _ rfl (rdrL bl noTok) rfl ?_; intro W3 br F3 R3; have L3 := L2.grown (F3.trans (Below.refl _ _) (Nat.le_refl _)); have E3 := E2.fresh F3; have B3 := F3.trans B2 B2.size; have hr3 : w.heap.size ≤ br := Nat.le_trans B2.size (Nat.le_of_eq F3.at'.symm); have hne : br ≠ bl := (by have := L2.lt; have := F3.at'; omega); have hb1r : b1 ≠ br := (by have := E2.lt; have := F3.at'; omega); clear F3 L2 E2)
    | (go_at_call 19; refine (cA _ _ _ R3 L3 hne).mono ?_; rintro en W4 ⟨⟨ev, rfl, V4, O4⟩, T4⟩; have V4' : ev = .iface 59 (.int .i64 1) := V4; subst V4'; have E4 := E3.tw T4 hb1r hb1l; have B4 := T4.below B3 hr3 hl2 B3.size; clear cA V4))
  refine leaves_cons (f := 16) (args := #[.pointer (some ⟨b1, 0, none⟩)]) (by simp) (by simp [go_sem]) ?_
  refine (catch_thrown b1 _ _ .nilIface rfl [] _ E4).mono ?_
  rintro e u' W5 ⟨rfl, rfl, E5, T5⟩
  have c0 := E5.cell 0
  simp at c0
  simp [Leaves, _root_.Go.settle, results, Try.results7, go_sem, c0]
  exact T5.below B4 h1 B4.size
/-- Below a bound that lies under both. -/
theorem below_lower {B B' : Nat} {w W : World} (h : Below B w W) (hb : B' ≤ B) : Below B' w W := ⟨h.os, h.tape, h.output, h.size, fun k hk => h.block k (by omega)⟩
section
variable {D : TT} {s : ByteArray}
/-- What read comes to. -/
structure RdP (D : TT) (b4 : Nat) (w w' : World) (en : Ending) : Prop where
  good : (wholeR D).F = none → en = .returned .nilIface ∧ IsS w' b4 23 (inL (instrT D ⟨0, none⟩))
  bad : ∀ f, (wholeR D).F = some f → ∃ bp, en = .returned (.iface 60 (.pointer (some ⟨bp, 0, none⟩))) ∧ w.heap.size ≤ bp ∧ IsS w' bp 62 (faultL f.1 f.2.1 f.2.2)
set_option maxRecDepth 100000 in
set_option maxHeartbeats 2000000 in
theorem read_any (hsz : s.size < 4611686018427387904) (hl : s.data.toList.length ≤ 1048576) (hR : Rest s.data.toList D.bad (.ok 0) D.T) (b4 B : Nat) (w : World) (hI : IsS w b4 23 (inL noIn)) (hB : B ≤ b4) :
    Calls Try.prog 7 #[.string s, .func (.func 8) #[] #[.pointer (some ⟨b4, 0, none⟩)]] w fun en w' => RdP D b4 w w' en ∧ Below B w w' := by
  have hmf : ∀ (fn : Fn) (first cap : Array Value) (w : World), (Instr.makeFunc fn first cap).run Try.prog w = .ok (.func fn first cap) w := fun _ _ _ _ => rfl
  have cN := fun w => pnew_any s w
  have hst : LS.start s.data.toList = .ok 0 := if_neg (by omega)
  rw [hst] at cN
  have cA := fun w br bl hP hL hne => first_adv (D := D) (s := s) (br := br) (bl := bl) hsz hl hR w hP hL hne
  have hb4 := hI.lt
  clear hst
  rcases goes_or D ⟨0, none⟩ with g1 | ⟨f, u1⟩
  · have cI := fun W br bl (hP : PR D s W br bl 0) hI h1 h2 => inst1_any (br := br) (bl := bl) hsz g1.2 b4 W hP hI h1 h2
    cases hw : (wholeR D).F with
    | none =>
      go_enter_defers Try.func7, Try.ntmps7
      go_wp2_with (first
        | (refine wpList_allocE rfl rfl ?_; intro W1 b1 F1 E1; have B1 := F1.trans (Below.refl _ w) (Nat.le_refl _); have h1 : w.heap.size ≤ b1 := Nat.le_of_eq F1.at'.symm; have I1 := hI.fresh F1; have h41 : b4 ≠ b1 := (by have := hI.lt; have := F1.at'; omega); clear F1 hI)
        | (go_at_call 18; refine (cN _).mono ?_; rintro en W2 ⟨⟨bl, rfl, hbl, L2⟩, B2x⟩; have E2 := E1.grown B2x; have I2 := I1.grown B2x; have B2 := Below.then B1 B2x; have hl2 : w.heap.size ≤ bl := Nat.le_trans B1.size hbl; have hb1l : b1 ≠ bl := (by have := E1.lt; omega); have h4l : b4 ≠ bl := (by have := I1.lt; omega); clear cN B2x E1 I1)
        | (refine wpList_boxS rfl 42 _ rfl (rdrL bl noTok) rfl ?_; intro W3 br F3 R3; have L3 := L2.grown (F3.trans (Below.refl _ _) (Nat.le_refl _)); have E3 := E2.fresh F3; have I3 := I2.fresh F3; have B3 := F3.trans B2 B2.size; have hr3 : w.heap.size ≤ br := Nat.le_trans B2.size (Nat.le_of_eq F3.at'.symm); have hne : br ≠ bl := (by have := L2.lt; have := F3.at'; omega); have hb1r : b1 ≠ br := (by have := E2.lt; have := F3.at'; omega); have h4r : b4 ≠ br := (by have := I2.lt; have := F3.at'; omega); clear F3 L2 E2 I2)
        | (go_at_call 19; refine (cA _ _ _ R3 L3 hne).mono ?_; rintro en W4 O4; obtain ⟨rfl, P4⟩ := O4.goes g1; have T4 := O4.tw; have E4 := E3.tw T4 hb1r hb1l; have I4 := I3.tw T4 h4r h4l; have B4 := T4.below B3 hr3 hl2 B3.size; clear cA O4 T4 E3 I3)
        | (go_at_call 8; refine (cI _ _ _ P4 I4 h4r h4l).mono ?_; rintro en W5 ⟨h5, _, T5⟩; obtain ⟨rfl, I5⟩ := h5 hw; have E5 := E4.th T5 hb1r hb1l (Ne.symm h41); have B5 := T5.below (below_lower B4 (show B ≤ _ by omega)) (by omega) (by omega) hB (by have := B4.size; omega); clear h5 cI)
        | (refine wpList_store1 rfl 25 _ _ rfl rfl .nilIface rfl E5 (by simp) (by kernel_rfl) rfl ?_; intro W6 U6 E6; have I6 := I5.upd U6 h41; have B6 := U6.trans B5 (by omega)))
      refine leaves_cons (f := 16) (args := #[.pointer (some ⟨b1, 0, none⟩)]) (by simp) (by simp [go_sem]) ?_
      refine (catch_idle _ _).mono ?_
      rintro e u' w' ⟨rfl, rfl, hw'⟩
      replace hw' := hw'.symm
      subst hw'
      have c0 := E6.cell 0
      simp at c0
      simp [Leaves, _root_.Go.settle, results, Try.results7, go_sem, c0]
      exact ⟨⟨fun _ => ⟨rfl, I6⟩, fun f hf => (by rw [hw] at hf; cases hf)⟩, B6⟩
    | some f =>
      go_enter_defers Try.func7, Try.ntmps7
      go_wp2_with (first
        | (refine wpList_allocE rfl rfl ?_; intro W1 b1 F1 E1; have B1 := F1.trans (Below.refl _ w) (Nat.le_refl _); have h1 : w.heap.size ≤ b1 := Nat.le_of_eq F1.at'.symm; have I1 := hI.fresh F1; have h41 : b4 ≠ b1 := (by have := hI.lt; have := F1.at'; omega); clear F1 hI)
        | (go_at_call 18; refine (cN _).mono ?_; rintro en W2 ⟨⟨bl, rfl, hbl, L2⟩, B2x⟩; have E2 := E1.grown B2x; have I2 := I1.grown B2x; have B2 := Below.then B1 B2x; have hl2 : w.heap.size ≤ bl := Nat.le_trans B1.size hbl; have hb1l : b1 ≠ bl := (by have := E1.lt; omega); have h4l : b4 ≠ bl := (by have := I1.lt; omega); clear cN B2x E1 I1)
        | (refine wpList_boxS rfl 42 _ rfl (rdrL bl noTok) rfl ?_; intro W3 br F3 R3; have L3 := L2.grown (F3.trans (Below.refl _ _) (Nat.le_refl _)); have E3 := E2.fresh F3; have I3 := I2.fresh F3; have B3 := F3.trans B2 B2.size; have hr3 : w.heap.size ≤ br := Nat.le_trans B2.size (Nat.le_of_eq F3.at'.symm); have hne : br ≠ bl := (by have := L2.lt; have := F3.at'; omega); have hb1r : b1 ≠ br := (by have := E2.lt; have := F3.at'; omega); have h4r : b4 ≠ br := (by have := I2.lt; have := F3.at'; omega); clear F3 L2 E2 I2)
        | (go_at_call 19; refine (cA _ _ _ R3 L3 hne).mono ?_; rintro en W4 O4; obtain ⟨rfl, P4⟩ := O4.goes g1; have T4 := O4.tw; have E4 := E3.tw T4 hb1r hb1l; have I4 := I3.tw T4 h4r h4l; have B4 := T4.below B3 hr3 hl2 B3.size; clear cA O4 T4 E3 I3)
        | (go_at_call 8; refine (cI _ _ _ P4 I4 h4r h4l).mono ?_; rintro en W5 ⟨_, h5, T5⟩; obtain ⟨bp, rfl, hb, hJ⟩ := h5 f hw; have E5 := E4.th T5 hb1r hb1l (Ne.symm h41); have B5 := T5.below (below_lower B4 (show B ≤ _ by omega)) (by omega) (by omega) hB (by have := B4.size; omega); have hs4 := B4.size; have hx : bp ≠ b1 := (by have := E4.lt; omega); clear h5 cI))
      refine leaves_cons (f := 16) (args := #[.pointer (some ⟨b1, 0, none⟩)]) (by simp) (by simp [go_sem]) ?_
      refine (catch_thrown b1 _ _ .nilIface rfl [] _ E5).mono ?_
      rintro e u' W9 ⟨rfl, rfl, E9, T9⟩
      have c0 := E9.cell 0
      simp at c0
      have J9 := hJ.turn T9 hx
      simp [Leaves, _root_.Go.settle, results, Try.results7, go_sem, c0]
      exact ⟨⟨fun h => (by rw [hw] at h; cases h), fun f' hf => (by rw [hw] at hf; cases hf; exact ⟨bp, rfl, by omega, J9⟩)⟩, T9.below B5 (by omega) (by have := B5.size; omega)⟩
  · have hw := whole_bad u1
    go_enter_defers Try.func7, Try.ntmps7
    go_wp2_with (first
      | (refine wpList_allocE rfl rfl ?_; intro W1 b1 F1 E1; have B1 := F1.trans (Below.refl _ w) (Nat.le_refl _); have h1 : w.heap.size ≤ b1 := Nat.le_of_eq F1.at'.symm; have I1 := hI.fresh F1; have h41 : b4 ≠ b1 := (by have := hI.lt; have := F1.at'; omega); clear F1 hI)
      | (go_at_call 18; refine (cN _).mono ?_; rintro en W2 ⟨⟨bl, rfl, hbl, L2⟩, B2x⟩; have E2 := E1.grown B2x; have I2 := I1.grown B2x; have B2 := Below.then B1 B2x; have hl2 : w.heap.size ≤ bl := Nat.le_trans B1.size hbl; have hb1l : b1 ≠ bl := (by have := E1.lt; omega); have h4l : b4 ≠ bl := (by have := I1.lt; omega); clear cN B2x E1 I1)
      | (refine wpList_boxS rfl 42 _ rfl (rdrL bl noTok) rfl ?_; intro W3 br F3 R3; have L3 := L2.grown (F3.trans (Below.refl _ _) (Nat.le_refl _)); have E3 := E2.fresh F3; have I3 := I2.fresh F3; have B3 := F3.trans B2 B2.size; have hr3 : w.heap.size ≤ br := Nat.le_trans B2.size (Nat.le_of_eq F3.at'.symm); have hne : br ≠ bl := (by have := L2.lt; have := F3.at'; omega); have hb1r : b1 ≠ br := (by have := E2.lt; have := F3.at'; omega); have h4r : b4 ≠ br := (by have := I2.lt; have := F3.at'; omega); clear F3 L2 E2 I2)
      | (go_at_call 19; refine (cA _ _ _ R3 L3 hne).mono ?_; rintro en W4 O4; have T4 := O4.tw; obtain ⟨bp, rfl, hb, hJ⟩ := O4.ups f u1; have E4 := E3.tw T4 hb1r hb1l; have B4 := T4.below B3 hr3 hl2 B3.size; have hs4 := B3.size; have hx : bp ≠ b1 := (by have := E3.lt; omega); clear cA O4 T4))
    refine leaves_cons (f := 16) (args := #[.pointer (some ⟨b1, 0, none⟩)]) (by simp) (by simp [go_sem]) ?_
    refine (catch_thrown b1 _ _ .nilIface rfl [] _ E4).mono ?_
    rintro e u' W9 ⟨rfl, rfl, E9, T9⟩
    have c0 := E9.cell 0
    simp at c0
    have J9 := hJ.turn T9 hx
    simp [Leaves, _root_.Go.settle, results, Try.results7, go_sem, c0]
    exact ⟨⟨fun h => (by rw [hw] at h; cases h), fun f' hf => (by rw [hw] at hf; cases hf; exact ⟨bp, rfl, by omega, J9⟩)⟩, below_lower (T9.below B4 h1 B4.size) (by omega)⟩
end
end Go.Proofs.Ytpbcngnginffgaa
/- Instruction. -/
namespace Go.Proofs.Ytpbcngnginffgaa
open Go.RowKit Go.Shelf M
set_option linter.unusedSimpArgs false
set_option linter.unusedVariables false

set_option maxRecDepth 100000 in
theorem ret_STv {w : World} {b t k : Nat} {cs : List Value} {fn : Func} {p : Tmp} {R : Ending → World → Prop} {a : Act} (h : fn.results = #[.cell p t, .tmp k]) (hp : a.tmps.getD p undef = .pointer (some ⟨b, 0, none⟩))
    (hd : a.defers = []) (hc : IsS w b t cs) (d : TypeDesc) (hu : Try.prog.underlying t = some d) (hr : (match d with | .struct _ => true | .array _ _ => true | _ => false) = true) (hi : (Try.prog.info? t).map (·.size) = some cs.length) (v : Value) (hv : a.tmps.getD k undef = v) (hR : R (.returned (.tuple #[.agg cs.toArray, v])) w) : bodyPost Try.prog fn R .ret a w := by
  have hc' : w.heap[b]? = some (.cells cs.toArray t (0, 0)) := hc
  have hp' : a.tmps[p]?.getD undef = .pointer (some ⟨b, 0, none⟩) := by simpa using hp
  have hv' : a.tmps[k]?.getD undef = v := by simpa using hv
  refine ⟨hd, .tuple #[.agg cs.toArray, v], ?_, hR⟩
  simp [results, h, hp', hv', asAddr, run_loadVar_row w b t t cs.toArray (0, 0) d hc' hu (by cases d <;> simp_all) (by simpa using hi)]
set_option maxRecDepth 100000 in
set_option maxHeartbeats 2000000 in
theorem instruction_long (s : ByteArray) (hsz : s.size < 4611686018427387904) (hl : 1048576 < s.data.toList.length) (w : World) :
    Calls Try.prog 4 #[.string s] w fun en w' => en = .returned (.tuple #[.agg (inL noIn).toArray, .iface 59 (.int .i64 1)]) ∧ Below w.heap.size w w' := by
  have hmf : ∀ (fn : Fn) (first cap : Array Value) (w : World), (Instr.makeFunc fn first cap).run Try.prog w = .ok (.func fn first cap) w := fun _ _ _ _ => rfl
  have cR := fun fv w => read_long s hsz hl fv 0 w (Nat.zero_le _)
  go_enter Try.func4, Try.ntmps4
  have tk : True := trivial
  go_wp2_with (first
    | (refine wpList_allocS rfl 23 rfl (inL noIn) Try.zeroValue23 ?_; clear tk; intro W1 b1 F1 N1; have B1 := F1.trans (Below.refl _ w) (Nat.le_refl _); have h1 : w.heap.size ≤ b1 := Nat.le_of_eq F1.at'.symm; clear F1)
    | (refine wpList_allocS rfl 23 rfl (inL noIn) Try.zeroValue23 ?_; intro W2 b2 F2 N2; have B2 := F2.trans B1 B1.size; have M1 := N1.fresh F2; clear F2 N1)
    | (go_at_call 7; refine (cR _ _).mono ?_; rintro en W3 ⟨rfl, B3x⟩; have M2 := M1.grown B3x; have B3 := Below.then B2 B3x; clear cR B3x M1)
    | (refine wpList_storeS rfl 23 _ _ rfl rfl (inL noIn) rfl M2 (by simp [inL, noIn]) infoI (in_one _) ?_; intro W4 U4 N4x; have N4 : IsS W4 b1 23 (inL noIn) := N4x; have B4 := U4.trans B3 h1))
  exact ret_STv (cs := inL noIn) rfl rfl rfl N4 _ Try.underlying23 rfl infoI _ rfl ⟨rfl, B4⟩
section
variable {D : TT} {s : ByteArray}
/-- What Instruction answers. -/
structure InP (D : TT) (w w' : World) (en : Ending) : Prop where
  good : (wholeR D).F = none → en = .returned (.tuple #[.agg (inL (instrT D ⟨0, none⟩)).toArray, .nilIface])
  bad : ∀ f, (wholeR D).F = some f → ∃ bp, en = .returned (.tuple #[.agg (inL noIn).toArray, .iface 60 (.pointer (some ⟨bp, 0, none⟩))]) ∧ w.heap.size ≤ bp ∧ IsS w' bp 62 (faultL f.1 f.2.1 f.2.2)
set_option maxRecDepth 100000 in
set_option maxHeartbeats 2000000 in
theorem instruction_any (hsz : s.size < 4611686018427387904) (hl : s.data.toList.length ≤ 1048576) (hR : Rest s.data.toList D.bad (.ok 0) D.T) (w : World) :
    Calls Try.prog 4 #[.string s] w fun en w' => InP D w w' en ∧ Below w.heap.size w w' := by
  have hmf : ∀ (fn : Fn) (first cap : Array Value) (w : World), (Instr.makeFunc fn first cap).run Try.prog w = .ok (.func fn first cap) w := fun _ _ _ _ => rfl
  have cR := fun b4 B w hI hB => read_any (D := D) (s := s) hsz hl hR b4 B w hI hB
  cases hw : (wholeR D).F with
  | none =>
    go_enter Try.func4, Try.ntmps4
    have tk : True := trivial
    go_wp2_with (first
      | (refine wpList_allocS rfl 23 rfl (inL noIn) Try.zeroValue23 ?_; clear tk; intro W1 b1 F1 N1; have B1 := F1.trans (Below.refl _ w) (Nat.le_refl _); have h1 : w.heap.size ≤ b1 := Nat.le_of_eq F1.at'.symm; clear F1)
      | (refine wpList_allocS rfl 23 rfl (inL noIn) Try.zeroValue23 ?_; intro W2 b2 F2 N2; have B2 := F2.trans B1 B1.size; have M1 := N1.fresh F2; have h12 : b1 < b2 := (by have := N1.lt; have := F2.at'; omega); clear F2 N1)
      | (go_at_call 7; refine (cR _ b2 _ N2 (Nat.le_refl _)).mono ?_; rintro en W3 ⟨⟨hg, _⟩, B3x⟩; obtain ⟨rfl, I3⟩ := hg hw; have M2 := M1.below B3x h12; have B3 : Below w.heap.size w W3 := B2.trans (below_lower B3x (by omega)); clear cR B3x M1 hg)
      | (refine wpList_loadP rfl 23 _ rfl rfl I3 5 (inL (instrT D ⟨0, none⟩)) rfl _ Try.underlying23 rfl infoI ?_)
      | (refine wpList_storeS rfl 23 _ _ rfl rfl (inL (instrT D ⟨0, none⟩)) rfl M2 (by simp [inL, noIn]) infoI (in_one _) ?_; intro W4 U4 N4x; have N4 : IsS W4 b1 23 (inL (instrT D ⟨0, none⟩)) := N4x; have B4 := U4.trans B3 h1))
    exact ret_STv (cs := inL (instrT D ⟨0, none⟩)) rfl rfl rfl N4 _ Try.underlying23 rfl infoI _ rfl ⟨⟨fun _ => rfl, fun f hf => (by rw [hw] at hf; cases hf)⟩, B4⟩
  | some f =>
    go_enter Try.func4, Try.ntmps4
    have tk : True := trivial
    go_wp2_with (first
      | (refine wpList_allocS rfl 23 rfl (inL noIn) Try.zeroValue23 ?_; clear tk; intro W1 b1 F1 N1; have B1 := F1.trans (Below.refl _ w) (Nat.le_refl _); have h1 : w.heap.size ≤ b1 := Nat.le_of_eq F1.at'.symm; clear F1)
      | (refine wpList_allocS rfl 23 rfl (inL noIn) Try.zeroValue23 ?_; intro W2 b2 F2 N2; have B2 := F2.trans B1 B1.size; have M1 := N1.fresh F2; have h12 : b1 < b2 := (by have := N1.lt; have := F2.at'; omega); clear F2 N1)
      | (go_at_call 7; refine (cR _ b2 _ N2 (Nat.le_refl _)).mono ?_; rintro en W3 ⟨⟨_, hg⟩, B3x⟩; obtain ⟨bp, rfl, hb, J3⟩ := hg f hw; have M2 := M1.below B3x h12; have B3 : Below w.heap.size w W3 := B2.trans (below_lower B3x (by omega)); have hx : bp ≠ b1 := (by have := N2.lt; omega); clear cR B3x M1 hg)
      | (refine wpList_storeS rfl 23 _ _ rfl rfl (inL noIn) rfl M2 (by simp [inL, noIn]) infoI (in_one _) ?_; intro W4 U4 N4x; have N4 : IsS W4 b1 23 (inL noIn) := N4x; have B4 := U4.trans B3 h1; have J4 := J3.upd U4 hx))
    exact ret_STv (cs := inL noIn) rfl rfl rfl N4 _ Try.underlying23 rfl infoI _ rfl ⟨⟨fun h => (by rw [hw] at h; cases h), fun f' hf => (by rw [hw] at hf; cases hf; exact ⟨bp, rfl, by have := B2.size; omega, J4⟩)⟩, B4⟩
end
end Go.Proofs.Ytpbcngnginffgaa

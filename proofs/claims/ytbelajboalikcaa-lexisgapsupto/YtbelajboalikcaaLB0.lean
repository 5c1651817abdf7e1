/- The law LexisBack, outcome by outcome. -/
import Derived.Test.YtbelajboalikcaaN3
namespace Go.Proofs.Ytbelajboalikcaa
open Go.RowKit Go.Shelf M
set_option linter.unusedSimpArgs false
set_option linter.unusedVariables false

theorem cell_grow {W W' : World} {b o : Nat} {v : Value} (h : W.cell? ⟨b, o, none⟩ = some v) (hB : Below W.heap.size W W') : W'.cell? ⟨b, o, none⟩ = some v :=
  (hB.cell (p := ⟨b, o, none⟩) (World.block_lt_of_cell? W _ h)).trans h
theorem wpG_cell {ops : Array Oper} {W : World} {Q : Act → Prop} {rest : List Oper} {op : Oper} {a : Act} {b o : Nat} (hw : Region.wanted op (yielded ops a.tmps) = true) (ty : TypeId) (x : Operand) (ho : op.op = .load ty x) (hx : a.eval x = .pointer (some ⟨b, o, none⟩)) {v : Value} (hc : W.cell? ⟨b, o, none⟩ = some v)
    (hl : ∀ w, w.cell? ⟨b, o, none⟩ = some v → (Instr.loadAt ty (.pointer (some ⟨b, o, none⟩))).run Try.prog w = .ok v w)
    (h : wpG Try.prog ops W Q rest (a.put op.dst v)) : wpG Try.prog ops W Q (op :: rest) a :=
  wpG_value hw (fun w hB => by
    unfold execOp
    simp only [ho, hx, Sem.run_bind, hl w (cell_grow hc hB), Result.andThen_ok, Sem.run_pure]) h
def AllOk (s : ByteArray) (G : List GT) : Prop := ∀ w, Calls Try.prog 10 #[.string s] w fun e w' => (∃ a c, e = .returned (.tuple #[.slice a G.length c, .nilIface]) ∧ Toks w' a G) ∧ Below w.heap.size w w'
def AllBad (s : ByteArray) : Prop := ∀ w, Calls Try.prog 10 #[.string s] w fun e w' => (∃ ty u, e = .returned (.tuple #[.slice none 0 0, .iface ty u])) ∧ Below w.heap.size w w'
def BareOk (G BB : List GT) : Prop := ∀ w a c, Toks w a G → Calls Try.prog 25 #[.slice a G.length c] w fun e w' => (∃ a' c', e = .returned (.slice a' BB.length c') ∧ Toks w' a' BB) ∧ Below w.heap.size w w'
def SameOk (BB : List GT) : Prop := ∀ w a b c d, Toks w a BB → Toks w b BB → Calls Try.prog 13 #[.slice a BB.length c, .slice b BB.length d] w fun e w' => e = .returned (.bool true) ∧ Below w.heap.size w w'
def WriteOk (G : List GT) (V : Value) : Prop := ∀ w a c, Toks w a G → Calls Try.prog 22 #[.slice a G.length c] w fun e w' => e = .returned V ∧ Below w.heap.size w w'
def OneOk (s : ByteArray) (g : GT) : Prop := ∃ (k v l1 c1 : Int) (tx : ByteArray) (p r : Nat), p < r ∧ r ≤ s.size ∧ g = ⟨k, tx, v, l1, c1, (p : Int), (r : Int)⟩ ∧ AllOk (s.extract p r) [⟨k, tx, v, 1, 1, 0, (r : Int) - p⟩]

set_option maxRecDepth 100000 in
set_option maxHeartbeats 8000000 in
theorem back_ne (a : Option Addr) (cap : Nat) (gs : List GT) (s : ByteArray) (hs : s.size < 2305843009213693952) (w : World) (hT : Toks w a gs) (hn : gs.length ≤ 1048576) (cW1 : Hid (WriteOk gs (.tuple #[.string ⟨#[]⟩, .int .i64 50]))) (cA2 : Hid (AllBad s)) :
    Calls Try.prog 7 #[.slice a gs.length cap, .string s] w fun e w' => e = .returned (.bool true) ∧ Below w.heap.size w w' := by
  have HT : Hid (Toks w a gs) := hT
  have hni : ¬ (1048576 : Int) < gs.length := by omega
  have hnd : decide ((1048576 : Int) < gs.length) = false := decide_eq_false hni
  have hnn : ¬ (1048576 < gs.length) := by omega
  have tA1 : True := trivial
  have tB1 : True := trivial
  have tW1 : True := trivial
  clear hT
  go_enter Try.func7, Try.ntmps7
  go_wp2_with (first
    | (go_at_call 24; refine (awake_any _).mono ?_; rintro e W1 ⟨rfl, B1⟩; have H1 : Hid (Below w.heap.size w W1) := B1; clear B1)
    | (go_at_call 22; clear tW1; refine (cW1.out _ _ _ (HT.out.below H1.out)).mono ?_; rintro e W2 ⟨rfl, B2⟩; have H2 : Hid (Below w.heap.size w W2) := H1.out.trans (B2.mono H1.out.size); clear B2 H1)
    | (go_at_call 10; refine (cA2.out _).mono ?_; rintro e W7 ⟨⟨ty, u, rfl⟩, B7⟩; have H7 : Hid (Below w.heap.size w W7) := H2.out.trans (B7.mono H2.out.size); clear B7))
  go_ret
  exact ⟨rfl, H7.out⟩

set_option maxRecDepth 100000 in
set_option maxHeartbeats 8000000 in
theorem back_be (a : Option Addr) (cap : Nat) (gs : List GT) (s : ByteArray) (hs : s.size < 2305843009213693952) (w : World) (hT : Toks w a gs) (hn : gs.length ≤ 1048576) (cW1 : Hid (WriteOk gs (.tuple #[.string ⟨#[]⟩, .int .i64 1]))) (cA2 : Hid (AllBad s)) :
    Calls Try.prog 7 #[.slice a gs.length cap, .string s] w fun e w' => e = .returned (.bool true) ∧ Below w.heap.size w w' := by
  have HT : Hid (Toks w a gs) := hT
  have hni : ¬ (1048576 : Int) < gs.length := by omega
  have hnd : decide ((1048576 : Int) < gs.length) = false := decide_eq_false hni
  have hnn : ¬ (1048576 < gs.length) := by omega
  have tA1 : True := trivial
  have tB1 : True := trivial
  have tW1 : True := trivial
  clear hT
  go_enter Try.func7, Try.ntmps7
  go_wp2_with (first
    | (go_at_call 24; refine (awake_any _).mono ?_; rintro e W1 ⟨rfl, B1⟩; have H1 : Hid (Below w.heap.size w W1) := B1; clear B1)
    | (go_at_call 22; clear tW1; refine (cW1.out _ _ _ (HT.out.below H1.out)).mono ?_; rintro e W2 ⟨rfl, B2⟩; have H2 : Hid (Below w.heap.size w W2) := H1.out.trans (B2.mono H1.out.size); clear B2 H1)
    | (go_at_call 10; refine (cA2.out _).mono ?_; rintro e W7 ⟨⟨ty, u, rfl⟩, B7⟩; have H7 : Hid (Below w.heap.size w W7) := H2.out.trans (B7.mono H2.out.size); clear B7))
  go_ret
  exact ⟨rfl, H7.out⟩

set_option maxRecDepth 100000 in
set_option maxHeartbeats 8000000 in
theorem back_se (a : Option Addr) (cap : Nat) (gs : List GT) (s : ByteArray) (hs : s.size < 2305843009213693952) (w : World) (hT : Toks w a gs) (hn : gs.length ≤ 1048576) (O1 : List UInt8) (G1 BB : List GT) (cA1 : Hid (AllOk ⟨O1.toArray⟩ G1)) (cB1 : Hid (BareOk G1 BB)) (cB0 : Hid (BareOk gs BB)) (cS1 : Hid (SameOk BB)) (cW1 : Hid (WriteOk gs (.tuple #[.string ⟨O1.toArray⟩, .int .i64 0]))) (cA2 : Hid (AllBad s)) :
    Calls Try.prog 7 #[.slice a gs.length cap, .string s] w fun e w' => e = .returned (.bool true) ∧ Below w.heap.size w w' := by
  have HT : Hid (Toks w a gs) := hT
  have hni : ¬ (1048576 : Int) < gs.length := by omega
  have hnd : decide ((1048576 : Int) < gs.length) = false := decide_eq_false hni
  have hnn : ¬ (1048576 < gs.length) := by omega
  have tA1 : True := trivial
  have tB1 : True := trivial
  have tW1 : True := trivial
  clear hT
  have tA2 : True := trivial
  have tS1 : True := trivial
  go_enter Try.func7, Try.ntmps7
  go_wp2_with (first
    | (go_at_call 24; refine (awake_any _).mono ?_; rintro e W1 ⟨rfl, B1⟩; have H1 : Hid (Below w.heap.size w W1) := B1; clear B1)
    | (go_at_call 22; clear tW1; refine (cW1.out _ _ _ (HT.out.below H1.out)).mono ?_; rintro e W2 ⟨rfl, B2⟩; have H2 : Hid (Below w.heap.size w W2) := H1.out.trans (B2.mono H1.out.size); clear B2 H1)
    | (go_at_call 10; clear tA1; refine (cA1.out _).mono ?_; rintro e W3 ⟨⟨a1, c1, rfl, T1⟩, B3⟩; have H3 : Hid (Below w.heap.size w W3) := H2.out.trans (B3.mono H2.out.size); have U1 : Hid (Toks W3 a1 G1) := T1; clear B3 T1)
    | (go_at_call 25; clear tB1; refine (cB1.out _ _ _ U1.out).mono ?_; rintro e W4 ⟨⟨a2, c2, rfl, T2⟩, B4⟩; have H4 : Hid (Below w.heap.size w W4) := H3.out.trans (B4.mono H3.out.size); have U2 : Hid (Toks W4 a2 BB) := T2; clear B4 T2)
    | (go_at_call 25; clear tA2; refine (cB0.out _ _ _ (HT.out.below H4.out)).mono ?_; rintro e W5 ⟨⟨a3, c3, rfl, T3⟩, B5⟩; have H5 : Hid (Below w.heap.size w W5) := H4.out.trans (B5.mono H4.out.size); have U3 : Hid (Toks W5 a3 BB) := T3; have U4 : Hid (Toks W5 a2 BB) := U2.out.below B5; clear B5 T3)
    | (go_at_call 13; clear tS1; refine (cS1.out _ _ _ _ _ U4.out U3.out).mono ?_; rintro e W6 ⟨rfl, B6⟩; have H6 : Hid (Below w.heap.size w W6) := H5.out.trans (B6.mono H5.out.size); clear B6 U1 U2 U3 U4)
    | (go_at_call 10; refine (cA2.out _).mono ?_; rintro e W7 ⟨⟨ty, u, rfl⟩, B7⟩; have H7 : Hid (Below w.heap.size w W7) := H6.out.trans (B7.mono H6.out.size); clear B7))
  go_ret
  exact ⟨rfl, H7.out⟩
end Go.Proofs.Ytbelajboalikcaa

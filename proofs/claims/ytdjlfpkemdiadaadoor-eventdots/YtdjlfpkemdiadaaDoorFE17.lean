/- The sets of events: Of, Memory, Locked, writes, of event and of the reference. -/
import Derived.Test.YtdjlfpkemdiadaaDoorFB17
namespace Go.Proofs.YtdjlfpkemdiadaaDoor
open Go.RowKit M
set_option linter.unusedSimpArgs false
set_option linter.unusedVariables false

/-- The events of a list of which something is so. -/
def setM (L : List EV) (p : EV → Bool) : Nat := maskN L.length (fun i => p (evA L i))
def kdB (k : Int) (e : EV) : Bool := decide (e.kind = k)
def mmB (e : EV) : Bool := wrB e || rdB e
theorem setM_lt {L : List EV} (h : L.length ≤ 64) (p : EV → Bool) : setM L p < 18446744073709551616 := maskN_lt64 _ h
theorem setM_or (L : List EV) (p q : EV → Bool) : setM L p ||| setM L q = setM L (fun e => p e || q e) := maskN_or _ _ _
theorem setM_and (L : List EV) (p q : EV → Bool) : setM L p &&& setM L q = setM L (fun e => p e && q e) := maskN_and _ _ _
theorem setM_wr (L : List EV) : setM L (kdB 1) ||| setM L (kdB 2) = setM L wrB := setM_or L _ _
theorem setM_mm (L : List EV) : setM L (kdB 3) ||| setM L wrB = setM L mmB := by
  rw [setM_or]; unfold setM; exact maskN_congr (fun b _ => Bool.or_comm _ _)
theorem setM_mm' (L : List EV) : setM L wrB ||| setM L (kdB 3) = setM L mmB := setM_or L _ _
section
variable {w : World} {l : List EV} {a : Option Addr} {c : Nat}
set_option maxHeartbeats 1000000 in
theorem of_x (k : Int) (hl : l.length ≤ 9223372036854775807) (hS : Seg w a (l.flatMap evL)) : Calls Tryd.prog 61 #[.slice a l.length c, .int .i64 k] w fun e w' => e = .returned (.int .u64 (setM (shL l) (kdB k) : Nat)) ∧ Below w.heap.size w w' := by
  have B1 : Below w.heap.size w (w.alloc (.cells #[.int .i64 k] 3)) := (Below.refl _ w).alloc (Nat.le_refl _) _
  have bK : (w.alloc (.cells #[.int .i64 k] 3)).cell? ⟨w.heap.size, 0, none⟩ = some (.int .i64 k) := (IsS.new w 3 [.int .i64 k]).cell 0
  have hC := thoseK_any l a c k w.heap.size (w.alloc (.cells #[.int .i64 k] 3)) hl (hS.below B1) (by simp) bK
  have HV : Hid (setM (shL l) (kdB k) = maskN (shL l).length (fun i => decide ((evA (shL l) i).kind = k))) := rfl
  have HC : Hid (∀ W, w.alloc (.cells #[.int .i64 k] 3) = W → Calls Tryd.prog 82 #[.slice a l.length c, .func (.func 83) #[] #[.pointer (some ⟨w.heap.size, 0, none⟩)]] W fun e w' => e = .returned (.int .u64 (setM (shL l) (kdB k) : Nat)) ∧ Below w.heap.size w w') := fun W h => by
    subst h
    exact hC.mono fun e w' ⟨h1, h2⟩ => ⟨h1, Below.then B1 h2⟩
  clear hC bK B1 hS HV
  generalize setM (shL l) (kdB k) = z at *
  generalize l.length = n at *
  go_enter Tryd.func61, Tryd.ntmps61
  go_wp2_with (go_at_call 82; refine (HC.out _ rfl).mono ?_; rintro e W2 ⟨rfl, B2⟩)
  go_ret
  exact ⟨rfl, B2⟩
set_option maxHeartbeats 1000000 in
theorem locked_x (hl : l.length ≤ 9223372036854775807) (hS : Seg w a (l.flatMap evL)) : Calls Tryd.prog 62 #[.slice a l.length c] w fun e w' => e = .returned (.int .u64 (setM (shL l) EV.lck : Nat)) ∧ Below w.heap.size w w' := by
  have HC : Hid (Calls Tryd.prog 82 #[.slice a l.length c, .func (.func 84) #[] #[]] w fun e w' => e = .returned (.int .u64 (setM (shL l) EV.lck : Nat)) ∧ Below w.heap.size w w') := thoseL_any l a c w hl hS
  clear hS
  generalize setM (shL l) EV.lck = z at *
  generalize l.length = n at *
  go_enter Tryd.func62, Tryd.ntmps62
  go_wp2_with (go_at_call 82; refine HC.out.mono ?_; rintro e W2 ⟨rfl, B2⟩)
  go_ret
  exact ⟨rfl, B2⟩
set_option maxHeartbeats 1000000 in
theorem writes_x (hl : l.length ≤ 9223372036854775807) (hS : Seg w a (l.flatMap evL)) : Calls Tryd.prog 63 #[.slice a l.length c] w fun e w' => e = .returned (.int .u64 (setM (shL l) wrB : Nat)) ∧ Below w.heap.size w w' := by
  have H1 : Hid (∀ W, Below w.heap.size w W → Calls Tryd.prog 61 #[.slice a l.length c, .int .i64 1] W fun e w' => e = .returned (.int .u64 (setM (shL l) (kdB 1) : Nat)) ∧ Below W.heap.size W w') := fun W hB => of_x 1 hl (hS.below hB)
  have H2 : Hid (∀ W, Below w.heap.size w W → Calls Tryd.prog 61 #[.slice a l.length c, .int .i64 2] W fun e w' => e = .returned (.int .u64 (setM (shL l) (kdB 2) : Nat)) ∧ Below W.heap.size W w') := fun W hB => of_x 2 hl (hS.below hB)
  have hor := u64_or_nat (setM (shL l) (kdB 1)) (setM (shL l) (kdB 2)) (setM_lt (shL_le l) _) (setM_lt (shL_le l) _)
  rw [setM_wr] at hor
  clear hS
  generalize setM (shL l) (kdB 1) = z1 at *
  generalize setM (shL l) (kdB 2) = z2 at *
  generalize setM (shL l) wrB = z at *
  generalize l.length = n at *
  have t1 : True := trivial
  have B0 := Below.refl w.heap.size w
  go_enter Tryd.func63, Tryd.ntmps63
  go_wp2_with (first
    | (go_at_call 61; clear t1; refine (H1.out _ B0).mono ?_; rintro e W2 ⟨rfl, B2⟩; replace B0 := Below.then B0 B2; clear B2)
    | (go_at_call 61; refine (H2.out _ B0).mono ?_; rintro e W3 ⟨rfl, B2⟩; replace B0 := Below.then B0 B2; clear B2))
  go_ret
  exact ⟨ret_int (by first | rfl | exact hor | (simp [hor]; done)), B0⟩
set_option maxHeartbeats 1000000 in
theorem memory_x (hl : l.length ≤ 9223372036854775807) (hS : Seg w a (l.flatMap evL)) : Calls Tryd.prog 43 #[.slice a l.length c] w fun e w' => e = .returned (.int .u64 (setM (shL l) mmB : Nat)) ∧ Below w.heap.size w w' := by
  have H1 : Hid (∀ W, Below w.heap.size w W → Calls Tryd.prog 61 #[.slice a l.length c, .int .i64 3] W fun e w' => e = .returned (.int .u64 (setM (shL l) (kdB 3) : Nat)) ∧ Below W.heap.size W w') := fun W hB => of_x 3 hl (hS.below hB)
  have H2 : Hid (∀ W, Below w.heap.size w W → Calls Tryd.prog 63 #[.slice a l.length c] W fun e w' => e = .returned (.int .u64 (setM (shL l) wrB : Nat)) ∧ Below W.heap.size W w') := fun W hB => writes_x hl (hS.below hB)
  have hor := u64_or_nat (setM (shL l) (kdB 3)) (setM (shL l) wrB) (setM_lt (shL_le l) _) (setM_lt (shL_le l) _)
  rw [setM_mm] at hor
  clear hS
  generalize setM (shL l) (kdB 3) = z1 at *
  generalize setM (shL l) wrB = z2 at *
  generalize setM (shL l) mmB = z at *
  generalize l.length = n at *
  have B0 := Below.refl w.heap.size w
  go_enter Tryd.func43, Tryd.ntmps43
  go_wp2_with (first
    | (go_at_call 61; refine (H1.out _ B0).mono ?_; rintro e W2 ⟨rfl, B2⟩; replace B0 := Below.then B0 B2; clear B2)
    | (go_at_call 63; refine (H2.out _ B0).mono ?_; rintro e W3 ⟨rfl, B2⟩; replace B0 := Below.then B0 B2; clear B2))
  go_ret
  exact ⟨ret_int (by first | rfl | exact hor | (simp [hor]; done)), B0⟩
end
/-- The reference's. -/
theorem ev_cell {w : World} {a : Option Addr} {l : List EV} (h : Seg w a (l.flatMap evL)) {i : Nat} {j : EV} (hj : l[i]? = some j) : ∃ b o, a = some ⟨b, o, none⟩ ∧ b < w.heap.size ∧ w.cell? ⟨b, o + i * 5, none⟩ = some (.int .i64 j.kind) ∧ w.cell? ⟨b, o + i * 5 + 4, none⟩ = some (.bool j.lck) := by
  obtain ⟨b, o, e, hb, hr⟩ := ev_range h hj
  exact ⟨b, o, e, hb, hr 0 _ rfl, hr 4 _ rfl⟩
end Go.Proofs.YtdjlfpkemdiadaaDoor

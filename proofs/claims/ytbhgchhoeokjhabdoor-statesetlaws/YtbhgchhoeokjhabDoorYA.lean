/- StateProjected: the law, as far as its first two loops; steps for rows of numbers. -/
import Derived.Test.YtbhgchhoeokjhabDoorWK
import Derived.Test.YtbhgchhoeokjhabDoorHP
import Derived.Test.YtbhgchhoeokjhabDoorA4
namespace Go.Proofs.YtbhgchhoeokjhabDoor
open Go Go.RowKit M
set_option linter.unusedSimpArgs false
set_option linter.unusedVariables false

section
variable {w : World} {ops : Array Oper} {rest : List Oper} {op : Oper} {a : Act} {Q : Exit → Act → World → Prop}
theorem wpList_build1I (hgd : op.guard = none) (x : Operand) (ho : op.op = .buildSlice 43 1 #[(0, x)]) (z : Int) (hx : a.eval x = .int .i64 z)
    (h : ∀ W b, Fresh w W b → IsS W b 3 [.int .i64 z] → wpList Tryd.prog ops Q rest (a.put op.dst (.slice (some ⟨b, 0, none⟩) 1 1)) W) : wpList Tryd.prog ops Q (op :: rest) a w := by
  refine wpList_plain hgd fun K hK => ?_
  unfold Oper.wp
  rw [exec_build1 eI3 x ho (.int .i64 z) hx rfl]
  exact hK _ _ (h _ _ (Fresh.alloc w _) (IsS.new w 3 [.int .i64 z]))
theorem row_one {W : World} {b : Nat} {z : Int} (I : IsS W b 3 [.int .i64 z]) : RowV W (.slice (some ⟨b, 0, none⟩) 1 1) 1 [.int .i64 z] :=
  ⟨some ⟨b, 0, none⟩, 1, rfl, fun j v hv => ⟨b, 0, rfl, I.lt, by rw [Nat.zero_add, I.cell]; exact hv⟩, fun e => by cases e⟩
/-- A row of numbers of one's own. -/
def OwnI (w : World) (B : Nat) (v : Value) (n : Nat) (l : List Int) : Prop := w.ownsRow B 3 1 v n (l.map (Value.int .i64)) ∧ l.length = n
theorem wpList_appI (hgd : op.guard = none) (s x : Operand) (ho : op.op = .call { callee := .builtin .append, args := #[s, x], argTypes := #[43, 43] })
    (B : Nat) (v : Value) (n : Nat) (l : List Int) (hs : a.eval s = v) (hown : OwnI w B v n l) (b : Nat) (z : Int) (hx : a.eval x = .slice (some ⟨b, 0, none⟩) 1 1) (I : IsS w b 3 [.int .i64 z]) (hn : n < 4194304) (hB : B ≤ w.heap.size)
    (h : ∀ v' w', OwnI w' B v' (n + 1) (l ++ [z]) → w.grownBy w' v.ownBlock → wpList Tryd.prog ops Q rest (a.put op.dst v') w') : wpList Tryd.prog ops Q (op :: rest) a w := by
  refine wpList_appM eI3 hgd s x ho B v n _ hs hown.1 _ 1 [.int .i64 z] hx (row_one I) rfl (by intro v hv; simp at hv; subst hv; rfl) (by omega) hB fun v' w' h1 h2 => h v' w' ⟨?_, by rw [List.length_append, hown.2]; rfl⟩ h2
  rw [List.map_append]
  exact h1
end
theorem OwnI.num {w : World} {B n : Nat} {v : Value} {l : List Int} (h : OwnI w B v n l) : ∃ a c, v = .slice a n c ∧ NumS w a l := by
  obtain ⟨a, c, e, s, _⟩ := own_row h.1
  exact ⟨a, c, e, s⟩
theorem OwnI.below {w W : World} {B n : Nat} {v : Value} {l : List Int} (h : OwnI w B v n l) (hB : Below w.heap.size w W) : OwnI W B v n l := ⟨own_belowW h.1 hB, h.2⟩
theorem num_any (e : Int) (w : World) : Calls Tryd.prog 13 #[.int .i64 e] w fun x w' => x = .returned (.int .i64 e) ∧ w' = w := by
  go_enter Tryd.func13, Tryd.ntmps13
  go_wp2
  go_ret
  exact ⟨rfl, rfl⟩
theorem own_slice {w : World} {B n : Nat} {v : Value} {l : List FS} (h : OwnL w B v l) (hn : l.length = n) : ∃ a c, v = .slice a n c ∧ Seg w a (flatF l) := by
  obtain ⟨a, c, e, s⟩ := own_seg h
  exact ⟨a, c, by rw [e, hn], s⟩
set_option maxRecDepth 100000 in
set_option maxHeartbeats 2000000 in
theorem projected_out (a a2 a3 : Option Addr) (cap n c2 n2 c3 n3 : Nat) (N : Int) (hl : n ≤ 4611686018427387903) (ho : 300 < n ∨ N < 0 ∨ 48 < N) (w : World) (hT : Tab10 w) :
    Calls Tryd.prog 5 #[.slice a n cap, .int .i64 N, .slice a2 n2 c2, .slice a3 n3 c3] w fun e w' => e = .returned (.bool true) ∧ Below w.heap.size w w' := by
  have kw := works_any w hT
  have hlI : (n : Int) ≤ 4611686018427387903 := by omega
  by_cases h1 : 300 < n
  · have h1I : (300 : Int) < (n : Int) := by omega
    clear ho
    go_enter Tryd.func5, Tryd.ntmps5
    go_wp2_with (first
      | (go_at_call 6; refine kw.mono ?_; rintro e w1 ⟨rfl, B1⟩))
    go_ret
    exact ⟨rfl, B1⟩
  · have h1I : ¬ ((300 : Int) < (n : Int)) := by omega
    by_cases h2 : N < 0
    · clear ho
      go_enter Tryd.func5, Tryd.ntmps5
      go_wp2_with (first
        | (go_at_call 6; refine kw.mono ?_; rintro e w1 ⟨rfl, B1⟩))
      go_ret
      exact ⟨rfl, B1⟩
    · have h3 : 48 < N := by omega
      clear ho
      go_enter Tryd.func5, Tryd.ntmps5
      go_wp2_with (first
        | (go_at_call 6; refine kw.mono ?_; rintro e w1 ⟨rfl, B1⟩))
      go_ret
      exact ⟨rfl, B1⟩
end Go.Proofs.YtbhgchhoeokjhabDoor

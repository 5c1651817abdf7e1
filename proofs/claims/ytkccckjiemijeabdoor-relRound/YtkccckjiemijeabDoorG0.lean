/- Orders that are laid greedily, in plain mathematics; a copy of a list. -/
import Derived.Test.YtkccckjiemijeabDoorE2
import Derived.Laws.AppendOwnNone
import Derived.Lib.SliceRun
import Derived.Lib.SmallJoins
namespace Go.Proofs.YtkccckjiemijeabDoor
open Go.RowKit Go.Shelf M Go.Joins
set_option linter.unusedSimpArgs false
set_option linter.unusedVariables false

/-- A set without a number. -/
def clr (s a : Nat) : Nat := s &&& (18446744073709551615 - 2 ^ a)
theorem clr_lt (s a : Nat) (hs : s < 18446744073709551616) : clr s a < 18446744073709551616 := Nat.lt_of_le_of_lt Nat.and_le_left hs
theorem clr_bit (s a i : Nat) (hs : s < 18446744073709551616) (ha : a < 64) : (clr s a).testBit i = (s.testBit i && decide (i ≠ a)) := by
  unfold clr
  rw [Nat.testBit_and]
  by_cases hi : i < 64
  · rw [testBit_not _ _ (pow_lt a ha) hi, Nat.testBit_two_pow]
    by_cases e : i = a
    · subst e; simp
    · have : ¬ a = i := fun h => e h.symm
      simp [e, this]
  · rw [testBit_high hs hi]; simp
theorem lst_clr (s a : Nat) (hs : s < 18446744073709551616) (ha : a < 64) : lst (clr s a) = (lst s).filter fun i => decide (i ≠ a) := by
  unfold lst
  rw [List.filter_filter]
  apply List.filter_congr
  intro i hi
  rw [clr_bit s a i hs ha, Bool.and_comm]
theorem lst_nodup (s : Nat) : (lst s).Nodup := List.Pairwise.filter _ List.nodup_range
theorem lst_clr_len (s a : Nat) (hs : s < 18446744073709551616) (ha : a < 64) (h : s.testBit a = true) : (lst (clr s a)).length + 1 = (lst s).length := by
  rw [lst_clr s a hs ha]
  have hm : a ∈ lst s := mem_lst.2 ⟨ha, h⟩
  have key : ∀ l : List Nat, l.Nodup → a ∈ l → (l.filter fun i => decide (i ≠ a)).length + 1 = l.length := by
    intro l
    induction l with
    | nil => intro _ h; cases h
    | cons x l ih =>
      intro hn hx
      rw [List.nodup_cons] at hn
      by_cases e : x = a
      · subst e
        have : (l.filter fun i => decide (i ≠ x)) = l := by
          rw [List.filter_eq_self]
          intro i hi
          have : i ≠ x := fun h => hn.1 (h ▸ hi)
          simpa using this
        rw [List.filter_cons_of_neg (by simp), this, List.length_cons]
      · have : a ∈ l := by
          rcases List.mem_cons.1 hx with h | h
          · exact absurd h.symm e
          · exact h
        have := ih hn.2 this
        simp [e]
        simpa using this
  exact key _ (lst_nodup s) hm

/-- May a number come first of a set? -/
def frees (G : Nat → Nat) (s a : Nat) : Bool := decide (G a &&& s = 0)
/-- The order that is laid by the least number that may come, again and again. -/
def grd (G : Nat → Nat) : Nat → Nat → List Nat
  | 0, _ => []
  | k + 1, s => match (lst s).find? (frees G s) with
    | some a => a :: grd G k (clr s a)
    | none => []
/-- In every part of a set some number may come. -/
def Goes (G : Nat → Nat) (s : Nat) : Prop := ∀ t, t < 18446744073709551616 → t ≠ 0 → (∀ i, t.testBit i = true → s.testBit i = true) → ∃ a, a < 64 ∧ t.testBit a = true ∧ frees G t a = true
theorem Goes.clr {G : Nat → Nat} {s : Nat} (h : Goes G s) (hs : s < 18446744073709551616) (a : Nat) (ha : a < 64) : Goes G (clr s a) := fun t ht h0 hsub => h t ht h0 (fun i hi => by
  have := hsub i hi
  rw [clr_bit s a i hs ha, Bool.and_eq_true] at this
  exact this.1)
theorem Goes.some {G : Nat → Nat} {s : Nat} (h : Goes G s) (hs : s < 18446744073709551616) (h0 : s ≠ 0) : ∃ a ∈ lst s, frees G s a = true := by
  obtain ⟨a, h1, h2, h3⟩ := h s hs h0 (fun _ h => h)
  exact ⟨a, mem_lst.2 ⟨h1, h2⟩, h3⟩
theorem grd_at (G : Nat → Nat) (k s a : Nat) (pre post : List Nat) (hl : lst s = pre ++ a :: post) (hp : ∀ p ∈ pre, frees G s p = false) (ha : frees G s a = true) : grd G (k + 1) s = a :: grd G k (clr s a) := by
  have : (lst s).find? (frees G s) = some a := by
    rw [hl, List.find?_append, List.find?_eq_none.2 (fun p hp' => by rw [hp p hp']; simp)]
    simp [ha]
  show (match (lst s).find? (frees G s) with
    | some a => a :: grd G k (clr s a)
    | none => []) = _
  rw [this]
theorem lst_empty {s : Nat} (hs : s < 18446744073709551616) (h : (lst s).length = 0) : s = 0 := by
  have : lst s = lst 0 := by rw [lst_zero]; exact List.length_eq_zero_iff.1 h
  exact eq_of_lst hs (by decide) this

/-- The cells of a list of numbers. -/
def encI (l : List Nat) : List Value := l.map fun n => Value.int .i64 (n : Nat)
theorem encI_len (l : List Nat) : (encI l).length = l.length := by simp [encI]
theorem encI_one (l : List Nat) : ∀ u ∈ encI l, u.oneCell' = true := by
  intro u hu
  simp only [encI, List.mem_map] at hu
  obtain ⟨n, _, rfl⟩ := hu
  rfl
theorem info3' : (Tryd.prog.info? 3).map (fun i => (i.zero, i.size, i.bytes)) = some (some (.int .i64 0), 1, 8) := by kernel_rfl

set_option maxRecDepth 100000 in
set_option maxHeartbeats 1000000 in
theorem clone_own (v : Value) (l : List Nat) (base : Nat) (w : World) (hown : w.ownsRow base 3 1 v l.length (encI l)) (hl : l.length ≤ 64) :
    Calls Tryd.prog 57 #[v] w fun e w' => ∃ v', e = .returned v' ∧ w'.ownsRow w.heap.size 3 1 v' l.length (encI l) ∧ Below w.heap.size w w' := by
  have q40 : ∀ (w : World) (a : Option Addr) (n c n' c' : Nat), (binOp .eql 40 (.slice a n c) (.slice none n' c')).run Tryd.prog w = .ok (.bool a.isNone) w := fun w a n c n' c' => Lib.run_eql_slice_nil w _ _ a n c n' c' Tryd.underlying40
  rcases hown.2 with ⟨rfl, h0⟩ | ⟨g, cap, cur, rfl, hb, hg, hrest⟩
  · obtain rfl := List.length_eq_zero_iff.1 h0
    go_enter Tryd.func57, Tryd.ntmps57
    go_wp2
    go_ret
    exact ⟨_, rfl, ⟨rfl, .inl ⟨rfl, rfl⟩⟩, Below.refl _ _⟩
  · obtain ⟨i0, hi, hz0, hz1, hz2⟩ := info_parts info3'
    have hown0 : (w.alloc (.cells #[] 3)).ownsRow w.heap.size 3 1 (.slice (some ⟨w.heap.size, 0, none⟩) 0 0) 0 [] := World.ownsRow_lit w #[] 0 (Nat.le_refl _) (by decide) rfl
    have hBw : Below w.heap.size w (w.alloc (.cells #[] 3)) := (Below.refl _ w).alloc (Nat.le_refl _) _
    have hnews : Hid (∀ j u, (encI l)[j]? = some u → (w.alloc (.cells #[] 3)).cell? ((⟨g, 0, none⟩ : Addr).add j) = some u) := fun j u hj => by
      have hlt := (List.getElem?_eq_some_iff.1 hj).1
      rw [encI_len] at hlt
      rw [Addr.add_mid, Nat.zero_add]
      exact (hBw.cell (p := ⟨g, j, none⟩) (Array.getElem?_eq_some_iff.1 hg).1).trans ((hown.cellAt j (by omega)).trans hj)
    clear hown hg hrest
    go_enter Tryd.func57, Tryd.ntmps57
    go_wp2_with (at_builtin; refine wpList_append_own _ rfl (.tmp 5) (.tmp 6) 40 rfl w.heap.size 3 i0 (.int .i64 0) 1 8 Tryd.underlying40 hi hz0 hz1 hz2 rfl (by decide) _ 0 [] rfl hown0 ⟨g, 0, none⟩ l.length cap (encI l) rfl (by rw [encI_len, Nat.mul_one]) hnews.out (encI_one _) (by unfold maxLen; omega) (by omega) (by simp) ?_; intro v1 wa own1 grow1 hif1; clear hif1; simp only [Nat.zero_add, List.nil_append] at own1; replace hBw := hBw.grown grow1 hBw.size (fun k e => by cases e; exact Nat.le_refl _); clear grow1 hnews hown0)
    go_ret
    exact ⟨_, rfl, own1, hBw⟩
end Go.Proofs.YtkccckjiemijeabDoor

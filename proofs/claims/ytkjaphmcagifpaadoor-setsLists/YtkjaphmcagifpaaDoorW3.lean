/- The reference's list, which is made in new memory, and the functions that ask it. -/
import Derived.Test.YtkjaphmcagifpaaDoorAt
import Derived.Lib.SmallJoins
namespace Go.Proofs.YtkjaphmcagifpaaDoor
open Go.RowKit M Go.Joins
set_option linter.unusedSimpArgs false
set_option linter.unusedVariables false

/-- The cells of a list of numbers. -/
def ints (l : List Nat) : List Value := l.map fun n : Nat => Value.int .i64 (n : Int)
theorem ints_len (l : List Nat) : (ints l).length = l.length := by simp [ints]
theorem ints_at (l : List Nat) (j : Nat) (h : j < l.length) : (ints l)[j]? = some (.int .i64 (l.getD j 0 : Nat)) := by simp [ints, h]

theorem info3 : (Tryd.prog.info? 3).map (fun i => (i.zero, i.size, i.bytes)) = some (some (.int .i64 0), 1, 8) := by kernel_rfl

theorem rlist_step {w wr w1 : World} {s k : Nat} {u v' : Value} {o : Obj} (hb : s.testBit k = true)
    (hown : wr.ownsRow w.heap.size 3 1 u (lstTo s k).length (ints (lstTo s k))) (hnx : Below w.heap.size w wr)
    (hown' : w1.ownsRow w.heap.size 3 1 v' ((lstTo s k).length + 1) (ints (lstTo s k) ++ [.int .i64 k])) (hgrow : (wr.alloc o).grownBy w1 u.ownBlock) :
    w1.ownsRow w.heap.size 3 1 v' (lstTo s (k + 1)).length (ints (lstTo s (k + 1))) ∧ Below w.heap.size w w1 := by
  have e : lstTo s (k + 1) = lstTo s k ++ [k] := by rw [lstTo_succ]; simp [hb]
  have hs := hnx.size
  refine ⟨by rw [e]; simpa [ints] using hown', (hnx.alloc hs o).grown hgrow (by simp; omega) (fun j hj => by have := (hown.lt j hj).1; omega)⟩

set_option maxRecDepth 1000000 in
set_option maxHeartbeats 800000 in
theorem rlist_any (s : Nat) (w : World) (hs : s < 18446744073709551616) :
    Calls Tryd.prog 28 #[.int .u64 s] w fun e w' => ∃ v, e = .returned v ∧ w'.ownsRow w.heap.size 3 1 v (lst s).length (ints (lst s)) ∧ Below w.heap.size w w' := by
  obtain ⟨i0, hi, hz0, hz1, hz2⟩ := info_parts info3
  go_enter Tryd.func28, Tryd.ntmps28
  go_wp2
  go_loopw [3, 4] (fun v i wr => ∃ k : Nat, k ≤ 64 ∧ i = .int .i64 k ∧ wr.ownsRow w.heap.size 3 1 v (lstTo s k).length (ints (lstTo s k)) ∧ Below w.heap.size w wr) (fun _ i _ => 64 - (intOf i).toNat)
  case atStart => exact ⟨0, by omega, rfl, World.ownsRow_nil _ _ _ _, Below.refl _ _⟩
  case round =>
    obtain ⟨k, hk, rfl, hown, hnx⟩ := hrel
    by_cases hlt : k < 64
    · have c := rhas_any s k wr hs
      rw [hasB_nat s k hlt] at c
      have hl := lstTo_le s k
      cases hb : s.testBit k
      · rw [hb] at c
        have e : lstTo s (k + 1) = lstTo s k := by rw [lstTo_succ]; simp [hb]
        have E : Hid (lstTo s (k + 1) = lstTo s k) := e
        clear e hb
        go_wp2_with (go_at_call 10; refine c.mono ?_; rintro e w' ⟨rfl, rfl⟩)
        go_roundw
        case rel => exact ⟨k + 1, by omega, by go_num, by rw [E.out]; exact hown, hnx⟩
        case measure => simp [intOf]; omega
      · rw [hb] at c
        have HB : Hid (s.testBit k = true) := hb
        clear hb
        go_wp2_with (first
          | (go_at_call 10; refine c.mono ?_; rintro e w' ⟨rfl, hw'⟩; replace hw' := hw'.symm; subst hw')
          | (at_builtin; refine wpList_append_own _ rfl _ _ 34 rfl w.heap.size 3 i0 (.int .i64 0) 1 8 Tryd.underlying34 hi hz0 hz1 hz2 rfl (by decide) _ _ _ rfl (hown.alloc _) ⟨wr.heap.size, 0, none⟩ 1 1 [.int .i64 (k : Int)] rfl rfl ?c1 ?c2 ?c3 ?c4 ?c5 ?_))
        case c1 =>
          intro j u hj
          match j, hj with
          | 0, hj => simp at hj; subst hj; simp [Addr.add]
        case c2 => intro u hu; simp at hu; subst hu; rfl
        case c3 => unfold maxLen; omega
        case c4 => omega
        case c5 => have := hnx.size; simp; omega
        · intro v' w1 hown' hgrow _
          have R := rlist_step HB.out hown hnx hown' hgrow
          clear hown' hgrow hown hnx c
          go_wp2
          go_roundw
          case rel => exact ⟨k + 1, by omega, by go_num, R.1, R.2⟩
          case measure => simp [intOf]; omega
    · obtain rfl : k = 64 := by omega
      go_wp2
      go_ret
      exact ⟨_, rfl, hown, hnx⟩

theorem owns_shape {w : World} {base n : Nat} {v : Value} {xs : List Value} (h : w.ownsRow base 3 1 v n xs) : ∃ a cap, v = .slice a n cap := by
  rcases ownsRow_forms h with ⟨rfl, rfl⟩ | ⟨g, cap, rfl⟩
  · exact ⟨_, _, rfl⟩
  · exact ⟨_, _, rfl⟩

/-- What a list of numbers in new memory is good for: its length, and each number's cell. -/
theorem owns_cells {w : World} {base : Nat} {v : Value} {l : List Nat} (h : w.ownsRow base 3 1 v l.length (ints l)) (hn : 0 < l.length) :
    ∃ g cap, v = .slice (some ⟨g, 0, none⟩) l.length cap ∧ ∀ j, j < l.length → w.cell? ⟨g, j, none⟩ = some (.int .i64 (l.getD j 0 : Nat)) := by
  obtain ⟨g, cap, rfl⟩ := ownsRow_form h hn
  exact ⟨g, cap, rfl, fun j hj => (h.cellAt j (by omega)).trans (ints_at l j hj)⟩

theorem rsize_any (s : Nat) (w : World) (hs : s < 18446744073709551616) :
    Calls Tryd.prog 16 #[.int .u64 s] w fun e w' => e = .returned (.int .i64 ((lst s).length : Nat)) ∧ Below w.heap.size w w' := by
  have hle := length_lst_le s
  have c := rlist_any s w hs
  generalize lst s = l at *
  go_enter Tryd.func16, Tryd.ntmps16
  go_wp2_with (go_at_call 28; refine c.mono ?_; rintro e w' ⟨v, rfl, hown, hb⟩; obtain ⟨a, cap, rfl⟩ := owns_shape hown)
  go_ret
  exact ⟨rfl, hb⟩

theorem rat_any (s : Nat) (k : Int) (w : World) (hs : s < 18446744073709551616) :
    Calls Tryd.prog 20 #[.int .u64 s, .int .i64 k] w fun e w' => e = .returned (.int .i64 (atN s k)) ∧ Below w.heap.size w w' := by
  have hle := length_lst_le s
  have c := rlist_any s w hs
  by_cases h0 : k < 0
  · have e : atN s k = -1 := by simp [atN, h0]
    rw [e]
    generalize lst s = l at *
    go_enter Tryd.func20, Tryd.ntmps20
    go_wp2_with (go_at_call 28; refine c.mono ?_; rintro e w' ⟨v, rfl, hown, hb⟩; obtain ⟨a, cap, rfl⟩ := owns_shape hown)
    go_ret
    exact ⟨rfl, hb⟩
  · by_cases h1 : ((lst s).length : Int) ≤ k
    · have e : atN s k = -1 := by simp [atN, h1]
      rw [e]
      clear e
      generalize lst s = l at *
      go_enter Tryd.func20, Tryd.ntmps20
      go_wp2_with (go_at_call 28; refine c.mono ?_; rintro e w' ⟨v, rfl, hown, hb⟩; obtain ⟨a, cap, rfl⟩ := owns_shape hown)
      go_ret
      exact ⟨rfl, hb⟩
    · have e : atN s k = ((lst s).getD k.toNat 0 : Nat) := by
        unfold atN; rw [if_neg (by omega)]
      rw [e]
      clear e
      obtain ⟨K, rfl⟩ := Int.eq_ofNat_of_zero_le (show 0 ≤ k by omega)
      have hK : K < (lst s).length := by omega
      generalize lst s = l at *
      go_enter Tryd.func20, Tryd.ntmps20
      go_wp2_with (go_at_call 28; refine c.mono ?_; rintro e w' ⟨v, rfl, hown, hb⟩; obtain ⟨g, cap, rfl, hc⟩ := owns_cells hown (by omega); have hcK := hc K hK)
      go_ret
      exact ⟨by first | rfl | simp [hK], hb⟩

theorem rnk_take (l : List Nat) (i : Int) (k : Nat) (h : k < l.length) :
    ((l.take (k + 1)).filter fun j : Nat => decide ((j : Int) < i)).length = ((l.take k).filter fun j : Nat => decide ((j : Int) < i)).length + if ((l.getD k 0 : Nat) : Int) < i then 1 else 0 := by
  rw [List.take_succ_eq_append_getElem h, List.filter_append, List.length_append]
  congr 1
  have e : l.getD k 0 = l[k] := by simp [h]
  rw [e]
  by_cases hlt : ((l[k] : Nat) : Int) < i <;> simp [hlt]


theorem owns_view {w : World} {base : Nat} {v : Value} {l : List Nat} (h : w.ownsRow base 3 1 v l.length (ints l)) :
    ∃ a cap, v = .slice a l.length cap ∧ Hid (∀ j, j < l.length → ∃ g, a = some ⟨g, 0, none⟩ ∧ w.cell? ⟨g, j, none⟩ = some (.int .i64 (l.getD j 0 : Nat))) := by
  by_cases hn : 0 < l.length
  · obtain ⟨g, cap, rfl, hc⟩ := owns_cells h hn
    exact ⟨_, cap, rfl, fun j hj => ⟨g, rfl, hc j hj⟩⟩
  · obtain ⟨a, cap, rfl⟩ := owns_shape h
    exact ⟨a, cap, rfl, fun j hj => by omega⟩

def rnkTo (l : List Nat) (i : Int) (k : Nat) : Nat := ((l.take k).filter fun j : Nat => decide ((j : Int) < i)).length
theorem rnkTo_le (l : List Nat) (i : Int) (k : Nat) : rnkTo l i k ≤ k := Nat.le_trans (List.length_filter_le _ _) (List.length_take_le _ _)
theorem rnkTo_all (l : List Nat) (i : Int) : rnkTo l i l.length = (l.filter fun j : Nat => decide ((j : Int) < i)).length := by simp [rnkTo]

theorem rrank_any (s : Nat) (i : Int) (w : World) (hs : s < 18446744073709551616) :
    Calls Tryd.prog 22 #[.int .u64 s, .int .i64 i] w fun e w' => e = .returned (.int .i64 (rnk s i : Nat)) ∧ Below w.heap.size w w' := by
  have hle := length_lst_le s
  have c := rlist_any s w hs
  unfold rnk
  generalize lst s = l at *
  go_enter Tryd.func22, Tryd.ntmps22
  go_wp2_with (go_at_call 28; refine c.mono ?_; rintro e w' ⟨v, rfl, hown, hb⟩; obtain ⟨a, cap, rfl, H⟩ := owns_view hown)
  clear c hown
  go_loop [6, 7] (fun n j => ∃ k : Nat, k ≤ l.length ∧ j = .int .i64 k ∧ n = .int .i64 (rnkTo l i k : Nat)) (fun _ j => l.length - (intOf j).toNat)
  case atStart => exact ⟨0, by omega, rfl, rfl⟩
  case round =>
    obtain ⟨k, hk, rfl, rfl⟩ := hrel
    have hr := rnkTo_le l i k
    by_cases hlt : k < l.length
    · obtain ⟨g, rfl, hc⟩ := H.out k hlt
      have R : Hid (rnkTo l i (k + 1) = rnkTo l i k + if ((l.getD k 0 : Nat) : Int) < i then 1 else 0) := rnk_take l i k hlt
      generalize l.getD k 0 = x at *
      clear H
      go_wp2
      all_goals
        go_round
        case rel => exact ⟨k + 1, by omega, by go_num, by rw [R.out]; first | (rw [if_pos (by assumption)]; go_num) | (rw [if_neg (by omega)]; go_num)⟩
        case measure => simp [intOf]; omega
    · obtain rfl : k = l.length := by omega
      go_wp2
      go_ret
      exact ⟨ret_int (by rw [← rnkTo_all]), hb⟩
end Go.Proofs.YtkjaphmcagifpaaDoor

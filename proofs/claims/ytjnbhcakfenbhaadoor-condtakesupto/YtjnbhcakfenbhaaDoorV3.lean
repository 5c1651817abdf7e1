/- thread: what a number's digits say as a thread. -/
import Derived.Test.YtjnbhcakfenbhaaDoorV2
namespace Go.Proofs.YtjnbhcakfenbhaaDoor
open Go.RowKit Go.Shelf M
set_option linter.unusedSimpArgs false
set_option linter.unusedVariables false

def thrV (g : GT) : Option Nat := if g.kind = 2 then thrF g.text.data.toList else none
def thrR : Option Nat → Value
  | some n => .tuple #[.int .i64 (n : Int), .bool true]
  | none => .tuple #[.int .i64 0, .bool false]
theorem wpList_convB {w : World} {ops : Array Oper} {rest : List Oper} {op : Oper} {a : Act} {Q : Exit → Act → World → Prop} (hgd : op.guard = none) (x : Operand) (ho : op.op = .convert 9 54 x) (s : ByteArray) (hx : a.eval x = .string s)
    (h : ∀ W b cap, Below w.heap.size w W → w.heap.size ≤ b → (∀ j (hj : j < s.size), W.cell? ⟨b, j, none⟩ = some (.int .u8 (s[j].toNat : Int))) → wpList Tryd.prog ops Q rest (a.put op.dst (.slice (some ⟨b, 0, none⟩) s.size cap)) W) : wpList Tryd.prog ops Q (op :: rest) a w := by
  refine wpList_plain hgd fun K hK => ?_
  unfold Oper.wp execOp
  have hr := run_bytes_of_string (P := Tryd.prog) w 9 54 5 s Tryd.underlying9 Tryd.underlying54 Tryd.underlying5
  simp only [ho, hx, Sem.run_bind, hr, Result.andThen_ok, Sem.run_pure]
  refine hK _ _ (h _ w.heap.size _ ?_ (Nat.le_refl _) ?_)
  · exact ((below_drew (Below.refl _ w)).alloc (Nat.le_refl _) _)
  · intro j hj
    have hb := heap_alloc_last w.drew (.cells (bytesRow s (grownCap w s.size 0 5)) 5 ((bytesRow s (grownCap w s.size 0 5)).size, (bytesRow s (grownCap w s.size 0 5)).size + 1))
    have e : w.drew.heap.size = w.heap.size := rfl
    rw [e] at hb
    rw [cell_of_row _ w.heap.size j _ 5 _ hb]
    unfold bytesRow
    rw [Array.getElem?_append_left (by simpa using hj), Array.getElem?_map, Array.getElem?_eq_getElem (by simpa using hj)]
    rfl
theorem digs_split : ∀ (l : List UInt8) (n : Nat), digs l n = match l with | [] => some n | c :: r => if 48 ≤ c.toNat ∧ c.toNat ≤ 57 then digs r (10 * n + (c.toNat - 48)) else none := fun l n => by cases l <;> rfl
theorem drop_cons_at (s : ByteArray) (j : Nat) (h : j < s.size) : s.data.toList.drop j = s[j] :: s.data.toList.drop (j + 1) := by
  rw [List.drop_eq_getElem_cons (by simpa using h)]; rfl
theorem ret_thr {r : Option Nat} {v : Value} (h : thrR r = v) : Ending.returned v = .returned (thrR r) := by rw [h]
set_option maxRecDepth 100000 in
set_option maxHeartbeats 2000000 in
theorem thread_any (g : GT) (hgs : g.text.size ≤ maxLen) (w : World) : Calls Tryd.prog 108 #[.agg (gtL g).toArray] w fun en w' => en = .returned (thrR (thrV g)) ∧ Below w.heap.size w w' := by
  obtain ⟨kd, tx, vl, ln, cl, pt, fn⟩ := g
  dsimp only at hgs
  unfold maxLen at hgs
  have hsz := sizeL tx
  by_cases hk : kd = 2
  · by_cases hl : 1 ≤ tx.size ∧ tx.size ≤ 4
    · have hk' : (kd != 2) = false := (by simp [hk])
      have hl1 : ¬ ((tx.size : Int) < 1) := by omega
      have hl2 : ¬ ((4 : Int) < tx.size) := by omega
      have hl4 := hl.2
      have HV : Hid (thrV ⟨kd, tx, vl, ln, cl, pt, fn⟩ = digs tx.data.toList 0) := (by
        show _ = _
        unfold thrV thrF
        rw [if_pos hk, if_neg (by rw [← hsz]; omega)])
      generalize thrV ⟨kd, tx, vl, ln, cl, pt, fn⟩ = R at *
      clear hk hsz hl
      go_enter Tryd.func108, Tryd.ntmps108
      go_wp2_with (first
        | (refine wpList_boxS rfl 37 _ rfl (gtL ⟨kd, tx, vl, ln, cl, pt, fn⟩) rfl ?_; intro W1 b1 F1 N1; have B1 := F1.trans (Below.refl _ w) (Nat.le_refl _); have c0 : W1.cell? ⟨b1, 0, none⟩ = some (.int .i64 kd) := N1.cell 0; have c1 : W1.cell? ⟨b1, 1, none⟩ = some (.string tx) := N1.cell 1; clear F1)
        | (refine wpList_convB rfl _ rfl tx rfl ?_; intro W2 b2 cap2 B2x h2 hc2; have B2 := Below.then B1 B2x; clear B2x c0 c1 N1 B1 h2))
      go_loop [4, 6, 26] (fun n _ i => ∃ j m : Nat, j ≤ tx.size ∧ m < 10 ^ j ∧ i = .int .i64 (j : Int) ∧ n = .int .i64 (m : Int) ∧ Hid (digs tx.data.toList 0 = digs (tx.data.toList.drop j) m)) (fun _ _ i => tx.size - (intOf i).toNat)
      case atStart => exact ⟨0, 0, Nat.zero_le _, by decide, rfl, rfl, rfl⟩
      case round =>
        obtain ⟨j, m, hj, hm, rfl, rfl, HD⟩ := hrel
        have hm2 : m < 10000 := Nat.lt_of_lt_of_le hm (by
          have : j ≤ 4 := by omega
          have := Nat.pow_le_pow_right (show 0 < 10 by decide) this
          simpa using this)
        by_cases hlt : j < tx.size
        · have hi : (j : Int) < tx.size := by omega
          have hcj := hc2 j hlt
          have hd := digs_split (tx.data.toList.drop j) m
          rw [drop_cons_at tx j hlt] at hd
          dsimp only at hd
          have hd2 := HD.out
          rw [drop_cons_at tx j hlt] at hd2
          rw [hd] at hd2
          by_cases hdg : 48 ≤ tx[j].toNat ∧ tx[j].toNat ≤ 57
          · rw [if_pos hdg] at hd2
            have HD2 : Hid (digs tx.data.toList 0 = digs (tx.data.toList.drop (j + 1)) (10 * m + (tx[j].toNat - 48))) := hd2
            have q1 : ¬ ((tx[j].toNat : Int) < 48) := by omega
            have q2 : ¬ ((57 : Int) < tx[j].toNat) := by omega
            have hm3 : 10 * m + (tx[j].toNat - 48) < 10 ^ (j + 1) := (by rw [Nat.pow_succ]; omega)
            have hz : (10 : Int) * m + ((tx[j].toNat : Int) - 48) = ((10 * m + (tx[j].toNat - 48) : Nat) : Int) := (by omega)
            have HZ : Hid ((10 : Int) * m + ((tx[j].toNat : Int) - 48) = ((10 * m + (tx[j].toNat - 48) : Nat) : Int)) := hz
            clear hd hd2 HD hz hm
            go_wp2_with fail
            refine ⟨⟨j + 1, 10 * m + (tx[j].toNat - 48), by omega, hm3, by go_num, by rw [HZ.out], HD2⟩, ?_⟩
            simp [intOf]; omega
          · rw [if_neg hdg] at hd2
            have HN : Hid (R = none) := (by show _ = _; rw [HV.out, hd2])
            clear hd hd2 HD HV
            have hq : ((tx[j].toNat : Int) < 48) ∨ (¬ ((tx[j].toNat : Int) < 48) ∧ (57 : Int) < tx[j].toNat) := by omega
            rcases hq with q1 | ⟨q1, q2⟩
            all_goals go_wp2_with fail
            all_goals go_ret2
            all_goals exact ⟨ret_thr (by rw [HN.out]; rfl), B2⟩
        · have hje : j = tx.size := by omega
          subst hje
          have HN : Hid (R = some m) := (by
            show _ = _
            rw [HV.out, HD.out, List.drop_eq_nil_of_le (by rw [← sizeL]; exact Nat.le_refl _)]
            rfl)
          clear HD HV hc2
          go_wp2_with fail
          go_ret2
          exact ⟨ret_thr (by rw [HN.out]; rfl), B2⟩
    · have hk' : (kd != 2) = false := (by simp [hk])
      have HN : Hid (thrV ⟨kd, tx, vl, ln, cl, pt, fn⟩ = none) := (by
        show _ = _
        unfold thrV thrF
        rw [if_pos hk, if_pos (by rw [← hsz]; omega)])
      generalize thrV ⟨kd, tx, vl, ln, cl, pt, fn⟩ = R at *
      clear hk hsz
      have hq : ((tx.size : Int) < 1) ∨ (¬ ((tx.size : Int) < 1) ∧ (4 : Int) < tx.size) := by omega
      clear hl
      rcases hq with q1 | ⟨q1, q2⟩
      all_goals
        go_enter Tryd.func108, Tryd.ntmps108
        go_wp2_with (first
          | (refine wpList_boxS rfl 37 _ rfl (gtL ⟨kd, tx, vl, ln, cl, pt, fn⟩) rfl ?_; intro W1 b1 F1 N1; have B1 := F1.trans (Below.refl _ w) (Nat.le_refl _); have c0 : W1.cell? ⟨b1, 0, none⟩ = some (.int .i64 kd) := N1.cell 0; have c1 : W1.cell? ⟨b1, 1, none⟩ = some (.string tx) := N1.cell 1; clear F1))
        go_ret2
        exact ⟨ret_thr (by rw [HN.out]; rfl), B1⟩
  · have hk' : (kd != 2) = true := (by simpa using hk)
    have HN : Hid (thrV ⟨kd, tx, vl, ln, cl, pt, fn⟩ = none) := if_neg hk
    generalize thrV ⟨kd, tx, vl, ln, cl, pt, fn⟩ = R at *
    clear hk
    go_enter Tryd.func108, Tryd.ntmps108
    go_wp2_with (first
      | (refine wpList_boxS rfl 37 _ rfl (gtL ⟨kd, tx, vl, ln, cl, pt, fn⟩) rfl ?_; intro W1 b1 F1 N1; have B1 := F1.trans (Below.refl _ w) (Nat.le_refl _); have c0 : W1.cell? ⟨b1, 0, none⟩ = some (.int .i64 kd) := N1.cell 0; have c1 : W1.cell? ⟨b1, 1, none⟩ = some (.string tx) := N1.cell 1; clear F1))
    go_ret2
    exact ⟨ret_thr (by rw [HN.out]; rfl), B1⟩
end Go.Proofs.YtjnbhcakfenbhaaDoor

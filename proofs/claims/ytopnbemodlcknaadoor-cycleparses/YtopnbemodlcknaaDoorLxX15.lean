/- fault, skip. -/
import Derived.Test.YtopnbemodlcknaaDoorLxX14
namespace Go.Proofs.YtopnbemodlcknaaDoor.Lx
open Go.RowKit M
set_option linter.unusedSimpArgs false
set_option linter.unusedVariables false

/-- A position's error, in memory. -/
def faultL (x y e : Nat) : List Value := [.int .i64 (x : Int), .int .i64 (y : Int), .iface 48 (.int .i64 (e : Int))]

set_option maxRecDepth 100000 in
set_option maxHeartbeats 1000000 in
theorem fault_any (s : ByteArray) (b p x y e : Nat) (w : World) (hL : IsS w b 78 (lexL s p (x, y) e)) :
    Calls Tryd.prog 27 #[.pointer (some ⟨b, 0, none⟩)] w fun en w' => (∃ g, en = .returned (.iface 47 (.pointer (some ⟨g, 0, none⟩))) ∧ w.heap.size ≤ g ∧ IsS w' g 50 (faultL x y e)) ∧ Below w.heap.size w w' := by
  go_enter Tryd.func27, Tryd.ntmps27
  go_wp2_with fail
  refine grow_tail 16 (by kernel_rfl) (by kernel_rfl) ?_
  simp only [List.take_succ_cons, List.take_zero, List.drop_succ_cons, List.drop_zero]
  refine wpG_put rfl (v := .pointer (some ⟨b, 0, none⟩)) (fun w => by first | rfl | (go_simp; done)) ?_
  refine wpG_put rfl (v := .pointer (some ⟨b, 0, none⟩)) (fun w => by first | rfl | (go_simp; done)) ?_
  refine wpG_put rfl (v := .pointer (some ⟨b, 2, none⟩)) (fun w => by first | rfl | (go_simp; done)) ?_
  simp only [Act.put, List.setIfInBounds_toArray, List.set_cons_succ, List.set_cons_zero]
  refine wpG_put rfl (v := .pointer (some ⟨b, 2, none⟩)) (fun w => by first | rfl | (go_simp; done)) ?_
  refine wpG_load1 rfl 3 _ rfl rfl hL (v := .int .i64 (x : Int)) rfl ld3 ?_
  simp only [Act.put, List.setIfInBounds_toArray, List.set_cons_succ, List.set_cons_zero]
  refine wpG_put rfl (v := .pointer (some ⟨b, 0, none⟩)) (fun w => by first | rfl | (go_simp; done)) ?_
  refine wpG_put rfl (v := .pointer (some ⟨b, 0, none⟩)) (fun w => by first | rfl | (go_simp; done)) ?_
  refine wpG_put rfl (v := .pointer (some ⟨b, 2, none⟩)) (fun w => by first | rfl | (go_simp; done)) ?_
  simp only [Act.put, List.setIfInBounds_toArray, List.set_cons_succ, List.set_cons_zero]
  refine wpG_put rfl (v := .pointer (some ⟨b, 3, none⟩)) (fun w => by first | rfl | (go_simp; done)) ?_
  refine wpG_load1 rfl 3 _ rfl rfl hL (v := .int .i64 (y : Int)) rfl ld3 ?_
  simp only [Act.put, List.setIfInBounds_toArray, List.set_cons_succ, List.set_cons_zero]
  refine wpG_put rfl (v := .pointer (some ⟨b, 0, none⟩)) (fun w => by first | rfl | (go_simp; done)) ?_
  refine wpG_put rfl (v := .pointer (some ⟨b, 0, none⟩)) (fun w => by first | rfl | (go_simp; done)) ?_
  refine wpG_put rfl (v := .pointer (some ⟨b, 4, none⟩)) (fun w => by first | rfl | (go_simp; done)) ?_
  simp only [Act.put, List.setIfInBounds_toArray, List.set_cons_succ, List.set_cons_zero]
  refine wpG_load1 rfl 48 _ rfl rfl hL (v := .int .i64 (e : Int)) rfl ldE ?_
  refine wpG_put rfl (v := .iface 48 (.int .i64 (e : Int))) (fun w => by first | rfl | (go_simp; done)) ?_
  simp only [Act.put, List.setIfInBounds_toArray, List.set_cons_succ, List.set_cons_zero]
  refine wpG_put rfl (v := .agg #[.int .i64 (x : Int), .int .i64 (y : Int), .iface 48 (.int .i64 (e : Int))]) (fun w => by first | rfl | (go_simp; done)) ?_
  simp only [Act.put, List.setIfInBounds_toArray, List.set_cons_succ, List.set_cons_zero]
  refine wpG_nil ?_
  intro W1 B1
  refine wpList_boxS rfl 50 _ rfl (faultL x y e) rfl ?_
  intro W2 b2 F2 N2
  have hb2 : w.heap.size ≤ b2 := Nat.le_trans B1.size (Nat.le_of_eq F2.at'.symm)
  have B2 := F2.trans B1 B1.size
  clear F2 B1 hL
  go_wp2_with fail
  go_ret
  exact ⟨⟨b2, rfl, hb2, N2⟩, B2⟩

theorem take_drop_add (l : List UInt8) (p n : Nat) : (l.take (p + n)).drop p = (l.drop p).take n := by
  rw [List.drop_take]; congr 1; omega
set_option maxRecDepth 100000 in
set_option maxHeartbeats 1000000 in
theorem skip_any (s : ByteArray) (hs : s.size < 2305843009213693952) (b p x y : Nat) (hp : p ≤ s.size) (hx : x < 2305843009213693952) (hy : y < 2305843009213693952) (w : World) (hL : IsS w b 78 (lexL s p (x, y) 0)) :
    Calls Tryd.prog 26 #[.pointer (some ⟨b, 0, none⟩)] w fun en w' => en = .returned (.tuple #[]) ∧ IsS w' b 78 (lexL s (p + (blkF (s.data.toList.drop p)).1) (spotF (x, y) ((s.data.toList.drop p).take (blkF (s.data.toList.drop p)).1)) (if (blkF (s.data.toList.drop p)).2 then 0 else 51)) ∧ Turn w w' b := by
  have cK := fun w => blanks_any (s.extract p s.size) (by rw [ByteArray.size_extract]; omega) w
  rw [exD] at cK
  have hle := blkF_le (s.data.toList.drop p)
  rw [List.length_drop, ← sizeL] at hle
  have hM := fun (w : World) (n : Nat) (hn : p + n ≤ s.size) (h : IsS w b 78 (lexL s p (x, y) 0)) => move_any s hs b p (p + n) x y 0 (by omega) hn hx hy w h
  simp only [take_drop_add] at hM
  obtain ⟨⟨n, cl⟩, hK⟩ : ∃ q, blkF (s.data.toList.drop p) = q := ⟨_, rfl⟩
  rw [hK] at cK hle ⊢
  dsimp only at hle ⊢
  have cK' : ∀ w, Calls Tryd.prog 35 #[.string (s.extract p s.size)] w fun e w' => e = .returned (.tuple #[.int .i64 (n : Int), .bool cl]) ∧ w' = w := cK
  have hM' := fun (w : World) (h : IsS w b 78 (lexL s p (x, y) 0)) => hM w n (by omega) h
  clear hK cK hM
  generalize spotF (x, y) ((s.data.toList.drop p).take n) = Z at *
  have h2 : (p : Int) ≤ s.size := by omega
  have HM : Hid (∀ w, IsS w b 78 (lexL s p (x, y) 0) → Calls Tryd.prog 29 #[.pointer (some ⟨b, 0, none⟩), .int .i64 ((p : Int) + n)] w fun en w' => en = .returned (.tuple #[]) ∧ IsS w' b 78 (lexL s (p + n) Z 0) ∧ Turn w w' b) := fun w h => by
    have := hM' w h
    rwa [Int.natCast_add] at this
  clear hM'
  go_enter Tryd.func26, Tryd.ntmps26
  go_wp2_with fail
  refine grow_all (by kernel_rfl) (by kernel_rfl) ?_
  try simp only [List.take_succ_cons, List.take_zero, List.drop_succ_cons, List.drop_zero]
  refine wpG_put rfl (v := .pointer (some ⟨b, 0, none⟩)) (fun w => by first | rfl | (go_simp; done)) ?_
  refine wpG_put rfl (v := .pointer (some ⟨b, 0, none⟩)) (fun w => by first | rfl | (go_simp; done)) ?_
  refine wpG_put rfl (v := .pointer (some ⟨b, 0, none⟩)) (fun w => by first | rfl | (go_simp; done)) ?_
  simp only [Act.put, List.setIfInBounds_toArray, List.set_cons_succ, List.set_cons_zero]
  refine wpG_load1 rfl 9 _ rfl rfl hL (v := .string s) rfl ld9 ?_
  refine wpG_put rfl (v := .pointer (some ⟨b, 0, none⟩)) (fun w => by first | rfl | (go_simp; done)) ?_
  refine wpG_put rfl (v := .pointer (some ⟨b, 0, none⟩)) (fun w => by first | rfl | (go_simp; done)) ?_
  simp only [Act.put, List.setIfInBounds_toArray, List.set_cons_succ, List.set_cons_zero]
  refine wpG_put rfl (v := .pointer (some ⟨b, 1, none⟩)) (fun w => by first | rfl | (go_simp; done)) ?_
  refine wpG_load1 rfl 3 _ rfl rfl hL (v := .int .i64 (p : Int)) rfl ld3 ?_
  simp only [Act.put, List.setIfInBounds_toArray, List.set_cons_succ, List.set_cons_zero]
  refine wpG_put rfl (v := .string (s.extract p s.size)) (fun w => by first | rfl | (go_simp; done)) ?_
  refine wpG_call rfl (fun w _ => (cK' w).mono (by rintro e w' ⟨rfl, rfl⟩; exact ⟨rfl, Below.refl _ _⟩)) (fun w => by first | rfl | (go_simp; done)) ?_
  simp only [Act.put, List.setIfInBounds_toArray, List.set_cons_succ, List.set_cons_zero]
  refine wpG_put rfl (v := .tuple #[.int .i64 (n : Int), .bool cl]) (fun w => by first | rfl | (go_simp; done)) ?_
  refine wpG_put rfl (v := .int .i64 (n : Int)) (fun w => by first | rfl | (go_simp; done)) ?_
  refine wpG_put rfl (v := .bool cl) (fun w => by first | rfl | (go_simp; done)) ?_
  simp only [Act.put, List.setIfInBounds_toArray, List.set_cons_succ, List.set_cons_zero]
  refine wpG_put rfl (v := .int .i64 (n : Int)) (fun w => by first | rfl | (go_simp; done)) ?_
  refine wpG_put rfl (v := .bool cl) (fun w => by first | rfl | (go_simp; done)) ?_
  simp only [Act.put, List.setIfInBounds_toArray, List.set_cons_succ, List.set_cons_zero]
  refine wpG_nil ?_
  intro W1 B1
  have N1 := hL.grown B1
  have T1 := Turn.of_below B1 b
  have c1 : W1.cell? ⟨b, 1, none⟩ = some (.int .i64 (p : Int)) := N1.cell 1
  clear cK' hL B1
  cases cl with
  | true =>
    go_wp2_with (first
      | (go_at_call 29; refine (HM.out _ N1).mono ?_; rintro en W2 ⟨rfl, N2, T2⟩; have T3 := T1.trans T2; clear T1 T2 c1 N1))
    exact ⟨rfl, .tuple #[], (by simp [results, Tryd.results26, go_sem]), rfl, N2, T3⟩
  | false =>
    go_wp2_with (first
      | (go_at_call 29; refine (HM.out _ N1).mono ?_; rintro en W2 ⟨rfl, N2, T2⟩; have T3 := T1.trans T2; clear T1 T2 c1 N1)
      | (refine wpList_store1 rfl 48 _ _ rfl rfl (.int .i64 51) rfl N2 (by simp [lexL]) infoE rfl ?_; intro W3 U3 N3; have T4 := T3.trans (Turn.of_upd U3); clear T3 U3 N2))
    exact ⟨rfl, .tuple #[], (by simp [results, Tryd.results26, go_sem]), rfl, N3, T4⟩
end Go.Proofs.YtopnbemodlcknaaDoor.Lx

/- The reader of a state's text: value, number. -/
import Derived.Test.YtegpnicajlndlaaCS6
import Derived.Test.YtegpnicajlndlaaQat
namespace Go.Proofs.Ytegpnicajlndlaa
open Go.RowKit M
set_option linter.unusedSimpArgs false
set_option linter.unusedVariables false

theorem isS_one {w W : World} {b k t t' : Nat} {cs cs' : List Value} (h : IsS w k t cs) (hr : IsS w b t' cs') (ht : t ≠ t') (O : One w W b) : IsS W k t cs := by
  have hne : k ≠ b := fun e => by subst e; exact ht (isS_ty h hr)
  exact (O.block k h.lt hne).trans h
theorem One.refl (w : World) (b : Nat) : One w w b := ⟨rfl, rfl, rfl, Nat.le_refl _, fun _ _ _ => rfl⟩
/-- A reader in memory. -/
def RdS (w : World) (b : Nat) (T : ByteArray) (r : RD) : Prop := IsS w b 152 [.string T, .int .i64 (r.at' : Int), .bool r.bad]
theorem info4 : (Try.prog.info? 4).map (·.size) = some 1 := by kernel_rfl
theorem info3x : (Try.prog.info? 3).map (·.size) = some 1 := by kernel_rfl
theorem valR_at {T : ByteArray} {r : RD} (h : r.at' ≤ T.size) : (valR T r).2.at' ≤ T.size := by
  unfold valR
  cases ht : takeA T (r.at' : Int) with
  | none => exact h
  | some p => obtain ⟨v, n⟩ := p; exact (takeA_cut ht).2.2.1
theorem numR_at {T : ByteArray} {r : RD} {lo hi : Int} (h : r.at' ≤ T.size) : (numR T lo hi r).2.at' ≤ T.size := by
  unfold numR
  split
  · exact valR_at h
  · exact valR_at h
set_option maxRecDepth 100000 in
set_option maxHeartbeats 4000000 in
theorem value_any (T : ByteArray) (hT : T.size ≤ 1099511627776) (r : RD) (hr : r.at' ≤ T.size) (b : Nat) (w : World) (hI0 : RdS w b T r) :
    Calls Try.prog 117 #[.pointer (some ⟨b, 0, none⟩)] w fun e w' => e = .returned (.int .i64 (valR T r).1) ∧ RdS w' b T (valR T r).2 ∧ One w w' b := by
  obtain ⟨p, q⟩ := r
  have hI : IsS w b 152 [.string T, .int .i64 (p : Int), .bool q] := hI0
  have hTk := fun W => (take_any T (p : Int) (by unfold maxLen; omega) W).mono (R' := fun e w' => e = .returned (takeV (takeA T (p : Int))) ∧ Below W.heap.size W w') fun e w' ⟨h1, h2⟩ => ⟨h1, by rw [h2]; exact Below.refl _ _⟩
  have hp : (p : Int) ≤ 1099511627776 := by have : p ≤ T.size := hr; omega
  have ta : True := trivial
  have tb : True := trivial
  cases ht : takeA T (p : Int) with
  | none =>
    have HV : Hid (valR T ⟨p, q⟩ = (0, ⟨p, true⟩)) := by show _ = _; unfold valR; simp only [ht]
    rw [ht] at hTk
    simp only [takeV] at hTk
    clear ht hI0 hr
    go_enter Try.func117, Try.ntmps117
    go_wp2_with fail
    refine grow_allW (by kernel_rfl) (by kernel_rfl) ?_
    refine WG.put rfl (v := (.pointer (some ⟨b, 0, none⟩))) (fun w => by first | rfl | (go_simp; done) | (simp [go_sem]; done) | (simp [execOp, go_sem]; done)) ?_
    simp only [Act.put, List.setIfInBounds_toArray, List.set_cons_succ, List.set_cons_zero]
    refine WG.put rfl (v := (.pointer (some ⟨b, 0, none⟩))) (fun w => by first | rfl | (go_simp; done) | (simp [go_sem]; done) | (simp [execOp, go_sem]; done)) ?_
    simp only [Act.put, List.setIfInBounds_toArray, List.set_cons_succ, List.set_cons_zero]
    refine WG.put rfl (v := (.pointer (some ⟨b, 0, none⟩))) (fun w => by first | rfl | (go_simp; done) | (simp [go_sem]; done) | (simp [execOp, go_sem]; done)) ?_
    simp only [Act.put, List.setIfInBounds_toArray, List.set_cons_succ, List.set_cons_zero]
    refine WG.load1 rfl 9 _ rfl rfl (hI) (v := (.string T)) rfl (fun w h => by simp [go_sem, h]) ?_
    simp only [Act.put, List.setIfInBounds_toArray, List.set_cons_succ, List.set_cons_zero]
    refine WG.put rfl (v := (.pointer (some ⟨b, 0, none⟩))) (fun w => by first | rfl | (go_simp; done) | (simp [go_sem]; done) | (simp [execOp, go_sem]; done)) ?_
    simp only [Act.put, List.setIfInBounds_toArray, List.set_cons_succ, List.set_cons_zero]
    refine WG.put rfl (v := (.pointer (some ⟨b, 0, none⟩))) (fun w => by first | rfl | (go_simp; done) | (simp [go_sem]; done) | (simp [execOp, go_sem]; done)) ?_
    simp only [Act.put, List.setIfInBounds_toArray, List.set_cons_succ, List.set_cons_zero]
    refine WG.put rfl (v := (.pointer (some ⟨b, 1, none⟩))) (fun w => by first | rfl | (go_simp; done) | (simp [go_sem]; done) | (simp [execOp, go_sem]; done)) ?_
    simp only [Act.put, List.setIfInBounds_toArray, List.set_cons_succ, List.set_cons_zero]
    refine WG.load1 rfl 3 _ rfl rfl (hI) (v := (.int .i64 (p : Int))) rfl (fun w h => by simp [go_sem, h]) ?_
    simp only [Act.put, List.setIfInBounds_toArray, List.set_cons_succ, List.set_cons_zero]
    refine WG.call rfl (f := 128) (v := (.tuple #[.int .i64 0, .int .i64 ((0 : Nat) : Int), .int .i64 40])) (fun W _ => hTk W) (fun w => by first | rfl | (go_simp; done) | (simp [execOp, go_sem]; done)) ?_
    simp only [Act.put, List.setIfInBounds_toArray, List.set_cons_succ, List.set_cons_zero]
    refine WG.put rfl (v := (.tuple #[.int .i64 0, .int .i64 ((0 : Nat) : Int), .int .i64 40])) (fun w => by first | rfl | (go_simp; done) | (simp [go_sem]; done) | (simp [execOp, go_sem]; done)) ?_
    simp only [Act.put, List.setIfInBounds_toArray, List.set_cons_succ, List.set_cons_zero]
    refine WG.put rfl (v := (.int .i64 0)) (fun w => by first | rfl | (go_simp; done) | (simp [go_sem]; done) | (simp [execOp, go_sem]; done)) ?_
    simp only [Act.put, List.setIfInBounds_toArray, List.set_cons_succ, List.set_cons_zero]
    refine WG.put rfl (v := (.int .i64 ((0 : Nat) : Int))) (fun w => by first | rfl | (go_simp; done) | (simp [go_sem]; done) | (simp [execOp, go_sem]; done)) ?_
    simp only [Act.put, List.setIfInBounds_toArray, List.set_cons_succ, List.set_cons_zero]
    refine WG.put rfl (v := (.int .i64 40)) (fun w => by first | rfl | (go_simp; done) | (simp [go_sem]; done) | (simp [execOp, go_sem]; done)) ?_
    simp only [Act.put, List.setIfInBounds_toArray, List.set_cons_succ, List.set_cons_zero]
    refine WG.put rfl (v := (.int .i64 0)) (fun w => by first | rfl | (go_simp; done) | (simp [go_sem]; done) | (simp [execOp, go_sem]; done)) ?_
    simp only [Act.put, List.setIfInBounds_toArray, List.set_cons_succ, List.set_cons_zero]
    refine WG.put rfl (v := (.int .i64 ((0 : Nat) : Int))) (fun w => by first | rfl | (go_simp; done) | (simp [go_sem]; done) | (simp [execOp, go_sem]; done)) ?_
    simp only [Act.put, List.setIfInBounds_toArray, List.set_cons_succ, List.set_cons_zero]
    refine WG.put rfl (v := (.int .i64 40)) (fun w => by first | rfl | (go_simp; done) | (simp [go_sem]; done) | (simp [execOp, go_sem]; done)) ?_
    simp only [Act.put, List.setIfInBounds_toArray, List.set_cons_succ, List.set_cons_zero]
    refine WG.nil ?_
    intro W1 B1
    have I1 := hI.grown B1
    go_wp2_with (first
      | (clear ta; refine wpList_store1 rfl 4 _ _ rfl rfl (.bool true) rfl I1 (by simp) info4 rfl ?_; intro W2 U2 I2x; have I2 : IsS W2 b 152 [.string T, .int .i64 (p : Int), .bool true] := I2x; obtain ⟨y0, y1, y2⟩ := three_cells I2; clear I2x)
      | (clear tb; refine wpList_store1 rfl 3 _ _ rfl rfl (.int .i64 (p : Int)) rfl I2 (by simp) info3x rfl ?_; intro W3 U3 I3x; have I3 : IsS W3 b 152 [.string T, .int .i64 (p : Int), .bool true] := I3x; clear I3x))
    go_ret
    rw [HV.out]
    exact ⟨rfl, I3, One.trans (One.of_below B1 b) ((One.of_upd U2).trans (One.of_upd U3))⟩
  | some t =>
    obtain ⟨v, m⟩ := t
    have hm := (takeA_cut ht).2.2.1
    have hmI : (p : Int) + (m : Int) ≤ 1099511627776 := by omega
    have HV : Hid (valR T ⟨p, q⟩ = (v, ⟨p + m, q⟩)) := by show _ = _; unfold valR; simp only [ht]
    rw [ht] at hTk
    simp only [takeV] at hTk
    clear ht hI0 hr hm
    go_enter Try.func117, Try.ntmps117
    go_wp2_with fail
    refine grow_allW (by kernel_rfl) (by kernel_rfl) ?_
    refine WG.put rfl (v := (.pointer (some ⟨b, 0, none⟩))) (fun w => by first | rfl | (go_simp; done) | (simp [go_sem]; done) | (simp [execOp, go_sem]; done)) ?_
    simp only [Act.put, List.setIfInBounds_toArray, List.set_cons_succ, List.set_cons_zero]
    refine WG.put rfl (v := (.pointer (some ⟨b, 0, none⟩))) (fun w => by first | rfl | (go_simp; done) | (simp [go_sem]; done) | (simp [execOp, go_sem]; done)) ?_
    simp only [Act.put, List.setIfInBounds_toArray, List.set_cons_succ, List.set_cons_zero]
    refine WG.put rfl (v := (.pointer (some ⟨b, 0, none⟩))) (fun w => by first | rfl | (go_simp; done) | (simp [go_sem]; done) | (simp [execOp, go_sem]; done)) ?_
    simp only [Act.put, List.setIfInBounds_toArray, List.set_cons_succ, List.set_cons_zero]
    refine WG.load1 rfl 9 _ rfl rfl (hI) (v := (.string T)) rfl (fun w h => by simp [go_sem, h]) ?_
    simp only [Act.put, List.setIfInBounds_toArray, List.set_cons_succ, List.set_cons_zero]
    refine WG.put rfl (v := (.pointer (some ⟨b, 0, none⟩))) (fun w => by first | rfl | (go_simp; done) | (simp [go_sem]; done) | (simp [execOp, go_sem]; done)) ?_
    simp only [Act.put, List.setIfInBounds_toArray, List.set_cons_succ, List.set_cons_zero]
    refine WG.put rfl (v := (.pointer (some ⟨b, 0, none⟩))) (fun w => by first | rfl | (go_simp; done) | (simp [go_sem]; done) | (simp [execOp, go_sem]; done)) ?_
    simp only [Act.put, List.setIfInBounds_toArray, List.set_cons_succ, List.set_cons_zero]
    refine WG.put rfl (v := (.pointer (some ⟨b, 1, none⟩))) (fun w => by first | rfl | (go_simp; done) | (simp [go_sem]; done) | (simp [execOp, go_sem]; done)) ?_
    simp only [Act.put, List.setIfInBounds_toArray, List.set_cons_succ, List.set_cons_zero]
    refine WG.load1 rfl 3 _ rfl rfl (hI) (v := (.int .i64 (p : Int))) rfl (fun w h => by simp [go_sem, h]) ?_
    simp only [Act.put, List.setIfInBounds_toArray, List.set_cons_succ, List.set_cons_zero]
    refine WG.call rfl (f := 128) (v := (.tuple #[.int .i64 v, .int .i64 (m : Int), .int .i64 0])) (fun W _ => hTk W) (fun w => by first | rfl | (go_simp; done) | (simp [execOp, go_sem]; done)) ?_
    simp only [Act.put, List.setIfInBounds_toArray, List.set_cons_succ, List.set_cons_zero]
    refine WG.put rfl (v := (.tuple #[.int .i64 v, .int .i64 (m : Int), .int .i64 0])) (fun w => by first | rfl | (go_simp; done) | (simp [go_sem]; done) | (simp [execOp, go_sem]; done)) ?_
    simp only [Act.put, List.setIfInBounds_toArray, List.set_cons_succ, List.set_cons_zero]
    refine WG.put rfl (v := (.int .i64 v)) (fun w => by first | rfl | (go_simp; done) | (simp [go_sem]; done) | (simp [execOp, go_sem]; done)) ?_
    simp only [Act.put, List.setIfInBounds_toArray, List.set_cons_succ, List.set_cons_zero]
    refine WG.put rfl (v := (.int .i64 (m : Int))) (fun w => by first | rfl | (go_simp; done) | (simp [go_sem]; done) | (simp [execOp, go_sem]; done)) ?_
    simp only [Act.put, List.setIfInBounds_toArray, List.set_cons_succ, List.set_cons_zero]
    refine WG.put rfl (v := (.int .i64 0)) (fun w => by first | rfl | (go_simp; done) | (simp [go_sem]; done) | (simp [execOp, go_sem]; done)) ?_
    simp only [Act.put, List.setIfInBounds_toArray, List.set_cons_succ, List.set_cons_zero]
    refine WG.put rfl (v := (.int .i64 v)) (fun w => by first | rfl | (go_simp; done) | (simp [go_sem]; done) | (simp [execOp, go_sem]; done)) ?_
    simp only [Act.put, List.setIfInBounds_toArray, List.set_cons_succ, List.set_cons_zero]
    refine WG.put rfl (v := (.int .i64 (m : Int))) (fun w => by first | rfl | (go_simp; done) | (simp [go_sem]; done) | (simp [execOp, go_sem]; done)) ?_
    simp only [Act.put, List.setIfInBounds_toArray, List.set_cons_succ, List.set_cons_zero]
    refine WG.put rfl (v := (.int .i64 0)) (fun w => by first | rfl | (go_simp; done) | (simp [go_sem]; done) | (simp [execOp, go_sem]; done)) ?_
    simp only [Act.put, List.setIfInBounds_toArray, List.set_cons_succ, List.set_cons_zero]
    refine WG.nil ?_
    intro W1 B1
    have I1 := hI.grown B1
    obtain ⟨y0, y1, y2⟩ := three_cells I1
    go_wp2_with (first
      | (clear tb; refine wpList_store1 rfl 3 _ _ rfl rfl (.int .i64 ((p : Int) + (m : Int))) rfl I1 (by simp) info3x rfl ?_; intro W3 U3 I3x; have I3 : IsS W3 b 152 [.string T, .int .i64 ((p : Int) + (m : Int)), .bool q] := I3x; clear I3x))
    go_ret
    rw [HV.out]
    exact ⟨rfl, (by show IsS _ _ _ _; rw [show ((p + m : Nat) : Int) = (p : Int) + (m : Int) by omega]; exact I3), One.trans (One.of_below B1 b) (One.of_upd U3)⟩
set_option maxRecDepth 100000 in
set_option maxHeartbeats 4000000 in
theorem rnum_any (T : ByteArray) (hT : T.size ≤ 1099511627776) (r : RD) (hr : r.at' ≤ T.size) (lo hi : Int) (b : Nat) (w : World) (hI0 : RdS w b T r) :
    Calls Try.prog 93 #[.pointer (some ⟨b, 0, none⟩), .int .i64 lo, .int .i64 hi] w fun e w' => e = .returned (.int .i64 (numR T lo hi r).1) ∧ RdS w' b T (numR T lo hi r).2 ∧ One w w' b := by
  have hval := value_any T hT r hr b w hI0
  obtain ⟨v, hv⟩ : ∃ v, v = (valR T r).1 := ⟨_, rfl⟩
  obtain ⟨q, hq⟩ : ∃ v, v = (valR T r).2 := ⟨_, rfl⟩
  by_cases hok : lo ≤ v ∧ v ≤ hi
  · have HV : Hid (numR T lo hi r = (v, q)) := by show _ = _; unfold numR; rw [← hv, if_pos hok, hv, hq]
    rw [← hv, ← hq] at hval
    have hw := fun W => within64_any v lo hi W
    rw [decide_eq_true hok] at hw
    clear hv hq
    go_enter Try.func93, Try.ntmps93
    go_wp2_with (first
      | (go_at_call 117; refine hval.mono ?_; rintro e W1 ⟨rfl, I1, O1⟩)
      | (go_at_call 118; refine (hw _).mono ?_; rintro e w' ⟨rfl, hw'⟩; replace hw' := hw'.symm; subst hw'))
    go_ret
    rw [HV.out]
    exact ⟨rfl, I1, O1⟩
  · have HV : Hid (numR T lo hi r = (0, ⟨q.at', true⟩)) := by show _ = _; unfold numR; rw [← hv, if_neg hok, hq]
    rw [← hv, ← hq] at hval
    have hw := fun W => within64_any v lo hi W
    rw [decide_eq_false hok] at hw
    clear hv hq hok
    go_enter Try.func93, Try.ntmps93
    go_wp2_with (first
      | (go_at_call 117; refine hval.mono ?_; rintro e W1 ⟨rfl, I1, O1⟩; have I1' : IsS W1 b 152 [.string T, .int .i64 (q.at' : Int), .bool q.bad] := I1)
      | (go_at_call 118; refine (hw _).mono ?_; rintro e w' ⟨rfl, hw'⟩; replace hw' := hw'.symm; subst hw')
      | (refine wpList_store1 rfl 4 _ _ rfl rfl (.bool true) rfl I1' (by simp) info4 rfl ?_; intro W2 U2 I2x; have I2 : IsS W2 b 152 [.string T, .int .i64 (q.at' : Int), .bool true] := I2x))
    go_ret
    rw [HV.out]
    exact ⟨rfl, I2, O1.trans (One.of_upd U2)⟩
end Go.Proofs.Ytegpnicajlndlaa

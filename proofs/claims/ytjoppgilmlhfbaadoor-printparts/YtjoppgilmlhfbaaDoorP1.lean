/- References and settings: whether they can be written, and their texts; both sides. -/
import Derived.Test.YtjoppgilmlhfbaaDoorPL
namespace Go.Proofs.YtjoppgilmlhfbaaDoor
open Go.RowKit M
set_option linter.unusedSimpArgs false
set_option linter.unusedVariables false

def rfL (th : Int) (nm : ByteArray) : List Value := [.int .i64 th, .string nm]
def refOk (th : Int) (nm : ByteArray) : Bool := decide (-1 ≤ th ∧ th ≤ 9999 ∧ nameB nm.data.toList = true)
def refS (th : Int) (nm : ByteArray) : ByteArray := if th = -1 then nm else (txB th ++ ⟨#[58]⟩) ++ nm
theorem infoRf : (Tryd.prog.info? 23).map (·.size) = some 2 := by kernel_rfl
theorem name_len {s : ByteArray} (h : nameB s.data.toList = true) : s.size ≤ 64 := by
  have := of_decide_eq_true h
  rw [sizeL]; exact this.2.1
set_option maxRecDepth 100000 in
set_option maxHeartbeats 1000000 in
theorem wref_any (th : Int) (nm : ByteArray) (hs : nm.size ≤ maxLen) (w : World) : Calls Tryd.prog 11 #[.agg (rfL th nm).toArray] w fun e w' => e = .returned (.bool (refOk th nm)) ∧ Below w.heap.size w w' := by
  have cN := fun w => name_any nm hs w
  have HF : Hid (refOk th nm = decide (-1 ≤ th ∧ th ≤ 9999 ∧ nameB nm.data.toList = true)) := (by show _ = _; rfl)
  generalize refOk th nm = V at *
  clear hs
  generalize nameB nm.data.toList = q at *
  dsimp only [rfL]
  go_enter Tryd.func11, Tryd.ntmps11
  go_wp2_with (first
    | (refine wpList_boxS rfl 23 _ rfl (rfL th nm) rfl ?_; intro W1 b1 F1 N1; have B1 := F1.trans (Below.refl _ w) (Nat.le_refl _); have c0 : W1.cell? ⟨b1, 0, none⟩ = some (.int .i64 th) := N1.cell 0; have c1 : W1.cell? ⟨b1, 1, none⟩ = some (.string nm) := N1.cell 1; clear F1)
    | (go_at_call 19; refine (cN _).mono ?_; rintro e w' ⟨rfl, hw'⟩; replace hw' := hw'.symm; subst hw'))
  all_goals go_ret
  all_goals refine ⟨ret_bool ?_, B1⟩
  all_goals (rw [HF.out, Bool.eq_iff_iff]; first | (simp; omega) | (simp [*]; done))
set_option maxRecDepth 100000 in
set_option maxHeartbeats 1000000 in
theorem rref_any (th : Int) (nm : ByteArray) (hs : nm.size ≤ maxLen) (w : World) : Calls Tryd.prog 13 #[.agg (rfL th nm).toArray] w fun e w' => e = .returned (.bool (refOk th nm)) ∧ Below w.heap.size w w' := by
  have cN := fun w => rName_any nm hs w
  have HF : Hid (refOk th nm = decide (-1 ≤ th ∧ th ≤ 9999 ∧ nameB nm.data.toList = true)) := (by show _ = _; rfl)
  generalize refOk th nm = V at *
  clear hs
  generalize nameB nm.data.toList = q at *
  dsimp only [rfL]
  go_enter Tryd.func13, Tryd.ntmps13
  go_wp2_with (first
    | (refine wpList_boxS rfl 23 _ rfl (rfL th nm) rfl ?_; intro W1 b1 F1 N1; have B1 := F1.trans (Below.refl _ w) (Nat.le_refl _); have c0 : W1.cell? ⟨b1, 0, none⟩ = some (.int .i64 th) := N1.cell 0; have c1 : W1.cell? ⟨b1, 1, none⟩ = some (.string nm) := N1.cell 1; clear F1)
    | (go_at_call 21; refine (cN _).mono ?_; rintro e w' ⟨rfl, hw'⟩; replace hw' := hw'.symm; subst hw'))
  all_goals go_ret
  all_goals refine ⟨ret_bool ?_, B1⟩
  all_goals (rw [HF.out, Bool.eq_iff_iff]; first | (simp; omega) | (simp [*]; done))
theorem refOk_get {th : Int} {nm : ByteArray} (h : refOk th nm = true) : -1 ≤ th ∧ th ≤ 9999 ∧ nm.size ≤ 64 := by
  have := of_decide_eq_true h
  exact ⟨this.1, this.2.1, name_len this.2.2⟩
theorem sz1 (c : UInt8) : (ByteArray.mk #[c]).size = 1 := rfl
theorem refS_len {th : Int} {nm : ByteArray} (h0 : -1 ≤ th) (h1 : th ≤ 9999) (h2 : nm.size ≤ 64) : (refS th nm).size ≤ 85 := by
  unfold refS
  split
  · omega
  · have := tx_len th (by omega) (by omega)
    simp only [ByteArray.size_append, sz1]
    omega
theorem emptyS : (ByteArray.mk #[]).size = 0 := rfl
set_option maxRecDepth 100000 in
set_option maxHeartbeats 1000000 in
theorem reft_any (th : Int) (nm : ByteArray) (h0 : -1 ≤ th) (h1 : th ≤ 9999) (h2 : nm.size ≤ 64) (w : World) (hT : Tab10 w) : Calls Tryd.prog 12 #[.agg (rfL th nm).toArray] w fun e w' => e = .returned (.string (refS th nm)) ∧ Below w.heap.size w w' := by
  by_cases hm : th = -1
  · subst hm
    dsimp only [rfL]
    go_enter Tryd.func12, Tryd.ntmps12
    go_wp2_with (refine wpList_boxS rfl 23 _ rfl (rfL (-1) nm) rfl ?_; intro W1 b1 F1 N1; have B1 := F1.trans (Below.refl _ w) (Nat.le_refl _); have c0 : W1.cell? ⟨b1, 0, none⟩ = some (.int .i64 (-1)) := N1.cell 0; have c1 : W1.cell? ⟨b1, 1, none⟩ = some (.string nm) := N1.cell 1; clear F1)
    go_ret
    exact ⟨rfl, B1⟩
  · have hq : (th == -1) = false := by simpa using hm
    have ht := tx_len th (by omega) (by omega)
    have hS : Hid (refS th nm = (txB th ++ ⟨#[58]⟩) ++ nm) := (by show refS _ _ = _; unfold refS; rw [if_neg hm])
    have a1 := sadd (txB th) ⟨#[58]⟩ (by rw [sz1]; omega)
    have a2 := sadd (txB th ++ ⟨#[58]⟩) nm (by simp only [ByteArray.size_append, sz1]; omega)
    have cI : ∀ W, Below w.heap.size w W → Calls Tryd.prog 20 #[.int .i64 th] W fun e w' => e = .returned (.string (txB th)) ∧ Below W.heap.size W w' := fun W hB => itoa_any th (by omega) (by omega) W (hT.below hB)
    clear ht hm hT
    dsimp only [rfL]
    go_enter Tryd.func12, Tryd.ntmps12
    go_wp2_with (refine wpList_boxS rfl 23 _ rfl (rfL th nm) rfl ?_; intro W1 b1 F1 N1; have B1 := F1.trans (Below.refl _ w) (Nat.le_refl _); have c0 : W1.cell? ⟨b1, 0, none⟩ = some (.int .i64 th) := N1.cell 0; have c1 : W1.cell? ⟨b1, 1, none⟩ = some (.string nm) := N1.cell 1; clear F1)
    refine grow_all (by kernel_rfl) (by kernel_rfl) ?_
    refine wpG_put rfl (v := .pointer (some ⟨b1, 0, none⟩)) (fun w => by first | rfl | (simp [execOp, go_sem]; done) | (go_simp; done)) ?_
    simp only [Act.put, List.setIfInBounds_toArray, List.set_cons_succ, List.set_cons_zero]
    refine wpG_load1 rfl 3 _ rfl rfl N1 (v := .int .i64 th) rfl (fun w h => ld3 w h) ?_
    simp only [Act.put, List.setIfInBounds_toArray, List.set_cons_succ, List.set_cons_zero]
    refine wpG_call rfl (f := 20) (args := #[.int .i64 th]) (v := .string (txB th)) (fun W hW => cI W (Below.then B1 hW)) (fun w => by first | rfl | (go_simp; done)) ?_
    simp only [Act.put, List.setIfInBounds_toArray, List.set_cons_succ, List.set_cons_zero]
    refine wpG_put rfl (v := .string (txB th ++ ⟨#[58]⟩)) (fun w => by simp [execOp, go_sem, a1 w]) ?_
    simp only [Act.put, List.setIfInBounds_toArray, List.set_cons_succ, List.set_cons_zero]
    refine wpG_put rfl (v := .pointer (some ⟨b1, 1, none⟩)) (fun w => by first | rfl | (simp [execOp, go_sem]; done) | (go_simp; done)) ?_
    simp only [Act.put, List.setIfInBounds_toArray, List.set_cons_succ, List.set_cons_zero]
    refine wpG_load1 rfl 9 _ rfl rfl N1 (v := .string nm) rfl (fun w h => ld9 w h) ?_
    simp only [Act.put, List.setIfInBounds_toArray, List.set_cons_succ, List.set_cons_zero]
    refine wpG_put rfl (v := .string ((txB th ++ ⟨#[58]⟩) ++ nm)) (fun w => by simp [execOp, go_sem, a2 w]) ?_
    simp only [Act.put, List.setIfInBounds_toArray, List.set_cons_succ, List.set_cons_zero]
    refine wpG_put rfl (v := .string ((txB th ++ ⟨#[58]⟩) ++ nm)) (fun w => by first | rfl | (simp [execOp, go_sem]; done) | (go_simp; done)) ?_
    simp only [Act.put, List.setIfInBounds_toArray, List.set_cons_succ, List.set_cons_zero]
    refine wpG_nil ?_
    intro W2 hW2
    have B2 := Below.then B1 hW2
    clear a1 a2 cI N1 hW2 c0 c1
    go_wp2_with fail
    go_ret
    exact ⟨by rw [hS.out]; rfl, B2⟩
set_option maxRecDepth 100000 in
set_option maxHeartbeats 1000000 in
theorem pRef_any (th : Int) (nm : ByteArray) (hs : nm.size ≤ maxLen) (w : World) (hT : Tab10 w) : Calls Tryd.prog 4 #[.agg (rfL th nm).toArray] w fun e w' => e = .returned (if refOk th nm = true then .tuple #[.string (refS th nm), .int .i64 0] else .tuple #[.string ⟨#[]⟩, .int .i64 80]) ∧ Below w.heap.size w w' := by
  have cW := fun w => wref_any th nm hs w
  by_cases hq : refOk th nm = true
  · obtain ⟨h0, h1, h2⟩ := refOk_get hq
    have cT : ∀ W, Below w.heap.size w W → Calls Tryd.prog 12 #[.agg (rfL th nm).toArray] W fun e w' => e = .returned (.string (refS th nm)) ∧ Below W.heap.size W w' := fun W hB => reft_any th nm h0 h1 h2 W (hT.below hB)
    rw [if_pos hq]
    simp only [hq] at cW
    clear hq h0 h1 h2 hs hT
    generalize refS th nm = S at *
    dsimp only [rfL] at *
    go_enter Tryd.func4, Tryd.ntmps4
    go_wp2_with (first
      | (refine wpList_boxS rfl 23 _ rfl (rfL th nm) rfl ?_; intro W1 b1 F1 N1; have B1 := F1.trans (Below.refl _ w) (Nat.le_refl _); have c0 : W1.cell? ⟨b1, 0, none⟩ = some (.int .i64 th) := N1.cell 0; have c1 : W1.cell? ⟨b1, 1, none⟩ = some (.string nm) := N1.cell 1; clear F1)
      | (refine wpList_loadP rfl 23 _ rfl rfl N1 2 (rfL th nm) rfl _ Tryd.underlying23 rfl infoRf ?_; dsimp only [rfL])
      | (go_at_call 11; refine (cW _).mono ?_; rintro e W2 ⟨rfl, B2x⟩; have N2 := N1.grown B2x; have B2 := Below.then B1 B2x; clear cW B2x)
      | (refine wpList_loadP rfl 23 _ rfl rfl N2 2 (rfL th nm) rfl _ Tryd.underlying23 rfl infoRf ?_; dsimp only [rfL])
      | (go_at_call 12; refine (cT _ B2).mono ?_; rintro e W3 ⟨rfl, B3x⟩; have B3 := Below.then B2 B3x; clear cT B3x))
    go_ret2
    exact ⟨rfl, B3⟩
  · have hf : refOk th nm = false := by simpa using hq
    rw [if_neg hq]
    simp only [hf] at cW
    clear hq hf hs hT
    dsimp only [rfL] at *
    go_enter Tryd.func4, Tryd.ntmps4
    go_wp2_with (first
      | (refine wpList_boxS rfl 23 _ rfl (rfL th nm) rfl ?_; intro W1 b1 F1 N1; have B1 := F1.trans (Below.refl _ w) (Nat.le_refl _); have c0 : W1.cell? ⟨b1, 0, none⟩ = some (.int .i64 th) := N1.cell 0; have c1 : W1.cell? ⟨b1, 1, none⟩ = some (.string nm) := N1.cell 1; clear F1)
      | (refine wpList_loadP rfl 23 _ rfl rfl N1 2 (rfL th nm) rfl _ Tryd.underlying23 rfl infoRf ?_; dsimp only [rfL])
      | (go_at_call 11; refine (cW _).mono ?_; rintro e W2 ⟨rfl, B2x⟩; have B2 := Below.then B1 B2x; clear cW B2x))
    go_ret2
    exact ⟨rfl, B2⟩
set_option maxRecDepth 100000 in
set_option maxHeartbeats 1000000 in
theorem rRef_any (th : Int) (nm : ByteArray) (hs : nm.size ≤ maxLen) (w : World) : Calls Tryd.prog 5 #[.agg (rfL th nm).toArray] w fun e w' => e = .returned (if refOk th nm = true then .tuple #[.string (refS th nm), .int .i64 0] else .tuple #[.string ⟨#[]⟩, .int .i64 80]) ∧ Below w.heap.size w w' := by
  have cW := fun w => rref_any th nm hs w
  by_cases hq : refOk th nm = true
  · obtain ⟨h0, h1, h2⟩ := refOk_get hq
    rw [if_pos hq]
    simp only [hq] at cW
    by_cases hm : th = -1
    · subst hm
      have hS : Hid (refS (-1) nm = nm) := (by show refS _ _ = _; rfl)
      clear hq h0 h1 h2 hs
      dsimp only [rfL] at *
      go_enter Tryd.func5, Tryd.ntmps5
      go_wp2_with (first
        | (refine wpList_boxS rfl 23 _ rfl (rfL (-1) nm) rfl ?_; intro W1 b1 F1 N1; have B1 := F1.trans (Below.refl _ w) (Nat.le_refl _); have c0 : W1.cell? ⟨b1, 0, none⟩ = some (.int .i64 (-1)) := N1.cell 0; have c1 : W1.cell? ⟨b1, 1, none⟩ = some (.string nm) := N1.cell 1; clear F1)
        | (refine wpList_loadP rfl 23 _ rfl rfl N1 2 (rfL (-1) nm) rfl _ Tryd.underlying23 rfl infoRf ?_; dsimp only [rfL])
        | (go_at_call 13; refine (cW _).mono ?_; rintro e W2 ⟨rfl, B2x⟩; have N2 := N1.grown B2x; have B2 := Below.then B1 B2x; have d0 : W2.cell? ⟨b1, 0, none⟩ = some (.int .i64 (-1)) := N2.cell 0; have d1 : W2.cell? ⟨b1, 1, none⟩ = some (.string nm) := N2.cell 1; clear cW B2x))
      go_ret2
      exact ⟨by rw [hS.out]; rfl, B2⟩
    · have hm' : (th == -1) = false := by simpa using hm
      have ht := tx_len th (by omega) (by omega)
      have hS : Hid (refS th nm = (txB th ++ ⟨#[58]⟩) ++ nm) := (by show refS _ _ = _; unfold refS; rw [if_neg hm])
      have a1 := sadd (txB th) ⟨#[58]⟩ (by rw [sz1]; omega)
      have a2 := sadd (txB th ++ ⟨#[58]⟩) nm (by simp only [ByteArray.size_append, sz1]; omega)
      have cI : ∀ W, Calls Tryd.prog 14 #[.int .i64 th] W fun e w' => e = .returned (.string (txB th)) ∧ Below W.heap.size W w' := fun W => rtext_any th (by omega) (by omega) W
      clear ht hm hq h0 h1 h2 hs
      dsimp only [rfL] at *
      go_enter Tryd.func5, Tryd.ntmps5
      go_wp2_with (first
        | (refine wpList_boxS rfl 23 _ rfl (rfL th nm) rfl ?_; intro W1 b1 F1 N1; have B1 := F1.trans (Below.refl _ w) (Nat.le_refl _); have c0 : W1.cell? ⟨b1, 0, none⟩ = some (.int .i64 th) := N1.cell 0; have c1 : W1.cell? ⟨b1, 1, none⟩ = some (.string nm) := N1.cell 1; clear F1)
        | (refine wpList_loadP rfl 23 _ rfl rfl N1 2 (rfL th nm) rfl _ Tryd.underlying23 rfl infoRf ?_; dsimp only [rfL])
        | (go_at_call 13; refine (cW _).mono ?_; rintro e W2 ⟨rfl, B2x⟩; have N2 := N1.grown B2x; have B2 := Below.then B1 B2x; have d0 : W2.cell? ⟨b1, 0, none⟩ = some (.int .i64 th) := N2.cell 0; clear cW B2x))
      refine grow_all (by kernel_rfl) (by kernel_rfl) ?_
      refine wpG_put rfl (v := .pointer (some ⟨b1, 0, none⟩)) (fun w => by first | rfl | (simp [execOp, go_sem]; done) | (go_simp; done)) ?_
      simp only [Act.put, List.setIfInBounds_toArray, List.set_cons_succ, List.set_cons_zero]
      refine wpG_load1 rfl 3 _ rfl rfl N2 (v := .int .i64 th) rfl (fun w h => ld3 w h) ?_
      simp only [Act.put, List.setIfInBounds_toArray, List.set_cons_succ, List.set_cons_zero]
      refine wpG_call rfl (f := 14) (args := #[.int .i64 th]) (v := .string (txB th)) (fun W hW => cI W) (fun w => by first | rfl | (go_simp; done)) ?_
      simp only [Act.put, List.setIfInBounds_toArray, List.set_cons_succ, List.set_cons_zero]
      refine wpG_put rfl (v := .string (txB th ++ ⟨#[58]⟩)) (fun w => by simp [execOp, go_sem, a1 w]) ?_
      simp only [Act.put, List.setIfInBounds_toArray, List.set_cons_succ, List.set_cons_zero]
      refine wpG_put rfl (v := .pointer (some ⟨b1, 1, none⟩)) (fun w => by first | rfl | (simp [execOp, go_sem]; done) | (go_simp; done)) ?_
      simp only [Act.put, List.setIfInBounds_toArray, List.set_cons_succ, List.set_cons_zero]
      refine wpG_load1 rfl 9 _ rfl rfl N2 (v := .string nm) rfl (fun w h => ld9 w h) ?_
      simp only [Act.put, List.setIfInBounds_toArray, List.set_cons_succ, List.set_cons_zero]
      refine wpG_put rfl (v := .string ((txB th ++ ⟨#[58]⟩) ++ nm)) (fun w => by simp [execOp, go_sem, a2 w]) ?_
      simp only [Act.put, List.setIfInBounds_toArray, List.set_cons_succ, List.set_cons_zero]
      refine wpG_put rfl (v := .string ((txB th ++ ⟨#[58]⟩) ++ nm)) (fun w => by first | rfl | (simp [execOp, go_sem]; done) | (go_simp; done)) ?_
      simp only [Act.put, List.setIfInBounds_toArray, List.set_cons_succ, List.set_cons_zero]
      refine wpG_put rfl (v := .int .i64 0) (fun w => by first | rfl | (simp [execOp, go_sem]; done) | (go_simp; done)) ?_
      simp only [Act.put, List.setIfInBounds_toArray, List.set_cons_succ, List.set_cons_zero]
      refine wpG_nil ?_
      intro W3 hW3
      have B3 := Below.then B2 hW3
      clear a1 a2 cI N1 N2 hW3 c0 c1 d0
      go_wp2_with fail
      go_ret2
      exact ⟨by rw [hS.out]; rfl, B3⟩
  · have hf : refOk th nm = false := by simpa using hq
    rw [if_neg hq]
    simp only [hf] at cW
    clear hq hf hs
    dsimp only [rfL] at *
    go_enter Tryd.func5, Tryd.ntmps5
    go_wp2_with (first
      | (refine wpList_boxS rfl 23 _ rfl (rfL th nm) rfl ?_; intro W1 b1 F1 N1; have B1 := F1.trans (Below.refl _ w) (Nat.le_refl _); have c0 : W1.cell? ⟨b1, 0, none⟩ = some (.int .i64 th) := N1.cell 0; have c1 : W1.cell? ⟨b1, 1, none⟩ = some (.string nm) := N1.cell 1; clear F1)
      | (refine wpList_loadP rfl 23 _ rfl rfl N1 2 (rfL th nm) rfl _ Tryd.underlying23 rfl infoRf ?_; dsimp only [rfL])
      | (go_at_call 13; refine (cW _).mono ?_; rintro e W2 ⟨rfl, B2x⟩; have B2 := Below.then B1 B2x; clear cW B2x))
    go_ret2
    exact ⟨rfl, B2⟩
end Go.Proofs.YtjoppgilmlhfbaaDoor

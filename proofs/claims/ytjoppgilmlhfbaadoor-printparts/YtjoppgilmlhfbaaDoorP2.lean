/- Settings: their texts; both sides. -/
import Derived.Test.YtjoppgilmlhfbaaDoorP1
namespace Go.Proofs.YtjoppgilmlhfbaaDoor
open Go.RowKit M
set_option linter.unusedSimpArgs false
set_option linter.unusedVariables false

def itL (th : Int) (nm : ByteArray) (v : Int) : List Value := [.int .i64 th, .string nm, .int .i64 v]
def initS (th : Int) (nm : ByteArray) (v : Int) : ByteArray := (refS th nm ++ ⟨#[61]⟩) ++ txB v
theorem infoIt : (Tryd.prog.info? 25).map (·.size) = some 3 := by kernel_rfl
set_option maxRecDepth 100000 in
set_option maxHeartbeats 1000000 in
theorem initt_any (th : Int) (nm : ByteArray) (v : Int) (h0 : -1 ≤ th) (h1 : th ≤ 9999) (h2 : nm.size ≤ 64) (v0 : -9223372036854775808 ≤ v) (v1 : v ≤ 9223372036854775807) (w : World) (hT : Tab10 w) : Calls Tryd.prog 15 #[.agg (itL th nm v).toArray] w fun e w' => e = .returned (.string (initS th nm v)) ∧ Below w.heap.size w w' := by
  have ht := tx_len v v0 v1
  have hr := refS_len h0 h1 h2
  have a1 := sadd (refS th nm) ⟨#[61]⟩ (by rw [sz1]; omega)
  have a2 := sadd (refS th nm ++ ⟨#[61]⟩) (txB v) (by simp only [ByteArray.size_append, sz1]; omega)
  have cR : ∀ W, Below w.heap.size w W → Calls Tryd.prog 12 #[.agg (rfL th nm).toArray] W fun e w' => e = .returned (.string (refS th nm)) ∧ Below W.heap.size W w' := fun W hB => reft_any th nm h0 h1 h2 W (hT.below hB)
  have cV : ∀ W, Below w.heap.size w W → Calls Tryd.prog 23 #[.int .i64 v] W fun e w' => e = .returned (.string (txB v)) ∧ Below W.heap.size W w' := fun W hB => text_any v v0 v1 W (hT.below hB)
  have hS : Hid (initS th nm v = (refS th nm ++ ⟨#[61]⟩) ++ txB v) := (by show initS _ _ _ = _; rfl)
  clear ht hr h0 h1 h2 v0 v1 hT
  generalize refS th nm = S at *
  generalize txB v = T at *
  generalize initS th nm v = R at *
  dsimp only [itL]
  go_enter Tryd.func15, Tryd.ntmps15
  go_wp2_with (refine wpList_boxS rfl 25 _ rfl (itL th nm v) rfl ?_; intro W1 b1 F1 N1; have B1 := F1.trans (Below.refl _ w) (Nat.le_refl _); clear F1)
  refine grow_all (by kernel_rfl) (by kernel_rfl) ?_
  refine wpG_put rfl (v := .pointer (some ⟨b1, 0, none⟩)) (fun w => by first | rfl | (simp [execOp, go_sem]; done) | (go_simp; done)) ?_
  simp only [Act.put, List.setIfInBounds_toArray, List.set_cons_succ, List.set_cons_zero]
  refine wpG_loadP rfl 23 _ rfl rfl N1 2 (rfL th nm) rfl _ Tryd.underlying23 rfl infoRf ?_
  simp only [Act.put, List.setIfInBounds_toArray, List.set_cons_succ, List.set_cons_zero]
  refine wpG_call rfl (f := 12) (args := #[.agg (rfL th nm).toArray]) (v := .string S) (fun W hW => cR W (Below.then B1 hW)) (fun w => by first | rfl | (go_simp; done)) ?_
  simp only [Act.put, List.setIfInBounds_toArray, List.set_cons_succ, List.set_cons_zero]
  refine wpG_put rfl (v := .string (S ++ ⟨#[61]⟩)) (fun w => by simp [execOp, go_sem, a1 w]) ?_
  simp only [Act.put, List.setIfInBounds_toArray, List.set_cons_succ, List.set_cons_zero]
  refine wpG_put rfl (v := .pointer (some ⟨b1, 2, none⟩)) (fun w => by first | rfl | (simp [execOp, go_sem]; done) | (go_simp; done)) ?_
  simp only [Act.put, List.setIfInBounds_toArray, List.set_cons_succ, List.set_cons_zero]
  refine wpG_load1 rfl 2 _ rfl rfl N1 (v := .int .i64 v) rfl (fun w h => ld2 w h) ?_
  simp only [Act.put, List.setIfInBounds_toArray, List.set_cons_succ, List.set_cons_zero]
  refine wpG_call rfl (f := 23) (args := #[.int .i64 v]) (v := .string T) (fun W hW => cV W (Below.then B1 hW)) (fun w => by first | rfl | (go_simp; done)) ?_
  simp only [Act.put, List.setIfInBounds_toArray, List.set_cons_succ, List.set_cons_zero]
  refine wpG_put rfl (v := .string ((S ++ ⟨#[61]⟩) ++ T)) (fun w => by simp [execOp, go_sem, a2 w]) ?_
  simp only [Act.put, List.setIfInBounds_toArray, List.set_cons_succ, List.set_cons_zero]
  refine wpG_put rfl (v := .string ((S ++ ⟨#[61]⟩) ++ T)) (fun w => by first | rfl | (simp [execOp, go_sem]; done) | (go_simp; done)) ?_
  simp only [Act.put, List.setIfInBounds_toArray, List.set_cons_succ, List.set_cons_zero]
  refine wpG_nil ?_
  intro W2 hW2
  have B2 := Below.then B1 hW2
  clear a1 a2 cR cV N1 hW2
  go_wp2_with fail
  go_ret
  exact ⟨by rw [hS.out]; rfl, B2⟩
set_option maxRecDepth 100000 in
set_option maxHeartbeats 1000000 in
theorem pInit_any (th : Int) (nm : ByteArray) (v : Int) (hs : nm.size ≤ maxLen) (v0 : -9223372036854775808 ≤ v) (v1 : v ≤ 9223372036854775807) (w : World) (hT : Tab10 w) : Calls Tryd.prog 6 #[.agg (itL th nm v).toArray] w fun e w' => e = .returned (if refOk th nm = true then .tuple #[.string (initS th nm v), .int .i64 0] else .tuple #[.string ⟨#[]⟩, .int .i64 80]) ∧ Below w.heap.size w w' := by
  have cW := fun w => wref_any th nm hs w
  by_cases hq : refOk th nm = true
  · obtain ⟨h0, h1, h2⟩ := refOk_get hq
    have cT : ∀ W, Below w.heap.size w W → Calls Tryd.prog 15 #[.agg (itL th nm v).toArray] W fun e w' => e = .returned (.string (initS th nm v)) ∧ Below W.heap.size W w' := fun W hB => initt_any th nm v h0 h1 h2 v0 v1 W (hT.below hB)
    rw [if_pos hq]
    simp only [hq] at cW
    clear hq h0 h1 h2 hs hT v0 v1
    generalize initS th nm v = S at *
    dsimp only [itL, rfL] at *
    go_enter Tryd.func6, Tryd.ntmps6
    go_wp2_with (first
      | (refine wpList_boxS rfl 25 _ rfl (itL th nm v) rfl ?_; intro W1 b1 F1 N1; have B1 := F1.trans (Below.refl _ w) (Nat.le_refl _); clear F1)
      | (refine wpList_loadP rfl 23 _ rfl rfl N1 2 (rfL th nm) rfl _ Tryd.underlying23 rfl infoRf ?_; dsimp only [rfL])
      | (go_at_call 11; refine (cW _).mono ?_; rintro e W2 ⟨rfl, B2x⟩; have N2 := N1.grown B2x; have B2 := Below.then B1 B2x; clear cW B2x N1)
      | (refine wpList_loadP rfl 25 _ rfl rfl N2 3 (itL th nm v) rfl _ Tryd.underlying25 rfl infoIt ?_; dsimp only [itL])
      | (go_at_call 15; refine (cT _ B2).mono ?_; rintro e W3 ⟨rfl, B3x⟩; have B3 := Below.then B2 B3x; clear cT B3x))
    go_ret2
    exact ⟨rfl, B3⟩
  · have hf : refOk th nm = false := by simpa using hq
    rw [if_neg hq]
    simp only [hf] at cW
    clear hq hf hs hT v0 v1
    dsimp only [itL, rfL] at *
    go_enter Tryd.func6, Tryd.ntmps6
    go_wp2_with (first
      | (refine wpList_boxS rfl 25 _ rfl (itL th nm v) rfl ?_; intro W1 b1 F1 N1; have B1 := F1.trans (Below.refl _ w) (Nat.le_refl _); clear F1)
      | (refine wpList_loadP rfl 23 _ rfl rfl N1 2 (rfL th nm) rfl _ Tryd.underlying23 rfl infoRf ?_; dsimp only [rfL])
      | (go_at_call 11; refine (cW _).mono ?_; rintro e W2 ⟨rfl, B2x⟩; have B2 := Below.then B1 B2x; clear cW B2x))
    go_ret2
    exact ⟨rfl, B2⟩
set_option maxRecDepth 100000 in
set_option maxHeartbeats 1000000 in
theorem rInit_any (th : Int) (nm : ByteArray) (v : Int) (hs : nm.size ≤ maxLen) (v0 : -9223372036854775808 ≤ v) (v1 : v ≤ 9223372036854775807) (w : World) : Calls Tryd.prog 7 #[.agg (itL th nm v).toArray] w fun e w' => e = .returned (if refOk th nm = true then .tuple #[.string (initS th nm v), .int .i64 0] else .tuple #[.string ⟨#[]⟩, .int .i64 80]) ∧ Below w.heap.size w w' := by
  have cR := fun w => rRef_any th nm hs w
  by_cases hq : refOk th nm = true
  · obtain ⟨h0, h1, h2⟩ := refOk_get hq
    have ht := tx_len v v0 v1
    have hr := refS_len h0 h1 h2
    have a1 := sadd (refS th nm) ⟨#[61]⟩ (by rw [sz1]; omega)
    have a2 := sadd (refS th nm ++ ⟨#[61]⟩) (txB v) (by simp only [ByteArray.size_append, sz1]; omega)
    have cV : ∀ W, Calls Tryd.prog 14 #[.int .i64 v] W fun e w' => e = .returned (.string (txB v)) ∧ Below W.heap.size W w' := fun W => rtext_any v v0 v1 W
    have hS : Hid (initS th nm v = (refS th nm ++ ⟨#[61]⟩) ++ txB v) := (by show initS _ _ _ = _; rfl)
    rw [if_pos hq]
    simp only [if_pos hq] at cR
    clear ht hr hq h0 h1 h2 hs v0 v1
    generalize refS th nm = S at *
    generalize txB v = T at *
    generalize initS th nm v = R at *
    dsimp only [itL, rfL] at *
    go_enter Tryd.func7, Tryd.ntmps7
    go_wp2_with (first
      | (refine wpList_boxS rfl 25 _ rfl (itL th nm v) rfl ?_; intro W1 b1 F1 N1; have B1 := F1.trans (Below.refl _ w) (Nat.le_refl _); clear F1)
      | (refine wpList_loadP rfl 23 _ rfl rfl N1 2 (rfL th nm) rfl _ Tryd.underlying23 rfl infoRf ?_; dsimp only [rfL])
      | (go_at_call 5; refine (cR _).mono ?_; rintro e W2 ⟨rfl, B2x⟩; have N2 := N1.grown B2x; have B2 := Below.then B1 B2x; have d2 : W2.cell? ⟨b1, 2, none⟩ = some (.int .i64 v) := N2.cell 2; clear cR B2x N1)
      | (go_at_call 14; refine (cV _).mono ?_; rintro e W3 ⟨rfl, B3x⟩; have B3 := Below.then B2 B3x; clear cV B3x))
    go_ret2
    exact ⟨by rw [hS.out]; rfl, B3⟩
  · rw [if_neg hq]
    simp only [if_neg hq] at cR
    clear hq hs v0 v1
    dsimp only [itL, rfL] at *
    go_enter Tryd.func7, Tryd.ntmps7
    go_wp2_with (first
      | (refine wpList_boxS rfl 25 _ rfl (itL th nm v) rfl ?_; intro W1 b1 F1 N1; have B1 := F1.trans (Below.refl _ w) (Nat.le_refl _); clear F1)
      | (refine wpList_loadP rfl 23 _ rfl rfl N1 2 (rfL th nm) rfl _ Tryd.underlying23 rfl infoRf ?_; dsimp only [rfL])
      | (go_at_call 5; refine (cR _).mono ?_; rintro e W2 ⟨rfl, B2x⟩; have B2 := Below.then B1 B2x; clear cR B2x))
    go_ret2
    exact ⟨rfl, B2⟩
end Go.Proofs.YtjoppgilmlhfbaaDoor

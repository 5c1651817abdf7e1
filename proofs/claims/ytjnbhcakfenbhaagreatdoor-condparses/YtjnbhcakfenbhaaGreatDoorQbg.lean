/- Several texts in one: AS3, FA. -/
import Derived.Test.YtjnbhcakfenbhaaGreatDoorQbe
import Derived.WalkKit
import Derived.LaidEql
import Derived.Stop.Asserts
import Derived.RowKitTokens
import Derived.LoopN
import Derived.Test.YtjnbhcakfenbhaaGreatDoorQbf
/- errors.As at the two targets that the law's fault has: a *api.PosError, an api.Errno. -/
namespace Go.Proofs.YtjnbhcakfenbhaaGreatDoor
open Go.RowKit Go.Extern.Stop Go.Stop Go.Extern
set_option linter.unusedSimpArgs false
set_option linter.unusedVariables false

set_option maxHeartbeats 4000000 in
set_option maxRecDepth 100000 in
theorem as_miss (e : Int) (t : Addr) (w : World) (hg : w.cell? ⟨0, 0, none⟩ = some (.iface 145 (.agg #[.pointer (some ⟨5, 25, none⟩)]))) :
    Calls Tryz.prog 20 #[.iface 37 (.int .i64 e), .iface 64 (.pointer (some t))] w fun ev w' => ev = .returned (.bool false) ∧ w' = (((w.alloc (.cells #[.pointer (some t)] 64)).alloc (.cells #[.pointer (some ⟨5, 64, none⟩), .pointer (some ⟨w.heap.size, 0, none⟩), .int .u64 150] 106)).alloc (.cells #[.pointer (some ⟨5, 64, none⟩), .pointer (some ⟨w.heap.size, 0, none⟩), .int .u64 150] 106)) := by
  have y6 := x6
  have y7 := x7
  have y8 := x8
  have y27 := x27
  have y37 := x37
  have y38 := x38
  have y10 := x10
  have y35 := x35
  have y11 := x11
  have y12 := x12
  have mK := rMKind
  have mE := rMElem
  have mI := rMImpl
  have mA := rMAssg
  have tO := typeOfEE
  have a25 := assgX
  have f6 := valueOfTP
  have f7 := typeTP
  have k27 := kindTP
  have k25 := kindEP
  have e27 := elemTP
  have i25 := implEP
  have q1 := noAs
  have q2 := noUn
  have q3 := noUns
  have n8 := isNilTP ⟨w.heap.size, 0, none⟩ t ((w.alloc (.cells #[.pointer (some t)] 64)).alloc (.cells #[.pointer (some ⟨5, 64, none⟩), .pointer (some ⟨w.heap.size, 0, none⟩), .int .u64 150] 106)) (by simp)
  have hlt : 0 < w.heap.size := by
    rcases Nat.eq_zero_or_pos w.heap.size with h0 | h
    · simp [World.cell?, h0] at hg
    · exact h
  have hg2 : ((w.alloc (.cells #[.pointer (some t)] 64)).alloc (.cells #[.pointer (some ⟨5, 64, none⟩), .pointer (some ⟨w.heap.size, 0, none⟩), .int .u64 150] 106)).cell? ⟨0, 0, none⟩ = some (.iface 145 (.agg #[.pointer (some ⟨5, 25, none⟩)])) := by
    rw [World.cell?_alloc_lt _ _ ⟨0, 0, none⟩ (by simp), World.cell?_alloc_lt _ _ ⟨0, 0, none⟩ hlt]; exact hg
  go_enter Tryz.func20, Tryz.ntmps20
  go_wp2
  refine wp_loop_rounds 1 ?_
  rw [rounds_succ]
  go_wp2
  go_ret
  exact ⟨rfl, rfl⟩
end Go.Proofs.YtjnbhcakfenbhaaGreatDoor
/- fault: what an error tells, by errors.As. -/
namespace Go.Proofs.YtjnbhcakfenbhaaGreatDoor
open Go.RowKit M
set_option linter.unusedSimpArgs false
set_option linter.unusedVariables false

/-- The library's variable errors.errorType, as it is laid. -/
def EType (w : World) : Prop := w.cell? ⟨0, 0, none⟩ = some (.iface 145 (.agg #[.pointer (some ⟨5, 25, none⟩)]))
theorem EType.lt {w : World} (h : EType w) : 0 < w.heap.size := by
  rcases Nat.eq_zero_or_pos w.heap.size with h0 | h'
  · unfold EType at h; simp [World.cell?, h0] at h
  · exact h'
theorem EType.below {w W : World} (h : EType w) (hB : Below w.heap.size w W) : EType W := by
  unfold EType at *
  rw [hB.cell (p := ⟨0, 0, none⟩) (EType.lt h)]; exact h
theorem as_pos (bp b : Nat) (old : Value) (w : World) (hg : EType w) (hI : IsS w b 52 [old]) :
    Calls Tryz.prog 20 #[.iface 52 (.pointer (some ⟨bp, 0, none⟩)), .iface 64 (.pointer (some ⟨b, 0, none⟩))] w fun ev w' => ev = .returned (.bool true) ∧ ∃ Wm, Below w.heap.size w Wm ∧ Upd Wm w' b ∧ IsS w' b 52 [.pointer (some ⟨bp, 0, none⟩)] := by
  refine (as_hitP ⟨bp, 0, none⟩ ⟨b, 0, none⟩ old w hg (hI.cell 0) (hI.frozen 0)).mono ?_
  rintro ev w' ⟨rfl, rfl⟩
  have B : Below w.heap.size w ((((w.alloc (.cells #[.pointer (some ⟨b, 0, none⟩)] 64)).alloc (.cells #[.pointer (some ⟨5, 64, none⟩), .pointer (some ⟨w.heap.size, 0, none⟩), .int .u64 150] 106)).alloc (.cells #[.pointer (some ⟨5, 64, none⟩), .pointer (some ⟨w.heap.size, 0, none⟩), .int .u64 150] 106)).alloc (.cells #[.pointer (some ⟨bp, 0, none⟩)] 52)) :=
    ((((Below.refl _ w).alloc (Nat.le_refl _) _).alloc (by simp) _).alloc (by simp; omega) _).alloc (by simp; omega) _
  exact ⟨rfl, _, B, Upd.setCell _ b 0 _, (hI.grown B).set1 0 _⟩
theorem as_errno (e : Int) (b : Nat) (old : Value) (w : World) (hg : EType w) (hI : IsS w b 37 [old]) :
    Calls Tryz.prog 20 #[.iface 37 (.int .i64 e), .iface 65 (.pointer (some ⟨b, 0, none⟩))] w fun ev w' => ev = .returned (.bool true) ∧ ∃ Wm, Below w.heap.size w Wm ∧ Upd Wm w' b ∧ IsS w' b 37 [.int .i64 e] := by
  refine (as_hitE e ⟨b, 0, none⟩ old w hg (hI.cell 0) (hI.frozen 0)).mono ?_
  rintro ev w' ⟨rfl, rfl⟩
  have B : Below w.heap.size w ((((w.alloc (.cells #[.pointer (some ⟨b, 0, none⟩)] 65)).alloc (.cells #[.pointer (some ⟨5, 65, none⟩), .pointer (some ⟨w.heap.size, 0, none⟩), .int .u64 150] 106)).alloc (.cells #[.pointer (some ⟨5, 65, none⟩), .pointer (some ⟨w.heap.size, 0, none⟩), .int .u64 150] 106)).alloc (.cells #[.int .i64 e] 37)) :=
    ((((Below.refl _ w).alloc (Nat.le_refl _) _).alloc (by simp) _).alloc (by simp; omega) _).alloc (by simp; omega) _
  exact ⟨rfl, _, B, Upd.setCell _ b 0 _, (hI.grown B).set1 0 _⟩
theorem as_none (e : Int) (b : Nat) (w : World) (hg : EType w) :
    Calls Tryz.prog 20 #[.iface 37 (.int .i64 e), .iface 64 (.pointer (some ⟨b, 0, none⟩))] w fun ev w' => ev = .returned (.bool false) ∧ Below w.heap.size w w' := by
  refine (as_miss e ⟨b, 0, none⟩ w hg).mono ?_
  rintro ev w' ⟨rfl, rfl⟩
  exact ⟨rfl, (((Below.refl _ w).alloc (Nat.le_refl _) _).alloc (by simp) _).alloc (by simp; omega) _⟩
theorem zPosP (w : World) : (zeroValue 52).run Tryz.prog w = .ok (.pointer none) w := Tryz.zeroValue52 w
theorem zErrno (w : World) : (zeroValue 37).run Tryz.prog w = .ok (.int .i64 0) w := Tryz.zeroValue37 w
theorem ldP {b o : Nat} {v : Value} (w : World) (h : w.cell? ⟨b, o, none⟩ = some v) : (Instr.loadAt 52 (.pointer (some ⟨b, o, none⟩))).run Tryz.prog w = .ok v w := by simp [go_sem, h]

theorem fin_flt {w : World} {b : Nat} {F : Option (Int × Int × Int)} (h : IsS w b 29 (fltL F)) : w.cell? ⟨b, 0, none⟩ = (fltL F)[0]? ∧ w.cell? ⟨b, 1, none⟩ = (fltL F)[1]? ∧ w.cell? ⟨b, 2, none⟩ = (fltL F)[2]? := ⟨h.cell 0, h.cell 1, h.cell 2⟩
set_option maxRecDepth 100000 in
set_option maxHeartbeats 2000000 in
theorem fault_nil (w : World) : Calls Tryz.prog 8 #[.nilIface] w fun en w' => en = .returned (.agg (fltL none).toArray) ∧ Below w.heap.size w w' := by
  have t1 : True := trivial
  have t2 : True := trivial
  go_enter Tryz.func8, Tryz.ntmps8
  go_wp2_with (first
    | (clear t1; refine wpList_allocS rfl 29 rfl (fltL none) Tryz.zeroValue29 ?_; intro W1 b1 F1 C1; have B1 := F1.trans (Below.refl _ w) (Nat.le_refl _); have h1 : w.heap.size ≤ b1 := Nat.le_of_eq F1.at'.symm; clear F1)
    | (clear t2; refine wpList_storeS rfl 29 _ _ rfl rfl (fltL none) rfl C1 (by decide) infoFl (fltL_one _) ?_; intro W2 U2 C2x; have C2 : IsS W2 b1 29 (fltL none) := C2x; have B2 := U2.trans B1 h1; clear U2 C1 C2x))
  exact ret_S (cs := fltL none) rfl rfl rfl C2 _ Tryz.underlying29 rfl infoFl ⟨rfl, B2⟩
set_option maxRecDepth 100000 in
set_option maxHeartbeats 4000000 in
theorem fault_errno (e : Int) (w : World) (hg : EType w) : Calls Tryz.prog 8 #[.iface 37 (.int .i64 e)] w fun en w' => en = .returned (.agg (fltL (some (-1, 0, e))).toArray) ∧ Below w.heap.size w w' := by
  have t1 : True := trivial
  have t2 : True := trivial
  have t3 : True := trivial
  have t4 : True := trivial
  have t5 : True := trivial
  have t6 : True := trivial
  go_enter Tryz.func8, Tryz.ntmps8
  go_wp2_with (first
    | (clear t1; refine wpList_allocS rfl 29 rfl (fltL none) Tryz.zeroValue29 ?_; intro W1 b1 F1 C1; have B1 := F1.trans (Below.refl _ w) (Nat.le_refl _); have h1 : w.heap.size ≤ b1 := Nat.le_of_eq F1.at'.symm; clear F1)
    | (clear t2; refine wpList_allocO rfl 52 rfl (.pointer none) rfl zPosP ?_; intro W2 b2 F2 D2; have C2 := C1.fresh F2; have B2 := F2.trans B1 B1.size; have h2 : b1 < b2 := (by have := C1.lt; have := F2.at'; omega); clear F2 C1)
    | (clear t3; refine wpList_allocO rfl 37 rfl (.int .i64 0) rfl zErrno ?_; intro W3 b3 F3 E3; have C3 := C2.fresh F3; have D3 := D2.fresh F3; have B3 := F3.trans B2 B2.size; have h3 : b2 < b3 := (by have := D2.lt; have := F3.at'; omega); have G3 := hg.below B3; clear F3 C2 D2)
    | (clear t4; go_at_call 20; refine (as_none e b2 _ G3).mono ?_; rintro en W4 ⟨rfl, B4x⟩; have C4 := C3.grown B4x; have E4 := E3.grown B4x; have G4 := G3.below B4x; have B4 := Below.then B3 B4x; clear B4x C3 E3 D3)
    | (clear t5; go_at_call 20; refine (as_errno e b3 (.int .i64 0) _ G4 E4).mono ?_; rintro en W5 ⟨rfl, Wm, Bm, U5, E5⟩; have C5 := (C4.grown Bm).upd U5 (by omega); have B5 := U5.trans (Below.then B4 Bm) (by omega); have e5 : W5.cell? ⟨b3, 0, none⟩ = some (.int .i64 e) := E5.cell 0; clear Bm U5 C4 E4)
    | (clear t6; refine wpList_storeS rfl 29 _ _ rfl rfl (fltL (some (-1, 0, e))) rfl C5 (by simp [fltL]) infoFl (fltL_one _) ?_; intro W6 U6 C6x; have C6 : IsS W6 b1 29 (fltL (some (-1, 0, e))) := C6x; have B6 := U6.trans B5 h1; clear U6 C5 C6x))
  exact ret_S (cs := fltL (some (-1, 0, e))) rfl rfl rfl C6 _ Tryz.underlying29 rfl infoFl ⟨rfl, B6⟩
def psL (x y e : Int) : List Value := [.int .i64 x, .int .i64 y, .iface 37 (.int .i64 e)]
set_option maxRecDepth 100000 in
set_option maxHeartbeats 4000000 in
theorem fault_pos (bp : Nat) (x y e : Int) (w : World) (hg : EType w) (hP : IsS w bp 54 (psL x y e)) : Calls Tryz.prog 8 #[.iface 52 (.pointer (some ⟨bp, 0, none⟩))] w fun en w' => en = .returned (.agg (fltL (some (x, y, e))).toArray) ∧ Below w.heap.size w w' := by
  have hbp := hP.lt
  have t1 : True := trivial
  have t2 : True := trivial
  have t3 : True := trivial
  have t4 : True := trivial
  have t5 : True := trivial
  go_enter Tryz.func8, Tryz.ntmps8
  go_wp2_with (first
    | (clear t1; refine wpList_allocS rfl 29 rfl (fltL none) Tryz.zeroValue29 ?_; intro W1 b1 F1 C1; have B1 := F1.trans (Below.refl _ w) (Nat.le_refl _); have h1 : w.heap.size ≤ b1 := Nat.le_of_eq F1.at'.symm; clear F1)
    | (clear t2; refine wpList_allocO rfl 52 rfl (.pointer none) rfl zPosP ?_; intro W2 b2 F2 D2; have C2 := C1.fresh F2; have B2 := F2.trans B1 B1.size; have h2 : b1 < b2 := (by have := C1.lt; have := F2.at'; omega); clear F2 C1)
    | (clear t3; refine wpList_allocO rfl 37 rfl (.int .i64 0) rfl zErrno ?_; intro W3 b3 F3 E3; have C3 := C2.fresh F3; have D3 := D2.fresh F3; have B3 := F3.trans B2 B2.size; have h3 : b2 < b3 := (by have := D2.lt; have := F3.at'; omega); have G3 := hg.below B3; clear F3 C2 D2)
    | (clear t4; go_at_call 20; refine (as_pos bp b2 (.pointer none) _ G3 D3).mono ?_; rintro en W4 ⟨rfl, Wm, Bm, U4, D4⟩; have C4 := (C3.grown Bm).upd U4 (by omega); have E4 := (E3.grown Bm).upd U4 (by omega); have B4 := U4.trans (Below.then B3 Bm) (by omega); have P4 := hP.below B4 hbp; have G4 := hg.below B4; have d4 : W4.cell? ⟨b2, 0, none⟩ = some (.pointer (some ⟨bp, 0, none⟩)) := D4.cell 0; have p4 : W4.cell? ⟨bp, 2, none⟩ = some (.iface 37 (.int .i64 e)) := P4.cell 2; clear Bm U4 C3 E3 D3)
    | (clear t5; go_at_call 20; refine (as_errno e b3 (.int .i64 0) _ G4 E4).mono ?_; rintro en W5 ⟨rfl, Wm, Bm, U5, E5⟩; have C5 := (C4.grown Bm).upd U5 (by omega); have D5 := (D4.grown Bm).upd U5 (by omega); have B5 := U5.trans (Below.then B4 Bm) (by omega); have P5 := hP.below B5 hbp; clear Bm U5 C4 E4 D4 d4 p4 P4))
  refine grow_tailW 10 (by kernel_rfl) (by kernel_rfl) ?_
  refine WG.load1 rfl 52 _ rfl rfl D5 (v := .pointer (some ⟨bp, 0, none⟩)) rfl (fun w h => ldP w h) ?_
  simp only [Act.put, List.setIfInBounds_toArray, List.set_cons_succ, List.set_cons_zero]
  refine WG.put rfl (v := .pointer (some ⟨bp, 0, none⟩)) (fun w => by first | rfl | (go_simp; done) | (simp [execOp, go_sem]; done)) ?_
  simp only [Act.put, List.setIfInBounds_toArray, List.set_cons_succ, List.set_cons_zero]
  refine WG.put rfl (v := .pointer (some ⟨bp, 0, none⟩)) (fun w => by first | rfl | (go_simp; done) | (simp [execOp, go_sem]; done)) ?_
  simp only [Act.put, List.setIfInBounds_toArray, List.set_cons_succ, List.set_cons_zero]
  refine WG.load1 rfl 3 _ rfl rfl P5 (v := .int .i64 x) rfl (fun w h => ldF w h) ?_
  simp only [Act.put, List.setIfInBounds_toArray, List.set_cons_succ, List.set_cons_zero]
  refine WG.load1 rfl 52 _ rfl rfl D5 (v := .pointer (some ⟨bp, 0, none⟩)) rfl (fun w h => ldP w h) ?_
  simp only [Act.put, List.setIfInBounds_toArray, List.set_cons_succ, List.set_cons_zero]
  refine WG.put rfl (v := .pointer (some ⟨bp, 0, none⟩)) (fun w => by first | rfl | (go_simp; done) | (simp [execOp, go_sem]; done)) ?_
  simp only [Act.put, List.setIfInBounds_toArray, List.set_cons_succ, List.set_cons_zero]
  refine WG.put rfl (v := .pointer (some ⟨bp, 1, none⟩)) (fun w => by first | rfl | (go_simp; done) | (simp [execOp, go_sem]; done)) ?_
  simp only [Act.put, List.setIfInBounds_toArray, List.set_cons_succ, List.set_cons_zero]
  refine WG.load1 rfl 3 _ rfl rfl P5 (v := .int .i64 y) rfl (fun w h => ldF w h) ?_
  simp only [Act.put, List.setIfInBounds_toArray, List.set_cons_succ, List.set_cons_zero]
  refine WG.load1 rfl 37 _ rfl rfl E5 (v := .int .i64 e) rfl (fun w h => ldE w h) ?_
  simp only [Act.put, List.setIfInBounds_toArray, List.set_cons_succ, List.set_cons_zero]
  refine WG.put rfl (v := .agg (fltL (some (x, y, e))).toArray) (fun w => by first | rfl | (go_simp; done) | (simp [execOp, go_sem]; done) | (simp [execOp, go_sem, fltL]; done)) ?_
  simp only [Act.put, List.setIfInBounds_toArray, List.set_cons_succ, List.set_cons_zero]
  refine WG.nil ?_
  intro W6 hW6
  have C6 := C5.grown hW6
  have B6 := Below.then B5 hW6
  have B6s : w.heap.size ≤ W6.heap.size := B6.size
  clear C5 D5 E5 P5 hW6
  refine wpList_storeS rfl 29 _ _ rfl rfl (fltL (some (x, y, e))) rfl C6 (by simp [fltL]) infoFl (fltL_one _) ?_
  intro W7 U7 C7x
  have C7 : IsS W7 b1 29 (fltL (some (x, y, e))) := C7x
  have B7 := U7.trans B6 h1
  clear U7 C6 C7x
  go_wp2_with fail
  exact ret_S (cs := fltL (some (x, y, e))) rfl rfl rfl C7 _ Tryz.underlying29 rfl infoFl ⟨rfl, B7⟩
end Go.Proofs.YtjnbhcakfenbhaaGreatDoor

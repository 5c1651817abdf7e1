/- The law PrintParts. -/
import Derived.Test.YtjoppgilmlhfbaaDoorP8
namespace Go.Proofs.YtjoppgilmlhfbaaDoor
open Go.RowKit M
set_option linter.unusedSimpArgs false
set_option linter.unusedVariables false

theorem num_any (k : Int) (w : World) : Calls Tryd.prog 10 #[.int .i64 k] w fun e w' => e = .returned (.int .i64 k) ∧ w' = w := by
  go_enter Tryd.func10, Tryd.ntmps10
  go_wp2
  go_ret
  exact ⟨rfl, rfl⟩
theorem if_tup (c : Bool) (S : ByteArray) : (if c = true then Value.tuple #[.string S, .int .i64 0] else .tuple #[.string ⟨#[]⟩, .int .i64 80]) = .tuple #[.string (if c = true then S else ⟨#[]⟩), .int .i64 (if c = true then 0 else 80)] := by
  cases c <;> rfl
set_option maxRecDepth 100000 in
set_option maxHeartbeats 4000000 in
theorem parts_any (th : Int) (nm : ByteArray) (th2 : Int) (nm2 : ByteArray) (v2 : Int) (x : IB) (h1 : nm.size ≤ maxLen) (h2 : nm2.size ≤ maxLen) (hr : x.reg.size ≤ maxLen) (hs : x.src.size ≤ maxLen) (hl : x.loc.size ≤ maxLen)
    (v0 : -9223372036854775808 ≤ v2) (v1 : v2 ≤ 9223372036854775807) (i0 : -9223372036854775808 ≤ x.imm) (i1 : x.imm ≤ 9223372036854775807) (w : World) (hT : Tab10 w) :
    Calls Tryd.prog 3 #[.agg (rfL th nm).toArray, .agg (itL th2 nm2 v2).toArray, .agg (ibL x).toArray] w fun e w' => e = .returned (.bool true) ∧ Below w.heap.size w w' := by
  have cA : ∀ W, Below w.heap.size w W → _ := fun W hB => pRef_any th nm h1 W (hT.below hB)
  have cB := fun W => rRef_any th nm h1 W
  have cC : ∀ W, Below w.heap.size w W → _ := fun W hB => pInit_any th2 nm2 v2 h2 v0 v1 W (hT.below hB)
  have cD := fun W => rInit_any th2 nm2 v2 h2 v0 v1 W
  have cE : ∀ W, Below w.heap.size w W → _ := fun W hB => pInstr_any x hr hs hl i0 i1 W (hT.below hB)
  have cG := fun W => rInstr_any x hr hs hl i0 i1 W
  have cN := num_any
  simp only [if_tup] at cA cB cC cD cE cG
  clear hT h1 h2 hr hs hl v0 v1 i0 i1
  generalize (if refOk th nm = true then refS th nm else ⟨#[]⟩) = s1 at *
  generalize (if refOk th nm = true then (0 : Int) else 80) = e1 at *
  generalize (if refOk th2 nm2 = true then initS th2 nm2 v2 else ⟨#[]⟩) = s2 at *
  generalize (if refOk th2 nm2 = true then (0 : Int) else 80) = e2 at *
  generalize (if insOk x = true then insS x else ⟨#[]⟩) = s3 at *
  generalize (if insOk x = true then (0 : Int) else 80) = e3 at *
  have t1 : True := trivial
  have t2 : True := trivial
  have t3 : True := trivial
  have u1 : True := trivial
  have u2 : True := trivial
  have u3 : True := trivial
  have u4 : True := trivial
  have u5 : True := trivial
  have u6 : True := trivial
  go_enter Tryd.func3, Tryd.ntmps3
  go_wp2_with (first
    | (clear t1; refine wpList_boxS rfl 23 _ rfl (rfL th nm) rfl ?_; intro W1 b1 F1 N1; have B1 := F1.trans (Below.refl _ w) (Nat.le_refl _); clear F1)
    | (clear t2; refine wpList_boxS rfl 25 _ rfl (itL th2 nm2 v2) rfl ?_; intro W2 b2 F2 M2; have N2 := N1.fresh F2; have B2 := F2.trans B1 B1.size; clear F2 N1)
    | (clear t3; refine wpList_boxS rfl 27 _ rfl (ibL x) rfl ?_; intro W3 b3 F3 L3; have N3 := N2.fresh F3; have M3 := M2.fresh F3; have B3 := F3.trans B2 B2.size; clear F3 N2 M2)
    | (clear u1; refine wpList_loadP rfl 23 _ rfl rfl N3 2 (rfL th nm) rfl _ Tryd.underlying23 rfl infoRf ?_)
    | (go_at_call 4; refine (cA _ B3).mono ?_; rintro e W4 ⟨rfl, B4x⟩; have N4 := N3.grown B4x; have M4 := M3.grown B4x; have L4 := L3.grown B4x; have B4 := Below.then B3 B4x; clear cA B4x N3 M3 L3)
    | (clear u2; refine wpList_loadP rfl 23 _ rfl rfl N4 2 (rfL th nm) rfl _ Tryd.underlying23 rfl infoRf ?_)
    | (go_at_call 5; refine (cB _).mono ?_; rintro e W5 ⟨rfl, B5x⟩; have M5 := M4.grown B5x; have L5 := L4.grown B5x; have B5 := Below.then B4 B5x; clear cB B5x N4 M4 L4)
    | (clear u3; refine wpList_loadP rfl 25 _ rfl rfl M5 3 (itL th2 nm2 v2) rfl _ Tryd.underlying25 rfl infoIt ?_)
    | (go_at_call 6; refine (cC _ B5).mono ?_; rintro e W6 ⟨rfl, B6x⟩; have M6 := M5.grown B6x; have L6 := L5.grown B6x; have B6 := Below.then B5 B6x; clear cC B6x M5 L5)
    | (clear u4; refine wpList_loadP rfl 25 _ rfl rfl M6 3 (itL th2 nm2 v2) rfl _ Tryd.underlying25 rfl infoIt ?_)
    | (go_at_call 7; refine (cD _).mono ?_; rintro e W7 ⟨rfl, B7x⟩; have L7 := L6.grown B7x; have B7 := Below.then B6 B7x; clear cD B7x M6 L6)
    | (clear u5; refine wpList_loadP rfl 27 _ rfl rfl L7 5 (ibL x) rfl _ Tryd.underlying27 rfl infoIb ?_)
    | (go_at_call 8; refine (cE _ B7).mono ?_; rintro e W8 ⟨rfl, B8x⟩; have L8 := L7.grown B8x; have B8 := Below.then B7 B8x; clear cE B8x L7)
    | (clear u6; refine wpList_loadP rfl 27 _ rfl rfl L8 5 (ibL x) rfl _ Tryd.underlying27 rfl infoIb ?_)
    | (go_at_call 9; refine (cG _).mono ?_; rintro e W9 ⟨rfl, B9x⟩; have B9 := Below.then B8 B9x; clear cG B9x L8)
    | (go_at_call 10; refine (cN _ _).mono ?_; rintro e w' ⟨rfl, hw'⟩; replace hw' := hw'.symm; subst hw'))
  go_ret
  exact ⟨rfl, B9⟩
end Go.Proofs.YtjoppgilmlhfbaaDoor

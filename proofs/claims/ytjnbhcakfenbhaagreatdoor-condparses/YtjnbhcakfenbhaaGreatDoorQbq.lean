/- Several texts in one: LP, LxT1. -/
import Derived.Test.YtjnbhcakfenbhaaGreatDoorQbp
import Derived.Test.YtjnbhcakfenbhaaGreatDoorQbc
import Derived.Test.YtjnbhcakfenbhaaGreatDoorQbd
/- The law CondParses, for any two Parses that answer alike. -/
namespace Go.Proofs.YtjnbhcakfenbhaaGreatDoor
open Go.RowKit M
set_option linter.unusedSimpArgs false
set_option linter.unusedVariables false

set_option maxRecDepth 100000 in
set_option maxHeartbeats 4000000 in
theorem parses_core (s : ByteArray) (nodes : List Nd) (F : Option (Int × Int × Int)) (w : World)
    (cP : ∀ W, Below w.heap.size w W → Calls Tryz.prog 5 #[.string s] W fun en W' => ParseP nodes F W en W')
    (cR : ∀ W, Below w.heap.size w W → Calls Tryz.prog 6 #[.string s] W fun en W' => (∃ v, en = .returned (.tuple #[v, .agg (fltL F).toArray]) ∧ W'.ownsRow W.heap.size 62 6 v nodes.length (cellsL nodes)) ∧ Below W.heap.size W W') :
    Calls Tryz.prog 3 #[.string s] w fun en w' => en = .returned (.bool true) ∧ Below w.heap.size w w' := by
  have t5 : True := trivial
  have t6 : True := trivial
  have t8 : True := trivial
  have t9 : True := trivial
  go_enter Tryz.func3, Tryz.ntmps3
  go_wp2_with (first
    | (clear t5; go_at_call 5; refine (cP _ (Below.refl _ w)).mono ?_; rintro en W5 P5; obtain ⟨v5, ev5, rfl, O5, FI5⟩ := P5.ans; have hnl := P5.few; have B5 := P5.bel; obtain ⟨a5, c5, rfl, N5⟩ := nds_ownR O5; have hq5 := own_rng O5; clear P5)
    | (clear t6; go_at_call 5; refine (cP _ B5).mono ?_; rintro en W6 P6; obtain ⟨v6, ev6, rfl, O6, _⟩ := P6.ans; have B6x := P6.bel; have B6 := Below.then B5 B6x; obtain ⟨a6, c6, rfl, N6⟩ := nds_ownR O6; have hq6 := own_rng O6; have N56 := N5.below B6x; have O56 := own_grN O5 B6x; have FI56 := FI5.grown B6x; have hz56 : W5.heap.size ≤ W6.heap.size := B6x.size; clear P6 B6x cP N5 O5 FI5 O6)
    | (go_at_call 6; refine (cR _ B6).mono ?_; rintro en W7 ⟨⟨v7, rfl, O7⟩, B7x⟩; have B7 := Below.then B6 B7x; obtain ⟨a7, c7, rfl, N7⟩ := nds_ownR O7; have hq7 := own_rng O7; have N57 := N56.below B7x; have O57 := own_grN O56 B7x; have FI57 := FI56.grown B7x; have N67 := N6.below B7x; have hz67 : W6.heap.size ≤ W7.heap.size := B7x.size; clear B7x cR N56 O56 FI56 N6 O7)
    | (clear t8; refine wpList_allocS rfl 29 rfl (fltL none) Tryz.zeroValue29 ?_; intro W8 b8 F8 C8; have P8 : Below W7.heap.size W7 W8 := F8.trans (Below.refl _ W7) (Nat.le_refl _); have h8 : W7.heap.size ≤ b8 := Nat.le_of_eq F8.at'.symm; clear F8)
    | (clear t9; refine wpList_storeS rfl 29 _ _ rfl rfl (fltL F) rfl C8 (by rw [fltL_len, fltL_len]; decide) (by rw [fltL_len]; exact infoFl) (fltL_one _) ?_; intro W9 U9 C9x; have C9 : IsS W9 b8 29 (fltL F) := (by rw [putFlt] at C9x; exact C9x); have P9 : Below W7.heap.size W7 W9 := U9.trans P8 h8; have B9 := Below.then B7 P9; have N59 := N57.below P9; have N69 := N67.below P9; have N79 := N7.below P9; have O59 := own_grN O57 P9; have FI9 := FI57.grown P9; clear U9 C9x C8 P8 N57 N67 N7 O57 FI57))
  refine grow_allW (by kernel_rfl) (by kernel_rfl) ?_
  refine WG.put rfl (v := .slice a5 nodes.length c5) (fun w => by first | rfl | (go_simp; done) | (simp [go_sem]; done)) ?_
  simp only [Act.put, List.setIfInBounds_toArray, List.set_cons_succ, List.set_cons_zero]
  refine WG.put rfl (v := .slice a7 nodes.length c7) (fun w => by first | rfl | (go_simp; done) | (simp [go_sem]; done)) ?_
  simp only [Act.put, List.setIfInBounds_toArray, List.set_cons_succ, List.set_cons_zero]
  refine WG.call rfl (f := 7) (args := #[.slice a5 nodes.length c5, .slice a7 nodes.length c7]) (v := .bool true) (fun W hW => same_any _ _ _ _ nodes (by omega) W (N59.below hW) (N79.below hW)) (fun w => by first | rfl | (go_simp; done)) ?_
  simp only [Act.put, List.setIfInBounds_toArray, List.set_cons_succ, List.set_cons_zero]
  refine WG.put rfl (v := .bool false) (fun w => by first | rfl | (go_simp; done) | (simp [go_sem]; done)) ?_
  simp only [Act.put, List.setIfInBounds_toArray, List.set_cons_succ, List.set_cons_zero]
  refine WG.put rfl (v := .bool false) (fun w => by first | rfl | (go_simp; done) | (simp [go_sem]; done)) ?_
  simp only [Act.put, List.setIfInBounds_toArray, List.set_cons_succ, List.set_cons_zero]
  refine WG.put rfl (v := .slice a6 nodes.length c6) (fun w => by first | rfl | (go_simp; done) | (simp [go_sem]; done)) ?_
  simp only [Act.put, List.setIfInBounds_toArray, List.set_cons_succ, List.set_cons_zero]
  refine WG.put rfl (v := .slice a7 nodes.length c7) (fun w => by first | rfl | (go_simp; done) | (simp [go_sem]; done)) ?_
  simp only [Act.put, List.setIfInBounds_toArray, List.set_cons_succ, List.set_cons_zero]
  refine WG.call rfl (f := 7) (args := #[.slice a6 nodes.length c6, .slice a7 nodes.length c7]) (v := .bool true) (fun W hW => same_any _ _ _ _ nodes (by omega) W (N69.below hW) (N79.below hW)) (fun w => by first | rfl | (go_simp; done)) ?_
  simp only [Act.put, List.setIfInBounds_toArray, List.set_cons_succ, List.set_cons_zero]
  refine WG.put rfl (v := .bool false) (fun w => by first | rfl | (go_simp; done) | (simp [go_sem]; done)) ?_
  simp only [Act.put, List.setIfInBounds_toArray, List.set_cons_succ, List.set_cons_zero]
  refine WG.put rfl (v := .bool false) (fun w => by first | rfl | (go_simp; done) | (simp [go_sem]; done)) ?_
  simp only [Act.put, List.setIfInBounds_toArray, List.set_cons_succ, List.set_cons_zero]
  refine WG.put rfl (v := .bool false) (fun w => by first | rfl | (go_simp; done) | (simp [go_sem]; done)) ?_
  simp only [Act.put, List.setIfInBounds_toArray, List.set_cons_succ, List.set_cons_zero]
  refine WG.put rfl (v := ev5) (fun w => by first | rfl | (go_simp; done) | (simp [go_sem]; done)) ?_
  simp only [Act.put, List.setIfInBounds_toArray, List.set_cons_succ, List.set_cons_zero]
  refine WG.call rfl (f := 8) (args := #[ev5]) (v := .agg (fltL F).toArray) (fun W hW => FI9 W hW) (fun w => by first | rfl | (go_simp; done)) ?_
  simp only [Act.put, List.setIfInBounds_toArray, List.set_cons_succ, List.set_cons_zero]
  refine WG.row rfl 29 _ rfl rfl C9 (fltL F) rfl _ Tryz.underlying29 rfl (by rw [fltL_len]; exact infoFl) ?_
  simp only [Act.put, List.setIfInBounds_toArray, List.set_cons_succ, List.set_cons_zero]
  refine WG.put rfl (v := .bool false) (fun w => by simp [execOp, go_sem]; cases F <;> simp [go_sem, fltL]) ?_
  simp only [Act.put, List.setIfInBounds_toArray, List.set_cons_succ, List.set_cons_zero]
  refine WG.put rfl (v := .bool false) (fun w => by first | rfl | (go_simp; done) | (simp [go_sem]; done)) ?_
  simp only [Act.put, List.setIfInBounds_toArray, List.set_cons_succ, List.set_cons_zero]
  refine WG.nil ?_
  intro W10 hW10
  have B10 := Below.then B9 hW10
  have N6t := N69.below hW10
  have N7t := N79.below hW10
  have O5t := own_grN O59 hW10
  have hq5' : ∀ q, (Value.slice a5 nodes.length c5).ownBlock = some q → w.heap.size ≤ q ∧ q < W5.heap.size := fun q e => (by
    cases a5 with
    | none => cases e
    | some ad =>
      simp [Value.ownBlock] at e
      have hp := own_plain O59
      obtain ⟨b, o, eb⟩ := hp ad rfl
      subst eb
      have := hq5 b o rfl
      simp at e
      omega)
  have cS := spoil_any w.heap.size (.slice a5 nodes.length c5) nodes.length (by omega) W10 _ O5t B10.size
  clear N59 N69 N79 O59 FI9 C9 hW10 P9 B9 h8
  go_wp2_with (first
    | (go_at_call 9; refine cS.mono ?_; rintro en W11 ⟨rfl, row, S11⟩; have B11 : Below w.heap.size w W11 := below_stepR B10 B10.size S11 (fun q e => (hq5' q e).1); have Nc := nds_step N6t S11 (fun b o e e2 => (by have := hq6 b o e; have := hq5' b e2.symm; omega)); have Nd' := nds_step N7t S11 (fun b o e e2 => (by have := hq7 b o e; have := hq5' b e2.symm; omega)); clear cS S11 N6t N7t)
    | (go_at_call 7; refine (same_any _ _ _ _ nodes (by omega) _ Nc Nd').mono ?_; rintro en W12 ⟨rfl, B12x⟩; have B12 := Below.then B11 B12x; clear B12x))
  go_ret
  exact ⟨rfl, B12⟩
end Go.Proofs.YtjnbhcakfenbhaaGreatDoor
/- Tokens: the iterator goes through the rounds of its text. -/
namespace Go.Proofs.YtjnbhcakfenbhaaGreatDoor.Lx
open Go.RowKit Go.Shelf M
attribute [local go_sem] Oper.semAt_some
set_option linter.unusedSimpArgs false
set_option linter.unusedVariables false

set_option maxRecDepth 100000 in
set_option maxHeartbeats 2000000 in
theorem tokens_long (s : ByteArray) (hs : s.size < 4611686018427387904) (hl : 1048576 < s.size) (bb : Nat) (w : World) (hbb : bb < w.heap.size) (hc : w.cell? ⟨bb, 0, none⟩ = some (.string s)) :
    SeqM 56 #[.pointer (some ⟨bb, 0, none⟩)] RdEnc [Rd.long] w := by
  intro n l J Jx W O hW hJ hJx hO hY j0
  have cN := fun w => new_any s w
  have hcW : W.cell? ⟨bb, 0, none⟩ = some (.string s) := (hW.cell (p := ⟨bb, 0, none⟩) hbb).trans hc
  refine callsIn_wide.2 ((callsIn_wide (n := 8)).1 ?_)
  refine callsIn_of_wp Tryz.func56 rfl trivial ?_ rfl
  simp only [Tryz.ntmps56, List.size_toArray, List.length_cons, List.length_nil, Nat.reduceAdd, Nat.reduceSub, Array.replicate_succ, Array.replicate_zero, List.push_toArray, List.append_toArray, List.nil_append, List.cons_append]
  have hf9 : Fence.wide.fn 57 := trivial
  have hf15 : Fence.wide.fn 58 := trivial
  gi_wp2_with (first
    | (gi_at_call 57; refine (callsIn_wide.2 (cN _)).mono ?_; rintro e W1 ⟨⟨bl, rfl, hbl, L1⟩, B1⟩))
  gi_loopw [4, 5] (fun _ _ wr => wr = W1) (fun _ _ _ => 0)
  case atStart => rfl
  case round =>
    obtain rfl := hrel
    have cX := next_long s hs hl bl 0 1 1 0 wr L1
    gi_wp2_with (first
      | (gi_at_call 58; refine (callsIn_wide.2 cX).mono ?_; rintro e W2 ⟨⟨rfl, L2⟩, T2⟩)
      | (refine inAllocS rfl 49 rfl (tokL noTok) Tryz.zeroValue49 ?_; intro W3 b4 F3 M3; have K3 : Keep O W2 W3 := Keep.of_below (F3.trans (Below.refl _ _) (Nat.le_refl _)))
      | (refine inStoreS rfl 49 _ _ rfl rfl (tokL noTok) rfl M3 (by simp [tokL]) info38 (tok_one noTok) ?_; intro W4 U4 M4)
      | (refine inLoadP rfl 49 _ rfl rfl M4 7 (tokL noTok) rfl _ Tryz.underlying49 rfl info38 ?_))
    have hOb : ¬ O bl := fun h => by have := hO bl h; omega
    have hO4 : ¬ O b4 := fun h => by have := hO b4 h; have := F3.at'; have := T2.size; have := B1.size; omega
    have j4 : J [] O W4 := hJ [] O _ _ (hJ [] O _ _ (hJ [] O _ _ (hJ [] O _ _ j0 (Keep.of_below B1)) (Keep.of_turn T2 hOb)) K3) (Keep.of_upd U4 hO4)
    obtain ⟨fn, tmps, assign, body, hy, hR⟩ := hY [] .long [] #[.agg (tokL noTok).toArray, .iface 37 (.int .i64 1)] (fun _ => False) O W4 7 rfl j4 ⟨rfl, rfl⟩ (fun k h => h.elim)
    clear cX hY j0 j4
    gi_wp2_with fail
    rw [hy]
    refine ⟨fun _ => by omega, hR.mono ?_⟩
    rintro e W5 (⟨rfl, O', j5, -⟩ | ⟨rfl, O', j5, -⟩)
    · gi_wp2
      refine bodyPost_ret (results_none rfl _ _ _) rfl ?_
      exact ⟨⟨_, rfl⟩, O', .inl j5⟩
    · gi_wp2
      refine bodyPost_ret (results_none rfl _ _ _) rfl ?_
      exact ⟨⟨_, rfl⟩, O', .inr ⟨_, List.prefix_refl _, j5⟩⟩
end Go.Proofs.YtjnbhcakfenbhaaGreatDoor.Lx

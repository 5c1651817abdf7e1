/- Tokens: the iterator goes through the rounds of its text. -/
import Derived.Test.YtopnbemodlcknaaDoorLxX18
namespace Go.Proofs.YtopnbemodlcknaaDoor.Lx
open Go.RowKit Go.Shelf M
attribute [local go_sem] Oper.semAt_some
set_option linter.unusedSimpArgs false
set_option linter.unusedVariables false

set_option maxRecDepth 100000 in
set_option maxHeartbeats 2000000 in
theorem tokens_long (s : ByteArray) (hs : s.size < 4611686018427387904) (hl : 1048576 < s.size) (bb : Nat) (w : World) (hbb : bb < w.heap.size) (hc : w.cell? ⟨bb, 0, none⟩ = some (.string s)) :
    SeqM 19 #[.pointer (some ⟨bb, 0, none⟩)] RdEnc [Rd.long] w := by
  intro n l J Jx W O hW hJ hJx hO hY j0
  have cN := fun w => new_any s w
  have hcW : W.cell? ⟨bb, 0, none⟩ = some (.string s) := (hW.cell (p := ⟨bb, 0, none⟩) hbb).trans hc
  refine callsIn_wide.2 ((callsIn_wide (n := 8)).1 ?_)
  refine callsIn_of_wp Tryd.func19 rfl trivial ?_ rfl
  simp only [Tryd.ntmps19, List.size_toArray, List.length_cons, List.length_nil, Nat.reduceAdd, Nat.reduceSub, Array.replicate_succ, Array.replicate_zero, List.push_toArray, List.append_toArray, List.nil_append, List.cons_append]
  have hf9 : Fence.wide.fn 20 := trivial
  have hf15 : Fence.wide.fn 21 := trivial
  gi_wp2_with (first
    | (gi_at_call 20; refine (callsIn_wide.2 (cN _)).mono ?_; rintro e W1 ⟨⟨bl, rfl, hbl, L1⟩, B1⟩))
  gi_loopw [4, 5] (fun _ _ wr => wr = W1) (fun _ _ _ => 0)
  case atStart => rfl
  case round =>
    obtain rfl := hrel
    have cX := next_long s hs hl bl 0 1 1 0 wr L1
    gi_wp2_with (first
      | (gi_at_call 21; refine (callsIn_wide.2 cX).mono ?_; rintro e W2 ⟨⟨rfl, L2⟩, T2⟩)
      | (refine inAllocS rfl 44 rfl (tokL noTok) Tryd.zeroValue44 ?_; intro W3 b4 F3 M3; have K3 : Keep O W2 W3 := Keep.of_below (F3.trans (Below.refl _ _) (Nat.le_refl _)))
      | (refine inStoreS rfl 44 _ _ rfl rfl (tokL noTok) rfl M3 (by simp [tokL]) info38 (tok_one noTok) ?_; intro W4 U4 M4)
      | (refine inLoadP rfl 44 _ rfl rfl M4 7 (tokL noTok) rfl _ Tryd.underlying44 rfl info38 ?_))
    have hOb : ¬ O bl := fun h => by have := hO bl h; omega
    have hO4 : ¬ O b4 := fun h => by have := hO b4 h; have := F3.at'; have := T2.size; have := B1.size; omega
    have j4 : J [] O W4 := hJ [] O _ _ (hJ [] O _ _ (hJ [] O _ _ (hJ [] O _ _ j0 (Keep.of_below B1)) (Keep.of_turn T2 hOb)) K3) (Keep.of_upd U4 hO4)
    obtain ⟨fn, tmps, assign, body, hy, hR⟩ := hY [] .long [] #[.agg (tokL noTok).toArray, .iface 48 (.int .i64 1)] (fun _ => False) O W4 7 rfl j4 ⟨rfl, rfl⟩ (fun k h => h.elim)
    clear cX hY j0 j4
    gi_wp2_with fail
    rw [hy]
    refine ⟨fun _ => by omega, hR.mono ?_⟩
    rintro e W5 (⟨rfl, O', j5, -⟩ | ⟨rfl, O', j5, -⟩)
    · gi_wp2
      refine bodyPost_ret (results_none rfl _ _ _) rfl ?_
      exact ⟨⟨_, rfl⟩, O', .inl j5⟩
    · gi_wp2
      refine bodyPost_ret (results_none rfl _ _ _) rfl ?_
      exact ⟨⟨_, rfl⟩, O', .inr ⟨_, List.prefix_refl _, j5⟩⟩
end Go.Proofs.YtopnbemodlcknaaDoor.Lx

/- The law's SamePicks of the same; small. -/
import Derived.Test.YtmoieckmbimgoaaGM
namespace Go.Proofs.Ytmoieckmbimgoaa
open Go.RowKit M
set_option linter.unusedSimpArgs false
set_option linter.unusedVariables false

set_option maxRecDepth 100000 in
set_option maxHeartbeats 4000000 in
theorem samePicks_any (L : List PK) (n : Nat) (hn0 : L.length = n) (hn : n ≤ 1048576) (a1 a2 : Option Addr) (c1 c2 : Nat) (w : World) (h1 : Seg w a1 (L.flatMap pkL)) (h2 : Seg w a2 (L.flatMap pkL)) :
    Calls Try.prog 15 #[.slice a1 n c1, .slice a2 n c2] w fun e w' => e = .returned (.bool true) ∧ Below w.heap.size w w' := by
  have HL : Hid (L.length = n) := hn0
  have H1 : Hid (Seg w a1 (L.flatMap pkL)) := h1
  have H2 : Hid (Seg w a2 (L.flatMap pkL)) := h2
  have hnI : (n : Int) ≤ 1048576 := by omega
  clear h1 h2 hn0
  go_enter Try.func15, Try.ntmps15
  go_wp2
  go_loopw [5] (fun i wr => ∃ k : Nat, k ≤ n ∧ i = .int .i64 (k : Int) ∧ Hid (Below w.heap.size w wr)) (fun i _ => n - (intOf i).toNat)
  case atStart => exact ⟨0, Nat.zero_le _, rfl, Below.refl _ _⟩
  case round =>
    obtain ⟨k, hk, rfl, HB⟩ := hrel
    by_cases hlt : k < n
    · have hki : (k : Int) < n := by omega
      obtain ⟨q, hq⟩ : ∃ q, L[k]? = some q := ⟨_, List.getElem?_eq_getElem (by rw [HL.out]; exact hlt)⟩
      obtain ⟨b1, o1, rfl, hb1, r1⟩ := pk_range (H1.out.below HB.out) hq
      obtain ⟨b2, o2, rfl, hb2, r2⟩ := pk_range (H2.out.below HB.out) hq
      clear hq
      go_wp2
      refine grow_allW (by kernel_rfl) (by kernel_rfl) ?_
      refine WG.put rfl (v := (.slice (some ⟨b1, o1, none⟩) n c1)) (fun w => by first | rfl | (go_simp; done) | (simp [go_sem, hki]; done) | (simp [execOp, go_sem, hki]; done)) ?_
      simp only [Act.put, List.setIfInBounds_toArray, List.set_cons_succ, List.set_cons_zero]
      refine WG.put rfl (v := (.int .i64 (k : Int))) (fun w => by first | rfl | (go_simp; done) | (simp [go_sem, hki]; done) | (simp [execOp, go_sem, hki]; done)) ?_
      simp only [Act.put, List.setIfInBounds_toArray, List.set_cons_succ, List.set_cons_zero]
      refine WG.put rfl (v := (.pointer (some ⟨b1, o1 + k * 3, none⟩))) (fun w => by first | rfl | (go_simp; done) | (simp [go_sem, hki]; done) | (simp [execOp, go_sem, hki]; done)) ?_
      simp only [Act.put, List.setIfInBounds_toArray, List.set_cons_succ, List.set_cons_zero]
      refine WG.range rfl 35 _ rfl rfl (pkL q) hb1 r1 _ Try.underlying35 rfl infoPk ?_
      simp only [Act.put, List.setIfInBounds_toArray, List.set_cons_succ, List.set_cons_zero]
      refine WG.put rfl (v := (.slice (some ⟨b2, o2, none⟩) n c2)) (fun w => by first | rfl | (go_simp; done) | (simp [go_sem, hki]; done) | (simp [execOp, go_sem, hki]; done)) ?_
      simp only [Act.put, List.setIfInBounds_toArray, List.set_cons_succ, List.set_cons_zero]
      refine WG.put rfl (v := (.int .i64 (k : Int))) (fun w => by first | rfl | (go_simp; done) | (simp [go_sem, hki]; done) | (simp [execOp, go_sem, hki]; done)) ?_
      simp only [Act.put, List.setIfInBounds_toArray, List.set_cons_succ, List.set_cons_zero]
      refine WG.put rfl (v := (.pointer (some ⟨b2, o2 + k * 3, none⟩))) (fun w => by first | rfl | (go_simp; done) | (simp [go_sem, hki]; done) | (simp [execOp, go_sem, hki]; done)) ?_
      simp only [Act.put, List.setIfInBounds_toArray, List.set_cons_succ, List.set_cons_zero]
      refine WG.range rfl 35 _ rfl rfl (pkL q) hb2 r2 _ Try.underlying35 rfl infoPk ?_
      simp only [Act.put, List.setIfInBounds_toArray, List.set_cons_succ, List.set_cons_zero]
      refine WG.put rfl (v := (.bool false)) (fun w => by first | rfl | (go_simp; done) | (simp [go_sem, pkL, hki]; done) | (simp [execOp, go_sem, pkL, hki]; done)) ?_
      simp only [Act.put, List.setIfInBounds_toArray, List.set_cons_succ, List.set_cons_zero]
      refine WG.nil ?_
      intro w5 B5
      have HB5 : Hid (Below w.heap.size w w5) := Below.then HB.out B5
      clear r1 r2 B5
      go_wp2
      go_roundw
      case rel => exact ⟨k + 1, by omega, by go_num, HB5⟩
      case measure => simp [intOf]; omega
    · have e : k = n := by omega
      subst e
      have hki : ¬ (k : Int) < k := by omega
      go_wp2
      go_ret
      exact ⟨rfl, HB.out⟩
set_option maxRecDepth 100000 in
set_option maxHeartbeats 4000000 in
theorem small_any (a : Option Addr) (n c : Nat) (v1 v2 v3 : Value) (w : World) :
    Calls Try.prog 5 #[.agg #[.slice a n c, v1, v2, v3]] w fun e w' => e = .returned (.bool (decide ((n : Int) ≤ 200))) ∧ Below w.heap.size w w' := by
  have t1 : True := trivial
  go_enter Try.func5, Try.ntmps5
  go_wp2_with (first
    | (clear t1; refine wpList_boxS rfl 25 _ rfl [.slice a n c, v1, v2, v3] rfl ?_; intro W0 b1 F0 C0; have B0 := F_b F0; obtain ⟨y0, y1, y2, y3⟩ := five4 C0; clear F0))
  go_ret
  exact ⟨rfl, B0⟩
end Go.Proofs.Ytmoieckmbimgoaa

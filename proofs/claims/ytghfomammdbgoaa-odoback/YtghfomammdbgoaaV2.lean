/- Repeat of one number. -/
import Derived.Test.YtghfomammdbgoaaV1
import Derived.Test.YtghfomammdbgoaaSL
import Derived.Laws.CopyOwn
import Derived.StillTailTactics
namespace Go.Proofs.Ytghfomammdbgoaa
open Go.RowKit Go.Shelf Go.Sort K
set_option linter.unusedSimpArgs false
set_option linter.unusedVariables false

theorem mul_one_any (m : Nat) (hm : m ≤ 64) (w : World) : Calls Try.prog 117 #[.int .u64 1, .int .u64 m] w fun e w' => e = .returned (.tuple #[.int .u64 0, .int .u64 m]) ∧ w' = w := by
  have h := Try.bits_Mul 1 m (by decide) (by omega) w
  rw [show 1 * m / 18446744073709551616 = 0 by omega, show 1 * m % 18446744073709551616 = m by omega] at h
  exact h

/-- The first k are laid. -/
def repL (i : Int) (m k : Nat) : List Int := List.replicate k i ++ List.replicate (m - k) 0
theorem repL_len (i : Int) (m k : Nat) (h : k ≤ m) : (repL i m k).length = m := by simp [repL]; omega

theorem repL_set (i : Int) (m k : Nat) (h : k < m) : (repL i m k).set k i = repL i m (k + 1) := by
  unfold repL
  rw [List.set_append_right k i (by simp)]
  obtain ⟨d, hd⟩ : ∃ d, m - k = d + 1 := ⟨m - k - 1, by omega⟩
  rw [hd, show m - (k + 1) = d by omega, List.length_replicate, Nat.sub_self, List.replicate_succ, List.set_cons_zero, List.replicate_succ', List.append_assoc]
  rfl
theorem row_rep {b m : Nat} {i : Int} : ∀ (c k : Nat) (w : World), RowZ w b (repL i m k) → k + c ≤ m → RowZ (w.setCells b k (intsZ (List.replicate c i))) b (repL i m (k + c))
  | 0, k, w, h, _ => h
  | c + 1, k, w, h, hk => by
    have h1 : RowZ (w.setCell ⟨b, k, none⟩ (.int .i64 i)) b (repL i m (k + 1)) := by rw [← repL_set i m k (by omega)]; exact h.set k i
    have := row_rep c (k + 1) _ h1 (by omega)
    rw [show k + (c + 1) = k + 1 + c by omega]
    exact this
theorem upd_setCells (b : Nat) : ∀ (vs : List Value) (o : Nat) (w : World), Upd w (w.setCells b o vs) b
  | [], _, w => ⟨rfl, rfl, rfl, rfl, fun _ _ => rfl⟩
  | v :: r, o, w => by
    have h1 := Upd.setCell w b o v
    have h2 := upd_setCells b r (o + 1) (w.setCell ⟨b, o, none⟩ v)
    exact ⟨h2.os.trans h1.os, h2.tape.trans h1.tape, h2.output.trans h1.output, h2.size.trans h1.size, fun k hk => (h2.block k hk).trans (h1.block k hk)⟩
/-- One copy of the loop's. -/
theorem run_rep {w : World} {b m k : Nat} {i : Int} (hr : RowZ w b (repL i m k)) (hk : k ≤ m) (hsz : (Try.prog.info? 3).map (·.size) = some 1) :
    (Builtin.copy_ #[22, 22] 3 #[.slice (some ⟨b, k, none⟩) (m - k) (m - k), .slice (some ⟨b, 0, none⟩) k m]).run Try.prog w = .ok (.int .i64 (Nat.min k (m - k) : Nat)) (w.setCells b k (intsZ (List.replicate (Nat.min k (m - k)) i))) := by
  have hmin : Nat.min k (m - k) ≤ k := Nat.min_le_left _ _
  have hmin2 : Nat.min k (m - k) ≤ m - k := Nat.min_le_right _ _
  have hlen := repL_len i m k hk
  have := run_copy_cells (P := Try.prog) w 22 22 3 3 b k (m - k) (m - k) ⟨b, 0, none⟩ k m (intsZ (List.replicate (Nat.min k (m - k)) i)) Try.underlying22 hsz (by rw [intsZ_len, List.length_replicate])
    (fun j v hj => by
      have hjl := (List.getElem?_eq_some_iff.1 hj).1
      rw [intsZ_len, List.length_replicate] at hjl
      have h1 := hr.cell j (by omega)
      have h2 : (repL i m k).getD j 0 = i := by
        unfold repL
        rw [List.getD_eq_getElem?_getD, List.getElem?_append_left (by rw [List.length_replicate]; omega), List.getElem?_replicate, if_pos (by omega)]; rfl
      rw [h2] at h1
      simp [intsZ, List.getElem?_replicate, hjl] at hj
      subst hj
      have hadd : (⟨b, 0, none⟩ : Addr).add j = ⟨b, j, none⟩ := by unfold Addr.add; split <;> simp_all
      rw [hadd]
      exact h1)
    (fun j hj => by
      rw [intsZ_len, List.length_replicate] at hj
      rw [hr.cell (k + j) (by omega)]; rfl)
    (fun j hj => hr.frozen (k + j)) (intsZ_one _)
  rw [intsZ_len, List.length_replicate] at this
  exact this

set_option maxRecDepth 100000 in
set_option maxHeartbeats 1000000 in
theorem repeat_any (g : Nat) (i : Int) (m : Nat) (w : World) (hm : m ≤ 64) (hg : Hid (w.cell? ⟨g, 0, none⟩ = some (.int .i64 i))) (hgl : Hid (g < w.heap.size)) :
    Calls Try.prog 116 #[.slice (some ⟨g, 0, none⟩) 1 1, .int .i64 m] w fun e w' => (e = .returned (.slice (some ⟨w.heap.size, 0, none⟩) m m) ∧ RowZ w' w.heap.size (List.replicate m i)) ∧ Below w.heap.size w w' := by
  have hmk := make22 m hm
  have c1 := mul_one_any m hm w
  have e1 : IntKind.u64.wrap (m : Int) = (m : Int) := wrapU m (by omega)
  have hsz : (Try.prog.info? 3).map (·.size) = some 1 := by obtain ⟨i0, hi, _, hz1, _⟩ := info_parts info3; rw [hi]; simp [hz1]
  have r0 : Hid (RowZ (w.alloc (.cells (intsZ (List.replicate m 0)).toArray 3)) w.heap.size (List.replicate m 0)) := RowZ.new w (List.replicate m 0)
  have B0 : Hid (Below w.heap.size w (w.alloc (.cells (intsZ (List.replicate m 0)).toArray 3))) := (Below.refl _ w).alloc (Nat.le_refl _) _
  have HC : Hid (∀ j v, [Value.int .i64 i][j]? = some v → (w.alloc (.cells (intsZ (List.replicate m 0)).toArray 3)).cell? ((⟨g, 0, none⟩ : Addr).add j) = some v) := fun j v hj => by
    match j, hj with
    | 0, hj =>
      simp at hj
      subst hj
      have h1 : (w.alloc (.cells (intsZ (List.replicate m 0)).toArray 3)).cell? ⟨g, 0, none⟩ = w.cell? ⟨g, 0, none⟩ := B0.out.cell (p := ⟨g, 0, none⟩) hgl.out
      simpa [Addr.add] using h1.trans hg.out
  by_cases h0 : m = 0
  · have HE : Hid (RowZ (w.alloc (.cells (intsZ (List.replicate m 0)).toArray 3)) w.heap.size (List.replicate m i)) := by
      show RowZ _ _ _
      have := r0.out
      rw [h0] at this ⊢
      exact this
    have hcp : (Builtin.copy_ #[22, 22] 3 #[.slice (some ⟨w.heap.size, 0, none⟩) m m, .slice (some ⟨g, 0, none⟩) 1 1]).run Try.prog (w.alloc (.cells (intsZ (List.replicate m 0)).toArray 3)) = .ok (.int .i64 0) (w.alloc (.cells (intsZ (List.replicate m 0)).toArray 3)) := run_copy_none _ 22 22 3 3 _ _ m m 1 1 Try.underlying22 hsz (by rw [h0]; rfl)
    have hni : ¬ ((0 : Int) < (m : Int)) := by omega
    clear h0 r0 HC
    go_enter Try.func116, Try.ntmps116
    go_wp2_with (first
      | (go_at_call 117; refine c1.mono ?_; rintro e w1 ⟨rfl, hw1⟩; replace hw1 := hw1.symm; subst hw1; clear c1))
    go_loopw [8] (fun N wr => N = .int .i64 0 ∧ wr = w.alloc (.cells (intsZ (List.replicate m 0)).toArray 3)) (fun _ _ => 0)
    case atStart => exact ⟨rfl, rfl⟩
    case round =>
      obtain ⟨rfl, rfl⟩ := hrel
      go_wp2
      go_ret
      exact ⟨⟨rfl, HE.out⟩, B0.out⟩
  · have hpos : 0 < m := by omega
    have hcp : (Builtin.copy_ #[22, 22] 3 #[.slice (some ⟨w.heap.size, 0, none⟩) m m, .slice (some ⟨g, 0, none⟩) 1 1]).run Try.prog (w.alloc (.cells (intsZ (List.replicate m 0)).toArray 3)) = .ok (.int .i64 1) ((w.alloc (.cells (intsZ (List.replicate m 0)).toArray 3)).setCell ⟨w.heap.size, 0, none⟩ (.int .i64 i)) :=
      run_copy_cells (P := Try.prog) _ 22 22 3 3 w.heap.size 0 m m ⟨g, 0, none⟩ 1 1 [.int .i64 i] Try.underlying22 hsz (Nat.min_eq_left hpos).symm HC.out (fun j hj => by rw [Nat.zero_add, r0.out.cell j (by simp at hj ⊢; omega)]; rfl) (fun j hj => r0.out.frozen (0 + j)) (by simp [Value.oneCell'])
    have R1 : Hid (RowZ ((w.alloc (.cells (intsZ (List.replicate m 0)).toArray 3)).setCell ⟨w.heap.size, 0, none⟩ (.int .i64 i)) w.heap.size (repL i m 1)) := by
      show RowZ _ _ _
      have h2 : RowZ (w.alloc (.cells (intsZ (List.replicate m 0)).toArray 3)) w.heap.size (repL i m 0) := r0.out
      rw [← repL_set i m 0 hpos]
      exact h2.set 0 i
    have B1 : Hid (Below w.heap.size w ((w.alloc (.cells (intsZ (List.replicate m 0)).toArray 3)).setCell ⟨w.heap.size, 0, none⟩ (.int .i64 i))) := (Upd.setCell _ w.heap.size 0 _).trans B0.out (Nat.le_refl _)
    obtain ⟨W1, hW1⟩ : ∃ W1, (w.alloc (.cells (intsZ (List.replicate m 0)).toArray 3)).setCell ⟨w.heap.size, 0, none⟩ (.int .i64 i) = W1 := ⟨_, rfl⟩
    rw [hW1] at hcp R1 B1
    clear h0 r0 B0 HC hW1
    go_enter Try.func116, Try.ntmps116
    go_wp2_with (first
      | (go_at_call 117; refine c1.mono ?_; rintro e w1 ⟨rfl, hw1⟩; replace hw1 := hw1.symm; subst hw1; clear c1))
    go_loopw [8] (fun N wr => ∃ k : Nat, 1 ≤ k ∧ k ≤ m ∧ N = .int .i64 k ∧ Hid (RowZ wr w.heap.size (repL i m k)) ∧ Hid (Below w.heap.size w wr)) (fun N _ => m - (intOf N).toNat)
    case atStart => exact ⟨1, by omega, by omega, rfl, R1.out, B1.out⟩
    case round =>
      obtain ⟨k, hk1, hk, rfl, hr, hB⟩ := hrel
      clear R1 B1 hcp hmk
      by_cases hlt : k < m
      · have hki : (k : Int) < (m : Int) := by omega
        obtain ⟨c, hc⟩ : ∃ c, Nat.min k (m - k) = c := ⟨_, rfl⟩
        have hc1 : 1 ≤ c := by rw [← hc]; exact Nat.le_min.2 ⟨hk1, by omega⟩
        have hc2 : c ≤ m - k := by rw [← hc]; exact Nat.min_le_right _ _
        have hrc := run_rep (w := wr.drew) (b := w.heap.size) hr.out hk hsz
        rw [hc] at hrc
        clear hc
        have HR : Hid (RowZ (wr.drew.setCells w.heap.size k (intsZ (List.replicate c i))) w.heap.size (repL i m (k + c))) := row_rep c k wr.drew hr.out (by omega)
        have HB : Hid (Below w.heap.size w (wr.drew.setCells w.heap.size k (intsZ (List.replicate c i)))) := (upd_setCells _ _ _ _).trans hB.out.drew (Nat.le_refl _)
        obtain ⟨W2, hW2⟩ : ∃ W2, wr.drew.setCells w.heap.size k (intsZ (List.replicate c i)) = W2 := ⟨_, rfl⟩
        rw [hW2] at hrc HR HB
        clear hW2
        clear hr hB hsz
        go_wp2_with fail
        go_region
        all_goals (
          go_wp2
          go_roundw
          case rel => exact ⟨k + c, by omega, by omega, by go_num, HR.out, HB.out⟩
          case measure => simp [intOf]; omega)
      · obtain rfl : k = m := by omega
        have HE : Hid (RowZ wr w.heap.size (List.replicate k i)) := (show RowZ _ _ _ by have := hr.out; unfold repL at this; rw [Nat.sub_self] at this; simpa using this)
        clear hr
        go_wp2
        go_ret
        exact ⟨⟨rfl, HE.out⟩, hB.out⟩
end Go.Proofs.Ytghfomammdbgoaa

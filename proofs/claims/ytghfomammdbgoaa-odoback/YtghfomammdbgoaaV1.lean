/- Weaves: shares, a copy of the lengths. -/
import Derived.Test.YtghfomammdbgoaaA5
import Derived.Test.YtghfomammdbgoaaD2
namespace Go.Proofs.Ytghfomammdbgoaa
open Go.RowKit Go.Shelf Go.Sort K
set_option linter.unusedSimpArgs false
set_option linter.unusedVariables false

theorem scaleAt_any (l : List Nat) (hs : sumN l ≤ 64) : ScaleAt l := fun i k hi hk hq W => by
  have h1 : sumN (l.take i) + l.getD i 0 ≤ 64 := by
    have h2 := sumN_take_le l (i + 1)
    rw [takeN_snoc l i hi, sumN_snoc] at h2
    omega
  have e : wvN 0 (l.take i) * chs (sumN (l.take i) + k) k * (sumN (l.take i) + k + 1) / (k + 1) = wvN 0 (l.take i) * chs (sumN (l.take i) + (k + 1)) (k + 1) := by
    have h3 := chs_step (sumN (l.take i) + k) k
    rw [Nat.mul_assoc, ← h3, ← Nat.mul_assoc, Nat.mul_div_cancel _ (Nat.succ_pos k)]
    rfl
  have := scale_any (wvN 0 (l.take i) * chs (sumN (l.take i) + k) k) (sumN (l.take i) + k + 1) (k + 1) hq (by omega) (by omega) (by omega) W
  rw [e] at this
  exact this

set_option maxRecDepth 100000 in
set_option maxHeartbeats 1000000 in
theorem share_any (c o s : Nat) (w : World) (hc : c < 18446744073709551616) (ho : o ≤ 64) (h0 : 0 < s) (hs : s ≤ 64) (hq : Hid (c * o / s < 18446744073709551616)) :
    Calls Try.prog 115 #[.int .u64 c, .int .i64 o, .int .i64 s] w fun e w' => e = .returned (.int .u64 (c * o / s : Nat)) ∧ Below w.heap.size w w' := by
  have hsc := scale_any c o s hc (by omega) h0 hs w
  rw [scV, if_pos hq.out] at hsc
  clear hc ho h0 hs hq
  generalize c * o / s = v at *
  go_enter Try.func115, Try.ntmps115
  go_wp2_with (first
    | (go_at_call 68; refine hsc.mono ?_; rintro e w1 ⟨rfl, hB1⟩; clear hsc))
  go_ret
  exact ⟨rfl, hB1⟩

set_option maxRecDepth 100000 in
set_option maxHeartbeats 1000000 in
theorem clone86_any (a : Option Addr) (cap : Nat) (zs : List Int) (w : World) (hN : Nums w a zs) (ha : a = none → zs = []) (hl : zs.length * 8 ≤ 140737488351232) :
    Calls Try.prog 114 #[.slice a zs.length cap] w fun e w' => (∃ v', e = .returned v' ∧ OwnZ w' w.heap.size v' zs) ∧ Below w.heap.size w w' := by
  have q22 : ∀ (w : World) (a : Option Addr) (n c n' c' : Nat), (binOp .eql 86 (.slice a n c) (.slice none n' c')).run Try.prog w = .ok (.bool a.isNone) w := fun w a n c n' c' => Lib.run_eql_slice_nil w _ _ a n c n' c' Try.underlying86
  cases a with
  | none =>
    obtain rfl := ha rfl
    go_enter Try.func114, Try.ntmps114
    go_wp2
    go_ret
    exact ⟨⟨_, rfl, World.ownsRow_nil _ _ _ _⟩, Below.refl _ _⟩
  | some ad =>
    obtain ⟨i0, hi, hz0, hz1, hz2⟩ := info_parts info3
    have hown0 : (w.alloc (.cells #[] 3)).ownsRow w.heap.size 3 1 (.slice (some ⟨w.heap.size, 0, none⟩) 0 0) 0 [] := World.ownsRow_lit w #[] 0 (Nat.le_refl _) (by decide) rfl
    have hBw : Below w.heap.size w (w.alloc (.cells #[] 3)) := (Below.refl _ w).alloc (Nat.le_refl _) _
    have hnews : Hid (∀ j u, (intsZ zs)[j]? = some u → (w.alloc (.cells #[] 3)).cell? (ad.add j) = some u) := news_of (hN.below hBw)
    clear hN
    go_enter Try.func114, Try.ntmps114
    go_wp2_with (at_builtin; refine wpList_append_own _ rfl (.tmp 5) (.tmp 6) 86 rfl w.heap.size 3 i0 (.int .i64 0) 1 8 Try.underlying86 hi hz0 hz1 hz2 rfl (by decide) _ 0 [] rfl hown0 ad zs.length cap (intsZ zs) rfl (by rw [intsZ_len, Nat.mul_one]) hnews.out (intsZ_one _) (by unfold maxLen; omega) (by omega) (by simp) ?_; intro v1 wa own1 grow1 hif1; clear hif1; simp only [Nat.zero_add, List.nil_append] at own1; replace hBw := hBw.grown grow1 hBw.size (fun k e => by cases e; exact Nat.le_refl _); replace own1 : OwnZ wa w.heap.size v1 zs := own1; clear grow1 hnews hown0)
    go_ret
    exact ⟨⟨_, rfl, own1⟩, hBw⟩
end Go.Proofs.Ytghfomammdbgoaa

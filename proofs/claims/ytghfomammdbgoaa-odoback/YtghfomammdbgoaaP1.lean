/- What sizes and lengths are asked, and a copy of a list. -/
import Derived.Test.YtghfomammdbgoaaS2
import Derived.Lib.SliceRun
namespace Go.Proofs.Ytghfomammdbgoaa
open Go.RowKit K Go.Joins
set_option linter.unusedSimpArgs false
set_option linter.unusedVariables false

theorem neg_any (z : Int) (w : World) : Calls Try.prog 42 #[.int .i64 z] w fun e w' => e = .returned (.bool (decide (z < 0))) ∧ w' = w := by
  go_enter Try.func42, Try.ntmps42
  go_wp2
  go_ret
  exact ⟨rfl, rfl⟩

/-- Is there a number below 0? -/
def negs (zs : List Int) : Bool := zs.any fun z => decide (z < 0)

set_option maxHeartbeats 1000000 in
theorem indexF_any (a : Option Addr) (cap : Nat) (zs : List Int) (w : World) (hN : Hid (Nums w a zs)) (hl : zs.length ≤ 1152921504606846976) :
    Calls Try.prog 43 #[.slice a zs.length cap, .func (.func 42) #[] #[]] w fun e w' => (∃ r : Int, e = .returned (.int .i64 r) ∧ (0 ≤ r ↔ negs zs = true)) ∧ w' = w := by
  go_enter Try.func43, Try.ntmps43
  go_wp2
  go_loop [8] (fun i => ∃ k : Nat, k ≤ zs.length ∧ Hid (negs (zs.take k) = false) ∧ i = .int .i64 k) (fun i => zs.length - (intOf i).toNat)
  case atStart => exact ⟨0, by omega, by simp [Hid, negs], rfl⟩
  case round =>
    obtain ⟨k, hk, HF, rfl⟩ := hrel
    by_cases hlt : k < zs.length
    · obtain ⟨b, off, rfl, hc⟩ := hN.out k hlt
      have HS : Hid (zs.take (k + 1) = zs.take k ++ [zs.getD k 0]) := take_snoc zs k hlt
      have HM : Hid (zs.getD k 0 ∈ zs) := (show zs.getD k 0 ∈ zs by rw [List.getD_eq_getElem?_getD, List.getElem?_eq_getElem hlt]; exact List.getElem_mem hlt)
      have c := neg_any (zs.getD k 0) w
      clear hN
      generalize zs.getD k 0 = x at *
      by_cases hx : x < 0
      · rw [decide_eq_true hx] at c
        go_wp2_with (go_at_call 42; refine c.mono ?_; rintro e w' ⟨rfl, hw'⟩; replace hw' := hw'.symm; subst hw')
        go_ret
        exact ⟨⟨_, rfl, fun _ => List.any_eq_true.2 ⟨x, HM.out, by simpa using hx⟩, fun _ => by omega⟩, rfl⟩
      · rw [decide_eq_false hx] at c
        go_wp2_with (go_at_call 42; refine c.mono ?_; rintro e w' ⟨rfl, hw'⟩; replace hw' := hw'.symm; subst hw')
        go_round
        case rel => exact ⟨k + 1, by omega, by rw [HS.out]; have h1 := HF.out; unfold negs at h1 ⊢; rw [List.any_append, h1]; simpa [Hid] using hx, by go_num⟩
        case measure => simp [intOf]; omega
    · obtain rfl : k = zs.length := by omega
      rw [List.take_length] at HF
      go_wp2
      go_ret
      exact ⟨⟨_, rfl, fun h => absurd h (by decide), fun h => absurd h (by rw [HF.out]; simp)⟩, rfl⟩

theorem containsF_any (a : Option Addr) (cap : Nat) (zs : List Int) (w : World) (hN : Hid (Nums w a zs)) (hl : zs.length ≤ 1152921504606846976) :
    Calls Try.prog 41 #[.slice a zs.length cap, .func (.func 42) #[] #[]] w fun e w' => e = .returned (.bool (negs zs)) ∧ w' = w := by
  have c := indexF_any a cap zs w hN hl
  clear hN
  go_enter Try.func41, Try.ntmps41
  go_wp2_with (go_at_call 43; refine c.mono ?_; rintro e w' ⟨⟨r, rfl, hr⟩, hw'⟩; replace hw' := hw'.symm; subst hw')
  go_ret
  refine ⟨?_, rfl⟩
  have : decide (0 ≤ r) = negs zs := by cases h : negs zs <;> simp [hr, h]
  rw [← this]
  rfl

def chkE (zs : List Int) : Int := if 64 < zs.length then 1 else if negs zs = true then 4 else 0

set_option maxHeartbeats 1000000 in
theorem check_any (a : Option Addr) (cap : Nat) (zs : List Int) (w : World) (hN : Hid (Nums w a zs)) (hl : zs.length ≤ 1152921504606846976) :
    Calls Try.prog 36 #[.slice a zs.length cap] w fun e w' => e = .returned (.int .i64 (chkE zs)) ∧ w' = w := by
  have c := containsF_any a cap zs w hN hl
  clear hN
  by_cases h : 64 < zs.length
  · have E : Hid (chkE zs = 1) := if_pos h
    go_enter Try.func36, Try.ntmps36
    go_wp2
    go_ret
    exact ⟨by rw [E.out]; rfl, rfl⟩
  · cases hn : negs zs
    · have E : Hid (chkE zs = 0) := (show chkE zs = 0 by unfold chkE; rw [if_neg h, hn]; rfl)
      rw [hn] at c
      go_enter Try.func36, Try.ntmps36
      go_wp2_with (go_at_call 41; refine c.mono ?_; rintro e w' ⟨rfl, hw'⟩; replace hw' := hw'.symm; subst hw')
      go_ret
      exact ⟨by rw [E.out]; rfl, rfl⟩
    · have E : Hid (chkE zs = 4) := (show chkE zs = 4 by unfold chkE; rw [if_neg h, hn]; rfl)
      rw [hn] at c
      go_enter Try.func36, Try.ntmps36
      go_wp2_with (go_at_call 41; refine c.mono ?_; rintro e w' ⟨rfl, hw'⟩; replace hw' := hw'.symm; subst hw')
      go_ret
      exact ⟨by rw [E.out]; rfl, rfl⟩

set_option maxRecDepth 100000 in
set_option maxHeartbeats 1000000 in
theorem clone_any (a : Option Addr) (cap : Nat) (zs : List Int) (w : World) (hN : Nums w a zs) (ha : a = none → zs = []) (hl : zs.length * 8 ≤ 140737488351232) :
    Calls Try.prog 37 #[.slice a zs.length cap] w fun e w' => (∃ a' cap', e = .returned (.slice a' zs.length cap') ∧ Nums w' a' zs) ∧ Below w.heap.size w w' := by
  have q22 : ∀ (w : World) (a : Option Addr) (n c n' c' : Nat), (binOp .eql 22 (.slice a n c) (.slice none n' c')).run Try.prog w = .ok (.bool a.isNone) w := fun w a n c n' c' => Lib.run_eql_slice_nil w _ _ a n c n' c' Try.underlying22
  cases a with
  | none =>
    obtain rfl := ha rfl
    go_enter Try.func37, Try.ntmps37
    go_wp2
    go_ret
    refine ⟨?_, Below.refl _ _⟩
    exact ⟨none, ⟨0, rfl⟩, fun j hj => absurd hj (by simp)⟩
  | some ad =>
    obtain ⟨i0, hi, hz0, hz1, hz2⟩ := info_parts info3
    have hown0 : (w.alloc (.cells #[] 3)).ownsRow w.heap.size 3 1 (.slice (some ⟨w.heap.size, 0, none⟩) 0 0) 0 [] := World.ownsRow_lit w #[] 0 (Nat.le_refl _) (by decide) rfl
    have hBw : Below w.heap.size w (w.alloc (.cells #[] 3)) := (Below.refl _ w).alloc (Nat.le_refl _) _
    have hnews : Hid (∀ j u, (intsZ zs)[j]? = some u → (w.alloc (.cells #[] 3)).cell? (ad.add j) = some u) := news_of (hN.below hBw)
    clear hN
    go_enter Try.func37, Try.ntmps37
    go_wp2_with (at_builtin; refine wpList_append_own _ rfl (.tmp 5) (.tmp 6) 22 rfl w.heap.size 3 i0 (.int .i64 0) 1 8 Try.underlying22 hi hz0 hz1 hz2 rfl (by decide) _ 0 [] rfl hown0 ad zs.length cap (intsZ zs) rfl (by rw [intsZ_len, Nat.mul_one]) hnews.out (intsZ_one _) (by unfold maxLen; omega) (by omega) (by simp) ?_; intro v1 wa own1 grow1 hif1; clear hif1; simp only [Nat.zero_add, List.nil_append] at own1; replace hBw := hBw.grown grow1 hBw.size (fun k e => by cases e; exact Nat.le_refl _); clear grow1 hnews hown0)
    go_ret
    obtain ⟨a', cap', rfl, H⟩ := view_of_own own1
    exact ⟨⟨a', cap', rfl, H⟩, hBw⟩
end Go.Proofs.Ytghfomammdbgoaa

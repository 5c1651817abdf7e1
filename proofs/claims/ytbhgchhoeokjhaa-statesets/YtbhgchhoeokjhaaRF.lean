/- Find of the reference. -/
import Derived.Test.YtbhgchhoeokjhaaFI
namespace Go.Proofs.Ytbhgchhoeokjhaa
open Go Go.RowKit M
set_option linter.unusedSimpArgs false
set_option linter.unusedVariables false

theorem FindAt.uniq {l : List FS} {f : FS} {p q : Nat} (h : FindAt l f p) (h' : FindAt l f q) : p = q := by
  rcases Nat.lt_trichotomy p q with hl | hl | hl
  · exact absurd (h'.2.1 p hl) (h.2.2 p (Nat.le_refl _) (Nat.lt_of_lt_of_le hl h'.1))
  · exact hl
  · exact absurd (h.2.1 q hl) (h'.2.2 q (Nat.le_refl _) (Nat.lt_of_lt_of_le hl h.1))
theorem find_stop {l : List FS} {f : FS} {p : Nat} (hR : Ris l) (hp : p ≤ l.length) (h1 : ∀ j, j < p → ltF (l.getD j FS.zero) f) (h2 : p < l.length → ¬ ltF (l.getD p FS.zero) f) : FindAt l f p := by
  refine ⟨hp, h1, fun j hj hl h => ?_⟩
  by_cases e : p = j
  · subst e; exact h2 hl h
  · have hpj : p < j := by omega
    exact h2 (by omega) (ltF_trans (ris_lt hR hpj hl) h)
set_option maxRecDepth 100000 in
set_option maxHeartbeats 2000000 in
theorem rfind_any (a : Option Addr) (cap : Nat) (l : List FS) (f : FS) (hn : l.length ≤ 8000) (hR : Ris l) (w : World) (hS : Seg w a (flatF l)) :
    Calls Try.prog 23 #[.slice a l.length cap, .agg (encF f).toArray] w fun e w' => ∃ p : Nat, FindAt l f p ∧ e = .returned (.tuple #[.int .i64 (p : Int), .bool (decide (f ∈ l))]) ∧ Below w.heap.size w w' := by
  obtain ⟨n, hll⟩ : ∃ n, l.length = n := ⟨_, rfl⟩
  simp only [hll] at hn ⊢
  have HLL : Hid (l.length = n) := hll
  have HS : Hid (Seg w a (flatF l)) := hS
  have hnI : (n : Int) ≤ 8000 := by omega
  clear hll hS
  go_enter Try.func23, Try.ntmps23
  have ta : True := trivial
  go_wp2_with (first
    | (clear ta; refine wpList_boxS rfl _ _ rfl (encF f) rfl ?_; intro w1 b1 F1 I1; have B1 := fresh_b F1))
  go_loopw [6] (fun i wr => ∃ p : Nat, p ≤ n ∧ i = .int .i64 (p : Int) ∧ Hid (∀ j, j < p → ltF (l.getD j FS.zero) f) ∧ Below w1.heap.size w1 wr) (fun i _ => n - (intOf i).toNat)
  case atStart => exact ⟨0, Nat.zero_le _, rfl, fun j hj => absurd hj (Nat.not_lt_zero _), Below.refl _ _⟩
  case round =>
    obtain ⟨p, hp, rfl, HF, BR⟩ := hrel
    have I2 := I1.grown BR
    have S2 := HS.out.below (Below.then B1 BR)
    by_cases hpl : p < n
    · have hpn : (p : Int) < (n : Int) := by omega
      obtain ⟨b, o, ea, HB, HX⟩ := seg_elem S2 p (by rw [HLL.out]; exact hpl)
      subst ea
      obtain ⟨X, hX⟩ : ∃ X, l.getD p FS.zero = X := ⟨_, rfl⟩
      have HXe : Hid (l.getD p FS.zero = X) := hX
      rw [hX] at HX
      obtain ⟨z, hz0⟩ : ∃ z, cmpF X f = z := ⟨_, rfl⟩
      have HZ : Hid (cmpF X f = z) := hz0
      have hc := rcompare_ans X f
      rw [hz0] at hc
      clear hX hz0
      by_cases hz : z < 0
      · clear S2
        go_wp2
        refine grow_allW (by kernel_rfl) (by kernel_rfl) ?_
        refine WG.put rfl (v := .int .i64 (p : Int)) (fun w => by first | rfl | (go_simp; done) | (simp [go_sem]; done)) ?_
        simp only [Act.put, List.setIfInBounds_toArray, List.set_cons_succ, List.set_cons_zero]
        refine WG.put rfl (v := .slice (some ⟨b, o, none⟩) n cap) (fun w => by first | rfl | (go_simp; done) | (simp [go_sem]; done)) ?_
        simp only [Act.put, List.setIfInBounds_toArray, List.set_cons_succ, List.set_cons_zero]
        refine WG.put rfl (v := .int .i64 (n : Int)) (fun w => by first | rfl | (go_simp; done) | (simp [go_sem]; done)) ?_
        simp only [Act.put, List.setIfInBounds_toArray, List.set_cons_succ, List.set_cons_zero]
        refine WG.put rfl (v := .bool true) (fun w => by first | rfl | (go_simp; done) | (simp [go_sem, hpn]; done)) ?_
        simp only [Act.put, List.setIfInBounds_toArray, List.set_cons_succ, List.set_cons_zero]
        refine WG.put rfl (v := .bool true) (fun w => by first | rfl | (go_simp; done) | (simp [go_sem]; done)) ?_
        simp only [Act.put, List.setIfInBounds_toArray, List.set_cons_succ, List.set_cons_zero]
        refine WG.put rfl (v := .slice (some ⟨b, o, none⟩) n cap) (fun w => by first | rfl | (go_simp; done) | (simp [go_sem]; done)) ?_
        simp only [Act.put, List.setIfInBounds_toArray, List.set_cons_succ, List.set_cons_zero]
        refine WG.put rfl (v := .int .i64 (p : Int)) (fun w => by first | rfl | (go_simp; done) | (simp [go_sem]; done)) ?_
        simp only [Act.put, List.setIfInBounds_toArray, List.set_cons_succ, List.set_cons_zero]
        refine WG.put rfl (v := .pointer (some ⟨b, o + p * 49, none⟩)) (fun w => by first | rfl | (go_simp; done) | (simp [go_sem, hpn]; done)) ?_
        simp only [Act.put, List.setIfInBounds_toArray, List.set_cons_succ, List.set_cons_zero]
        refine WG.elem (x := X) rfl _ rfl rfl HB HX ?_
        simp only [Act.put, List.setIfInBounds_toArray, List.set_cons_succ, List.set_cons_zero]
        refine WG.whole rfl _ rfl rfl I2 ?_
        simp only [Act.put, List.setIfInBounds_toArray, List.set_cons_succ, List.set_cons_zero]
        refine WG.call rfl (v := .int .i64 z) (fun w _ => hc w) (fun w => by first | rfl | (go_simp; done) | (simp [go_sem]; done)) ?_
        simp only [Act.put, List.setIfInBounds_toArray, List.set_cons_succ, List.set_cons_zero]
        refine WG.put rfl (v := .bool true) (fun w => by first | rfl | (go_simp; done) | (simp [go_sem, hz]; done)) ?_
        simp only [Act.put, List.setIfInBounds_toArray, List.set_cons_succ, List.set_cons_zero]
        refine WG.put rfl (v := .bool true) (fun w => by first | rfl | (go_simp; done) | (simp [go_sem]; done)) ?_
        simp only [Act.put, List.setIfInBounds_toArray, List.set_cons_succ, List.set_cons_zero]
        refine WG.nil ?_
        intro w5 B5
        clear HX
        go_wp2
        go_roundw
        case rel =>
          refine ⟨p + 1, by omega, by go_num, fun j hj => ?_, Below.then BR B5⟩
          rcases Nat.lt_succ_iff_lt_or_eq.1 hj with h | h
          · exact HF.out j h
          · subst h; rw [HXe.out]; unfold ltF; rw [HZ.out]; exact hz
        case measure => simp [intOf]; omega
      · have HFA : Hid (FindAt l f p) := find_stop hR (by rw [HLL.out]; exact hp) HF.out (fun _ h => hz (by rw [HXe.out] at h; unfold ltF at h; rw [HZ.out] at h; exact h))
        obtain ⟨d, hd'⟩ : ∃ d, decide (f ∈ l) = d := ⟨_, rfl⟩
        have hd : decide (X = f) = d := by rw [← hd', ← HXe.out]; exact HFA.out.mem hR (by rw [HLL.out]; exact hpl)
        have HD : Hid (decide (f ∈ l) = d) := hd'
        clear hd'
        go_wp2
        refine grow_allW (by kernel_rfl) (by kernel_rfl) ?_
        refine WG.put rfl (v := .int .i64 (p : Int)) (fun w => by first | rfl | (go_simp; done) | (simp [go_sem]; done)) ?_
        simp only [Act.put, List.setIfInBounds_toArray, List.set_cons_succ, List.set_cons_zero]
        refine WG.put rfl (v := .slice (some ⟨b, o, none⟩) n cap) (fun w => by first | rfl | (go_simp; done) | (simp [go_sem]; done)) ?_
        simp only [Act.put, List.setIfInBounds_toArray, List.set_cons_succ, List.set_cons_zero]
        refine WG.put rfl (v := .int .i64 (n : Int)) (fun w => by first | rfl | (go_simp; done) | (simp [go_sem]; done)) ?_
        simp only [Act.put, List.setIfInBounds_toArray, List.set_cons_succ, List.set_cons_zero]
        refine WG.put rfl (v := .bool true) (fun w => by first | rfl | (go_simp; done) | (simp [go_sem, hpn]; done)) ?_
        simp only [Act.put, List.setIfInBounds_toArray, List.set_cons_succ, List.set_cons_zero]
        refine WG.put rfl (v := .bool true) (fun w => by first | rfl | (go_simp; done) | (simp [go_sem]; done)) ?_
        simp only [Act.put, List.setIfInBounds_toArray, List.set_cons_succ, List.set_cons_zero]
        refine WG.put rfl (v := .slice (some ⟨b, o, none⟩) n cap) (fun w => by first | rfl | (go_simp; done) | (simp [go_sem]; done)) ?_
        simp only [Act.put, List.setIfInBounds_toArray, List.set_cons_succ, List.set_cons_zero]
        refine WG.put rfl (v := .int .i64 (p : Int)) (fun w => by first | rfl | (go_simp; done) | (simp [go_sem]; done)) ?_
        simp only [Act.put, List.setIfInBounds_toArray, List.set_cons_succ, List.set_cons_zero]
        refine WG.put rfl (v := .pointer (some ⟨b, o + p * 49, none⟩)) (fun w => by first | rfl | (go_simp; done) | (simp [go_sem, hpn]; done)) ?_
        simp only [Act.put, List.setIfInBounds_toArray, List.set_cons_succ, List.set_cons_zero]
        refine WG.elem (x := X) rfl _ rfl rfl HB HX ?_
        simp only [Act.put, List.setIfInBounds_toArray, List.set_cons_succ, List.set_cons_zero]
        refine WG.whole rfl _ rfl rfl I2 ?_
        simp only [Act.put, List.setIfInBounds_toArray, List.set_cons_succ, List.set_cons_zero]
        refine WG.call rfl (v := .int .i64 z) (fun w _ => hc w) (fun w => by first | rfl | (go_simp; done) | (simp [go_sem]; done)) ?_
        simp only [Act.put, List.setIfInBounds_toArray, List.set_cons_succ, List.set_cons_zero]
        refine WG.put rfl (v := .bool false) (fun w => by first | rfl | (go_simp; done) | (simp [go_sem, hz]; done)) ?_
        simp only [Act.put, List.setIfInBounds_toArray, List.set_cons_succ, List.set_cons_zero]
        refine WG.put rfl (v := .bool false) (fun w => by first | rfl | (go_simp; done) | (simp [go_sem]; done)) ?_
        simp only [Act.put, List.setIfInBounds_toArray, List.set_cons_succ, List.set_cons_zero]
        refine WG.nil ?_
        intro w5 B5
        have I3 := I2.grown B5
        clear HX HB
        obtain ⟨b', o', ea, HB, HX⟩ := seg_elem (S2.below B5) p (by rw [HLL.out]; exact hpl)
        cases ea
        rw [HXe.out] at HX
        clear S2
        go_wp2
        refine grow_allW (by kernel_rfl) (by kernel_rfl) ?_
        refine WG.put rfl (v := .int .i64 (p : Int)) (fun w => by first | rfl | (go_simp; done) | (simp [go_sem]; done)) ?_
        simp only [Act.put, List.setIfInBounds_toArray, List.set_cons_succ, List.set_cons_zero]
        refine WG.put rfl (v := .int .i64 (p : Int)) (fun w => by first | rfl | (go_simp; done) | (simp [go_sem]; done)) ?_
        simp only [Act.put, List.setIfInBounds_toArray, List.set_cons_succ, List.set_cons_zero]
        refine WG.put rfl (v := .slice (some ⟨b, o, none⟩) n cap) (fun w => by first | rfl | (go_simp; done) | (simp [go_sem]; done)) ?_
        simp only [Act.put, List.setIfInBounds_toArray, List.set_cons_succ, List.set_cons_zero]
        refine WG.put rfl (v := .int .i64 (n : Int)) (fun w => by first | rfl | (go_simp; done) | (simp [go_sem]; done)) ?_
        simp only [Act.put, List.setIfInBounds_toArray, List.set_cons_succ, List.set_cons_zero]
        refine WG.put rfl (v := .bool true) (fun w => by first | rfl | (go_simp; done) | (simp [go_sem, hpn]; done)) ?_
        simp only [Act.put, List.setIfInBounds_toArray, List.set_cons_succ, List.set_cons_zero]
        refine WG.put rfl (v := .bool true) (fun w => by first | rfl | (go_simp; done) | (simp [go_sem]; done)) ?_
        simp only [Act.put, List.setIfInBounds_toArray, List.set_cons_succ, List.set_cons_zero]
        refine WG.put rfl (v := .slice (some ⟨b, o, none⟩) n cap) (fun w => by first | rfl | (go_simp; done) | (simp [go_sem]; done)) ?_
        simp only [Act.put, List.setIfInBounds_toArray, List.set_cons_succ, List.set_cons_zero]
        refine WG.put rfl (v := .int .i64 (p : Int)) (fun w => by first | rfl | (go_simp; done) | (simp [go_sem]; done)) ?_
        simp only [Act.put, List.setIfInBounds_toArray, List.set_cons_succ, List.set_cons_zero]
        refine WG.put rfl (v := .pointer (some ⟨b, o + p * 49, none⟩)) (fun w => by first | rfl | (go_simp; done) | (simp [go_sem, hpn]; done)) ?_
        simp only [Act.put, List.setIfInBounds_toArray, List.set_cons_succ, List.set_cons_zero]
        refine WG.elem (x := X) rfl _ rfl rfl HB HX ?_
        simp only [Act.put, List.setIfInBounds_toArray, List.set_cons_succ, List.set_cons_zero]
        refine WG.whole rfl _ rfl rfl I3 ?_
        simp only [Act.put, List.setIfInBounds_toArray, List.set_cons_succ, List.set_cons_zero]
        refine WG.eqF rfl _ _ rfl rfl rfl d hd ?_
        simp only [Act.put, List.setIfInBounds_toArray, List.set_cons_succ, List.set_cons_zero]
        refine WG.put rfl (v := .bool d) (fun w => by first | rfl | (go_simp; done) | (simp [go_sem]; done)) ?_
        simp only [Act.put, List.setIfInBounds_toArray, List.set_cons_succ, List.set_cons_zero]
        refine WG.put rfl (v := .int .i64 (p : Int)) (fun w => by first | rfl | (go_simp; done) | (simp [go_sem]; done)) ?_
        simp only [Act.put, List.setIfInBounds_toArray, List.set_cons_succ, List.set_cons_zero]
        refine WG.put rfl (v := .bool d) (fun w => by first | rfl | (go_simp; done) | (simp [go_sem]; done)) ?_
        simp only [Act.put, List.setIfInBounds_toArray, List.set_cons_succ, List.set_cons_zero]
        refine WG.nil ?_
        intro w6 B6
        clear HX
        go_wp2
        go_ret2
        exact ⟨p, HFA.out, by rw [HD.out]; rfl, Below.then (Below.then (Below.then B1 BR) B5) B6⟩
    · have hpn : ¬ ((p : Int) < (n : Int)) := by omega
      have HFA : Hid (FindAt l f p) := find_stop hR (by rw [HLL.out]; exact hp) HF.out (fun h => absurd h (by rw [HLL.out]; exact hpl))
      have HD : Hid (decide (f ∈ l) = false) := HFA.out.none (by rw [HLL.out]; exact hpl)
      clear S2
      go_wp2
      refine grow_allW (by kernel_rfl) (by kernel_rfl) ?_
      refine WG.put rfl (v := .int .i64 (p : Int)) (fun w => by first | rfl | (go_simp; done) | (simp [go_sem]; done)) ?_
      simp only [Act.put, List.setIfInBounds_toArray, List.set_cons_succ, List.set_cons_zero]
      refine WG.put rfl (v := .slice a n cap) (fun w => by first | rfl | (go_simp; done) | (simp [go_sem]; done)) ?_
      simp only [Act.put, List.setIfInBounds_toArray, List.set_cons_succ, List.set_cons_zero]
      refine WG.put rfl (v := .int .i64 (n : Int)) (fun w => by first | rfl | (go_simp; done) | (simp [go_sem]; done)) ?_
      simp only [Act.put, List.setIfInBounds_toArray, List.set_cons_succ, List.set_cons_zero]
      refine WG.put rfl (v := .bool false) (fun w => by first | rfl | (go_simp; done) | (simp [go_sem, hpn]; done)) ?_
      simp only [Act.put, List.setIfInBounds_toArray, List.set_cons_succ, List.set_cons_zero]
      refine WG.put rfl (v := .bool false) (fun w => by first | rfl | (go_simp; done) | (simp [go_sem]; done)) ?_
      simp only [Act.put, List.setIfInBounds_toArray, List.set_cons_succ, List.set_cons_zero]
      refine WG.skip rfl ?_
      simp only [Act.put, List.setIfInBounds_toArray, List.set_cons_succ, List.set_cons_zero]
      refine WG.skip rfl ?_
      simp only [Act.put, List.setIfInBounds_toArray, List.set_cons_succ, List.set_cons_zero]
      refine WG.skip rfl ?_
      simp only [Act.put, List.setIfInBounds_toArray, List.set_cons_succ, List.set_cons_zero]
      refine WG.skip rfl ?_
      simp only [Act.put, List.setIfInBounds_toArray, List.set_cons_succ, List.set_cons_zero]
      refine WG.skip rfl ?_
      simp only [Act.put, List.setIfInBounds_toArray, List.set_cons_succ, List.set_cons_zero]
      refine WG.skip rfl ?_
      simp only [Act.put, List.setIfInBounds_toArray, List.set_cons_succ, List.set_cons_zero]
      refine WG.skip rfl ?_
      simp only [Act.put, List.setIfInBounds_toArray, List.set_cons_succ, List.set_cons_zero]
      refine WG.put rfl (v := .bool false) (fun w => by first | rfl | (go_simp; done) | (simp [go_sem]; done)) ?_
      simp only [Act.put, List.setIfInBounds_toArray, List.set_cons_succ, List.set_cons_zero]
      refine WG.nil ?_
      intro w5 B5
      go_wp2
      refine grow_allW (by kernel_rfl) (by kernel_rfl) ?_
      refine WG.put rfl (v := .int .i64 (p : Int)) (fun w => by first | rfl | (go_simp; done) | (simp [go_sem]; done)) ?_
      simp only [Act.put, List.setIfInBounds_toArray, List.set_cons_succ, List.set_cons_zero]
      refine WG.put rfl (v := .int .i64 (p : Int)) (fun w => by first | rfl | (go_simp; done) | (simp [go_sem]; done)) ?_
      simp only [Act.put, List.setIfInBounds_toArray, List.set_cons_succ, List.set_cons_zero]
      refine WG.put rfl (v := .slice a n cap) (fun w => by first | rfl | (go_simp; done) | (simp [go_sem]; done)) ?_
      simp only [Act.put, List.setIfInBounds_toArray, List.set_cons_succ, List.set_cons_zero]
      refine WG.put rfl (v := .int .i64 (n : Int)) (fun w => by first | rfl | (go_simp; done) | (simp [go_sem]; done)) ?_
      simp only [Act.put, List.setIfInBounds_toArray, List.set_cons_succ, List.set_cons_zero]
      refine WG.put rfl (v := .bool false) (fun w => by first | rfl | (go_simp; done) | (simp [go_sem, hpn]; done)) ?_
      simp only [Act.put, List.setIfInBounds_toArray, List.set_cons_succ, List.set_cons_zero]
      refine WG.put rfl (v := .bool false) (fun w => by first | rfl | (go_simp; done) | (simp [go_sem]; done)) ?_
      simp only [Act.put, List.setIfInBounds_toArray, List.set_cons_succ, List.set_cons_zero]
      refine WG.skip rfl ?_
      simp only [Act.put, List.setIfInBounds_toArray, List.set_cons_succ, List.set_cons_zero]
      refine WG.skip rfl ?_
      simp only [Act.put, List.setIfInBounds_toArray, List.set_cons_succ, List.set_cons_zero]
      refine WG.skip rfl ?_
      simp only [Act.put, List.setIfInBounds_toArray, List.set_cons_succ, List.set_cons_zero]
      refine WG.skip rfl ?_
      simp only [Act.put, List.setIfInBounds_toArray, List.set_cons_succ, List.set_cons_zero]
      refine WG.skip rfl ?_
      simp only [Act.put, List.setIfInBounds_toArray, List.set_cons_succ, List.set_cons_zero]
      refine WG.skip rfl ?_
      simp only [Act.put, List.setIfInBounds_toArray, List.set_cons_succ, List.set_cons_zero]
      refine WG.put rfl (v := .bool false) (fun w => by first | rfl | (go_simp; done) | (simp [go_sem]; done)) ?_
      simp only [Act.put, List.setIfInBounds_toArray, List.set_cons_succ, List.set_cons_zero]
      refine WG.put rfl (v := .int .i64 (p : Int)) (fun w => by first | rfl | (go_simp; done) | (simp [go_sem]; done)) ?_
      simp only [Act.put, List.setIfInBounds_toArray, List.set_cons_succ, List.set_cons_zero]
      refine WG.put rfl (v := .bool false) (fun w => by first | rfl | (go_simp; done) | (simp [go_sem]; done)) ?_
      simp only [Act.put, List.setIfInBounds_toArray, List.set_cons_succ, List.set_cons_zero]
      refine WG.nil ?_
      intro w6 B6
      go_wp2
      go_ret2
      exact ⟨p, HFA.out, by rw [HD.out]; rfl, Below.then (Below.then (Below.then B1 BR) B5) B6⟩
end Go.Proofs.Ytbhgchhoeokjhaa

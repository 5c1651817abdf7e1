/- Find of the program. -/
import Derived.Test.YtbhgchhoeokjhaaBF
import Derived.Test.YtbhgchhoeokjhaaCK
namespace Go.Proofs.Ytbhgchhoeokjhaa
open Go Go.RowKit M
set_option linter.unusedSimpArgs false
set_option linter.unusedVariables false

/-- Where a final state stands in a set, or would stand. -/
def FindAt (l : List FS) (f : FS) (p : Nat) : Prop := p ≤ l.length ∧ (∀ j, j < p → ltF (l.getD j FS.zero) f) ∧ (∀ j, p ≤ j → j < l.length → ¬ ltF (l.getD j FS.zero) f)
theorem FindAt.mem {l : List FS} {f : FS} {p : Nat} (h : FindAt l f p) (hR : Ris l) (hp : p < l.length) : decide (l.getD p FS.zero = f) = decide (f ∈ l) := by
  rw [decide_eq_decide]
  constructor
  · intro e; rw [← e, getD_at l p hp]; exact List.getElem_mem hp
  · intro hf
    obtain ⟨j, hj, e⟩ := List.getElem_of_mem hf
    rw [← getD_at l j hj] at e
    have h1 : p ≤ j := by
      by_cases hjp : j < p
      · have := h.2.1 j hjp; rw [e] at this; exact absurd this (ltF_irrefl f)
      · omega
    by_cases hjp : p = j
    · rw [hjp]; exact e
    · have := ris_lt hR (by omega : p < j) hj
      rw [e] at this
      exact absurd this (h.2.2 p (Nat.le_refl _) hp)
theorem FindAt.none {l : List FS} {f : FS} {p : Nat} (h : FindAt l f p) (hp : ¬ p < l.length) : decide (f ∈ l) = false := by
  rw [decide_eq_false_iff_not]
  intro hf
  obtain ⟨j, hj, e⟩ := List.getElem_of_mem hf
  rw [← getD_at l j hj] at e
  have := h.2.1 j (by omega)
  rw [e] at this
  exact ltF_irrefl f this
set_option maxRecDepth 100000 in
set_option maxHeartbeats 2000000 in
theorem find_any (a : Option Addr) (cap : Nat) (l : List FS) (f : FS) (hn : l.length ≤ 8000) (hR : Ris l) (w : World) (hS : Seg w a (flatF l)) :
    Calls Try.prog 22 #[.slice a l.length cap, .agg (encF f).toArray] w fun e w' => ∃ p : Nat, FindAt l f p ∧ e = .returned (.tuple #[.int .i64 (p : Int), .bool (decide (f ∈ l))]) ∧ Below w.heap.size w w' := by
  have hB := fun W (h : Seg W a (flatF l)) => bsearch_any a cap l f hn hR W h
  obtain ⟨n, hll⟩ : ∃ n, l.length = n := ⟨_, rfl⟩
  simp only [hll] at hn hB ⊢
  have HLL : Hid (l.length = n) := hll
  have HS : Hid (Seg w a (flatF l)) := hS
  have hnI : (n : Int) ≤ 8000 := by omega
  clear hll hS
  go_enter Try.func22, Try.ntmps22
  have ta : True := trivial
  go_wp2_with (first
    | (clear ta; refine wpList_boxS rfl _ _ rfl (encF f) rfl ?_; intro w1 b1 F1 I1; have B1 := fresh_b F1)
    | (refine wpList_loadF rfl _ rfl rfl I1 ?_)
    | (go_at_call 38; refine (hB _ (HS.out.below B1)).mono ?_; rintro e w2 ⟨p, fd, q1, q2, q3, rfl, B2⟩; have HF : Hid (FindAt l f p) := ⟨(by rw [HLL.out]; exact q1), q2, (by rw [HLL.out]; exact q3)⟩; have I2 := I1.grown B2; clear q2 q3 hB))
  have S2 := HS.out.below (Below.then B1 B2)
  by_cases hp : p < n
  · have hpn : (p : Int) < (n : Int) := by omega
    obtain ⟨b, o, rfl, HB, HX⟩ := seg_elem S2 p (by rw [HLL.out]; exact hp)
    obtain ⟨d, hd'⟩ : ∃ d, decide (f ∈ l) = d := ⟨_, rfl⟩
    have hd : decide (l.getD p FS.zero = f) = d := by rw [← hd']; exact HF.out.mem hR (by rw [HLL.out]; exact hp)
    have HD : Hid (decide (f ∈ l) = d) := hd'
    generalize l.getD p FS.zero = X at *
    clear S2 hd'
    refine grow_allW (by kernel_rfl) (by kernel_rfl) ?_
    refine WG.put rfl (v := .int .i64 (p : Int)) (fun w => by first | rfl | (go_simp; done) | (simp [go_sem]; done)) ?_
    simp only [Act.put, List.setIfInBounds_toArray, List.set_cons_succ, List.set_cons_zero]
    refine WG.put rfl (v := .int .i64 (p : Int)) (fun w => by first | rfl | (go_simp; done) | (simp [go_sem]; done)) ?_
    simp only [Act.put, List.setIfInBounds_toArray, List.set_cons_succ, List.set_cons_zero]
    refine WG.put rfl (v := .slice (some ⟨b, o, none⟩) n cap) (fun w => by first | rfl | (go_simp; done) | (simp [go_sem]; done)) ?_
    simp only [Act.put, List.setIfInBounds_toArray, List.set_cons_succ, List.set_cons_zero]
    refine WG.put rfl (v := .int .i64 (n : Int)) (fun w => by first | rfl | (go_simp; done) | (simp [go_sem]; done)) ?_
    simp only [Act.put, List.setIfInBounds_toArray, List.set_cons_succ, List.set_cons_zero]
    refine WG.put rfl (v := .bool true) (fun w => by first | rfl | (go_simp; done) | (simp [go_sem, hpn]; done)) ?_
    simp only [Act.put, List.setIfInBounds_toArray, List.set_cons_succ, List.set_cons_zero]
    refine WG.put rfl (v := .bool true) (fun w => by first | rfl | (go_simp; done) | (simp [go_sem]; done)) ?_
    simp only [Act.put, List.setIfInBounds_toArray, List.set_cons_succ, List.set_cons_zero]
    refine WG.put rfl (v := .slice (some ⟨b, o, none⟩) n cap) (fun w => by first | rfl | (go_simp; done) | (simp [go_sem]; done)) ?_
    simp only [Act.put, List.setIfInBounds_toArray, List.set_cons_succ, List.set_cons_zero]
    refine WG.put rfl (v := .int .i64 (p : Int)) (fun w => by first | rfl | (go_simp; done) | (simp [go_sem]; done)) ?_
    simp only [Act.put, List.setIfInBounds_toArray, List.set_cons_succ, List.set_cons_zero]
    refine WG.put rfl (v := .pointer (some ⟨b, o + p * 49, none⟩)) (fun w => by first | rfl | (go_simp; done) | (simp [go_sem, hpn]; done)) ?_
    simp only [Act.put, List.setIfInBounds_toArray, List.set_cons_succ, List.set_cons_zero]
    refine WG.elem (x := X) rfl _ rfl rfl HB HX ?_
    simp only [Act.put, List.setIfInBounds_toArray, List.set_cons_succ, List.set_cons_zero]
    refine WG.whole rfl _ rfl rfl I2 ?_
    simp only [Act.put, List.setIfInBounds_toArray, List.set_cons_succ, List.set_cons_zero]
    refine WG.eqF rfl _ _ rfl rfl rfl d hd ?_
    simp only [Act.put, List.setIfInBounds_toArray, List.set_cons_succ, List.set_cons_zero]
    refine WG.put rfl (v := .bool d) (fun w => by first | rfl | (go_simp; done) | (simp [go_sem]; done)) ?_
    simp only [Act.put, List.setIfInBounds_toArray, List.set_cons_succ, List.set_cons_zero]
    refine WG.put rfl (v := .int .i64 (p : Int)) (fun w => by first | rfl | (go_simp; done) | (simp [go_sem]; done)) ?_
    simp only [Act.put, List.setIfInBounds_toArray, List.set_cons_succ, List.set_cons_zero]
    refine WG.put rfl (v := .bool d) (fun w => by first | rfl | (go_simp; done) | (simp [go_sem]; done)) ?_
    simp only [Act.put, List.setIfInBounds_toArray, List.set_cons_succ, List.set_cons_zero]
    refine WG.nil ?_
    intro w5 B5
    clear HX
    go_wp2
    go_ret2
    exact ⟨p, HF.out, by rw [HD.out]; rfl, Below.then (Below.then B1 B2) B5⟩
  · have hpn : ¬ ((p : Int) < (n : Int)) := by omega
    have HD : Hid (decide (f ∈ l) = false) := HF.out.none (by rw [HLL.out]; exact hp)
    clear S2
    refine grow_allW (by kernel_rfl) (by kernel_rfl) ?_
    refine WG.put rfl (v := .int .i64 (p : Int)) (fun w => by first | rfl | (go_simp; done) | (simp [go_sem]; done)) ?_
    simp only [Act.put, List.setIfInBounds_toArray, List.set_cons_succ, List.set_cons_zero]
    refine WG.put rfl (v := .int .i64 (p : Int)) (fun w => by first | rfl | (go_simp; done) | (simp [go_sem]; done)) ?_
    simp only [Act.put, List.setIfInBounds_toArray, List.set_cons_succ, List.set_cons_zero]
    refine WG.put rfl (v := .slice a n cap) (fun w => by first | rfl | (go_simp; done) | (simp [go_sem]; done)) ?_
    simp only [Act.put, List.setIfInBounds_toArray, List.set_cons_succ, List.set_cons_zero]
    refine WG.put rfl (v := .int .i64 (n : Int)) (fun w => by first | rfl | (go_simp; done) | (simp [go_sem]; done)) ?_
    simp only [Act.put, List.setIfInBounds_toArray, List.set_cons_succ, List.set_cons_zero]
    refine WG.put rfl (v := .bool false) (fun w => by first | rfl | (go_simp; done) | (simp [go_sem, hpn]; done)) ?_
    simp only [Act.put, List.setIfInBounds_toArray, List.set_cons_succ, List.set_cons_zero]
    refine WG.put rfl (v := .bool false) (fun w => by first | rfl | (go_simp; done) | (simp [go_sem]; done)) ?_
    simp only [Act.put, List.setIfInBounds_toArray, List.set_cons_succ, List.set_cons_zero]
    refine WG.skip rfl ?_
    simp only [Act.put, List.setIfInBounds_toArray, List.set_cons_succ, List.set_cons_zero]
    refine WG.skip rfl ?_
    simp only [Act.put, List.setIfInBounds_toArray, List.set_cons_succ, List.set_cons_zero]
    refine WG.skip rfl ?_
    simp only [Act.put, List.setIfInBounds_toArray, List.set_cons_succ, List.set_cons_zero]
    refine WG.skip rfl ?_
    simp only [Act.put, List.setIfInBounds_toArray, List.set_cons_succ, List.set_cons_zero]
    refine WG.skip rfl ?_
    simp only [Act.put, List.setIfInBounds_toArray, List.set_cons_succ, List.set_cons_zero]
    refine WG.skip rfl ?_
    simp only [Act.put, List.setIfInBounds_toArray, List.set_cons_succ, List.set_cons_zero]
    refine WG.put rfl (v := .bool false) (fun w => by first | rfl | (go_simp; done) | (simp [go_sem]; done)) ?_
    simp only [Act.put, List.setIfInBounds_toArray, List.set_cons_succ, List.set_cons_zero]
    refine WG.put rfl (v := .int .i64 (p : Int)) (fun w => by first | rfl | (go_simp; done) | (simp [go_sem]; done)) ?_
    simp only [Act.put, List.setIfInBounds_toArray, List.set_cons_succ, List.set_cons_zero]
    refine WG.put rfl (v := .bool false) (fun w => by first | rfl | (go_simp; done) | (simp [go_sem]; done)) ?_
    simp only [Act.put, List.setIfInBounds_toArray, List.set_cons_succ, List.set_cons_zero]
    refine WG.nil ?_
    intro w5 B5
    go_wp2
    go_ret2
    exact ⟨p, HF.out, by rw [HD.out]; rfl, Below.then (Below.then B1 B2) B5⟩
end Go.Proofs.Ytbhgchhoeokjhaa

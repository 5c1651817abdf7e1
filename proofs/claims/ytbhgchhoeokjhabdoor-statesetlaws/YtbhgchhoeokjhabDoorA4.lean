/- Projections: all numbers in their order, and twice. -/
import Derived.Test.YtbhgchhoeokjhabDoorQA
import Derived.Test.YtbhgchhoeokjhabDoorA3
namespace Go.Proofs.YtbhgchhoeokjhabDoor
open Go.RowKit M
set_option linter.unusedSimpArgs false
set_option linter.unusedVariables false

/-- The numbers from 0 up to one. -/
def upTo (k : Nat) : List Int := (List.range k).map fun (i : Nat) => (i : Int)
theorem upTo_len (k : Nat) : (upTo k).length = k := by simp [upTo]
theorem upTo_succ (k : Nat) : upTo (k + 1) = upTo k ++ [(k : Int)] := by simp [upTo, List.range_succ]
/-- Those with so many values. -/
def haveN (N : Int) (l : List FS) : List FS := l.filter fun x => decide (x.n = N)
theorem haveN_take {l : List FS} {j : Nat} (N : Int) (hj : j < l.length) : haveN N (l.take (j + 1)) = if (l.getD j FS.zero).n = N then haveN N (l.take j) ++ [l.getD j FS.zero] else haveN N (l.take j) := by
  unfold haveN
  rw [List.take_succ_eq_append_getElem hj, List.filter_append, getD_at l j hj]
  by_cases h : l[j].n = N <;> simp [h]
theorem prj_upTo {N : Nat} {x : FS} (h : okF x = true) (hN : x.n = (N : Int)) : prjF (upTo N) x = x := by
  obtain ⟨M', hM, hM'⟩ := okF_n h
  have hN' : N ≤ 48 := by omega
  have e : (upTo N).map (fun k => x.v.getD k.toNat 0) = x.v.take N := by
    refine List.ext_getElem? fun i => ?_
    rw [List.getElem?_map, List.getElem?_take]
    unfold upTo
    rw [List.getElem?_map]
    by_cases hi : i < N
    · rw [List.getElem?_range hi, if_pos hi, List.getElem?_eq_getElem (by rw [x.h]; omega)]
      simp [x.h, show i < 48 by omega]
    · rw [List.getElem?_eq_none (by simp; omega), if_neg hi]; rfl
  unfold prjF
  rw [e, upTo_len]
  have := mkF_take h
  rw [hN, Int.toNat_natCast] at this
  exact this
theorem inB_upTo (N : Nat) : inB (upTo N) (N : Int) = true := by
  unfold inB upTo
  rw [List.all_eq_true]
  intro k hk
  obtain ⟨i, hi, rfl⟩ := List.mem_map.1 hk
  have := List.mem_range.1 hi
  simp; omega
section
variable {N : Nat} {s : List FS}
/-- All numbers in their order: the set stays. -/
theorem prj_all (hs : IsSet s) (hN : ∀ x ∈ s, x.n = (N : Int)) (h48 : N ≤ 48) : prjE s (upTo N) = 0 ∧ prjL s (upTo N) = s := by
  have e0 : prjE s (upTo N) = 0 := prjE_0 ((setB_set s).2 hs) (by rw [upTo_len]; omega) (by
    rw [List.all_eq_true]; intro x hx; rw [hN x hx]; exact inB_upTo N)
  refine ⟨e0, ?_⟩
  rw [prjL_ok e0]
  have : s.map (prjF (upTo N)) = s := by
    conv => rhs; rw [← List.map_id s]
    exact List.map_congr_left fun x hx => prj_upTo (hs.2 x hx) (hN x hx)
  rw [this]
  exact setF_same hs
theorem prjE_zero {l : List FS} {ks : List Int} (h : prjE l ks = 0) : ks.length ≤ 48 ∧ ∀ x ∈ l, inB ks x.n = true := by
  unfold prjE at h
  by_cases h1 : setB l = false
  · rw [if_pos h1] at h; omega
  · rw [if_neg h1] at h
    by_cases h2 : 48 < ks.length
    · rw [if_pos h2] at h; omega
    · rw [if_neg h2] at h
      by_cases h3 : (l.all fun x => inB ks x.n) = false
      · rw [if_pos h3] at h; omega
      · exact ⟨by omega, List.all_eq_true.1 (by simpa using h3)⟩
theorem prjL_set (l : List FS) (ks : List Int) : IsSet (prjL l ks) := by
  unfold prjL
  split
  · exact setF_set _
  · exact ⟨trivial, fun x hx => by cases hx⟩
theorem prjF_ok {ks : List Int} (x : FS) (h : ks.length ≤ 48) : okF (prjF ks x) = true := by
  unfold okF prjF mkF
  simp only [Bool.and_eq_true, decide_eq_true_eq, Int.toNat_natCast]
  refine ⟨by omega, ?_⟩
  rw [List.take_append, List.take_of_length_le (by simp; omega), List.length_map]
  rw [show ks.length = (ks.map fun k => x.v.getD k.toNat 0).length by simp, List.drop_left, List.take_replicate]
  rw [List.all_eq_true]
  intro v hv
  rw [(List.mem_replicate.1 hv).2]; rfl
/-- The numbers of both. -/
def bothK (first second : List Int) : List Int := second.map fun k => first.getD k.toNat 0
theorem prjF_both {first second : List Int} (x : FS) (h1 : first.length ≤ 48) (h2 : inB second (first.length : Int) = true) : prjF second (prjF first x) = prjF (bothK first second) x := by
  unfold prjF bothK
  rw [List.length_map, List.map_map]
  congr 1
  refine List.map_congr_left fun k hk => ?_
  unfold inB at h2
  rw [List.all_eq_true] at h2
  have hb := h2 k hk
  simp only [decide_eq_true_eq] at hb
  show (mkF (first.length : Int) (first.map fun k => x.v.getD k.toNat 0)).v.getD k.toNat 0 = _
  rw [mkF_getD _ _ _ (by omega)]
  simp only [Function.comp]
  rw [List.getD_eq_getElem?_getD, List.getElem?_map, List.getElem?_eq_getElem (by omega)]
  simp [show k.toNat < first.length by omega]
/-- Projected twice: the second numbers are in range, and both at once give the same. -/
theorem prj_twice {first second : List Int} (hs : IsSet s) (h0 : s ≠ []) (e1 : prjE s first = 0) (e2 : prjE (prjL s first) second = 0) :
    inB second (first.length : Int) = true ∧ prjE s (bothK first second) = 0 ∧ prjL s (bothK first second) = prjL (prjL s first) second := by
  obtain ⟨a1, a2⟩ := prjE_zero e1
  obtain ⟨b1, b2⟩ := prjE_zero e2
  have hL := prjL_ok e1
  have hm : ∀ x ∈ s, prjF first x ∈ prjL s first := fun x hx => by
    rw [hL, mem_setF]; exact ⟨List.mem_map.2 ⟨x, hx, rfl⟩, prjF_ok x a1⟩
  have hin : inB second (first.length : Int) = true := by
    cases s with
    | nil => exact absurd rfl h0
    | cons y l => exact b2 _ (hm y (by simp))
  have e3 : prjE s (bothK first second) = 0 := by
    refine prjE_0 ((setB_set s).2 hs) (by unfold bothK; rw [List.length_map]; omega) ?_
    rw [List.all_eq_true]
    intro x hx
    refine inB_yes fun j hj => ?_
    unfold bothK at hj ⊢
    rw [List.length_map] at hj
    have h1 := inB_at hin j hj
    rw [List.getD_eq_getElem?_getD, List.getElem?_map, List.getElem?_eq_getElem hj]
    rw [List.getD_eq_getElem?_getD, List.getElem?_eq_getElem hj] at h1
    simp only [Option.getD_some] at h1
    exact inB_at (a2 x hx) _ (by omega)
  refine ⟨hin, e3, ?_⟩
  rw [prjL_ok e3, prjL_ok e2]
  refine setF_ext fun z hz => ?_
  rw [List.mem_map, List.mem_map]
  constructor
  · rintro ⟨x, hx, rfl⟩
    exact ⟨_, hm x hx, prjF_both x a1 hin⟩
  · rintro ⟨y, hy, rfl⟩
    rw [hL, mem_setF, List.mem_map] at hy
    obtain ⟨⟨x, hx, rfl⟩, _⟩ := hy
    exact ⟨x, hx, (prjF_both x a1 hin).symm⟩
end
theorem setF_have {N : Int} {l : List FS} : ∀ x ∈ setF (haveN N l), x.n = N := fun x hx => by
  have := ((mem_setF _ _).1 hx).1
  unfold haveN at this
  simpa using (List.mem_filter.1 this).2
theorem haveN_len (N : Int) (l : List FS) : (haveN N l).length ≤ l.length := List.length_filter_le _ _
theorem prj_nil (ks : List Int) : prjL [] ks = [] := by
  have := prjL_len [] ks
  exact List.length_eq_zero_iff.1 (by simpa using this)
theorem bothK_take (first second : List Int) (j : Nat) (hj : j < second.length) : bothK first (second.take (j + 1)) = bothK first (second.take j) ++ [first.getD (second.getD j 0).toNat 0] := by
  unfold bothK
  rw [List.take_succ_eq_append_getElem hj, List.map_append]
  simp [hj]
end Go.Proofs.YtbhgchhoeokjhabDoor

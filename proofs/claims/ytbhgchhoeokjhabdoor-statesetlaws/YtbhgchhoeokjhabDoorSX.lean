/- slices.SortFunc with Compare over a row of final states of one's own. -/
import Derived.Test.YtbhgchhoeokjhabDoorBS
import Derived.Shelf.SlSortCmp.NoneTotal
namespace Go.Proofs.YtbhgchhoeokjhabDoor
open Go Go.RowKit Go.Shelf Go.Lib Go.Sort M
set_option linter.unusedSimpArgs false
set_option linter.unusedVariables false

theorem ltOf_F (x y : FS) : ltOf cmpF x y = decide (ltF x y) := rfl
theorem swoF : Go.Sort.SWO (ltOf cmpF) where
  irrefl x := by rw [ltOf_F]; simpa using ltF_irrefl x
  trans x y z h1 h2 := by rw [ltOf_F] at *; simp at *; exact ltF_trans h1 h2
  ntrans x y z h1 h2 := by
    rw [ltOf_F] at *
    simp only [decide_eq_false_iff_not] at *
    intro h3
    rcases ltF_tri x y with h | h | h
    · exact h1 h
    · subst h; exact h2 h3
    · exact h2 (ltF_trans h h3)
theorem totF (x y : FS) (h1 : ltOf cmpF x y = false) (h2 : ltOf cmpF y x = false) : x = y := by
  rw [ltOf_F] at *
  simp only [decide_eq_false_iff_not] at *
  rcases ltF_tri x y with h | h | h
  · exact absurd h h1
  · exact h
  · exact absurd h h2
/-- The list in order. -/
def srt (l : List FS) : List FS := l.mergeSort fun x y => !(ltOf cmpF) y x
theorem srt_perm (l : List FS) : (srt l).Perm l := List.mergeSort_perm l _
theorem srt_len (l : List FS) : (srt l).length = l.length := (srt_perm l).length_eq
theorem srt_mem (l : List FS) (x : FS) : x ∈ srt l ↔ x ∈ l := (srt_perm l).mem_iff
theorem srt_sorted (l : List FS) : (srt l).Pairwise fun x y => ¬ ltF y x := by
  have := List.pairwise_mergeSort (le := fun x y => !(ltOf cmpF) y x) (fun a b c h1 h2 => by
    simp only [ltOf_F, Bool.not_eq_true', decide_eq_false_iff_not] at *
    intro h3
    have := swoF.ntrans c b a (by rw [ltOf_F]; simpa using h2) (by rw [ltOf_F]; simpa using h1)
    rw [ltOf_F] at this
    simp at this
    exact this h3) (fun a b => by
    simp only [ltOf_F, Bool.or_eq_true, Bool.not_eq_true', decide_eq_false_iff_not]
    by_cases h : ltF b a
    · exact .inr (ltF_asymm h)
    · exact .inl h) l
  exact this.imp fun {a b} h => by simpa [ltOf_F] using h
theorem flatK_eq (l : List FS) : flatK encF 49 l.toArray = (flatF l).toArray := by
  apply Array.ext_getElem?
  intro t
  have hl := flatF_len l
  by_cases ht : t < l.length * 49
  · have h1 : t / 49 < l.length := by omega
    have h2 := flatF_at l (t / 49) h1
    have h3 : (encF l[t / 49])[t % 49]? = (flatF l)[t]? := by
      rw [← h2, List.getElem?_take, if_pos (Nat.mod_lt _ (by decide)), List.getElem?_drop]
      congr 1
      omega
    have h4 : (flatF l).toArray[t]? = (flatF l)[t]? := by simp
    rw [h4, ← h3]
    have hm : t % 49 < (encF l[t / 49]).length := by rw [encF_len]; exact Nat.mod_lt _ (by decide)
    rw [List.getElem?_eq_getElem hm]
    unfold flatK
    simp [ht, h1, hm]
  · rw [Array.getElem?_eq_none (by simp; omega), Array.getElem?_eq_none (by simp [hl]; omega)]
theorem holds_own {w : World} {g : Nat} {cur : Array Value} {l : List FS} (hh : w.heap[g]? = some (.cells cur 27 (0, 0))) (ht : cur.toList.take (l.length * 49) = flatF l) : HoldsK encF 49 w g 0 l.toArray := by
  unfold HoldsK
  rw [flatK_eq]
  intro j hj
  have hj' : j < (flatF l).length := by simpa using hj
  have hl := flatF_len l
  refine ⟨?_, by simp [World.frozen?, hh]⟩
  rw [cell_of_row w g _ cur 27 (0, 0) hh, Nat.zero_add]
  have h1 : cur[j]? = (flatF l)[j]? := by
    rw [← ht, List.getElem?_take, if_pos (by omega)]; simp
  rw [h1, List.getElem?_eq_getElem hj']
  simp [hj']
theorem own_sorted {w : World} {B g n cap : Nat} {cur : Array Value} {l m : List FS} (hg : B ≤ g) (hh : w.heap[g]? = some (.cells cur 27 (0, 0))) (hc : l.length ≤ cap) (hm : cap ≤ maxLen) (hs : cur.size = cap * 49) (hml : m.length = l.length) (os : Array Obj) :
    OwnL (sortWorldK encF 49 w g 0 n m.toArray os) B (.slice (some ⟨g, 0, none⟩) l.length cap) m ∧ RowKit.Below B w (sortWorldK encF 49 w g 0 n m.toArray os) := by
  have hlt : g < w.heap.size := (Array.getElem?_eq_some_iff.1 hh).1
  have hk := flatF_len m
  constructor
  · unfold OwnL
    rw [hml]
    refine ⟨by rw [hk, hml], .inr ⟨g, cap, Go.Sort.putCells id 0 (flatK encF 49 m.toArray) cur, rfl, hg, ?_, hc, hm, by simpa [Go.Sort.putCells] using hs, ?_⟩⟩
    · unfold sortWorldK Go.Sort.grow putRowK Go.Sort.putRow Go.Sort.mapBlock Go.Sort.ahead
      show ((w.heap.modify g _) ++ os)[g]? = _
      rw [Array.getElem?_append_left (by simpa using hlt), Array.getElem?_modify, if_pos rfl, hh]
      rfl
    · rw [flatK_eq]
      refine List.ext_getElem? fun i => ?_
      rw [List.getElem?_take]
      by_cases hi : i < l.length * 49
      · rw [if_pos hi]
        have h1 : i < cur.size := by rw [hs]; have := Nat.mul_le_mul_right 49 hc; omega
        have h2 : i < (flatF m).length := by rw [hk, hml]; exact hi
        simp [Go.Sort.putCells, h1, h2]
      · rw [if_neg hi, List.getElem?_eq_none (by rw [hk, hml]; omega)]
  · refine ⟨rfl, rfl, rfl, ?_, fun k hkB => ?_⟩
    · unfold sortWorldK Go.Sort.grow putRowK Go.Sort.putRow Go.Sort.mapBlock Go.Sort.ahead
      simp
    · unfold sortWorldK Go.Sort.grow putRowK Go.Sort.putRow Go.Sort.mapBlock Go.Sort.ahead
      show ((w.heap.modify g _) ++ os)[k]? = _
      rw [Array.getElem?_append_left (by simp; omega), Array.getElem?_modify, if_neg (by omega)]
theorem cmpLaysF (blk off size : Nat) (w : World) : CmpLays Tryd.prog 23 #[] encF 49 cmpF blk off size w :=
  fun _ _ _ _ x y => compare_any x y _
theorem sortFunc_any {w : World} {B : Nat} {v : Value} {l : List FS} (hown : OwnL w B v l) (hn : l.length < 4611686018427387904) :
    Calls Tryd.prog 22 #[v, .func (.func 23) #[] #[]] w fun e w' => e = .returned (.tuple #[]) ∧ OwnL w' B v (srt l) ∧ RowKit.Below B w w' := by
  rcases hown.2 with ⟨hv, h0⟩ | ⟨g, cap, cur, hv, hg, hh, hc, hm, hs, ht⟩
  · subst hv
    have hl : l = [] := List.length_eq_zero_iff.1 h0
    subst hl
    exact (AnyF.slices_SortFunc_none { Tryd.sortF with } none 0 _ w).mono fun e w' ⟨h1, h2⟩ => by
      subst h2
      exact ⟨h1, by have : srt [] = [] := by simp [srt]
                    rw [this]; exact hown, RowKit.Below.refl _ _⟩
  · subst hv
    have eg : ∀ args w, (callFunc 23 args).run Tryd.prog w = .ok (.enter 23 args) w := enters_of Tryd.func23 (by kernel_rfl) rfl
    have hcon := AnyQ.slices_SortFunc_total Tryd.sortF 49 Tryd.isAgg27 Tryd.sizeOf27 encF encF_len encF_one cmpF swoF 23 #[] g 0 cap l.toArray w eg (cmpLaysF g 0 l.toArray.size w) (holds_own hh ht) ((Array.getElem?_eq_some_iff.1 hh).1) (by simpa using hn) totF
    simp only [List.size_toArray] at hcon
    refine Calls.mono hcon fun e w' ⟨h1, n, os, h2⟩ => ?_
    subst h2
    have := own_sorted (n := n) (m := srt l) hg hh hc hm hs (srt_len l) os
    exact ⟨h1, this.1, this.2⟩
end Go.Proofs.YtbhgchhoeokjhabDoor

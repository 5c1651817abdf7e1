/- slices.SortFunc over a row of api.Ref of one's own. -/
import Derived.Test.YtcmkoffamolgmaaB2
import Derived.Shelf.SlSortCmp.NoneTotal
namespace Go.Proofs.Ytcmkoffamolgmaa
open Go Go.RowKit Go.Shelf Go.Lib Go.Sort M
set_option linter.unusedSimpArgs false
set_option linter.unusedVariables false

def zN : NK := (1, ⟨#[]⟩)
def nkL (x : NK) : List Value := rkL (unN x)
theorem nk_one (x : NK) : ∀ v ∈ nkL x, v.oneCell' = true := rk_one _
theorem compareNK_any (x y : NK) (w : World) : Calls Try.prog 16 #[.agg (nkL x).toArray, .agg (nkL y).toArray] w fun e w' => e = .returned (.int .i64 (cmN x y)) ∧ Grew w w' := compareK_any (unN x) (unN y) w
theorem dec_un (x y : NK) : decide (unN x = unN y) = decide (x = y) := by
  by_cases h : x = y
  · subst h; simp
  · have : ¬ unN x = unN y := fun e => h (unN_inj e)
    simp [h, this]
section
variable {w : World} {b o : Nat} {x y : NK} {ops : Array Oper} {rest : List Oper} {op : Oper} {a : Act} {Q : Exit → Act → World → Prop}
theorem wpList_loadNK (hgd : op.guard = none) (p : Operand) (ho : op.op = .load 39 p) (hp : a.eval p = .pointer (some ⟨b, o, none⟩)) (hc : w.rangeAt b o (nkL x))
    (h : wpList Try.prog ops Q rest (a.put op.dst (.agg (nkL x).toArray)) w) : wpList Try.prog ops Q (op :: rest) a w := wpList_loadK hgd p ho hp hc h
theorem WG.nk {W : World} {Q : Act → Prop} (hw : Region.wanted op (yielded ops a.tmps) = true) (p : Operand) (ho : op.op = .load 39 p) (hp : a.eval p = .pointer (some ⟨b, o, none⟩)) (hb : b < W.heap.size) (hc : W.rangeAt b o (nkL x))
    (h : WG ops W Q rest (a.put op.dst (.agg (nkL x).toArray))) : WG ops W Q (op :: rest) a := WG.rk hw p ho hp hb hc h
theorem WG.eqN {W : World} {Q : Act → Prop} (hw : Region.wanted op (yielded ops a.tmps) = true) (p q : Operand) (ho : op.op = .binOp .eql 39 p q 39) (hx : a.eval p = .agg (nkL x).toArray) (hy : a.eval q = .agg (nkL y).toArray)
    (v : Bool) (hv : decide (x = y) = v) (h : WG ops W Q rest (a.put op.dst (.bool v))) : WG ops W Q (op :: rest) a := WG.eqK hw p q ho hx hy v (by rw [dec_un]; exact hv) h
theorem WG.neqN {W : World} {Q : Act → Prop} (hw : Region.wanted op (yielded ops a.tmps) = true) (p q : Operand) (ho : op.op = .binOp .neq 39 p q 39) (hx : a.eval p = .agg (nkL x).toArray) (hy : a.eval q = .agg (nkL y).toArray)
    (v : Bool) (hv : (!decide (x = y)) = v) (h : WG ops W Q rest (a.put op.dst (.bool v))) : WG ops W Q (op :: rest) a := WG.neqK hw p q ho hx hy v (by rw [dec_un]; exact hv) h
end
theorem encK_len (x : NK) : (nkL x).length = 2 := rfl
def ltK (x y : NK) : Prop := cmN x y < 0
instance (x y : NK) : Decidable (ltK x y) := inferInstanceAs (Decidable (cmN x y < 0))
theorem ltK_irrefl (x : NK) : ¬ ltK x x := ordN.irrefl x
theorem ltK_trans {x y z : NK} (h1 : ltK x y) (h2 : ltK y z) : ltK x z := ordN.trans x y z h1 h2
theorem ltK_tri (x y : NK) : ltK x y ∨ x = y ∨ ltK y x := ordN.tri x y
theorem ltK_asymm {x y : NK} (h : ltK x y) : ¬ ltK y x := fun k => ltK_irrefl _ (ltK_trans h k)
def flatR (l : List NK) : List Value := l.flatMap nkL
theorem flatR_len (l : List NK) : (flatR l).length = l.length * 2 := by
  induction l with
  | nil => rfl
  | cons x l ih => unfold flatR at *; rw [List.flatMap_cons, List.length_append, encK_len, ih, List.length_cons]; omega
theorem flatR_one (l : List NK) : ∀ v ∈ flatR l, v.oneCell' = true := fun v hv => by
  obtain ⟨x, _, hx⟩ := List.mem_flatMap.1 hv
  exact nk_one x v hx
theorem flatR_append (l m : List NK) : flatR (l ++ m) = flatR l ++ flatR m := by unfold flatR; rw [List.flatMap_append]
theorem flatR_cons (x : NK) (l : List NK) : flatR (x :: l) = nkL x ++ flatR l := rfl
theorem flatR_sing (x : NK) : flatR [x] = nkL x := by unfold flatR; simp
theorem flatR_drop : ∀ (j : Nat) (l : List NK), (flatR l).drop (j * 2) = flatR (l.drop j)
  | 0, l => by simp
  | j + 1, [] => by simp [flatR]
  | j + 1, x :: l => by
    rw [flatR_cons, show (j + 1) * 2 = 2 + j * 2 by omega, ← List.drop_drop, List.drop_left' (encK_len x), flatR_drop j l]; rfl
theorem flatR_take : ∀ (j : Nat) (l : List NK), (flatR l).take (j * 2) = flatR (l.take j)
  | 0, l => by simp [flatR]
  | j + 1, [] => by simp [flatR]
  | j + 1, x :: l => by
    rw [flatR_cons, show (j + 1) * 2 = 2 + j * 2 by omega, List.take_add, List.take_left' (encK_len x), List.drop_left' (encK_len x), flatR_take j l, List.take_succ_cons, flatR_cons]
theorem flatR_at (l : List NK) (j : Nat) (h : j < l.length) : ((flatR l).drop (j * 2)).take 2 = nkL l[j] := by
  rw [flatR_drop, List.drop_eq_getElem_cons h, flatR_cons, List.take_left' (encK_len _)]
def OwnK (w : World) (B : Nat) (v : Value) (l : List NK) : Prop := w.ownsRow B 39 2 v l.length (flatR l)
theorem ltOf_K (x y : NK) : ltOf cmN x y = decide (ltK x y) := rfl
theorem swoK : Go.Sort.SWO (ltOf cmN) where
  irrefl x := by rw [ltOf_K]; simpa using ltK_irrefl x
  trans x y z h1 h2 := by rw [ltOf_K] at *; simp at *; exact ltK_trans h1 h2
  ntrans x y z h1 h2 := by
    rw [ltOf_K] at *
    simp only [decide_eq_false_iff_not] at *
    intro h3
    rcases ltK_tri x y with h | h | h
    · exact h1 h
    · subst h; exact h2 h3
    · exact h2 (ltK_trans h h3)
theorem totK (x y : NK) (h1 : ltOf cmN x y = false) (h2 : ltOf cmN y x = false) : x = y := by
  rw [ltOf_K] at *
  simp only [decide_eq_false_iff_not] at *
  rcases ltK_tri x y with h | h | h
  · exact absurd h h1
  · exact h
  · exact absurd h h2
/-- The list in order. -/
def srt (l : List NK) : List NK := l.mergeSort fun x y => !(ltOf cmN) y x
theorem srt_perm (l : List NK) : (srt l).Perm l := List.mergeSort_perm l _
theorem srt_len (l : List NK) : (srt l).length = l.length := (srt_perm l).length_eq
theorem srt_mem (l : List NK) (x : NK) : x ∈ srt l ↔ x ∈ l := (srt_perm l).mem_iff
theorem srt_sorted (l : List NK) : (srt l).Pairwise fun x y => ¬ ltK y x := by
  have := List.pairwise_mergeSort (le := fun x y => !(ltOf cmN) y x) (fun a b c h1 h2 => by
    simp only [ltOf_K, Bool.not_eq_true', decide_eq_false_iff_not] at *
    intro h3
    have := swoK.ntrans c b a (by rw [ltOf_K]; simpa using h2) (by rw [ltOf_K]; simpa using h1)
    rw [ltOf_K] at this
    simp at this
    exact this h3) (fun a b => by
    simp only [ltOf_K, Bool.or_eq_true, Bool.not_eq_true', decide_eq_false_iff_not]
    by_cases h : ltK b a
    · exact .inr (ltK_asymm h)
    · exact .inl h) l
  exact this.imp fun {a b} h => by simpa [ltOf_K] using h
theorem flatK_eq (l : List NK) : flatK nkL 2 l.toArray = (flatR l).toArray := by
  apply Array.ext_getElem?
  intro t
  have hl := flatR_len l
  by_cases ht : t < l.length * 2
  · have h1 : t / 2 < l.length := by omega
    have h2 := flatR_at l (t / 2) h1
    have h3 : (nkL l[t / 2])[t % 2]? = (flatR l)[t]? := by
      rw [← h2, List.getElem?_take, if_pos (Nat.mod_lt _ (by decide)), List.getElem?_drop]
      congr 1
      omega
    have h4 : (flatR l).toArray[t]? = (flatR l)[t]? := by simp
    rw [h4, ← h3]
    have hm : t % 2 < (nkL l[t / 2]).length := by rw [encK_len]; exact Nat.mod_lt _ (by decide)
    rw [List.getElem?_eq_getElem hm]
    unfold flatK
    simp [ht, h1, hm]
  · rw [Array.getElem?_eq_none (by simp; omega), Array.getElem?_eq_none (by simp [hl]; omega)]
theorem holds_own {w : World} {g : Nat} {cur : Array Value} {l : List NK} (hh : w.heap[g]? = some (.cells cur 39 (0, 0))) (ht : cur.toList.take (l.length * 2) = flatR l) : HoldsK nkL 2 w g 0 l.toArray := by
  unfold HoldsK
  rw [flatK_eq]
  intro j hj
  have hj' : j < (flatR l).length := by simpa using hj
  have hl := flatR_len l
  refine ⟨?_, by simp [World.frozen?, hh]⟩
  rw [cell_of_row w g _ cur 39 (0, 0) hh, Nat.zero_add]
  have h1 : cur[j]? = (flatR l)[j]? := by
    rw [← ht, List.getElem?_take, if_pos (by omega)]; simp
  rw [h1, List.getElem?_eq_getElem hj']
  simp [hj']
theorem own_sorted {w : World} {B g n cap : Nat} {cur : Array Value} {l m : List NK} (hg : B ≤ g) (hh : w.heap[g]? = some (.cells cur 39 (0, 0))) (hc : l.length ≤ cap) (hm : cap ≤ maxLen) (hs : cur.size = cap * 2) (hml : m.length = l.length) (os : Array Obj) :
    OwnK (sortWorldK nkL 2 w g 0 n m.toArray os) B (.slice (some ⟨g, 0, none⟩) l.length cap) m ∧ RowKit.Below B w (sortWorldK nkL 2 w g 0 n m.toArray os) := by
  have hlt : g < w.heap.size := (Array.getElem?_eq_some_iff.1 hh).1
  have hk := flatR_len m
  constructor
  · unfold OwnK
    rw [hml]
    refine ⟨by rw [hk, hml], .inr ⟨g, cap, Go.Sort.putCells id 0 (flatK nkL 2 m.toArray) cur, rfl, hg, ?_, hc, hm, by simpa [Go.Sort.putCells] using hs, ?_⟩⟩
    · unfold sortWorldK Go.Sort.grow putRowK Go.Sort.putRow Go.Sort.mapBlock Go.Sort.ahead
      show ((w.heap.modify g _) ++ os)[g]? = _
      rw [Array.getElem?_append_left (by simpa using hlt), Array.getElem?_modify, if_pos rfl, hh]
      rfl
    · rw [flatK_eq]
      refine List.ext_getElem? fun i => ?_
      rw [List.getElem?_take]
      by_cases hi : i < l.length * 2
      · rw [if_pos hi]
        have h1 : i < cur.size := by rw [hs]; have := Nat.mul_le_mul_right 2 hc; omega
        have h2 : i < (flatR m).length := by rw [hk, hml]; exact hi
        simp [Go.Sort.putCells, h1, h2]
      · rw [if_neg hi, List.getElem?_eq_none (by rw [hk, hml]; omega)]
  · refine ⟨rfl, rfl, rfl, ?_, fun k hkB => ?_⟩
    · unfold sortWorldK Go.Sort.grow putRowK Go.Sort.putRow Go.Sort.mapBlock Go.Sort.ahead
      simp
    · unfold sortWorldK Go.Sort.grow putRowK Go.Sort.putRow Go.Sort.mapBlock Go.Sort.ahead
      show ((w.heap.modify g _) ++ os)[k]? = _
      rw [Array.getElem?_append_left (by simp; omega), Array.getElem?_modify, if_neg (by omega)]
theorem cmpLaysK (blk off size : Nat) (w : World) : CmpLays Try.prog 16 #[] nkL 2 cmN blk off size w :=
  fun _ _ _ _ x y => compareNK_any x y _
theorem sortFunc_any {w : World} {B : Nat} {v : Value} {l : List NK} (hown : OwnK w B v l) (hn : l.length < 4611686018427387904) :
    Calls Try.prog 15 #[v, .func (.func 16) #[] #[]] w fun e w' => e = .returned (.tuple #[]) ∧ OwnK w' B v (srt l) ∧ RowKit.Below B w w' := by
  rcases hown.2 with ⟨hv, h0⟩ | ⟨g, cap, cur, hv, hg, hh, hc, hm, hs, ht⟩
  · subst hv
    have hl : l = [] := List.length_eq_zero_iff.1 h0
    subst hl
    exact (AnyF.slices_SortFunc_none { Try.sortF with } none 0 _ w).mono fun e w' ⟨h1, h2⟩ => by
      subst h2
      exact ⟨h1, by have : srt [] = [] := by simp [srt]
                    rw [this]; exact hown, RowKit.Below.refl _ _⟩
  · subst hv
    have eg : ∀ args w, (callFunc 16 args).run Try.prog w = .ok (.enter 16 args) w := enters_of Try.func16 (by kernel_rfl) rfl
    have hcon := AnyQ.slices_SortFunc_total Try.sortF 2 Try.isAgg39 Try.sizeOf39 nkL encK_len nk_one cmN swoK 16 #[] g 0 cap l.toArray w eg (cmpLaysK g 0 l.toArray.size w) (holds_own hh ht) ((Array.getElem?_eq_some_iff.1 hh).1) (by simpa using hn) totK
    simp only [List.size_toArray] at hcon
    refine Calls.mono hcon fun e w' ⟨h1, n, os, h2⟩ => ?_
    subst h2
    have := own_sorted (n := n) (m := srt l) hg hh hc hm hs (srt_len l) os
    exact ⟨h1, this.1, this.2⟩
end Go.Proofs.Ytcmkoffamolgmaa

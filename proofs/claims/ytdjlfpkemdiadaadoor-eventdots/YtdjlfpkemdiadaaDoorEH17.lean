/- slices.Backward: for every loop body that keeps the list, it hands out the places and what stands there, the last one first. -/
import Derived.Test.YtdjlfpkemdiadaaDoorEF17
import Derived.Test.YtdjlfpkemdiadaaDoorRlZ2
namespace Go.Proofs.YtdjlfpkemdiadaaDoor
open Go.RowKit Go.Shelf M
attribute [local go_sem] Oper.semAt_some
set_option linter.unusedSimpArgs false
set_option linter.unusedVariables false

/-- The block of a slice. -/
def blkOf : Option Addr → List Nat
  | some ad => [ad.block]
  | none => []
theorem Seg.same {A B : World} {a : Option Addr} {cs : List Value} {bs : List Nat} (h : Seg A a cs) (hs : Same bs A B) (hb : cs = [] ∨ ∀ b ∈ blkOf a, b ∈ bs) : Seg B a cs := fun j v hv => by
  obtain ⟨b, o, rfl, h2, h3⟩ := h j v hv
  rcases hb with rfl | hb
  · simp at hv
  · have e := hs b (hb b (by simp [blkOf]))
    exact ⟨b, o, rfl, (Array.getElem?_eq_some_iff.1 (e.trans (Array.getElem?_eq_getElem h2))).1, (cell_block e).trans h3⟩
/-- The blocks of a list and of its box. -/
def bsOf (Bn : Nat) (a : Option Addr) (l : List Int) : List Nat := Bn :: (if l.length = 0 then [] else blkOf a)
theorem bsOf_all (Bn : Nat) (a : Option Addr) (l : List Int) : l.flatMap intE = [] ∨ ∀ b ∈ blkOf a, b ∈ bsOf Bn a l := by
  by_cases h : l.length = 0
  · exact .inl (by rw [List.length_eq_zero_iff.1 h]; rfl)
  · exact .inr fun b hb => by simp [bsOf, h, hb]
theorem bsOf_in {w : World} {Bn : Nat} {a : Option Addr} {l : List Int} (hN : Seg w a (l.flatMap intE)) : ∀ b ∈ bsOf Bn a l, b = Bn ∨ b < w.heap.size := by
  intro b hb
  cases l with
  | nil => simp [bsOf] at hb; exact .inl hb
  | cons x l =>
    obtain ⟨b', o, rfl, h2, _⟩ := seg_int hN (k := 0) rfl
    simp [bsOf, blkOf] at hb
    rcases hb with rfl | rfl
    · exact .inl rfl
    · exact .inr h2
/-- What Backward hands out at a place. -/
def encB (l : List Int) (x : Fin l.length) : Array Value := #[.int .i64 (x.val : Nat), .int .i64 (l.getD x.val 0)]
/-- The places from k on, the last one first. -/
def backF (n k : Nat) : List (Fin n) := ((List.finRange n).drop k).reverse
theorem backF_end (n : Nat) : backF n n = [] := by simp [backF]
theorem backF_step (n k : Nat) (h : k < n) : backF n k = backF n (k + 1) ++ [⟨k, h⟩] := by
  unfold backF
  rw [List.drop_eq_getElem_cons (by simpa using h), List.reverse_cons]
  simp

set_option maxRecDepth 100000 in
set_option maxHeartbeats 1000000 in
theorem back_in (n : Nat) (hn : 1 ≤ n) (y Bn : Nat) (a : Option Addr) (cap : Nat) (l : List Int) (hl : l.length ≤ 9223372036854775807) (bs : List Nat) (hb0 : Bn ∈ bs) (hba : l.flatMap intE = [] ∨ ∀ b ∈ blkOf a, b ∈ bs) (J Jx : List (Fin l.length) → World → Prop)
    (hY : ∀ pre x W, J pre W → pre.length < l.length → YieldAt Fence.wide (n - 1) Tryd.prog y (encB l x) W fun e W' =>
      (e = .returned (.bool true) ∧ J (pre ++ [x]) W' ∧ Same bs W W') ∨ (e = .returned (.bool false) ∧ Jx (pre ++ [x]) W'))
    (W : World) (hBn : Boxed W Bn 48 (.slice a l.length cap)) (hN : Seg W a (l.flatMap intE)) (h0 : J [] W) :
    CallsIn Fence.wide n Tryd.prog 72 #[.func (.yield y) #[] #[], .pointer (some ⟨Bn, 0, none⟩)] W fun e W' => (∃ v, e = .returned v) ∧
      ((∃ ys, ys = backF l.length 0 ∧ J ys W') ∨ (∃ pre, True ∧ Jx pre W')) := by
  have hc0 := hBn.cell
  refine callsIn_of_wp Tryd.func72 rfl trivial ?_ rfl
  simp only [Tryd.ntmps72, List.size_toArray, List.length_cons, List.length_nil, Nat.reduceAdd, Nat.reduceSub, Array.replicate_succ, Array.replicate_zero, List.push_toArray, List.append_toArray, List.nil_append, List.cons_append]
  gi_wp2
  gi_loopw [3] (fun p wr => ∃ k : Nat, k ≤ l.length ∧ p = .int .i64 ((k : Int) - 1) ∧ Boxed wr Bn 48 (.slice a l.length cap) ∧ Seg wr a (l.flatMap intE) ∧ J (backF l.length k) wr) (fun p wr => ((intOf p) + 1).toNat)
  case atStart => exact ⟨l.length, Nat.le_refl _, rfl, hBn, hN, by rw [backF_end]; exact h0⟩
  case round =>
    clear hc0 hBn hN
    obtain ⟨k, hk, rfl, hBn, hN, hJs⟩ := hrel
    have hc0 := hBn.cell
    cases k with
    | zero =>
      gi_wp2
      go_end0
      exact ⟨⟨_, rfl⟩, .inl ⟨_, rfl, hJs⟩⟩
    | succ k =>
      obtain ⟨x, hx⟩ : ∃ x, l[k]? = some x := ⟨_, List.getElem?_eq_getElem (by omega)⟩
      obtain ⟨b, off, rfl, hb, hc⟩ := seg_int hN hx
      have hxd : l.getD k 0 = x := by rw [List.getD_eq_getElem?_getD, hx]; rfl
      have hpl : (backF l.length (k + 1)).length < l.length := by simp [backF]; omega
      have hY1 := hY _ ⟨k, by omega⟩ wr hJs hpl
      rw [← backF_step] at hY1
      have e1 : ((k + 1 : Nat) : Int) - 1 = (k : Int) := by omega
      rw [e1]
      have hkl : k < l.length := by omega
      have hkI : (k : Int) < (l.length : Int) := by omega
      obtain ⟨fn, tmps, assign, body, hy, hR⟩ := hY1
      dsimp only [encB] at hy
      rw [hxd] at hy
      have HB : Hid (Boxed wr Bn 48 (.slice (some ⟨b, off, none⟩) l.length cap) ∧ Seg wr (some ⟨b, off, none⟩) (l.flatMap intE)) := ⟨hBn, hN⟩
      clear hBn hN hY hkl hx hxd
      gi_wp2
      refine hR.mono ?_
      rintro e W3 (⟨rfl, hJ3, hk3⟩ | ⟨rfl, hJx3⟩)
      · gi_wp2
        go_roundw
        case rel => exact ⟨k, by omega, rfl, (hk3 Bn hb0).trans HB.out.1, HB.out.2.same hk3 hba, hJ3⟩
        case measure => simp [intOf]
      · gi_wp2
        refine bodyPost_ret (results_none rfl _ _ _) rfl ?_
        exact ⟨⟨_, rfl⟩, .inr ⟨_, trivial, hJx3⟩⟩

theorem backward_any (a : Option Addr) (len cap : Nat) (w : World) :
    Calls Tryd.prog 37 #[.slice a len cap] w fun e w' => e = .returned (.func (.func 72) #[] #[.pointer (some ⟨w.heap.size, 0, none⟩)]) ∧ w' = w.alloc (.cells #[.slice a len cap] 48) := by
  go_enter Tryd.func37, Tryd.ntmps37
  go_wp2
  go_ret
  exact ⟨rfl, rfl⟩
theorem boxed_below {w W : World} {B : Nat} {t : TypeId} {v : Value} (h : Boxed w B t v) (hb : Below w.heap.size w W) : Boxed W B t v := (hb.block B h.lt).trans h
theorem back_stops (n : Nat) (hn : 1 ≤ n) (Bn : Nat) (a : Option Addr) (cap : Nat) (l : List Int) (hl : l.length ≤ 9223372036854775807) (bs : List Nat) (hb0 : Bn ∈ bs) (hba : l.flatMap intE = [] ∨ ∀ b ∈ blkOf a, b ∈ bs) (w : World) (hBn : Boxed w Bn 48 (.slice a l.length cap)) (hN : Seg w a (l.flatMap intE)) :
    SeqStopsK Fence.wide n Tryd.prog 72 #[.pointer (some ⟨Bn, 0, none⟩)] (encB l) (Same bs) (fun ys => ys = backF l.length 0) (fun _ => True) l.length w := fun y J Jx W hW _ _ hY h0 =>
  back_in n hn y Bn a cap l hl bs hb0 hba J Jx hY W (boxed_below hBn hW) (hN.below hW) h0
theorem isS_own {β : Type} (b t : Nat) (cs : List Value) : Own (fun (_ : β) W => IsS W b t cs) := fun s X Y row hs hg hr => by
  refine (hg.block b hs.lt (fun e => ?_)).trans hs
  obtain ⟨o, ho, hc⟩ := hr b e.symm
  rw [show X.heap[b]? = _ from hs] at ho
  cases ho
  cases hc
/-- One place, from the end. -/
def stepB (N : Nat) (st : (Nat → Nat) × Nat) (x : Int) : (Nat → Nat) × Nat := if 0 ≤ x ∧ x < N then (fun a => if a = x.toNat then st.1 a ||| st.2 else st.1 a, st.2 ||| 2 ^ x.toNat) else st
def stB (N : Nat) (F : Nat → Nat) (l : List Int) (pre : List (Fin l.length)) : (Nat → Nat) × Nat := pre.foldl (fun st x => stepB N st (l.getD x.val 0)) (F, 0)
theorem stB_snoc (N : Nat) (F : Nat → Nat) (l : List Int) (pre : List (Fin l.length)) (x : Fin l.length) : stB N F l (pre ++ [x]) = stepB N (stB N F l pre) (l.getD x.val 0) := by simp [stB]
theorem coB_fold (N : Nat) (F : Nat → Nat) : ∀ l : List Int, coB N F l = l.foldr (fun x st => stepB N st x) (F, 0)
  | [] => rfl
  | x :: l => by
    rw [List.foldr_cons, ← coB_fold N F l]
    rfl
theorem back_vals (l : List Int) : (backF l.length 0).map (fun x => l.getD x.val 0) = l.reverse := by
  unfold backF
  rw [List.drop_zero, List.map_reverse]
  congr 1
  refine List.ext_getElem (by simp) fun i h1 h2 => ?_
  simp [List.getD_eq_getElem?_getD]
theorem stB_end (N : Nat) (F : Nat → Nat) (l : List Int) : stB N F l (backF l.length 0) = coB N F l := by
  rw [coB_fold, ← List.foldl_reverse, ← back_vals, List.foldl_map]
  rfl
theorem stepB_lt (N : Nat) (hN : N ≤ 64) (st : (Nat → Nat) × Nat) (x : Int) (h1 : Wf st.1) (h2 : st.2 < 18446744073709551616) : Wf (stepB N st x).1 ∧ (stepB N st x).2 < 18446744073709551616 := by
  unfold stepB
  split
  · refine ⟨fun a => ?_, or_lt64 h2 (pow_lt _ (by omega))⟩
    show (if _ then _ else _) < _
    split
    · exact or_lt64 (h1 a) h2
    · exact h1 a
  · exact ⟨h1, h2⟩
theorem stB_lt (N : Nat) (hN : N ≤ 64) (F : Nat → Nat) (hF : Wf F) (l : List Int) (pre : List (Fin l.length)) : Wf (stB N F l pre).1 ∧ (stB N F l pre).2 < 18446744073709551616 := by
  have key : ∀ (pre : List (Fin l.length)) (st : (Nat → Nat) × Nat), Wf st.1 → st.2 < 18446744073709551616 → Wf (pre.foldl (fun st x => stepB N st (l.getD x.val 0)) st).1 ∧ (pre.foldl (fun st x => stepB N st (l.getD x.val 0)) st).2 < 18446744073709551616 := by
    intro pre
    induction pre with
    | nil => intro st h1 h2; exact ⟨h1, h2⟩
    | cons x pre ih => intro st h1 h2; rw [List.foldl_cons]; obtain ⟨h3, h4⟩ := stepB_lt N hN st (l.getD x.val 0) h1 h2; exact ih _ h3 h4
  exact key pre (F, 0) hF (show 0 < 18446744073709551616 by decide)
theorem odF_snoc (n : Nat) (l : List Int) : ∀ (ls : List (List Int)) (F : Nat → Nat), odF n (ls ++ [l]) F = (coB n (odF n ls F) l).1
  | [], F => rfl
  | l' :: ls, F => odF_snoc n l ls _
theorem odF_wf (n : Nat) (hn : n ≤ 64) (ls : List (List Int)) (F : Nat → Nat) (h : Wf F) : Wf (odF n ls F) := by rw [← odA_same]; exact odA_wf n hn ls F h
end Go.Proofs.YtdjlfpkemdiadaaDoor

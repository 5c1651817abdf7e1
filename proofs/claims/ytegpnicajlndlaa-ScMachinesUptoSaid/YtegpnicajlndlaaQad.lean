/- M1, S0, Z0, Z7, Z8 -/
import Derived.Test.YtegpnicajlndlaaQaa
import Derived.Deep.MidRow
import Derived.Deep.WholeRow
import Derived.ChangeKeysEq
import Derived.Deep.Quiet
import Derived.StillTailTactics
import Derived.Below
namespace Go.Proofs.Ytegpnicajlndlaa.M
set_option linter.unusedSimpArgs false
set_option linter.unusedVariables false
def dig (c : Nat) : Nat :=
 if 48 ≤ c ∧ c ≤ 57 then c - 48 else if 97 ≤ c ∧ c ≤ 102 then c - 87 else if 65 ≤ c ∧ c ≤ 70 then c - 55 else 18446744073709551615
def isD (b : Nat) (c : UInt8) : Bool := decide (dig c.toNat < b)
def dl (b : Nat) (l : List UInt8) : List UInt8 := l.takeWhile (isD b)
def val (b : Nat) (l : List UInt8) : Nat := l.foldl (fun n c => n * b + dig c.toNat) 0
def minusB : List UInt8 → Bool
 | c :: _ => c.toNat == 45
 | [] => false
def markB : List UInt8 → Bool
 | a :: b :: _ => a.toNat == 48 && (b.toNat == 120 || b.toNat == 88)
 | _ => false
def bodyF (r : List UInt8) : Nat × List UInt8 × Nat :=
 if markB r = true ∧ dl 16 (r.drop 2) ≠ [] then (16, dl 16 (r.drop 2), 2 + (dl 16 (r.drop 2)).length) else (10, dl 10 r, (dl 10 r).length)
def sgn (l : List UInt8) : Nat := if minusB l then 1 else 0
def valF (m : Bool) (v : Nat) : Option Int :=
 if 18446744073709551615 < v ∨ (m = true ∧ 9223372036854775808 < v) then none
 else some (if m then -(v : Int) else if (v : Int) ≤ 9223372036854775807 then (v : Int) else (v : Int) - 18446744073709551616)
def digF (l : List UInt8) : List UInt8 := (bodyF (l.drop (sgn l))).2.1
def baseF (l : List UInt8) : Nat := (bodyF (l.drop (sgn l))).1
def numF (l : List UInt8) : Option Int := valF (minusB l) (val (baseF l) (digF l))
end Go.Proofs.Ytegpnicajlndlaa.M
namespace Go.Proofs.Ytegpnicajlndlaa
open Go.RowKit M
set_option linter.unusedSimpArgs false
set_option linter.unusedVariables false
structure Fresh (w W : World) (b : Nat) : Prop where
 at' : b = w.heap.size
 size : W.heap.size = b + 1
 below : Below b w W
structure Upd (w W : World) (b : Nat) : Prop where
 os : W.os = w.os
 tape : W.tape = w.tape
 output : W.output = w.output
 size : W.heap.size = w.heap.size
 block : ∀ k, k ≠ b → W.heap[k]? = w.heap[k]?
theorem Fresh.alloc (w : World) (o : Obj) : Fresh w (w.alloc o) w.heap.size := ⟨rfl, by simp, (Below.refl _ w).alloc (Nat.le_refl _) o⟩
theorem Fresh.trans {w0 w W : World} {B b : Nat} (h : Below B w0 w) (hB : B ≤ w.heap.size) (F : Fresh w W b) : Below B w0 W :=
 h.trans (F.below.mono (by have := F.at'; omega))
theorem Upd.setCell (w : World) (b o : Nat) (v : Value) : Upd w (w.setCell ⟨b, o, none⟩ v) b :=
 ⟨rfl, rfl, rfl, by simp [World.setCell], fun k hk => by
  show (w.heap.modify b _)[k]? = _
  rw [Array.getElem?_modify, if_neg (fun e => hk e.symm)]⟩
theorem Upd.trans {w0 w W : World} {B b : Nat} (h : Below B w0 w) (hB : B ≤ b) (U : Upd w W b) : Below B w0 W :=
 ⟨U.os.trans h.os, U.tape.trans h.tape, U.output.trans h.output, by rw [U.size]; exact h.size, fun k hk => (U.block k (by omega)).trans (h.block k hk)⟩
theorem toL (s : ByteArray) : s.toList = s.data.toList := ByteArray.toList_eq s
theorem exL (s : ByteArray) (a b : Nat) : (s.extract a b).data.toList = (s.data.toList.take b).drop a := by
 rw [ByteArray.data_extract, Array.toList_extract]
 rw [List.extract_eq_take_drop, List.drop_take]
theorem exE (s : ByteArray) (a : Nat) : (s.extract a s.size).data.toList = s.data.toList.drop a := by
 rw [exL]; congr 1; exact List.take_of_length_le (by simp)
theorem sizeL (s : ByteArray) : s.size = s.data.toList.length := by simp
theorem emp_t {D : ByteArray} (h : D.data.toList = []) : D.toList.isEmpty = true := by rw [toL, h]; rfl
theorem emp_f {D : ByteArray} (h : D.data.toList ≠ []) : D.toList.isEmpty = false := by
 rw [toL]; cases e : D.data.toList with
 | nil => exact absurd e h
 | cons a r => rfl
end Go.Proofs.Ytegpnicajlndlaa
namespace Go.Proofs.Ytegpnicajlndlaa
open Go
section
variable {P : Program} {ops : Array Oper} {md : Region.Mode} {C : World → Prop}
def headQ (P : Program) (md : Region.Mode) (ops : Array Oper) (C : World → Prop) (n : Nat) (L : Array Bool → Act → Prop) : Nat → Array Bool → Act → Prop
 | 0 => L
 | f + 1 => fun listed a => Region.ready md ops listed ≠ [] ∧ ∀ i, i ∈ Region.ready md ops listed → i < n ∧ qOp P ops C i (headQ P md ops C n L f (listed.setIfInBounds i true)) a
theorem any_of_headQ {n g : Nat} {L : Array Bool → Act → Prop} {Q' : Exit → Act → World → Prop} (hL : ∀ listed a w, C w → L listed a → wpAny P md ops Q' g listed a w) (f : Nat) :
    ∀ (listed : Array Bool) (a : Act) (w : World), C w → headQ P md ops C n L f listed a → wpAny P md ops Q' (f + g) listed a w := by
 induction f with
 | zero =>
  intro listed a w hc h
  have := hL listed a w hc h
  rwa [Nat.zero_add]
 | succ f ih =>
  intro listed a w hc h
  have e : f + 1 + g = f + g + 1 := Nat.add_right_comm f 1 g
  rw [e]
  exact ⟨fun none => (h.1 none).elim, fun i hi => wpOp_of_qOp hc (fun a' w' hw' more => ih _ a' w' hw' more) (h.2 i hi).2⟩
theorem head_firstQ {n i : Nat} {oi : Oper} {v : Value} {L : Array Bool → Act → Prop} (hi : ops[i]? = some oi) (hsel : ∀ (j : Nat) (o : Oper) cs b, ops[j]? = some o → o.op ≠ .select cs b)
    (hs : Region.sinkB md ops n = true) (hc : Region.chainB md ops n = true) (hn : n < ops.size) (hin : i < n)
    (hdone : ∀ listed a, L listed a → ∀ j ∈ Region.ready md ops listed, n ≤ j) (f : Nat) :
    ∀ (listed : Array Bool) (a : Act), HeadInv md ops n listed →
     (∀ j oj, ops[j]? = some oj → j ≠ i → listed.getD j true = false → (∀ e ∈ oj.after, Region.binds md e = true → e.on ≠ i) → oi.apart ops oj = true) →
     i ∈ Region.ready md ops listed → YieldsIn P ops C oi v a →
     headQ P md ops C n L f (listed.setIfInBounds i true) (a.put oi.dst v) → headQ P md ops C n L (f + 1) listed a := by
 have small : ∀ (listed : Array Bool), HeadInv md ops n listed → i ∈ Region.ready md ops listed → ∀ j, j ∈ Region.ready md ops listed → j < n := by
  intro listed inv hr j hj
  by_cases h : j < n
  · exact h
  · exact absurd hj (tail_waits hs hc hn inv _ i rfl hin (mem_ready.1 hr).1 j (by omega))
 induction f with
 | zero =>
  intro listed a inv free hr hy H
  refine ⟨List.ne_nil_of_mem hr, fun j hj => ⟨small listed inv hr j hj, ?_⟩⟩
  by_cases same : j = i
  · rw [same]
    exact hy.qOp hi H
  · have h1 := hdone _ _ H j (ready_mono hj same)
    have h2 := small listed inv hr j hj
    omega
 | succ f ih =>
  intro listed a inv free hr hy H
  refine ⟨List.ne_nil_of_mem hr, fun j hj => ⟨small listed inv hr j hj, ?_⟩⟩
  by_cases same : j = i
  · rw [same]
    exact hy.qOp hi H
  · have later := (H.2 j (ready_mono hj same)).2
    obtain ⟨open_j, oj, hoj, waits⟩ := mem_ready.1 hj
    have apart : ∀ e ∈ oj.after, Region.binds md e = true → e.on ≠ i := by
     intro e he hb on_i
     have was := waits e he hb
     rw [on_i, getD_both (mem_ready.1 hr).1] at was
     cases was
    have swapped := qOp_put hoj (free j oj hoj same open_j apart) (fun cs b => hsel i oi cs b hi) (fun cs b => hsel j oj cs b hoj) hy later
    refine qOp_mono (fun a' both => ih (listed.setIfInBounds j true) a' (inv.set hj (small listed inv hr j hj)) ?_ (ready_mono hr (Ne.symm same)) both.1 ?_) swapped
    · intro k ok hk hki unlisted hno
      refine free k ok hk hki ?_ hno
      by_cases hjk : j = k
      · rw [← hjk]; exact open_j
      · rwa [getD_set_ne true hjk] at unlisted
    · rw [Array.setIfInBounds_comm _ _ same]
      exact both.2
theorem head_lexQ {n g : Nat} {Lq : Act → Prop} (hsel : Region.noSelect ops = true) (hs : Region.sinkB md ops n = true) (hc : Region.chainB md ops n = true) (hn : n < ops.size) (l : List Oper) :
    ∀ (k : Nat) (listed : Array Bool) (a : Act), (∀ j, j < l.length → l[j]? = ops[k + j]?) → k + l.length = n → HeadInv md ops n listed →
    Region.lexHead md ops g l.length k listed = true → wpQuiet P ops C Lq l a →
    headQ P md ops C n (fun listed' a' => Region.seqB md ops g n listed' = true ∧ Lq a') l.length listed a := by
 induction l with
 | nil =>
  intro k listed a _ hk _ hB h
  have e : k = n := hk
  rw [e] at hB
  exact ⟨hB, h⟩
 | cons o l ih =>
  intro k listed a hl hk inv hB h
  have here : ops[k]? = some o := (hl 0 (Nat.zero_lt_succ _)).symm
  rw [List.length_cons] at hk
  rw [List.length_cons, Region.lexHead, Bool.and_eq_true, Bool.and_eq_true] at hB
  have hr : k ∈ Region.ready md ops listed := by simpa using hB.1.1
  have hkn : k < n := by omega
  have one : qOp P ops C k (wpQuiet P ops C Lq l) a := by
   unfold qOp
   rw [here]
   exact h
  obtain ⟨v, hy, more⟩ := yieldsIn_of_qOp here one
  refine head_firstQ here (Region.noSelect_spec hsel) hs hc hn hkn (fun listed' a' hL => seqB_ready hL.1) l.length listed a inv (Region.free_spec here hB.1.2) hr hy ?_
  refine ih (k + 1) _ _ (fun j hj => ?_) (by omega) (inv.set hr hkn) hB.2 more
  have := hl (j + 1) (Nat.succ_lt_succ hj)
  rw [List.getElem?_cons_succ] at this
  rw [this]
  congr 1
  omega
theorem nothing_listed (n : Nat) : HeadInv md ops n (Array.replicate ops.size false) := by
 refine ⟨?_, ?_, ?_⟩
 · simp
 · intro j oj _ hl
   rw [getD_replicate_false] at hl
   cases hl
 · intro t _ ht
   have hlt : t < (Array.replicate ops.size false).size := by simpa using ht
   exact getD_in hlt (getD_replicate_false _ _)
theorem wp_quiet_tail (C : World → Prop) {id : Nat} {Q : Exit → Act → World → Prop} {a : Act} {w : World} {l : List Oper} (n : Nat) (hm : P.follows .mixedOrders = true) (hB : Region.lexTailB .any l.toArray n = true)
    (hC : C { w with drawn := w.drawn + 1 }) (h : wpQuiet P l.toArray C (fun a' => ∀ w', C w' → wpList P l.toArray Q (l.drop n) a' w') (l.take n) a) : (Code.region id l.toArray true).wp P Q a w := by
 unfold Region.lexTailB at hB
 rw [Bool.and_eq_true, Bool.and_eq_true, Bool.and_eq_true, Bool.and_eq_true] at hB
 have hn : n < l.toArray.size := of_decide_eq_true hB.1.1.1.2
 have hlen : n ≤ l.length := by have := hn; simp at this; omega
 have len1 : (l.take n).length = n := List.length_take_of_le hlen
 have len2 : (l.drop n).length = l.toArray.size - n := by rw [List.length_drop]; simp
 have lex : Region.lexHead .any l.toArray (l.toArray.size - n) (l.take n).length 0 (Array.replicate l.toArray.size false) = true := by rw [len1]; exact hB.2
 have head := head_lexQ hB.1.1.1.1 hB.1.1.2 hB.1.2 hn (l.take n) 0 _ a (fun j hj => by
  rw [len1] at hj
  rw [List.getElem?_take_of_lt hj]
  simp) (by rw [len1]; omega) (nothing_listed n) lex h
 have whole := any_of_headQ (Q' := Q) (g := l.toArray.size - n) (fun listed a' w' hw' hL => by
  rw [← len2]
  rw [← len2] at hL
  exact wpAny_of_seq (l.drop n) n listed a' w' (fun j => by simp) hL.1 (hL.2 w' hw')) _ _ _ _ hC head
 have total : (l.take n).length + (l.toArray.size - n) = l.toArray.size := by rw [len1]; omega
 rw [total] at whole
 exact wp_region_any hm whole
theorem wp_quiet_all (C : World → Prop) {id : Nat} {Q : Exit → Act → World → Prop} {a : Act} {w : World} {l : List Oper} (hm : P.follows .mixedOrders = true) (hB : Region.lexB .any l.toArray = true)
    (hC : C { w with drawn := w.drawn + 1 }) (h : wpQuiet P l.toArray C (fun a' => ∀ w', C w' → Q .normal a' w') l a) : (Code.region id l.toArray true).wp P Q a w :=
 wp_region_quiet (C := C) hm hB hC (by simpa using h)
end
end Go.Proofs.Ytegpnicajlndlaa
namespace Go.Proofs.Ytegpnicajlndlaa
open Go Go.RowKit
set_option linter.unusedVariables false
set_option linter.unusedSimpArgs false
section
variable {P : Program} {ops : Array Oper} {md : Region.Mode}
def GrowsAt (P : Program) (W : World) (o : Oper) (a : Act) (v : Value) : Prop := ∀ w, Below W.heap.size W w → o.quietAt P a (fun w' => Below w.heap.size w w') w v
def growOp (P : Program) (ops : Array Oper) (W : World) (o : Oper) (K : Act → Prop) (a : Act) : Prop :=
 if Region.wanted o (yielded ops a.tmps) then ∃ v, GrowsAt P W o a v ∧ K (a.put o.dst v) else K (a.put o.dst undef)
def wpG (P : Program) (ops : Array Oper) (W : World) (Q : Act → Prop) : List Oper → Act → Prop
 | [] => Q
 | o :: rest => growOp P ops W o (wpG P ops W Q rest)
structure Grown (W : World) (C : World → Prop) : Prop where
 from' : ∀ w, C w → Below W.heap.size W w
 more : ∀ w w', C w → Below w.heap.size w w' → C w'
theorem grown_all (W : World) : Grown W (fun w => Below W.heap.size W w) := ⟨fun _ h => h, fun w w' h k => h.trans (k.mono h.size)⟩
theorem quietAt_of_grows {W : World} {C : World → Prop} (hC : Grown W C) {o : Oper} {a : Act} {v : Value} (h : GrowsAt P W o a v) (w : World) (hw : C w) : o.quietAt P a C w v := by
 have h1 := h w (hC.from' w hw)
 unfold Oper.quietAt at h1 ⊢
 generalize (execOp a.eval o).run P w = r at h1 ⊢
 match r, h1 with
 | .ok (.value u) w', h1 => exact h1
 | .ok .skip w', h1 => exact h1
 | .ok (.enter f args) w', ⟨e, hc⟩ => exact ⟨e, hc.mono fun e' w'' h' => ⟨h'.1, hC.more _ _ hw h'.2⟩⟩
theorem quiet_of_grow {W : World} {C : World → Prop} (hC : Grown W C) {Q : Act → Prop} : ∀ (l : List Oper) (a : Act), wpG P ops W Q l a → wpQuiet P ops C Q l a
 | [], _, h => h
 | o :: l, a, h => by
  unfold wpG growOp at h
  unfold wpQuiet
  split
  · rename_i hw
    rw [if_pos hw] at h
    obtain ⟨v, h1, h2⟩ := h
    exact ⟨v, fun w hw' => quietAt_of_grows hC h1 w hw', quiet_of_grow hC l _ h2⟩
  · rename_i hw
    rw [if_neg hw] at h
    exact quiet_of_grow hC l _ h
theorem grow_all {id : Nat} {Q : Exit → Act → World → Prop} {a : Act} {W : World} {l : List Oper} (hm : P.follows .mixedOrders = true) (hB : Region.lexB .any l.toArray = true)
    (h : wpG P l.toArray W (fun a' => ∀ w', Below W.heap.size W w' → Q .normal a' w') l a) : (Code.region id l.toArray true).wp P Q a W :=
 wp_quiet_all (fun w => Below W.heap.size W w) hm hB ⟨rfl, rfl, rfl, Nat.le_refl _, fun _ _ => rfl⟩ (quiet_of_grow (grown_all W) l a h)
theorem grow_tail {id : Nat} {Q : Exit → Act → World → Prop} {a : Act} {W : World} {l : List Oper} (n : Nat) (hm : P.follows .mixedOrders = true) (hB : Region.lexTailB .any l.toArray n = true)
    (h : wpG P l.toArray W (fun a' => ∀ w', Below W.heap.size W w' → wpList P l.toArray Q (l.drop n) a' w') (l.take n) a) : (Code.region id l.toArray true).wp P Q a W :=
 wp_quiet_tail (fun w => Below W.heap.size W w) n hm hB ⟨rfl, rfl, rfl, Nat.le_refl _, fun _ _ => rfl⟩ (quiet_of_grow (grown_all W) _ a h)
end
end Go.Proofs.Ytegpnicajlndlaa
namespace Go.Proofs.Ytegpnicajlndlaa
open Go.RowKit
set_option linter.unusedSimpArgs false
set_option linter.unusedVariables false
section
variable {ops : Array Oper} {W : World} {Q : Act → Prop} {rest : List Oper} {op : Oper} {a : Act}
theorem wpG_nil (h : Q a) : wpG Try.prog ops W Q [] a := h
theorem wpG_value (hw : Region.wanted op (yielded ops a.tmps) = true) {v : Value} (hr : ∀ w, Below W.heap.size W w → (execOp a.eval op).run Try.prog w = .ok (.value v) w)
    (h : wpG Try.prog ops W Q rest (a.put op.dst v)) : wpG Try.prog ops W Q (op :: rest) a := by
 unfold wpG growOp
 rw [if_pos hw]
 refine ⟨v, fun w hC => ?_, h⟩
 unfold Oper.quietAt
 rw [hr w hC]
 exact ⟨rfl, rfl⟩
theorem wpG_put (hw : Region.wanted op (yielded ops a.tmps) = true) {v : Value} (hr : ∀ w, (execOp a.eval op).run Try.prog w = .ok (.value v) w)
    (h : wpG Try.prog ops W Q rest (a.put op.dst v)) : wpG Try.prog ops W Q (op :: rest) a := wpG_value hw (fun w _ => hr w) h
theorem wpG_skip (hw : Region.wanted op (yielded ops a.tmps) = false)
    (h : wpG Try.prog ops W Q rest (a.put op.dst undef)) : wpG Try.prog ops W Q (op :: rest) a := by
 unfold wpG growOp
 rw [if_neg (by rw [hw]; simp)]
 exact h
theorem wpG_call (hw : Region.wanted op (yielded ops a.tmps) = true) {f : FuncId} {args : Array Value} {v : Value} (hC : ∀ w, Below W.heap.size W w → Calls Try.prog f args w fun e w' => e = .returned v ∧ Below w.heap.size w w') (hr : ∀ w, (execOp a.eval op).run Try.prog w = .ok (.enter f args) w)
    (h : wpG Try.prog ops W Q rest (a.put op.dst v)) : wpG Try.prog ops W Q (op :: rest) a := by
 unfold wpG growOp
 rw [if_pos hw]
 refine ⟨v, fun w hc => ?_, h⟩
 unfold Oper.quietAt
 rw [hr w]
 exact ⟨rfl, hC w hc⟩
end
end Go.Proofs.Ytegpnicajlndlaa

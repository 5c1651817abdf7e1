/- Straight, of the reference: what is kept. -/
import Derived.Test.YtmoieckmbimgoaaR6
namespace Go.Proofs.Ytmoieckmbimgoaa
open Go.RowKit M
set_option linter.unusedSimpArgs false
set_option linter.unusedVariables false

theorem toList_ne {x y : ByteArray} (h : ¬ x = y) : ¬ x.toList = y.toList := fun e => h (litS_inj (by unfold litS; rw [← toL, ← toL, e]))
theorem own_open {W : World} {B t s n : Nat} {v : Value} {xs : List Value} (h : W.ownsRow B t s v n xs) (h0 : 0 < n) : ∃ g c, v = .slice (some ⟨g, 0, none⟩) n c ∧ n ≤ c ∧ Seg W (some ⟨g, 0, none⟩) xs := by
  obtain ⟨a, c, e, sg, _⟩ := own_row h
  rcases h.2 with ⟨h1, h2⟩ | ⟨g, cap, cur, hv, hg, hh, hc, _⟩
  · rw [h1] at e; cases e; omega
  · rw [hv] at e; cases e; exact ⟨g, c, hv, hc, sg⟩
theorem seg_drop {W : World} {g o : Nat} {cs : List Value} (h : Seg W (some ⟨g, 0, none⟩) cs) : Seg W (some ⟨g, o, none⟩) (cs.drop o) := fun j v hv => by
  rw [List.getElem?_drop] at hv
  obtain ⟨b, o', e, h2, h3⟩ := h _ v hv
  cases e
  exact ⟨g, o, rfl, h2, by rw [Nat.zero_add] at h3; exact h3⟩
theorem seg_take {W : World} {a : Option Addr} {cs : List Value} (h : Seg W a cs) (n : Nat) : Seg W a (cs.take n) := fun j v hv => by
  rw [List.getElem?_take] at hv
  split at hv
  · exact h j v hv
  · cases hv
/-- Where a slice that is cut at its front lies. -/
def cutA (g c i k : Nat) : Addr := if c = i then ⟨g, 0, none⟩ else ⟨g, i * k, none⟩
theorem row_cut {W : World} {g c i L k : Nat} {cs : List Value} (h : Seg W (some ⟨g, 0, none⟩) cs) (hl : cs.length = L * k) (hi : i ≤ L) (hL : L ≤ c) : RowV W (.slice (some (cutA g c i k)) (L - i) (c - i)) (L - i) (cs.drop (i * k)) := by
  refine ⟨_, _, rfl, ?_, fun e => by cases e⟩
  unfold cutA
  split
  · rename_i e
    have : cs.drop (i * k) = [] := List.drop_eq_nil_iff.2 (by rw [hl]; exact Nat.mul_le_mul_right _ (by omega))
    rw [this]; exact Seg.nil _ _
  · exact seg_drop h
theorem row_head {W : World} {g c i L k : Nat} {cs : List Value} (h : Seg W (some ⟨g, 0, none⟩) cs) : RowV W (.slice (some ⟨g, 0, none⟩) i c) i (cs.take (i * k)) := ⟨_, _, rfl, seg_take h _, fun e => by cases e⟩
theorem flat_take {α : Type} (enc : α → List Value) (k : Nat) (hk : ∀ x, (enc x).length = k) : ∀ (l : List α) (i : Nat), (l.flatMap enc).take (i * k) = (l.take i).flatMap enc
  | [], i => by simp
  | x :: l, 0 => by simp
  | x :: l, i + 1 => by
    rw [List.flatMap_cons, List.take_append, hk x, List.take_of_length_le (by rw [hk, Nat.succ_mul]; omega), show (i + 1) * k - k = i * k by rw [Nat.succ_mul]; omega, flat_take enc k hk l i, List.take_succ_cons, List.flatMap_cons]
theorem flat_drop {α : Type} (enc : α → List Value) (k : Nat) (hk : ∀ x, (enc x).length = k) : ∀ (l : List α) (i : Nat), (l.flatMap enc).drop (i * k) = (l.drop i).flatMap enc
  | [], i => by simp
  | x :: l, 0 => by simp
  | x :: l, i + 1 => by
    rw [List.flatMap_cons, List.drop_append, hk x, List.drop_eq_nil_iff.2 (by rw [hk, Nat.succ_mul]; omega), show (i + 1) * k - k = i * k by rw [Nat.succ_mul]; omega, flat_drop enc k hk l i, List.drop_succ_cons, List.nil_append]
theorem flat_lenK {α : Type} (enc : α → List Value) (k : Nat) (hk : ∀ x, (enc x).length = k) (l : List α) : (l.flatMap enc).length = l.length * k := by
  induction l with
  | nil => simp
  | cons x l ih => rw [List.flatMap_cons, List.length_append, hk, ih, List.length_cons, Nat.succ_mul]; omega
/-- What is kept and what is still to come. -/
structure Cut (SS : List ByteArray) (PP : List PK) (M i p : Nat) (ts : List ByteArray) (tp : List PK) : Prop where
  ex : ∃ kept KP, ts = kept ++ SS.drop p ∧ tp = KP ++ PP.drop p ∧ kept.length = i ∧ i ≤ p ∧ p ≤ M + 1 ∧ (p ≤ M → KP.length = i ∧ ∀ X, StrR SS PP p X → StrR SS PP 0 (KP ++ X)) ∧ (p = M + 1 → StrR SS PP 0 KP)
theorem Cut.zero (SS : List ByteArray) (PP : List PK) (M : Nat) : Cut SS PP M 0 0 SS PP := ⟨[], [], rfl, rfl, rfl, Nat.le_refl _, Nat.zero_le _, fun _ => ⟨rfl, fun X h => h⟩, fun h => by omega⟩
theorem Cut.lenS {SS : List ByteArray} {PP : List PK} {M i p : Nat} {ts : List ByteArray} {tp : List PK} (h : Cut SS PP M i p ts tp) (hS : SS.length = M + 1) : ts.length = i + (M + 1 - p) := by
  obtain ⟨kept, KP, rfl, _, hk, _⟩ := h.ex
  rw [List.length_append, List.length_drop, hk, hS]
theorem Cut.lenP {SS : List ByteArray} {PP : List PK} {M i p : Nat} {ts : List ByteArray} {tp : List PK} (h : Cut SS PP M i p ts tp) (hP : PP.length = M) (hp : p ≤ M) : tp.length = i + (M - p) := by
  obtain ⟨kept, KP, _, rfl, _, _, _, h5, _⟩ := h.ex
  rw [List.length_append, List.length_drop, (h5 hp).1, hP]
theorem Cut.get {SS : List ByteArray} {PP : List PK} {M i p : Nat} {ts : List ByteArray} {tp : List PK} (h : Cut SS PP M i p ts tp) (j : Nat) : ts[i + j]? = SS[p + j]? := by
  obtain ⟨kept, KP, rfl, _, hk, _⟩ := h.ex
  rw [List.getElem?_append_right (by omega), hk, List.getElem?_drop, Nat.add_sub_cancel_left]
theorem drop_at {α : Type} {l : List α} {i : Nat} {x : α} (h : l[i]? = some x) : l.drop i = x :: l.drop (i + 1) := by
  obtain ⟨hi, e⟩ := List.getElem?_eq_some_iff.1 h
  rw [List.drop_eq_getElem_cons hi, e]
/-- A round is left out, and on. -/
theorem Cut.next {SS : List ByteArray} {PP : List PK} {M i p q : Nat} {ts : List ByteArray} {tp : List PK} (h : Cut SS PP M i p ts tp) (hS : SS.length = M + 1) (hP : PP.length = M) (hp : p ≤ M) (hq : LastAt SS p q) :
    Cut SS PP M (i + 1) (q + 1) (ts.take i ++ ts.drop (i + (q - p))) (tp.take i ++ tp.drop (i + (q - p))) := by
  obtain ⟨kept, KP, rfl, rfl, hk, hip, hpM, h5, h6⟩ := h.ex
  obtain ⟨hKP, hX⟩ := h5 hp
  have hle := hq.le
  have hlt := hq.lt
  rw [hS] at hlt
  have e1 : (kept ++ SS.drop p).take i ++ (kept ++ SS.drop p).drop (i + (q - p)) = kept ++ SS.drop q := by
    rw [List.take_append_of_le_length (by omega), List.take_of_length_le (by omega), List.drop_append, List.drop_eq_nil_iff.2 (by omega), List.nil_append, hk, Nat.add_sub_cancel_left, List.drop_drop, show p + (q - p) = q by omega]
  have e2 : (KP ++ PP.drop p).take i ++ (KP ++ PP.drop p).drop (i + (q - p)) = KP ++ PP.drop q := by
    rw [List.take_append_of_le_length (by omega), List.take_of_length_le (by omega), List.drop_append, List.drop_eq_nil_iff.2 (by omega), List.nil_append, hKP, Nat.add_sub_cancel_left, List.drop_drop, show p + (q - p) = q by omega]
  rw [e1, e2]
  obtain ⟨s, hs⟩ : ∃ s, SS[q]? = some s := ⟨_, List.getElem?_eq_getElem (by omega)⟩
  by_cases hqM : q < M
  · obtain ⟨k, hk'⟩ : ∃ k, PP[q]? = some k := ⟨_, List.getElem?_eq_getElem (by omega)⟩
    refine ⟨kept ++ [s], KP ++ [k], by rw [drop_at hs]; simp, by rw [drop_at hk']; simp, by simp [hk], by omega, by omega, fun _ => ⟨by simp [hKP], fun X hh => ?_⟩, fun hh => by omega⟩
    rw [List.append_assoc]
    exact hX _ (.more hq hk' hh)
  · have hqe : q = M := by omega
    refine ⟨kept ++ [s], KP, by rw [drop_at hs]; simp, ?_, by simp [hk], by omega, by omega, fun hh => by omega, fun _ => ?_⟩
    · rw [List.drop_eq_nil_iff.2 (by omega), List.drop_eq_nil_iff.2 (by omega)]
    · have := hX [] (.stop hq (by omega))
      rw [List.append_nil] at this; exact this
theorem Cut.same {SS : List ByteArray} {PP : List PK} {M i p : Nat} {ts : List ByteArray} {tp : List PK} (h : Cut SS PP M i p ts tp) (hS : SS.length = M + 1) (hP : PP.length = M) (hp : p ≤ M) (hq : LastAt SS p p) : Cut SS PP M (i + 1) (p + 1) ts tp := by
  have := h.next hS hP hp hq
  simp only [Nat.sub_self, Nat.add_zero, List.take_append_drop] at this
  exact this
theorem Cut.fin {SS : List ByteArray} {PP : List PK} {M i : Nat} {ts : List ByteArray} {tp : List PK} (h : Cut SS PP M i (M + 1) ts tp) (hP : PP.length = M) : StrR SS PP 0 tp := by
  obtain ⟨kept, KP, _, rfl, _, _, _, _, h6⟩ := h.ex
  rw [List.drop_eq_nil_iff.2 (by omega), List.append_nil]
  exact h6 rfl
theorem Cut.lePM {SS : List ByteArray} {PP : List PK} {M i p : Nat} {ts : List ByteArray} {tp : List PK} (h : Cut SS PP M i p ts tp) : i ≤ p ∧ p ≤ M + 1 := by
  obtain ⟨_, _, _, _, _, h1, h2, _⟩ := h.ex; exact ⟨h1, h2⟩
theorem strE1 (x : ByteArray) : (strE x).length = 1 := rfl
theorem pkL3 (x : PK) : (pkL x).length = 3 := rfl
theorem str_oneL (l : List ByteArray) : ∀ v ∈ l.flatMap strE, v.oneCell' = true := fun v hv => by
  obtain ⟨r, _, h⟩ := List.mem_flatMap.1 hv; simp [strE] at h; subst h; rfl
theorem run_headS (g L c i : Nat) (hi : i ≤ c) (w : World) : (Instr.sliceAt 36 (.slice (some ⟨g, 0, none⟩) L c) none (some (.int .i64 (i : Int))) none).run Try.prog w = .ok (.slice (some ⟨g, 0, none⟩) i c) w := by
  have hi2 : (i : Int) ≤ c := by omega
  simp [go_sem, Instr.sliceAt, hi2, hi]
theorem run_headP (g L c i : Nat) (hi : i ≤ c) (w : World) : (Instr.sliceAt 26 (.slice (some ⟨g, 0, none⟩) L c) none (some (.int .i64 (i : Int))) none).run Try.prog w = .ok (.slice (some ⟨g, 0, none⟩) i c) w := by
  have hi2 : (i : Int) ≤ c := by omega
  simp [go_sem, Instr.sliceAt, hi2, hi]
theorem run_cutS (g L c i : Nat) (hi : i ≤ L) (hL : L ≤ c) (w : World) : (Instr.sliceAt 36 (.slice (some ⟨g, 0, none⟩) L c) (some (.int .i64 (i : Int))) none none).run Try.prog w = .ok (.slice (some (cutA g c i 1)) (L - i) (c - i)) w := by
  have hi2 : (i : Int) ≤ L := by omega
  have h0 : (L : Int) ≤ c := by omega
  simp [go_sem, Instr.sliceAt, hi2, h0, hi, hL, cutA]
  split <;> rfl
theorem run_cutP (g L c i : Nat) (hi : i ≤ L) (hL : L ≤ c) (w : World) : (Instr.sliceAt 26 (.slice (some ⟨g, 0, none⟩) L c) (some (.int .i64 (i : Int))) none none).run Try.prog w = .ok (.slice (some (cutA g c i 3)) (L - i) (c - i)) w := by
  have hi2 : (i : Int) ≤ L := by omega
  have h0 : (L : Int) ≤ c := by omega
  simp [go_sem, Instr.sliceAt, hi2, h0, hi, hL, cutA]
  split <;> rfl
theorem exec_sliceL {w w' : World} {op : Oper} {a : Act} {T : Nat} (x y : Operand) (ho : op.op = .slice T x (some y) none none) {vx vy v : Value} (hx : a.eval x = vx) (hy : a.eval y = vy) (hr : (Instr.sliceAt T vx (some vy) none none).run Try.prog w = .ok v w') : (execOp a.eval op).run Try.prog w = .ok (.value v) w' := by
  unfold execOp
  simp only [ho, hx, hy, Option.map_some, Option.map_none, Sem.run_bind, hr, Result.andThen_ok, Sem.run_pure]
theorem exec_sliceH {w w' : World} {op : Oper} {a : Act} {T : Nat} (x y : Operand) (ho : op.op = .slice T x none (some y) none) {vx vy v : Value} (hx : a.eval x = vx) (hy : a.eval y = vy) (hr : (Instr.sliceAt T vx none (some vy) none).run Try.prog w = .ok v w') : (execOp a.eval op).run Try.prog w = .ok (.value v) w' := by
  unfold execOp
  simp only [ho, hx, hy, Option.map_some, Option.map_none, Sem.run_bind, hr, Result.andThen_ok, Sem.run_pure]
def lenW : Value → Nat | .slice _ n _ => n | _ => 0
end Go.Proofs.Ytmoieckmbimgoaa

/- Several texts in one: O0, MP, O1, O2, O5. -/
import Derived.Test.YtdjlfpkemdiadaaDoorQE
import Derived.Maps.OwnSet
import Derived.Maps.RangeWalk
import Derived.ProofKit
import Derived.OpenShut
import Derived.LaidMore
import Derived.Lib.LaidTab
import Derived.Stop.Joined
import Derived.Stop.LaidErr
import Derived.SevenTiedAt
import Derived.SizedLaws
import Derived.Lib.RowBridge
import Derived.ChangeMaps5
import Derived.ChangeOld
import Derived.Test.YtdjlfpkemdiadaaDoorTie
import Derived.Test.YtdjlfpkemdiadaaDoorCards
import Derived.Test.YtdjlfpkemdiadaaDoorChecked
/- Executions whose orders are whole: plain mathematics. -/
namespace Go.Proofs.YtdjlfpkemdiadaaDoor
open Go Go.RowKit M
set_option linter.unusedSimpArgs false
set_option linter.unusedVariables false

theorem pigeon : ∀ {xs ys : List Int}, xs.Nodup → (∀ x ∈ xs, x ∈ ys) → xs.length ≤ ys.length
  | [], _, _, _ => Nat.zero_le _
  | x :: xs, ys, h, hs => by
    have hx : x ∈ ys := hs x List.mem_cons_self
    rw [List.nodup_cons] at h
    have h1 := pigeon (ys := ys.erase x) h.2 (fun y hy => (List.mem_erase_of_ne (by rintro rfl; exact h.1 hy)).2 (hs y (List.mem_cons_of_mem _ hy)))
    rw [List.length_erase_of_mem hx] at h1
    have h2 := List.length_pos_of_mem hx
    simp only [List.length_cons]
    omega
theorem pigeon_all {xs ys : List Int} (h : xs.Nodup) (hs : ∀ x ∈ xs, x ∈ ys) (hl : ys.length ≤ xs.length) : ∀ y ∈ ys, y ∈ xs := by
  intro y hy
  by_cases hx : y ∈ xs
  · exact hx
  · exfalso
    have h1 := pigeon (ys := ys.erase y) h (fun x hx' => (List.mem_erase_of_ne (by rintro rfl; exact hx hx')).2 (hs x hx'))
    rw [List.length_erase_of_mem hy] at h1
    have h2 := List.length_pos_of_mem hy
    omega

/-- An entry of the i-th order. -/
def Good (l : List EV) (i : Nat) (x : Int) : Prop := ∃ v : Nat, x = (v : Int) ∧ v < l.length ∧ wrB (evA l v) = true ∧ (evA l v).loc = (i : Int)
/-- What the orders say up to the k-th entry of the i-th. -/
def EE (od : List (List Int)) (i k : Nat) : List Int := (od.take i).flatten ++ (od.getD i []).take k
theorem EE_zero (od : List (List Int)) : EE od 0 0 = [] := by simp [EE]
theorem EE_step {od : List (List Int)} {i k : Nat} {r : List Int} {x : Int} (h1 : od[i]? = some r) (h2 : r[k]? = some x) : EE od i (k + 1) = EE od i k ++ [x] := by
  unfold EE
  rw [List.getD_eq_getElem?_getD, h1, Option.getD_some, List.take_add_one, h2, Option.toList_some, List.append_assoc]
theorem EE_next {od : List (List Int)} {i : Nat} {r : List Int} (h1 : od[i]? = some r) : EE od i r.length = EE od (i + 1) 0 := by
  unfold EE
  rw [List.getD_eq_getElem?_getD, h1, Option.getD_some, List.take_length, List.take_zero, List.append_nil, List.take_add_one, h1, Option.toList_some, List.flatten_append]
  simp
theorem EE_end (od : List (List Int)) : EE od od.length 0 = od.flatten := by simp [EE]
/-- How many writes stand ahead of the i-th event. -/
def cntW (l : List EV) (i : Nat) : Nat := ((List.range i).filter fun v => wrB (evA l v)).length
theorem cntW_zero (l : List EV) : cntW l 0 = 0 := rfl
theorem cntW_succ (l : List EV) (i : Nat) : cntW l (i + 1) = cntW l i + (if wrB (evA l i) = true then 1 else 0) := by
  unfold cntW
  rw [List.range_succ, List.filter_append, List.length_append]
  cases h : wrB (evA l i) <;> simp [h]
theorem cntW_le (l : List EV) (i : Nat) : cntW l i ≤ i := by
  unfold cntW
  have := List.length_filter_le (fun v => wrB (evA l v)) (List.range i)
  simpa using this

structure SeenP (l : List EV) (od : List (List Int)) (i k : Nat) : Prop where
  nd : (EE od i k).Nodup
  old : ∀ j r, j < i → od[j]? = some r → ∀ x ∈ r, Good l j x
  new : ∀ x ∈ (od.getD i []).take k, Good l i x
theorem seen_zero (l : List EV) (od : List (List Int)) : SeenP l od 0 0 := ⟨by rw [EE_zero]; exact List.nodup_nil, fun j r h => absurd h (by omega), fun x hx => by simp at hx⟩
theorem seen_step {l : List EV} {od : List (List Int)} {i k : Nat} {r : List Int} {x : Int} (h : SeenP l od i k) (h1 : od[i]? = some r) (h2 : r[k]? = some x) (hg : Good l i x) (hn : x ∉ EE od i k) : SeenP l od i (k + 1) := by
  refine ⟨?_, h.old, fun y hy => ?_⟩
  · rw [EE_step h1 h2, List.nodup_append]
    refine ⟨h.nd, by simp, fun a ha b hb => ?_⟩
    rw [List.mem_singleton] at hb
    rintro rfl
    exact hn (hb ▸ ha)
  · have h3 := h.new y
    rw [List.getD_eq_getElem?_getD, h1, Option.getD_some] at hy h3
    rw [List.take_add_one, h2, Option.toList_some, List.mem_append, List.mem_singleton] at hy
    rcases hy with hy | rfl
    · exact h3 hy
    · exact hg
theorem seen_next {l : List EV} {od : List (List Int)} {i : Nat} {r : List Int} (h1 : od[i]? = some r) (h : SeenP l od i r.length) : SeenP l od (i + 1) 0 := by
  refine ⟨by rw [← EE_next h1]; exact h.nd, fun j s hj hs x hx => ?_, fun x hx => by simp at hx⟩
  by_cases e : j = i
  · subst e
    rw [h1] at hs; cases hs
    refine h.new x ?_
    rw [List.getD_eq_getElem?_getD, h1, Option.getD_some, List.take_length]
    exact hx
  · exact h.old j s (by omega) hs x hx
theorem seen_all {l : List EV} {od : List (List Int)} {i k : Nat} (h : SeenP l od i k) : ∀ x ∈ EE od i k, ∃ v : Nat, x = (v : Int) ∧ v < l.length ∧ wrB (evA l v) = true := by
  intro x hx
  unfold EE at hx
  rw [List.mem_append, List.mem_flatten] at hx
  rcases hx with ⟨r, hr, hx⟩ | hx
  · obtain ⟨j, hj⟩ := List.getElem?_of_mem hr
    rw [List.getElem?_take] at hj
    split at hj
    · obtain ⟨v, e, h1, h2, _⟩ := h.old j r (by omega) hj x hx
      exact ⟨v, e, h1, h2⟩
    · cases hj
  · obtain ⟨v, e, h1, h2, _⟩ := h.new x hx
    exact ⟨v, e, h1, h2⟩
theorem seen_le {l : List EV} {od : List (List Int)} {i k : Nat} (h : SeenP l od i k) : (EE od i k).length ≤ l.length := by
  have h1 := pigeon (ys := (List.range l.length).map Int.ofNat) h.nd (fun x hx => by
    obtain ⟨v, e, h1, _⟩ := seen_all h x hx
    exact List.mem_map.2 ⟨v, List.mem_range.2 h1, e.symm⟩)
  simpa using h1

/-- An execution whose reads read writes, and whose orders are whole. -/
structure Whole (l : List EV) (fr : List Int) (od : List (List Int)) : Prop where
  n64 : l.length ≤ 64
  frn : fr.length = l.length
  fro : ∀ i, i < l.length → rdB (evA l i) = decide (0 ≤ fr.getD i 0) ∧ fr.getD i 0 < (l.length : Int) ∧ (rdB (evA l i) = true → wrB (evA l (fr.getD i 0).toNat) = true)
  ent : ∀ (i : Nat) (r : List Int), od[i]? = some r → ∀ x ∈ r, Good l i x
  nod : ∀ (i : Nat) (r : List Int), od[i]? = some r → r.Nodup
  all : ∀ v, v < l.length → wrB (evA l v) = true → ∃ (i : Nat) (r : List Int), od[i]? = some r ∧ (v : Int) ∈ r
theorem whole_mk {l : List EV} {fr : List Int} {od : List (List Int)} (h1 : l.length ≤ 64) (h2 : fr.length = l.length)
    (h3 : ∀ i, i < l.length → rdB (evA l i) = decide (0 ≤ fr.getD i 0) ∧ fr.getD i 0 < (l.length : Int) ∧ (rdB (evA l i) = true → wrB (evA l (fr.getD i 0).toNat) = true))
    (h4 : SeenP l od od.length 0) (h5 : (EE od od.length 0).length = cntW l l.length) : Whole l fr od := by
  have hE := EE_end od
  refine ⟨h1, h2, h3, fun i r hr => h4.old i r (by have := (List.getElem?_eq_some_iff.1 hr).1; omega) hr, fun i r hr => ?_, fun v hv hw => ?_⟩
  · have h6 := h4.nd
    rw [hE] at h6
    exact h6.sublist (List.sublist_flatten_of_mem (List.mem_of_getElem? hr))
  · have h6 := pigeon_all (ys := ((List.range l.length).filter fun v => wrB (evA l v)).map Int.ofNat) h4.nd (fun x hx => by
      obtain ⟨u, e, h1, h2⟩ := seen_all h4 x hx
      exact List.mem_map.2 ⟨u, List.mem_filter.2 ⟨List.mem_range.2 h1, h2⟩, e.symm⟩) (by rw [h5, List.length_map]; exact Nat.le_refl _)
    have h7 := h6 (v : Int) (List.mem_map.2 ⟨v, List.mem_filter.2 ⟨List.mem_range.2 hv, hw⟩, rfl⟩)
    rw [hE, List.mem_flatten] at h7
    obtain ⟨r, hr, hx⟩ := h7
    obtain ⟨i, hi⟩ := List.getElem?_of_mem hr
    exact ⟨i, r, hi, hx⟩

theorem odF_bit (n : Nat) (a b : Nat) : ∀ (ls : List (List Int)) (F : Nat → Nat), (odF n ls F a).testBit b = true ↔ (F a).testBit b = true ∨ (a < n ∧ b < n ∧ ∃ r ∈ ls, Ahead a b r)
  | [], F => by simp [odF]
  | l :: ls, F => by
    show (odF n ls (coB n F l).1 a).testBit b = true ↔ _
    rw [odF_bit n a b ls, coB_bit]
    constructor
    · rintro ((h | ⟨h1, h2, h3⟩) | ⟨h1, h2, r, hr, h3⟩)
      · exact .inl h
      · exact .inr ⟨h1, h2, l, List.mem_cons_self, h3⟩
      · exact .inr ⟨h1, h2, r, List.mem_cons_of_mem _ hr, h3⟩
    · rintro (h | ⟨h1, h2, r, hr, h3⟩)
      · exact .inl (.inl h)
      · rcases List.mem_cons.1 hr with rfl | hr
        · exact .inl (.inr ⟨h1, h2, h3⟩)
        · exact .inr ⟨h1, h2, r, hr, h3⟩
theorem ahead_mem {a b : Nat} : ∀ {l : List Int}, Ahead a b l → (a : Int) ∈ l ∧ (b : Int) ∈ l
  | x :: xs, h => by
    rcases h with ⟨rfl, h⟩ | h
    · exact ⟨List.mem_cons_self, List.mem_cons_of_mem _ h⟩
    · have := ahead_mem h
      exact ⟨List.mem_cons_of_mem _ this.1, List.mem_cons_of_mem _ this.2⟩
theorem ahead_tot {a b : Nat} : ∀ {l : List Int}, (a : Int) ∈ l → (b : Int) ∈ l → a ≠ b → Ahead a b l ∨ Ahead b a l
  | [], h, _, _ => by simp at h
  | x :: xs, ha, hb, hn => by
    rcases List.mem_cons.1 ha with e1 | ha
    · rcases List.mem_cons.1 hb with e2 | hb
      · omega
      · exact .inl (.inl ⟨e1.symm, hb⟩)
    · rcases List.mem_cons.1 hb with e2 | hb
      · exact .inr (.inl ⟨e2.symm, ha⟩)
      · rcases ahead_tot ha hb hn with h | h
        · exact .inl (.inr h)
        · exact .inr (.inr h)
theorem ahead_asym {a b : Nat} : ∀ {l : List Int}, l.Nodup → Ahead a b l → ¬ Ahead b a l
  | x :: xs, hd, h1, h2 => by
    rw [List.nodup_cons] at hd
    rcases h1 with ⟨rfl, h1⟩ | h1
    · rcases h2 with ⟨e, h2⟩ | h2
      · exact hd.1 h2
      · exact hd.1 (ahead_mem h2).2
    · rcases h2 with ⟨e, h2⟩ | h2
      · subst e
        exact hd.1 (ahead_mem h1).2
      · exact ahead_asym hd.2 h1 h2
theorem ahead_ne {a b : Nat} {l : List Int} (hd : l.Nodup) (h : Ahead a b l) : a ≠ b := by
  rintro rfl
  exact ahead_asym hd h h

section
variable {l : List EV} {fr : List Int} {od : List (List Int)}
/-- Both are writes to one location, and are unlike. -/
def wwB (l : List EV) (a b : Nat) : Bool := wrB (evA l a) && wrB (evA l b) && decide ((evA l a).loc = (evA l b).loc) && decide (a ≠ b)
theorem co_iff (h : Whole l fr od) {a b : Nat} : (coX l.length od a).testBit b = true ↔ a < l.length ∧ b < l.length ∧ ∃ r ∈ od, Ahead a b r := by
  have hs : shN l.length = l.length := if_pos h.n64
  unfold coX
  rw [hs, odF_bit]
  simp [void]
theorem co_in (h : Whole l fr od) {a b : Nat} (hb : (coX l.length od a).testBit b = true) : wwB l a b = true := by
  obtain ⟨h1, h2, r, hr, h3⟩ := (co_iff h).1 hb
  obtain ⟨i, hi⟩ := List.getElem?_of_mem hr
  have hm := ahead_mem h3
  obtain ⟨u, e1, _, w1, l1⟩ := h.ent i r hi _ hm.1
  obtain ⟨v, e2, _, w2, l2⟩ := h.ent i r hi _ hm.2
  have e1' : u = a := by omega
  have e2' : v = b := by omega
  subst e1' e2'
  unfold wwB
  rw [w1, w2, l1, l2]
  simp [ahead_ne (h.nod i r hi) h3]
theorem co_not (h : Whole l fr od) {a b : Nat} (hw : wwB l a b = false) : (coX l.length od a).testBit b = false := by
  cases hb : (coX l.length od a).testBit b
  · rfl
  · rw [co_in h hb] at hw; cases hw
theorem wwB_swap (l : List EV) (a b : Nat) : wwB l a b = wwB l b a := by
  unfold wwB
  rw [Bool.eq_iff_iff]
  simp only [Bool.and_eq_true, decide_eq_true_eq]
  constructor <;> rintro ⟨⟨⟨h1, h2⟩, h3⟩, h4⟩ <;> exact ⟨⟨⟨h2, h1⟩, h3.symm⟩, fun e => h4 e.symm⟩
theorem co_one (h : Whole l fr od) {a b : Nat} (ha : a < l.length) (hb : b < l.length) (hw : wwB l a b = true) : (coX l.length od b).testBit a = !(coX l.length od a).testBit b := by
  unfold wwB at hw
  simp only [Bool.and_eq_true, decide_eq_true_eq] at hw
  obtain ⟨⟨⟨h1, h2⟩, h3⟩, h4⟩ := hw
  obtain ⟨i, r, hi, hx⟩ := h.all a ha h1
  obtain ⟨j, s, hj, hy⟩ := h.all b hb h2
  obtain ⟨u, e1, _, _, l1⟩ := h.ent i r hi _ hx
  obtain ⟨v, e2, _, _, l2⟩ := h.ent j s hj _ hy
  have e1' : u = a := by omega
  have e2' : v = b := by omega
  subst e1' e2'
  have e3 : i = j := by omega
  subst e3
  rw [hi] at hj; cases hj
  cases hc : (coX l.length od u).testBit v
  · rw [Bool.not_false, co_iff h]
    refine ⟨hb, ha, r, List.mem_of_getElem? hi, ?_⟩
    rcases ahead_tot hx hy h4 with h5 | h5
    · rw [(co_iff h).2 ⟨ha, hb, r, List.mem_of_getElem? hi, h5⟩] at hc; cases hc
    · exact h5
  · rw [Bool.not_true]
    cases hc2 : (coX l.length od v).testBit u
    · rfl
    · exfalso
      obtain ⟨_, _, r1, hr1, h5⟩ := (co_iff h).1 hc
      obtain ⟨_, _, r2, hr2, h6⟩ := (co_iff h).1 hc2
      obtain ⟨i1, hi1⟩ := List.getElem?_of_mem hr1
      obtain ⟨i2, hi2⟩ := List.getElem?_of_mem hr2
      obtain ⟨x1, ex1, _, _, m1⟩ := h.ent i1 r1 hi1 _ (ahead_mem h5).1
      obtain ⟨x2, ex2, _, _, m2⟩ := h.ent i2 r2 hi2 _ (ahead_mem h6).2
      have f1 : x1 = u := by omega
      have f2 : x2 = u := by omega
      subst f1 f2
      have e4 : i1 = i2 := by omega
      subst e4
      rw [hi1] at hi2; cases hi2
      exact ahead_asym (h.nod i1 r1 hi1) h5 h6
theorem rf_bit (h : Whole l fr od) {a b : Nat} (ha : a < l.length) (hb : b < l.length) : (rfX l.length fr b).testBit a = decide (fr.getD a 0 = (b : Int)) := by
  have hs : shN l.length = l.length := if_pos h.n64
  have hf := h.frn
  unfold rfX
  rw [hs, Bool.eq_iff_iff, rfF_bit, decide_eq_true_eq, List.getD_eq_getElem?_getD, hf, Nat.min_self]
  have h1 : fr[a]? = some (fr[a]'(by omega)) := List.getElem?_eq_getElem (by omega)
  rw [h1, Option.getD_some]
  simp [ha, hb]
theorem rd_not_wr {e : EV} (h : rdB e = true) : wrB e = false := by
  unfold rdB at h
  unfold wrB
  simp only [decide_eq_true_eq] at h
  simp [h]
theorem fr_bit (h : Whole l fr od) {a b : Nat} (ha : a < l.length) (hb : b < l.length) :
    (frF (shN l.length) (rfX l.length fr) (coX l.length od) a).testBit b = (rdB (evA l a) && (coX l.length od (max 0 (fr.getD a 0)).toNat).testBit b) := by
  have hs : shN l.length = l.length := if_pos h.n64
  obtain ⟨f1, f2, f3⟩ := h.fro a ha
  unfold frF
  rw [hs, prF_bit, Bool.eq_iff_iff]
  simp only [Bool.and_eq_true, decide_eq_true_eq, frQ_iff]
  constructor
  · rintro ⟨_, hne, w, hw, h1, h2⟩
    rw [rf_bit h ha hw, decide_eq_true_eq] at h1
    refine ⟨by rw [f1, decide_eq_true_eq]; omega, ?_⟩
    rw [h1, show (max 0 (w : Int)).toNat = w by omega]
    exact h2
  · rintro ⟨h1, h2⟩
    have h3 : 0 ≤ fr.getD a 0 := by rw [h1] at f1; simpa using f1.symm
    obtain ⟨w, hw⟩ := Int.eq_ofNat_of_zero_le h3
    rw [hw] at h2 f2
    rw [show (max 0 (w : Int)).toNat = w by omega] at h2
    refine ⟨⟨ha, hb⟩, ?_, w, by omega, ?_, h2⟩
    · rintro rfl
      have h4 := co_in h h2
      unfold wwB at h4
      rw [rd_not_wr h1] at h4
      simp at h4
    · rw [rf_bit h ha (by omega), decide_eq_true_eq]; exact hw
end
end Go.Proofs.YtdjlfpkemdiadaaDoor
/-
  MAPS IN MEMORY, OF WHATEVER ELEMENTS: 'MapV P k w b n f c': block b of w is a map of c entries (at most n) that has at each key what f says. No program is named.
  Each law as an equation of its run, and at the operation, for the walk.
-/
namespace Go.Proofs.YtdjlfpkemdiadaaDoor
open Go Go.Maps Go.ChangeMaps Go.MapKept

/-- Any value reads as itself. -/
def anyE (v : Value) : Option (DataW Value × List MemPlace) := some (.held v, [])
theorem anyE_mk (v : Value) : anyE v = some (.held v, []) := rfl
theorem anyE_inv {v : Value} {d : DataW Value} {ps : List MemPlace} (h : anyE v = some (d, ps)) : d = .held v := by
  unfold anyE at h; simp only [Option.some.injEq, Prod.mk.injEq] at h; exact h.1.symm
theorem anyE_held {v u : Value} {ps : List MemPlace} (h : anyE v = some (.held u, ps)) : v = u := by
  have := anyE_inv h; simpa using this.symm

/-- Block b of w is a map of c entries (at most n) that has at each key what f says. -/
structure MapV (P : Program) (k : TypeId) (w : World) (b n : Nat) (f : Lit → Option Value) (c : Nat) : Prop where
  ex : ∃ D : DataW Value, w.ownsMap P k anyE b n D ∧ Maps.size D = c ∧ ∀ kl, Maps.has D kl = (f kl).isSome ∧ ∀ v, f kl = some v → ∀ z, D.atKey kl z = .held v

open Classical in
/-- At one key another element. -/
noncomputable def putF (f : Lit → Option Value) (kl : Lit) (v : Value) : Lit → Option Value := fun x => if x = kl then some v else f x
open Classical in
/-- One key less. -/
noncomputable def delF (f : Lit → Option Value) (kl : Lit) : Lit → Option Value := fun x => if x = kl then none else f x

section
variable {P : Program} {k t e : TypeId} {w : World} {b n c : Nat} {f : Lit → Option Value}

theorem mapV_made (w : World) (P : Program) (k : TypeId) : MapV P k (w.alloc (.map #[] 0)) w.heap.size 0 (fun _ => none) 0 :=
  ⟨_, World.ownsMap_made w P k anyE, rfl, fun _ => ⟨rfl, fun _ h => by cases h⟩⟩

theorem MapV.lt (h : MapV P k w b n f c) : b < w.heap.size := let ⟨_, h1, _⟩ := h.ex; h1.lt
theorem MapV.le (h : MapV P k w b n f c) : c ≤ n := by obtain ⟨_, h1, rfl, _⟩ := h.ex; exact h1.size_le

/-- It hangs on its own block alone. -/
theorem MapV.same {w' : World} (h : MapV P k w b n f c) (e : w'.heap[b]? = w.heap[b]?) : MapV P k w' b n f c := by
  obtain ⟨D, ⟨es, cl, hb, r⟩, h2⟩ := h.ex
  exact ⟨D, ⟨es, cl, by rw [e]; exact hb, r⟩, h2⟩
theorem MapV.mono {n' : Nat} (h : MapV P k w b n f c) (hn : n ≤ n') : MapV P k w b n' f c := by
  obtain ⟨D, h1, h2⟩ := h.ex
  exact ⟨D, h1.mono hn, h2⟩
theorem MapV.kept {w' : World} {row : Option Nat} (h : MapV P k w b n f c) (hg : w.grownBy w' row) (hne : some b ≠ row) : MapV P k w' b n f c := by
  obtain ⟨D, h1, h2⟩ := h.ex
  exact ⟨D, h1.kept hg hne, h2⟩
/-- It is no row of cells. -/
theorem MapV.block (h : MapV P k w b n f c) : ∃ es cl, w.heap[b]? = some (.map es cl) := by
  obtain ⟨D, ⟨es, cl, hb, _⟩, _⟩ := h.ex
  exact ⟨es, cl, hb⟩
theorem MapV.ne {b' : Nat} {cs : Array Value} {ty : TypeId} (h : MapV P k w b n f c) (hb' : w.heap[b']? = some (.cells cs ty)) : b ≠ b' := by
  rintro rfl
  obtain ⟨es, cl, hb⟩ := h.block
  rw [hb] at hb'; cases hb'

/-- 'm[k]'. -/
theorem MapV.look (h : MapV P k w b n f c) (K : Keyed P k) (ht : P.underlying t = some (.map k e)) {z : Value} (hz : (zeroValue e).run P w = .ok z w) {key : Value} {kl : Lit} (hkey : keyOf P k key = some kl) :
    (Instr.lookup t (.map (some b)) key false).run P w = .ok ((f kl).getD z) w := by
  obtain ⟨D, h1, _, h2⟩ := h.ex
  obtain ⟨v, ps, hrun, hv⟩ := h1.lookup K ht hz (anyE_mk z) hkey
  rw [hrun]
  obtain ⟨h3, h4⟩ := h2 kl
  cases hf : f kl with
  | none =>
    rw [hf] at h3
    rw [Maps.atKey_of_not_has (by simpa using h3)] at hv
    rw [anyE_held hv]; rfl
  | some u =>
    rw [h4 u hf] at hv
    rw [anyE_held hv]; rfl

/-- 'v, ok := m[k]'. -/
theorem MapV.look_ok (h : MapV P k w b n f c) (K : Keyed P k) (ht : P.underlying t = some (.map k e)) {z : Value} (hz : (zeroValue e).run P w = .ok z w) {key : Value} {kl : Lit} (hkey : keyOf P k key = some kl) :
    (Instr.lookup t (.map (some b)) key true).run P w = .ok (.tuple #[(f kl).getD z, .bool (f kl).isSome]) w := by
  obtain ⟨D, h1, _, h2⟩ := h.ex
  obtain ⟨v, ps, hrun, hv⟩ := h1.look_ok K ht hz (anyE_mk z) hkey
  rw [hrun]
  obtain ⟨h3, h4⟩ := h2 kl
  rw [h3]
  cases hf : f kl with
  | none =>
    rw [hf] at h3
    rw [Maps.atKey_of_not_has (by simpa using h3)] at hv
    rw [anyE_held hv]; rfl
  | some u =>
    rw [h4 u hf] at hv
    rw [anyE_held hv]; rfl

/-- 'len(m)'. -/
theorem MapV.len (h : MapV P k w b n f c) (ht : P.underlying t = some (.map k e)) (ty : TypeId) : (Builtin.len_ #[t] ty #[.map (some b)]).run P w = .ok (.int .i64 c) w := by
  obtain ⟨D, h1, rfl, _⟩ := h.ex
  exact h1.len ht ty

/-- 'm[k] = v'. -/
theorem MapV.upd (h : MapV P k w b n f c) (K : Keyed P k) (ht : P.underlying t = some (.map k e)) (hn : n < maxLen) {key : Value} (val : Value) {kl : Lit} (hkey : keyOf P k key = some kl) :
    ∃ w', (Instr.mapUpdate t (.map (some b)) key val).run P w = .ok () w' ∧ MapV P k w' b (n + 1) (putF f kl val) (if (f kl).isSome then c else c + 1) ∧ w.mapTurned w' b := by
  obtain ⟨D, h1, rfl, h2⟩ := h.ex
  obtain ⟨w', hrun, h3, h4⟩ := h1.store K ht hn hkey (anyE_mk val)
  refine ⟨w', hrun, ⟨_, h3, ?_, ?_⟩, h4⟩
  · rw [Maps.size_put (h1.tidy K), (h2 kl).1]
  · intro x
    unfold putF
    by_cases hx : x = kl
    · subst hx
      rw [if_pos rfl]
      exact ⟨Maps.has_put_same h1.isMap (K.key hkey) _, fun v hv z => by rw [Maps.atKey_put_same h1.isMap (K.key hkey)]; simpa using hv⟩
    · rw [if_neg hx]
      exact ⟨by rw [Maps.has_put_other hx]; exact (h2 x).1, fun v hv z => by rw [Maps.atKey_put_other hx]; exact (h2 x).2 v hv z⟩

/-- 'delete(m, k)'. -/
theorem MapV.del (h : MapV P k w b n f c) (K : Keyed P k) (ht : P.underlying t = some (.map k e)) {key : Value} {kl : Lit} (hkey : keyOf P k key = some kl) (ty : TypeId) :
    ∃ w', (Builtin.delete_ #[t, k] ty #[.map (some b), key]).run P w = .ok (.tuple #[]) w' ∧ MapV P k w' b n (delF f kl) (if (f kl).isSome then c - 1 else c) ∧ w.mapTurned w' b := by
  obtain ⟨D, h1, rfl, h2⟩ := h.ex
  obtain ⟨w', hrun, h3, h4⟩ := h1.drop K ht hkey ty
  refine ⟨w', hrun, ⟨_, h3, ?_, ?_⟩, h4⟩
  · have := Maps.size_del (k := kl) (h1.tidy K)
    rw [(h2 kl).1] at this
    by_cases hs : (f kl).isSome = true
    · rw [if_pos hs] at this ⊢; omega
    · rw [if_neg hs] at this ⊢; omega
  · intro x
    unfold delF
    by_cases hx : x = kl
    · subst hx
      rw [if_pos rfl]
      exact ⟨by rw [Maps.has_del_same]; rfl, fun v hv => by cases hv⟩
    · rw [if_neg hx]
      exact ⟨by rw [Maps.has_del_other hx]; exact (h2 x).1, fun v hv z => by rw [Maps.atKey_del_other hx]; exact (h2 x).2 v hv z⟩

/-- All blocks but the map's lie as they lay. -/
theorem mapTurned_other {w' : World} (h : w.mapTurned w' b) {j : Nat} (hj : j ≠ b) : w'.heap[j]? = w.heap[j]? := by
  have := h.grown
  by_cases hlt : j < w.heap.size
  · exact this.block j hlt (fun e => hj (by simpa using e))
  · obtain ⟨es, cl, es', cl', hb, rfl⟩ := h
    simp [setBlock]
    rw [Array.getElem?_eq_none (by simp; omega), Array.getElem?_eq_none (by omega)]
theorem mapTurned_size {w' : World} (h : w.mapTurned w' b) : w'.heap.size = w.heap.size := by
  obtain ⟨es, cl, es', cl', hb, rfl⟩ := h
  simp [setBlock]
end
/-! ### at the operation -/
section
variable {P : Program} {k t e : TypeId} {w : World} {b n c : Nat} {f : Lit → Option Value} {ops : Array Oper} {rest : List Oper} {o : Oper} {a : Act} {Q : Exit → Act → World → Prop}

theorem MapV.exec_look (h : MapV P k w b n f c) (K : Keyed P k) (ht : P.underlying t = some (.map k e)) {z : Value} (hz : (zeroValue e).run P w = .ok z w) {m x : Operand} (hop : o.op = Op.lookup t m x false)
    (hm : a.eval m = .map (some b)) {key : Value} (hx : a.eval x = key) {kl : Lit} (hkey : keyOf P k key = some kl) : (execOp a.eval o).run P w = .ok (.value ((f kl).getD z)) w := by
  simp [execOp, hop, hm, hx, h.look K ht hz hkey, Result.andThen]
theorem MapV.exec_look_ok (h : MapV P k w b n f c) (K : Keyed P k) (ht : P.underlying t = some (.map k e)) {z : Value} (hz : (zeroValue e).run P w = .ok z w) {m x : Operand} (hop : o.op = Op.lookup t m x true)
    (hm : a.eval m = .map (some b)) {key : Value} (hx : a.eval x = key) {kl : Lit} (hkey : keyOf P k key = some kl) : (execOp a.eval o).run P w = .ok (.value (.tuple #[(f kl).getD z, .bool (f kl).isSome])) w := by
  simp [execOp, hop, hm, hx, h.look_ok K ht hz hkey, Result.andThen]
theorem MapV.exec_len (h : MapV P k w b n f c) (ht : P.underlying t = some (.map k e)) {m : Operand} (hop : o.op = Op.call { callee := Callee.builtin Builtin.len, args := #[m], argTypes := #[t] })
    (hm : a.eval m = .map (some b)) : (execOp a.eval o).run P w = .ok (.value (.int .i64 c)) w := by
  simp [execOp, hop, resolve, invoke, builtin, hm, h.len ht o.type, Result.andThen]
theorem MapV.exec_upd (h : MapV P k w b n f c) (K : Keyed P k) (ht : P.underlying t = some (.map k e)) (hn : n < maxLen) {m x v : Operand} (hop : o.op = Op.mapUpdate t m x v)
    (hm : a.eval m = .map (some b)) {key val : Value} (hx : a.eval x = key) (hv : a.eval v = val) {kl : Lit} (hkey : keyOf P k key = some kl) :
    ∃ w', (execOp a.eval o).run P w = .ok .skip w' ∧ MapV P k w' b (n + 1) (putF f kl val) (if (f kl).isSome then c else c + 1) ∧ w.mapTurned w' b := by
  obtain ⟨w', hrun, r⟩ := h.upd K ht hn val hkey
  exact ⟨w', by simp [execOp, hop, hm, hx, hv, hrun, Result.andThen], r⟩
theorem MapV.exec_del (h : MapV P k w b n f c) (K : Keyed P k) (ht : P.underlying t = some (.map k e)) {m x : Operand} (hop : o.op = Op.call { callee := Callee.builtin Builtin.delete, args := #[m, x], argTypes := #[t, k] })
    (hm : a.eval m = .map (some b)) {key : Value} (hx : a.eval x = key) {kl : Lit} (hkey : keyOf P k key = some kl) :
    ∃ w', (execOp a.eval o).run P w = .ok (.value (.tuple #[])) w' ∧ MapV P k w' b n (delF f kl) (if (f kl).isSome then c - 1 else c) ∧ w.mapTurned w' b := by
  obtain ⟨w', hrun, r⟩ := h.del K ht hkey o.type
  exact ⟨w', by simp [execOp, hop, resolve, invoke, builtin, hm, hx, hrun, Result.andThen], r⟩

/-- 'm[k]', for the walk. -/
theorem wpList_lookV (hg : o.guard = none) (m x : Operand) (hop : o.op = Op.lookup t m x false) (h : MapV P k w b n f c) (K : Keyed P k) (ht : P.underlying t = some (.map k e)) {z : Value} (hz : (zeroValue e).run P w = .ok z w)
    (hm : a.eval m = .map (some b)) (key : Value) (kl : Lit) (hx : a.eval x = key) (hkey : keyOf P k key = some kl) (hK : wpList P ops Q rest (a.put o.dst ((f kl).getD z)) w) : wpList P ops Q (o :: rest) a w := by
  refine wpList_plain hg fun K' hK' => ?_
  unfold Oper.wp
  rw [h.exec_look K ht hz hop hm hx hkey]
  exact hK' _ _ hK
theorem wpList_lookokV (hg : o.guard = none) (m x : Operand) (hop : o.op = Op.lookup t m x true) (h : MapV P k w b n f c) (K : Keyed P k) (ht : P.underlying t = some (.map k e)) {z : Value} (hz : (zeroValue e).run P w = .ok z w)
    (hm : a.eval m = .map (some b)) (key : Value) (kl : Lit) (hx : a.eval x = key) (hkey : keyOf P k key = some kl) (hK : wpList P ops Q rest (a.put o.dst (.tuple #[(f kl).getD z, .bool (f kl).isSome])) w) : wpList P ops Q (o :: rest) a w := by
  refine wpList_plain hg fun K' hK' => ?_
  unfold Oper.wp
  rw [h.exec_look_ok K ht hz hop hm hx hkey]
  exact hK' _ _ hK
theorem wpList_lenV (hg : o.guard = none) (m : Operand) (hop : o.op = Op.call { callee := Callee.builtin Builtin.len, args := #[m], argTypes := #[t] }) (h : MapV P k w b n f c) (ht : P.underlying t = some (.map k e))
    (hm : a.eval m = .map (some b)) (hK : wpList P ops Q rest (a.put o.dst (.int .i64 c)) w) : wpList P ops Q (o :: rest) a w := by
  refine wpList_plain hg fun K' hK' => ?_
  unfold Oper.wp
  rw [h.exec_len ht hop hm]
  exact hK' _ _ hK
theorem wpList_updV (hg : o.guard = none) (m x v : Operand) (hop : o.op = Op.mapUpdate t m x v) (h : MapV P k w b n f c) (K : Keyed P k) (ht : P.underlying t = some (.map k e)) (hn : n < maxLen)
    (hm : a.eval m = .map (some b)) (key val : Value) (kl : Lit) (hx : a.eval x = key) (hv : a.eval v = val) (hkey : keyOf P k key = some kl)
    (hK : ∀ w', MapV P k w' b (n + 1) (putF f kl val) (if (f kl).isSome then c else c + 1) → w.mapTurned w' b → wpList P ops Q rest (a.put o.dst undef) w') : wpList P ops Q (o :: rest) a w := by
  refine wpList_plain hg fun K' hK' => ?_
  obtain ⟨w', hr, h1, h2⟩ := h.exec_upd K ht hn hop hm hx hv hkey
  unfold Oper.wp
  rw [hr]
  exact hK' _ _ (hK w' h1 h2)
theorem wpList_delV (hg : o.guard = none) (m x : Operand) (hop : o.op = Op.call { callee := Callee.builtin Builtin.delete, args := #[m, x], argTypes := #[t, k] }) (h : MapV P k w b n f c) (K : Keyed P k) (ht : P.underlying t = some (.map k e))
    (hm : a.eval m = .map (some b)) (key : Value) (kl : Lit) (hx : a.eval x = key) (hkey : keyOf P k key = some kl)
    (hK : ∀ w', MapV P k w' b n (delF f kl) (if (f kl).isSome then c - 1 else c) → w.mapTurned w' b → wpList P ops Q rest (a.put o.dst (.tuple #[])) w') : wpList P ops Q (o :: rest) a w := by
  refine wpList_plain hg fun K' hK' => ?_
  obtain ⟨w', hr, h1, h2⟩ := h.exec_del K ht hop hm hx hkey
  unfold Oper.wp
  rw [hr]
  exact hK' _ _ (hK w' h1 h2)
end
end Go.Proofs.YtdjlfpkemdiadaaDoor
/- The law's whole: what it says of an execution. -/
namespace Go.Proofs.YtdjlfpkemdiadaaDoor
open Go Go.RowKit M
open Go.Maps Go.ChangeMaps
set_option linter.unusedSimpArgs false
set_option linter.unusedVariables false

theorem below_turn {B b : Nat} {w0 w w' : World} (h : Below B w0 w) (hB : B ≤ w.heap.size) (ht : w.mapTurned w' b) (hb : B ≤ b) : Below B w0 w' := by
  have hg := ht.grown
  exact ⟨hg.os.trans h.os, hg.tape.trans h.tape, hg.output.trans h.output, Nat.le_trans h.size hg.size, fun k hk => (hg.block k (Nat.lt_of_lt_of_le hk hB) (fun e => by simp at e; omega)).trans (h.block k hk)⟩
theorem wpList_mkMap {w : World} {ops : Array Oper} {rest : List Oper} {op : Oper} {a : Act} {Q : Exit → Act → World → Prop} (hgd : op.guard = none) (ho : op.op = .makeMap 70 none)
    (h : ∀ W b, Fresh w W b → MapV Tryd.prog 3 W b 0 (fun _ => none) 0 → wpList Tryd.prog ops Q rest (a.put op.dst (.map (some b))) W) : wpList Tryd.prog ops Q (op :: rest) a w := by
  refine wpList_plain hgd fun K hK => ?_
  unfold Oper.wp execOp
  simp only [ho]
  have hr := run_makeMap (P := Tryd.prog) 70 w
  first
    | (simp only [Sem.run_bind, Option.map_none, hr, Result.andThen_ok, Sem.run_pure]; exact hK _ _ (h _ _ (Fresh.alloc w _) (mapV_made w Tryd.prog 3)))
    | (simp [hr]; exact hK _ _ (h _ _ (Fresh.alloc w _) (mapV_made w Tryd.prog 3)))
theorem zero3 (w : World) : (zeroValue 3).run Tryd.prog w = .ok (.int .i64 0) w := by
  have h : Tryd.t3.zero = some (.int .i64 0) := by kernel_rfl
  simp [go_sem, zeroValue, h]
theorem law3 : Keyed Tryd.prog 3 := int_keyed Tryd.underlying3
theorem key_int {x : Int} (h0 : 0 ≤ x) (h1 : x < 64) : keyOf Tryd.prog 3 (.int .i64 x) = some (Lit.int .i64 x) := keyOf_int_mk Tryd.underlying3 (by
  have hm : IntKind.i64.min = -9223372036854775808 := by decide
  simp [Lit.wf, hm]
  omega)
/-- The map holds just the numbers of a list. -/
def MapE (E : List Int) (ff : Lit → Option Value) : Prop := ∀ x : Int, ff (.int .i64 x) = if x ∈ E then some (.int .i64 1) else none
theorem MapE.nil : MapE [] (fun _ => none) := fun x => by simp
theorem MapE.next {E : List Int} {ff : Lit → Option Value} (h : MapE E ff) (x : Int) : MapE (E ++ [x]) (putF ff (.int .i64 x) (.int .i64 1)) := by
  intro y
  unfold putF
  by_cases hy : y = x
  · subst hy
    rw [if_pos rfl, if_pos (by simp)]
  · rw [if_neg (fun e => hy (by injection e)), h y]
    simp [hy]
section
variable {w : World} {b t : Nat} {cs : List Value} {ops : Array Oper} {rest : List Oper} {op : Oper} {a : Act} {Q : Exit → Act → World → Prop}
theorem wpList_rangeWG {o : Nat} (hw : Region.wanted op (yielded ops a.tmps) = true) (ty : TypeId) (x : Operand) (ho : op.op = .load ty x) (hx : a.eval x = .pointer (some ⟨b, o, none⟩)) (hc : w.rangeAt b o cs) (d : TypeDesc)
    (hu : Tryd.prog.underlying ty = some d) (hd : d.isRow = true) (hi : (Tryd.prog.info? ty).map (·.size) = some cs.length)
    (h : wpList Tryd.prog ops Q rest (a.put op.dst (.agg cs.toArray)) w) : wpList Tryd.prog ops Q (op :: rest) a w := by
  have hl := run_loadAt_mid (P := Tryd.prog) w b o ty cs d hc hu hd hi
  refine wpList_runX hw ?_ h
  unfold execOp
  simp only [ho, hx, Sem.run_bind, hl, Result.andThen_ok, Sem.run_pure]
theorem wpList_lookWG {n c : Nat} {f : Lit → Option Value} (hw : Region.wanted op (yielded ops a.tmps) = true) (m x : Operand) (hop : op.op = Op.lookup 70 m x false) (h : MapV Tryd.prog 3 w b n f c)
    (hm : a.eval m = .map (some b)) {X : Int} (hx : a.eval x = .int .i64 X) (h0 : 0 ≤ X) (h1 : X < 64) (hK : wpList Tryd.prog ops Q rest (a.put op.dst ((f (.int .i64 X)).getD (.int .i64 0))) w) : wpList Tryd.prog ops Q (op :: rest) a w :=
  wpList_runX hw (h.exec_look law3 Tryd.underlying70 (zero3 w) hop hm hx (key_int h0 h1)) hK
end
end Go.Proofs.YtdjlfpkemdiadaaDoor
/- The law's whole, walked. -/
namespace Go.Proofs.YtdjlfpkemdiadaaDoor
open Go Go.RowKit M
open Go.Maps Go.ChangeMaps
set_option linter.unusedSimpArgs false
set_option linter.unusedVariables false

/-- A read reads a write of its location. -/
def FrO (l : List EV) (fr : List Int) (i : Nat) : Prop := rdB (evA l i) = decide (0 ≤ fr.getD i 0) ∧ fr.getD i 0 < (l.length : Int) ∧ (rdB (evA l i) = true → wrB (evA l (fr.getD i 0).toNat) = true)
theorem frO_next {l : List EV} {fr : List Int} {i : Nat} (h : ∀ j, j < i → FrO l fr j) (hi : FrO l fr i) : ∀ j, j < i + 1 → FrO l fr j := by
  intro j hj
  by_cases e : j = i
  · subst e; exact hi
  · exact h j (by omega)
theorem cntW_wrap (l : List EV) (c i : Nat) (hc : c ≤ 64) (hi : i < 64) (hw : wrB (evA l i) = true) : wrap64 (((c : Nat) : Int) - ((cntW l i : Nat) : Int) - 1) = ((c : Nat) : Int) - ((cntW l (i + 1) : Nat) : Int) := by
  have h1 := cntW_le l i
  have h2 := cntW_succ l i
  rw [if_pos hw] at h2
  rw [h2]
  unfold wrap64
  omega
/-- What whole answers. -/
def WhA (l : List EV) (fr : List Int) (od : List (List Int)) (w : World) (e : Ending) (w' : World) : Prop := ∃ r : Bool, e = .returned (.bool r) ∧ (r = true → Whole l fr od) ∧ Below w.heap.size w w'
set_option maxRecDepth 100000 in
set_option maxHeartbeats 16000000 in
theorem whole_any (cs : List Value) (ae af ao : Option Addr) (ce cf co : Nat) (l : List EV) (fr : List Int) (od : List (List Int)) (w : World) (hl : cs.length = 5)
    (h0 : cs[0]? = some (.slice ae l.length ce)) (h2 : cs[2]? = some (.slice af fr.length cf)) (h3 : cs[3]? = some (.slice ao od.length co))
    (k0 : l.length ≤ 9223372036854775807) (k1 : fr.length ≤ 9223372036854775807) (k2 : od.length ≤ 9223372036854775807) (k3 : ∀ r ∈ od, r.length ≤ 9223372036854775807)
    (hE : Seg w ae (l.flatMap evL)) (hF : Seg w af (fr.flatMap intE)) (hO : RowsV w (.slice ao od.length co) intE od) :
    Calls Tryd.prog 14 #[.agg cs.toArray] w fun e w' => WhA l fr od w e w' := by
  obtain ⟨n, hn⟩ : ∃ n, l.length = n := ⟨_, rfl⟩
  obtain ⟨nf, hnf⟩ : ∃ n, fr.length = n := ⟨_, rfl⟩
  obtain ⟨no, hno⟩ : ∃ n, od.length = n := ⟨_, rfl⟩
  rw [hn] at h0 k0
  rw [hnf] at h2 k1
  rw [hno] at h3 k2 hO
  have HN : Hid (l.length = n) := hn
  have HNF : Hid (fr.length = nf) := hnf
  have HNO : Hid (od.length = no) := hno
  have HL : Hid (cs.length = 5) := hl
  have HE : Hid (Seg w ae (l.flatMap evL)) := hE
  have HF : Hid (Seg w af (fr.flatMap intE)) := hF
  have HO : Hid (RowsV w (.slice ao no co) intE od) := hO
  have HI : Hid (∀ r ∈ od, r.length ≤ 9223372036854775807) := k3
  have H0 : Hid (cs[0]? = some (.slice ae n ce)) := h0
  have H2 : Hid (cs[2]? = some (.slice af nf cf)) := h2
  have H3 : Hid (cs[3]? = some (.slice ao no co)) := h3
  clear hn hnf hno hl hE hF hO k3 h0 h2 h3
  by_cases hbig : n ≤ 64
  rotate_left
  · have hgt : (64 : Int) < (n : Int) := by omega
    go_enter Tryd.func14, Tryd.ntmps14
    go_wp2_with (first
      | (refine wpList_boxS rfl 51 _ rfl cs rfl ?_; intro W1 b1 F1 C1; have B1 := F_b F1; have y0 := (C1.cell 0).trans H0.out; clear F1))
    go_ret
    exact ⟨false, rfl, (fun e => by cases e), B1⟩
  have hgt : ¬ ((64 : Int) < (n : Int)) := by omega
  by_cases hnn : nf = n
  rotate_left
  · have hne : ((nf : Int) != (n : Int)) = true := by simp; omega
    go_enter Tryd.func14, Tryd.ntmps14
    go_wp2_with (first
      | (refine wpList_boxS rfl 51 _ rfl cs rfl ?_; intro W1 b1 F1 C1; have B1 := F_b F1; have y0 := (C1.cell 0).trans H0.out; have y2 := (C1.cell 2).trans H2.out; clear F1))
    go_ret
    exact ⟨false, rfl, (fun e => by cases e), B1⟩
  have hnn' := hnn.symm
  subst hnn'
  have hne : ((n : Int) != (n : Int)) = false := by simp
  go_enter Tryd.func14, Tryd.ntmps14
  go_wp2_with (first
    | (refine wpList_boxS rfl 51 _ rfl cs rfl ?_; intro W1 b1 F1 C1; have HB1 : Hid (Below w.heap.size w W1) := F_b F1; have y0 := (C1.cell 0).trans H0.out; have y2 := (C1.cell 2).trans H2.out; clear F1))
  have HC1 : Hid (IsS W1 b1 51 cs) := C1
  clear C1 y0 y2
  go_loopw [4] (fun i wr => ∃ k : Nat, k ≤ n ∧ i = .int .i64 (k : Int) ∧ Hid (∀ j, j < k → FrO l fr j) ∧ Hid (Below W1.heap.size W1 wr)) (fun i _ => n - (intOf i).toNat)
  case atStart => exact ⟨0, Nat.zero_le _, rfl, (fun j hj => absurd hj (by omega)), Below.refl _ _⟩
  case round =>
    obtain ⟨i, hi, rfl, HR, HB⟩ := hrel
    by_cases hlt : i < n
    · have hin : (i : Int) < (n : Int) := by omega
      obtain ⟨x, hx⟩ : ∃ x, fr[i]? = some x := ⟨_, List.getElem?_eq_getElem (by rw [HNF.out]; exact hlt)⟩
      have HD : Hid (fr.getD i 0 = x) := by show _ = _; rw [List.getD_eq_getElem?_getD, hx]; rfl
      obtain ⟨bf, of, rfl, hbf, cf0⟩ := seg_int HF.out hx
      have BW := Below.then HB1.out HB.out
      have cx := (BW.cell (p := ⟨bf, of + i, none⟩) hbf).trans cf0
      have hel := evA_at (l := l) (i := i) (by rw [HN.out]; exact hlt)
      obtain ⟨be, oe, rfl, hbe0, rI0⟩ := seg_ev HE.out hel
      have rI : wr.rangeAt be (oe + i * 5) (evL (evA l i)) := fun j v hv => (BW.cell (p := ⟨be, oe + i * 5 + j, none⟩) hbe0).trans (rI0 j v hv)
      have C1 := HC1.out.grown HB.out
      have y0 := (C1.cell 0).trans H0.out
      have y2 := (C1.cell 2).trans H2.out
      clear cf0 rI0 hx hel
      have hcr := fun W => read_any (evA l i) W
      have hrd : ∃ q, rdB (evA l i) = q := ⟨_, rfl⟩
      obtain ⟨q, hq⟩ := hrd
      simp only [hq] at hcr
      have HQ : Hid (rdB (evA l i) = q) := hq
      clear hq
      cases q with
      | false =>
        have s1 : True := trivial
        have s2 : True := trivial
        go_wp2_with (first
          | (clear s1; refine wpList_rangeWG ?_ 46 _ rfl rfl rI _ Tryd.underlying46 rfl infoEv ?_)
          | (clear s2; go_at_call 19; refine (hcr _).mono ?_; rintro e wr5 ⟨rfl, B5⟩))
        have BW5 := Below.then BW B5
        have hbe : be < wr5.heap.size := Nat.lt_of_lt_of_le hbe0 BW5.size
        have lI : wr5.cell? ⟨be, oe + i * 5 + 3, none⟩ = some (.int .i64 (evA l i).loc) := cell_grow (rI 3 _ rfl) B5
        replace y0 := cell_grow y0 B5
        clear y2 rI cx hcr C1
        by_cases hge : 0 ≤ x
        · have hlt : True := trivial
          refine grow_allW (by kernel_rfl) (by kernel_rfl) ?_
          refine WG.put rfl (v := .bool false) (fun w => by first | rfl | (go_simp; done) | (simp [go_sem]; done) | (simp [execOp, go_sem]; done)) ?_
          simp only [Act.put, List.setIfInBounds_toArray, List.set_cons_succ, List.set_cons_zero]
          refine WG.put rfl (v := .int .i64 x) (fun w => by first | rfl | (go_simp; done) | (simp [go_sem]; done) | (simp [execOp, go_sem]; done)) ?_
          simp only [Act.put, List.setIfInBounds_toArray, List.set_cons_succ, List.set_cons_zero]
          refine WG.put rfl (v := .bool true) (fun w => by first | rfl | (go_simp; done) | (simp [go_sem, hge]; done) | (simp [execOp, go_sem, hge]; done)) ?_
          simp only [Act.put, List.setIfInBounds_toArray, List.set_cons_succ, List.set_cons_zero]
          refine WG.put rfl (v := .bool true) (fun w => by first | rfl | (go_simp; done) | (simp [go_sem]; done) | (simp [execOp, go_sem]; done)) ?_
          simp only [Act.put, List.setIfInBounds_toArray, List.set_cons_succ, List.set_cons_zero]
          refine WG.put rfl (v := .bool true) (fun w => by first | rfl | (go_simp; done) | (simp [go_sem]; done) | (simp [execOp, go_sem]; done)) ?_
          simp only [Act.put, List.setIfInBounds_toArray, List.set_cons_succ, List.set_cons_zero]
          refine WG.skip rfl ?_
          simp only [Act.put, List.setIfInBounds_toArray, List.set_cons_succ, List.set_cons_zero]
          refine WG.skip rfl ?_
          simp only [Act.put, List.setIfInBounds_toArray, List.set_cons_succ, List.set_cons_zero]
          refine WG.skip rfl ?_
          simp only [Act.put, List.setIfInBounds_toArray, List.set_cons_succ, List.set_cons_zero]
          refine WG.put rfl (v := .bool true) (fun w => by first | rfl | (go_simp; done) | (simp [go_sem]; done) | (simp [execOp, go_sem]; done)) ?_
          simp only [Act.put, List.setIfInBounds_toArray, List.set_cons_succ, List.set_cons_zero]
          refine WG.put rfl (v := .bool true) (fun w => by first | rfl | (go_simp; done) | (simp [go_sem]; done) | (simp [execOp, go_sem]; done)) ?_
          simp only [Act.put, List.setIfInBounds_toArray, List.set_cons_succ, List.set_cons_zero]
          refine WG.skip rfl ?_
          simp only [Act.put, List.setIfInBounds_toArray, List.set_cons_succ, List.set_cons_zero]
          refine WG.skip rfl ?_
          simp only [Act.put, List.setIfInBounds_toArray, List.set_cons_succ, List.set_cons_zero]
          refine WG.skip rfl ?_
          simp only [Act.put, List.setIfInBounds_toArray, List.set_cons_succ, List.set_cons_zero]
          refine WG.skip rfl ?_
          simp only [Act.put, List.setIfInBounds_toArray, List.set_cons_succ, List.set_cons_zero]
          refine WG.skip rfl ?_
          simp only [Act.put, List.setIfInBounds_toArray, List.set_cons_succ, List.set_cons_zero]
          refine WG.skip rfl ?_
          simp only [Act.put, List.setIfInBounds_toArray, List.set_cons_succ, List.set_cons_zero]
          refine WG.skip rfl ?_
          simp only [Act.put, List.setIfInBounds_toArray, List.set_cons_succ, List.set_cons_zero]
          refine WG.skip rfl ?_
          simp only [Act.put, List.setIfInBounds_toArray, List.set_cons_succ, List.set_cons_zero]
          refine WG.skip rfl ?_
          simp only [Act.put, List.setIfInBounds_toArray, List.set_cons_succ, List.set_cons_zero]
          refine WG.skip rfl ?_
          simp only [Act.put, List.setIfInBounds_toArray, List.set_cons_succ, List.set_cons_zero]
          refine WG.skip rfl ?_
          simp only [Act.put, List.setIfInBounds_toArray, List.set_cons_succ, List.set_cons_zero]
          refine WG.skip rfl ?_
          simp only [Act.put, List.setIfInBounds_toArray, List.set_cons_succ, List.set_cons_zero]
          refine WG.skip rfl ?_
          simp only [Act.put, List.setIfInBounds_toArray, List.set_cons_succ, List.set_cons_zero]
          refine WG.skip rfl ?_
          simp only [Act.put, List.setIfInBounds_toArray, List.set_cons_succ, List.set_cons_zero]
          refine WG.skip rfl ?_
          simp only [Act.put, List.setIfInBounds_toArray, List.set_cons_succ, List.set_cons_zero]
          refine WG.skip rfl ?_
          simp only [Act.put, List.setIfInBounds_toArray, List.set_cons_succ, List.set_cons_zero]
          refine WG.skip rfl ?_
          simp only [Act.put, List.setIfInBounds_toArray, List.set_cons_succ, List.set_cons_zero]
          refine WG.skip rfl ?_
          simp only [Act.put, List.setIfInBounds_toArray, List.set_cons_succ, List.set_cons_zero]
          refine WG.skip rfl ?_
          simp only [Act.put, List.setIfInBounds_toArray, List.set_cons_succ, List.set_cons_zero]
          refine WG.skip rfl ?_
          simp only [Act.put, List.setIfInBounds_toArray, List.set_cons_succ, List.set_cons_zero]
          refine WG.skip rfl ?_
          simp only [Act.put, List.setIfInBounds_toArray, List.set_cons_succ, List.set_cons_zero]
          refine WG.skip rfl ?_
          simp only [Act.put, List.setIfInBounds_toArray, List.set_cons_succ, List.set_cons_zero]
          refine WG.skip rfl ?_
          simp only [Act.put, List.setIfInBounds_toArray, List.set_cons_succ, List.set_cons_zero]
          refine WG.skip rfl ?_
          simp only [Act.put, List.setIfInBounds_toArray, List.set_cons_succ, List.set_cons_zero]
          refine WG.skip rfl ?_
          simp only [Act.put, List.setIfInBounds_toArray, List.set_cons_succ, List.set_cons_zero]
          refine WG.put rfl (v := .bool true) (fun w => by first | rfl | (go_simp; done) | (simp [go_sem]; done) | (simp [execOp, go_sem]; done)) ?_
          simp only [Act.put, List.setIfInBounds_toArray, List.set_cons_succ, List.set_cons_zero]
          refine WG.nil ?_
          intro w9 B9
          go_wp2
          go_ret
          exact ⟨false, rfl, (fun e => by cases e), Below.then HB1.out (Below.then HB.out (Below.then B5 B9))⟩
        · by_cases hxn : x < n
          · have hlt : ¬ ((n : Int) ≤ x) := by omega
            have HNX : Hid (∀ j, j < i + 1 → FrO l fr j) := frO_next HR.out ⟨by rw [HQ.out, HD.out]; simp [hge], by rw [HD.out, HN.out]; exact hxn, fun e => by rw [HQ.out] at e; cases e⟩
            refine grow_allW (by kernel_rfl) (by kernel_rfl) ?_
            refine WG.put rfl (v := .bool false) (fun w => by first | rfl | (go_simp; done) | (simp [go_sem]; done) | (simp [execOp, go_sem]; done)) ?_
            simp only [Act.put, List.setIfInBounds_toArray, List.set_cons_succ, List.set_cons_zero]
            refine WG.put rfl (v := .int .i64 x) (fun w => by first | rfl | (go_simp; done) | (simp [go_sem]; done) | (simp [execOp, go_sem]; done)) ?_
            simp only [Act.put, List.setIfInBounds_toArray, List.set_cons_succ, List.set_cons_zero]
            refine WG.put rfl (v := .bool false) (fun w => by first | rfl | (go_simp; done) | (simp [go_sem, hge]; done) | (simp [execOp, go_sem, hge]; done)) ?_
            simp only [Act.put, List.setIfInBounds_toArray, List.set_cons_succ, List.set_cons_zero]
            refine WG.put rfl (v := .bool false) (fun w => by first | rfl | (go_simp; done) | (simp [go_sem]; done) | (simp [execOp, go_sem]; done)) ?_
            simp only [Act.put, List.setIfInBounds_toArray, List.set_cons_succ, List.set_cons_zero]
            refine WG.put rfl (v := .bool false) (fun w => by first | rfl | (go_simp; done) | (simp [go_sem]; done) | (simp [execOp, go_sem]; done)) ?_
            simp only [Act.put, List.setIfInBounds_toArray, List.set_cons_succ, List.set_cons_zero]
            refine WG.put rfl (v := .int .i64 x) (fun w => by first | rfl | (go_simp; done) | (simp [go_sem]; done) | (simp [execOp, go_sem]; done)) ?_
            simp only [Act.put, List.setIfInBounds_toArray, List.set_cons_succ, List.set_cons_zero]
            refine WG.put rfl (v := .int .i64 (n : Int)) (fun w => by first | rfl | (go_simp; done) | (simp [go_sem]; done) | (simp [execOp, go_sem]; done)) ?_
            simp only [Act.put, List.setIfInBounds_toArray, List.set_cons_succ, List.set_cons_zero]
            refine WG.put rfl (v := .bool false) (fun w => by first | rfl | (go_simp; done) | (simp [go_sem, hlt]; done) | (simp [execOp, go_sem, hlt]; done)) ?_
            simp only [Act.put, List.setIfInBounds_toArray, List.set_cons_succ, List.set_cons_zero]
            refine WG.put rfl (v := .bool false) (fun w => by first | rfl | (go_simp; done) | (simp [go_sem]; done) | (simp [execOp, go_sem]; done)) ?_
            simp only [Act.put, List.setIfInBounds_toArray, List.set_cons_succ, List.set_cons_zero]
            refine WG.put rfl (v := .bool false) (fun w => by first | rfl | (go_simp; done) | (simp [go_sem]; done) | (simp [execOp, go_sem]; done)) ?_
            simp only [Act.put, List.setIfInBounds_toArray, List.set_cons_succ, List.set_cons_zero]
            refine WG.put rfl (v := .bool false) (fun w => by first | rfl | (go_simp; done) | (simp [go_sem]; done) | (simp [execOp, go_sem]; done)) ?_
            simp only [Act.put, List.setIfInBounds_toArray, List.set_cons_succ, List.set_cons_zero]
            refine WG.put rfl (v := .bool false) (fun w => by first | rfl | (go_simp; done) | (simp [go_sem]; done) | (simp [execOp, go_sem]; done)) ?_
            simp only [Act.put, List.setIfInBounds_toArray, List.set_cons_succ, List.set_cons_zero]
            refine WG.skip rfl ?_
            simp only [Act.put, List.setIfInBounds_toArray, List.set_cons_succ, List.set_cons_zero]
            refine WG.skip rfl ?_
            simp only [Act.put, List.setIfInBounds_toArray, List.set_cons_succ, List.set_cons_zero]
            refine WG.skip rfl ?_
            simp only [Act.put, List.setIfInBounds_toArray, List.set_cons_succ, List.set_cons_zero]
            refine WG.skip rfl ?_
            simp only [Act.put, List.setIfInBounds_toArray, List.set_cons_succ, List.set_cons_zero]
            refine WG.skip rfl ?_
            simp only [Act.put, List.setIfInBounds_toArray, List.set_cons_succ, List.set_cons_zero]
            refine WG.skip rfl ?_
            simp only [Act.put, List.setIfInBounds_toArray, List.set_cons_succ, List.set_cons_zero]
            refine WG.skip rfl ?_
            simp only [Act.put, List.setIfInBounds_toArray, List.set_cons_succ, List.set_cons_zero]
            refine WG.skip rfl ?_
            simp only [Act.put, List.setIfInBounds_toArray, List.set_cons_succ, List.set_cons_zero]
            refine WG.skip rfl ?_
            simp only [Act.put, List.setIfInBounds_toArray, List.set_cons_succ, List.set_cons_zero]
            refine WG.skip rfl ?_
            simp only [Act.put, List.setIfInBounds_toArray, List.set_cons_succ, List.set_cons_zero]
            refine WG.skip rfl ?_
            simp only [Act.put, List.setIfInBounds_toArray, List.set_cons_succ, List.set_cons_zero]
            refine WG.skip rfl ?_
            simp only [Act.put, List.setIfInBounds_toArray, List.set_cons_succ, List.set_cons_zero]
            refine WG.skip rfl ?_
            simp only [Act.put, List.setIfInBounds_toArray, List.set_cons_succ, List.set_cons_zero]
            refine WG.skip rfl ?_
            simp only [Act.put, List.setIfInBounds_toArray, List.set_cons_succ, List.set_cons_zero]
            refine WG.skip rfl ?_
            simp only [Act.put, List.setIfInBounds_toArray, List.set_cons_succ, List.set_cons_zero]
            refine WG.skip rfl ?_
            simp only [Act.put, List.setIfInBounds_toArray, List.set_cons_succ, List.set_cons_zero]
            refine WG.skip rfl ?_
            simp only [Act.put, List.setIfInBounds_toArray, List.set_cons_succ, List.set_cons_zero]
            refine WG.skip rfl ?_
            simp only [Act.put, List.setIfInBounds_toArray, List.set_cons_succ, List.set_cons_zero]
            refine WG.skip rfl ?_
            simp only [Act.put, List.setIfInBounds_toArray, List.set_cons_succ, List.set_cons_zero]
            refine WG.skip rfl ?_
            simp only [Act.put, List.setIfInBounds_toArray, List.set_cons_succ, List.set_cons_zero]
            refine WG.skip rfl ?_
            simp only [Act.put, List.setIfInBounds_toArray, List.set_cons_succ, List.set_cons_zero]
            refine WG.skip rfl ?_
            simp only [Act.put, List.setIfInBounds_toArray, List.set_cons_succ, List.set_cons_zero]
            refine WG.put rfl (v := .bool false) (fun w => by first | rfl | (go_simp; done) | (simp [go_sem]; done) | (simp [execOp, go_sem]; done)) ?_
            simp only [Act.put, List.setIfInBounds_toArray, List.set_cons_succ, List.set_cons_zero]
            refine WG.put rfl (v := .bool false) (fun w => by first | rfl | (go_simp; done) | (simp [go_sem]; done) | (simp [execOp, go_sem]; done)) ?_
            simp only [Act.put, List.setIfInBounds_toArray, List.set_cons_succ, List.set_cons_zero]
            refine WG.nil ?_
            intro w9 B9
            go_wp2
            go_roundw
            case rel => exact ⟨i + 1, by omega, by go_num, HNX, Below.then HB.out (Below.then B5 B9)⟩
            case measure => simp [intOf]; omega
          · omega
      | true =>
        have s1 : True := trivial
        have s2 : True := trivial
        go_wp2_with (first
          | (clear s1; refine wpList_rangeWG ?_ 46 _ rfl rfl rI _ Tryd.underlying46 rfl infoEv ?_)
          | (clear s2; go_at_call 19; refine (hcr _).mono ?_; rintro e wr5 ⟨rfl, B5⟩))
        have BW5 := Below.then BW B5
        have hbe : be < wr5.heap.size := Nat.lt_of_lt_of_le hbe0 BW5.size
        have lI : wr5.cell? ⟨be, oe + i * 5 + 3, none⟩ = some (.int .i64 (evA l i).loc) := cell_grow (rI 3 _ rfl) B5
        replace y0 := cell_grow y0 B5
        clear y2 rI cx hcr C1
        by_cases hge : 0 ≤ x
        · by_cases hxn : x < n
          · have hlt : ¬ ((n : Int) ≤ x) := by omega
            obtain ⟨X, rfl⟩ : ∃ X : Nat, x = (X : Int) := ⟨x.toNat, by omega⟩
            have hXi : (X : Int) < (n : Int) := hxn
            have hel := evA_at (l := l) (i := X) (by rw [HN.out]; omega)
            obtain ⟨_, _, e2, hbe1, rX0⟩ := seg_ev HE.out hel
            cases e2
            have rX : wr5.rangeAt be (oe + X * 5) (evL (evA l X)) := fun j v hv => (BW5.cell (p := ⟨be, oe + X * 5 + j, none⟩) hbe0).trans (rX0 j v hv)
            have lX : wr5.cell? ⟨be, oe + X * 5 + 3, none⟩ = some (.int .i64 (evA l X).loc) := rX 3 _ rfl
            clear rX0 hel
            cases hwr : wrB (evA l X) with
            | false =>
              have hloc : True := trivial
              refine grow_allW (by kernel_rfl) (by kernel_rfl) ?_
              refine WG.put rfl (v := .bool true) (fun w => by first | rfl | (go_simp; done) | (simp [go_sem]; done) | (simp [execOp, go_sem]; done)) ?_
              simp only [Act.put, List.setIfInBounds_toArray, List.set_cons_succ, List.set_cons_zero]
              refine WG.put rfl (v := .int .i64 (X : Int)) (fun w => by first | rfl | (go_simp; done) | (simp [go_sem]; done) | (simp [execOp, go_sem]; done)) ?_
              simp only [Act.put, List.setIfInBounds_toArray, List.set_cons_succ, List.set_cons_zero]
              refine WG.put rfl (v := .bool true) (fun w => by first | rfl | (go_simp; done) | (simp [go_sem, hge]; done) | (simp [execOp, go_sem, hge]; done)) ?_
              simp only [Act.put, List.setIfInBounds_toArray, List.set_cons_succ, List.set_cons_zero]
              refine WG.put rfl (v := .bool false) (fun w => by first | rfl | (go_simp; done) | (simp [go_sem]; done) | (simp [execOp, go_sem]; done)) ?_
              simp only [Act.put, List.setIfInBounds_toArray, List.set_cons_succ, List.set_cons_zero]
              refine WG.put rfl (v := .bool false) (fun w => by first | rfl | (go_simp; done) | (simp [go_sem]; done) | (simp [execOp, go_sem]; done)) ?_
              simp only [Act.put, List.setIfInBounds_toArray, List.set_cons_succ, List.set_cons_zero]
              refine WG.put rfl (v := .int .i64 (X : Int)) (fun w => by first | rfl | (go_simp; done) | (simp [go_sem]; done) | (simp [execOp, go_sem]; done)) ?_
              simp only [Act.put, List.setIfInBounds_toArray, List.set_cons_succ, List.set_cons_zero]
              refine WG.put rfl (v := .int .i64 (n : Int)) (fun w => by first | rfl | (go_simp; done) | (simp [go_sem]; done) | (simp [execOp, go_sem]; done)) ?_
              simp only [Act.put, List.setIfInBounds_toArray, List.set_cons_succ, List.set_cons_zero]
              refine WG.put rfl (v := .bool false) (fun w => by first | rfl | (go_simp; done) | (simp [go_sem, hlt]; done) | (simp [execOp, go_sem, hlt]; done)) ?_
              simp only [Act.put, List.setIfInBounds_toArray, List.set_cons_succ, List.set_cons_zero]
              refine WG.put rfl (v := .bool false) (fun w => by first | rfl | (go_simp; done) | (simp [go_sem]; done) | (simp [execOp, go_sem]; done)) ?_
              simp only [Act.put, List.setIfInBounds_toArray, List.set_cons_succ, List.set_cons_zero]
              refine WG.put rfl (v := .bool false) (fun w => by first | rfl | (go_simp; done) | (simp [go_sem]; done) | (simp [execOp, go_sem]; done)) ?_
              simp only [Act.put, List.setIfInBounds_toArray, List.set_cons_succ, List.set_cons_zero]
              refine WG.put rfl (v := .bool true) (fun w => by first | rfl | (go_simp; done) | (simp [go_sem]; done) | (simp [execOp, go_sem]; done)) ?_
              simp only [Act.put, List.setIfInBounds_toArray, List.set_cons_succ, List.set_cons_zero]
              refine WG.put rfl (v := .bool true) (fun w => by first | rfl | (go_simp; done) | (simp [go_sem]; done) | (simp [execOp, go_sem]; done)) ?_
              simp only [Act.put, List.setIfInBounds_toArray, List.set_cons_succ, List.set_cons_zero]
              refine WG.put rfl (v := .pointer (some ⟨b1, 0, none⟩)) (fun w => by first | rfl | (go_simp; done) | (simp [go_sem]; done) | (simp [execOp, go_sem]; done)) ?_
              simp only [Act.put, List.setIfInBounds_toArray, List.set_cons_succ, List.set_cons_zero]
              refine WG.cell rfl 37 _ rfl rfl y0 (fun w h => by simp [go_sem, h]) ?_
              simp only [Act.put, List.setIfInBounds_toArray, List.set_cons_succ, List.set_cons_zero]
              refine WG.put rfl (v := .int .i64 (X : Int)) (fun w => by first | rfl | (go_simp; done) | (simp [go_sem]; done) | (simp [execOp, go_sem]; done)) ?_
              simp only [Act.put, List.setIfInBounds_toArray, List.set_cons_succ, List.set_cons_zero]
              refine WG.put rfl (v := .pointer (some ⟨be, oe + X * 5, none⟩)) (fun w => by first | rfl | (go_simp; done) | (simp [go_sem, hXi]; done) | (simp [execOp, go_sem, hXi]; done)) ?_
              simp only [Act.put, List.setIfInBounds_toArray, List.set_cons_succ, List.set_cons_zero]
              refine WG.range rfl 46 _ rfl rfl (evL (evA l X)) hbe rX _ Tryd.underlying46 rfl infoEv ?_
              simp only [Act.put, List.setIfInBounds_toArray, List.set_cons_succ, List.set_cons_zero]
              refine WG.call rfl (v := .bool false) (fun w' _ => by have := write_any (evA l X) w'; rw [hwr] at this; exact this) (fun w => by first | rfl | (go_simp; done) | (simp [go_sem]; done) | (simp [execOp, go_sem]; done)) ?_
              simp only [Act.put, List.setIfInBounds_toArray, List.set_cons_succ, List.set_cons_zero]
              refine WG.put rfl (v := .bool true) (fun w => by first | rfl | (go_simp; done) | (simp [go_sem]; done) | (simp [execOp, go_sem]; done)) ?_
              simp only [Act.put, List.setIfInBounds_toArray, List.set_cons_succ, List.set_cons_zero]
              refine WG.put rfl (v := .bool true) (fun w => by first | rfl | (go_simp; done) | (simp [go_sem]; done) | (simp [execOp, go_sem]; done)) ?_
              simp only [Act.put, List.setIfInBounds_toArray, List.set_cons_succ, List.set_cons_zero]
              refine WG.skip rfl ?_
              simp only [Act.put, List.setIfInBounds_toArray, List.set_cons_succ, List.set_cons_zero]
              refine WG.skip rfl ?_
              simp only [Act.put, List.setIfInBounds_toArray, List.set_cons_succ, List.set_cons_zero]
              refine WG.skip rfl ?_
              simp only [Act.put, List.setIfInBounds_toArray, List.set_cons_succ, List.set_cons_zero]
              refine WG.skip rfl ?_
              simp only [Act.put, List.setIfInBounds_toArray, List.set_cons_succ, List.set_cons_zero]
              refine WG.skip rfl ?_
              simp only [Act.put, List.setIfInBounds_toArray, List.set_cons_succ, List.set_cons_zero]
              refine WG.skip rfl ?_
              simp only [Act.put, List.setIfInBounds_toArray, List.set_cons_succ, List.set_cons_zero]
              refine WG.skip rfl ?_
              simp only [Act.put, List.setIfInBounds_toArray, List.set_cons_succ, List.set_cons_zero]
              refine WG.skip rfl ?_
              simp only [Act.put, List.setIfInBounds_toArray, List.set_cons_succ, List.set_cons_zero]
              refine WG.skip rfl ?_
              simp only [Act.put, List.setIfInBounds_toArray, List.set_cons_succ, List.set_cons_zero]
              refine WG.skip rfl ?_
              simp only [Act.put, List.setIfInBounds_toArray, List.set_cons_succ, List.set_cons_zero]
              refine WG.skip rfl ?_
              simp only [Act.put, List.setIfInBounds_toArray, List.set_cons_succ, List.set_cons_zero]
              refine WG.skip rfl ?_
              simp only [Act.put, List.setIfInBounds_toArray, List.set_cons_succ, List.set_cons_zero]
              refine WG.skip rfl ?_
              simp only [Act.put, List.setIfInBounds_toArray, List.set_cons_succ, List.set_cons_zero]
              refine WG.put rfl (v := .bool true) (fun w => by first | rfl | (go_simp; done) | (simp [go_sem]; done) | (simp [execOp, go_sem]; done)) ?_
              simp only [Act.put, List.setIfInBounds_toArray, List.set_cons_succ, List.set_cons_zero]
              refine WG.put rfl (v := .bool true) (fun w => by first | rfl | (go_simp; done) | (simp [go_sem]; done) | (simp [execOp, go_sem]; done)) ?_
              simp only [Act.put, List.setIfInBounds_toArray, List.set_cons_succ, List.set_cons_zero]
              refine WG.put rfl (v := .bool true) (fun w => by first | rfl | (go_simp; done) | (simp [go_sem]; done) | (simp [execOp, go_sem]; done)) ?_
              simp only [Act.put, List.setIfInBounds_toArray, List.set_cons_succ, List.set_cons_zero]
              refine WG.nil ?_
              intro w9 B9
              go_wp2
              go_ret
              exact ⟨false, rfl, (fun e => by cases e), Below.then HB1.out (Below.then HB.out (Below.then B5 B9))⟩
            | true =>
              have HNX : Hid (∀ j, j < i + 1 → FrO l fr j) := frO_next HR.out ⟨by rw [HQ.out, HD.out]; simp, by rw [HD.out, HN.out]; exact hxn, fun _ => by rw [HD.out]; exact hwr⟩
              by_cases hloc : (evA l X).loc = (evA l i).loc
              · refine grow_allW (by kernel_rfl) (by kernel_rfl) ?_
                refine WG.put rfl (v := .bool true) (fun w => by first | rfl | (go_simp; done) | (simp [go_sem]; done) | (simp [execOp, go_sem]; done)) ?_
                simp only [Act.put, List.setIfInBounds_toArray, List.set_cons_succ, List.set_cons_zero]
                refine WG.put rfl (v := .int .i64 (X : Int)) (fun w => by first | rfl | (go_simp; done) | (simp [go_sem]; done) | (simp [execOp, go_sem]; done)) ?_
                simp only [Act.put, List.setIfInBounds_toArray, List.set_cons_succ, List.set_cons_zero]
                refine WG.put rfl (v := .bool true) (fun w => by first | rfl | (go_simp; done) | (simp [go_sem, hge]; done) | (simp [execOp, go_sem, hge]; done)) ?_
                simp only [Act.put, List.setIfInBounds_toArray, List.set_cons_succ, List.set_cons_zero]
                refine WG.put rfl (v := .bool false) (fun w => by first | rfl | (go_simp; done) | (simp [go_sem]; done) | (simp [execOp, go_sem]; done)) ?_
                simp only [Act.put, List.setIfInBounds_toArray, List.set_cons_succ, List.set_cons_zero]
                refine WG.put rfl (v := .bool false) (fun w => by first | rfl | (go_simp; done) | (simp [go_sem]; done) | (simp [execOp, go_sem]; done)) ?_
                simp only [Act.put, List.setIfInBounds_toArray, List.set_cons_succ, List.set_cons_zero]
                refine WG.put rfl (v := .int .i64 (X : Int)) (fun w => by first | rfl | (go_simp; done) | (simp [go_sem]; done) | (simp [execOp, go_sem]; done)) ?_
                simp only [Act.put, List.setIfInBounds_toArray, List.set_cons_succ, List.set_cons_zero]
                refine WG.put rfl (v := .int .i64 (n : Int)) (fun w => by first | rfl | (go_simp; done) | (simp [go_sem]; done) | (simp [execOp, go_sem]; done)) ?_
                simp only [Act.put, List.setIfInBounds_toArray, List.set_cons_succ, List.set_cons_zero]
                refine WG.put rfl (v := .bool false) (fun w => by first | rfl | (go_simp; done) | (simp [go_sem, hlt]; done) | (simp [execOp, go_sem, hlt]; done)) ?_
                simp only [Act.put, List.setIfInBounds_toArray, List.set_cons_succ, List.set_cons_zero]
                refine WG.put rfl (v := .bool false) (fun w => by first | rfl | (go_simp; done) | (simp [go_sem]; done) | (simp [execOp, go_sem]; done)) ?_
                simp only [Act.put, List.setIfInBounds_toArray, List.set_cons_succ, List.set_cons_zero]
                refine WG.put rfl (v := .bool false) (fun w => by first | rfl | (go_simp; done) | (simp [go_sem]; done) | (simp [execOp, go_sem]; done)) ?_
                simp only [Act.put, List.setIfInBounds_toArray, List.set_cons_succ, List.set_cons_zero]
                refine WG.put rfl (v := .bool true) (fun w => by first | rfl | (go_simp; done) | (simp [go_sem]; done) | (simp [execOp, go_sem]; done)) ?_
                simp only [Act.put, List.setIfInBounds_toArray, List.set_cons_succ, List.set_cons_zero]
                refine WG.put rfl (v := .bool true) (fun w => by first | rfl | (go_simp; done) | (simp [go_sem]; done) | (simp [execOp, go_sem]; done)) ?_
                simp only [Act.put, List.setIfInBounds_toArray, List.set_cons_succ, List.set_cons_zero]
                refine WG.put rfl (v := .pointer (some ⟨b1, 0, none⟩)) (fun w => by first | rfl | (go_simp; done) | (simp [go_sem]; done) | (simp [execOp, go_sem]; done)) ?_
                simp only [Act.put, List.setIfInBounds_toArray, List.set_cons_succ, List.set_cons_zero]
                refine WG.cell rfl 37 _ rfl rfl y0 (fun w h => by simp [go_sem, h]) ?_
                simp only [Act.put, List.setIfInBounds_toArray, List.set_cons_succ, List.set_cons_zero]
                refine WG.put rfl (v := .int .i64 (X : Int)) (fun w => by first | rfl | (go_simp; done) | (simp [go_sem]; done) | (simp [execOp, go_sem]; done)) ?_
                simp only [Act.put, List.setIfInBounds_toArray, List.set_cons_succ, List.set_cons_zero]
                refine WG.put rfl (v := .pointer (some ⟨be, oe + X * 5, none⟩)) (fun w => by first | rfl | (go_simp; done) | (simp [go_sem, hXi]; done) | (simp [execOp, go_sem, hXi]; done)) ?_
                simp only [Act.put, List.setIfInBounds_toArray, List.set_cons_succ, List.set_cons_zero]
                refine WG.range rfl 46 _ rfl rfl (evL (evA l X)) hbe rX _ Tryd.underlying46 rfl infoEv ?_
                simp only [Act.put, List.setIfInBounds_toArray, List.set_cons_succ, List.set_cons_zero]
                refine WG.call rfl (v := .bool true) (fun w' _ => by have := write_any (evA l X) w'; rw [hwr] at this; exact this) (fun w => by first | rfl | (go_simp; done) | (simp [go_sem]; done) | (simp [execOp, go_sem]; done)) ?_
                simp only [Act.put, List.setIfInBounds_toArray, List.set_cons_succ, List.set_cons_zero]
                refine WG.put rfl (v := .bool false) (fun w => by first | rfl | (go_simp; done) | (simp [go_sem]; done) | (simp [execOp, go_sem]; done)) ?_
                simp only [Act.put, List.setIfInBounds_toArray, List.set_cons_succ, List.set_cons_zero]
                refine WG.put rfl (v := .bool false) (fun w => by first | rfl | (go_simp; done) | (simp [go_sem]; done) | (simp [execOp, go_sem]; done)) ?_
                simp only [Act.put, List.setIfInBounds_toArray, List.set_cons_succ, List.set_cons_zero]
                refine WG.put rfl (v := .pointer (some ⟨b1, 0, none⟩)) (fun w => by first | rfl | (go_simp; done) | (simp [go_sem]; done) | (simp [execOp, go_sem]; done)) ?_
                simp only [Act.put, List.setIfInBounds_toArray, List.set_cons_succ, List.set_cons_zero]
                refine WG.cell rfl 37 _ rfl rfl y0 (fun w h => by simp [go_sem, h]) ?_
                simp only [Act.put, List.setIfInBounds_toArray, List.set_cons_succ, List.set_cons_zero]
                refine WG.put rfl (v := .int .i64 (X : Int)) (fun w => by first | rfl | (go_simp; done) | (simp [go_sem]; done) | (simp [execOp, go_sem]; done)) ?_
                simp only [Act.put, List.setIfInBounds_toArray, List.set_cons_succ, List.set_cons_zero]
                refine WG.put rfl (v := .pointer (some ⟨be, oe + X * 5, none⟩)) (fun w => by first | rfl | (go_simp; done) | (simp [go_sem, hXi]; done) | (simp [execOp, go_sem, hXi]; done)) ?_
                simp only [Act.put, List.setIfInBounds_toArray, List.set_cons_succ, List.set_cons_zero]
                refine WG.put rfl (v := .pointer (some ⟨be, oe + X * 5 + 3, none⟩)) (fun w => by first | rfl | (go_simp; done) | (simp [go_sem]; done) | (simp [execOp, go_sem]; done)) ?_
                simp only [Act.put, List.setIfInBounds_toArray, List.set_cons_succ, List.set_cons_zero]
                refine WG.cell rfl 3 _ rfl rfl lX (fun w h => by simp [go_sem, h]) ?_
                simp only [Act.put, List.setIfInBounds_toArray, List.set_cons_succ, List.set_cons_zero]
                refine WG.put rfl (v := .pointer (some ⟨b1, 0, none⟩)) (fun w => by first | rfl | (go_simp; done) | (simp [go_sem]; done) | (simp [execOp, go_sem]; done)) ?_
                simp only [Act.put, List.setIfInBounds_toArray, List.set_cons_succ, List.set_cons_zero]
                refine WG.cell rfl 37 _ rfl rfl y0 (fun w h => by simp [go_sem, h]) ?_
                simp only [Act.put, List.setIfInBounds_toArray, List.set_cons_succ, List.set_cons_zero]
                refine WG.put rfl (v := .int .i64 (i : Int)) (fun w => by first | rfl | (go_simp; done) | (simp [go_sem]; done) | (simp [execOp, go_sem]; done)) ?_
                simp only [Act.put, List.setIfInBounds_toArray, List.set_cons_succ, List.set_cons_zero]
                refine WG.put rfl (v := .pointer (some ⟨be, oe + i * 5, none⟩)) (fun w => by first | rfl | (go_simp; done) | (simp [go_sem, hin]; done) | (simp [execOp, go_sem, hin]; done)) ?_
                simp only [Act.put, List.setIfInBounds_toArray, List.set_cons_succ, List.set_cons_zero]
                refine WG.put rfl (v := .pointer (some ⟨be, oe + i * 5 + 3, none⟩)) (fun w => by first | rfl | (go_simp; done) | (simp [go_sem]; done) | (simp [execOp, go_sem]; done)) ?_
                simp only [Act.put, List.setIfInBounds_toArray, List.set_cons_succ, List.set_cons_zero]
                refine WG.cell rfl 3 _ rfl rfl lI (fun w h => by simp [go_sem, h]) ?_
                simp only [Act.put, List.setIfInBounds_toArray, List.set_cons_succ, List.set_cons_zero]
                refine WG.put rfl (v := .bool false) (fun w => by first | rfl | (go_simp; done) | (simp [go_sem, hloc]; done) | (simp [execOp, go_sem, hloc]; done)) ?_
                simp only [Act.put, List.setIfInBounds_toArray, List.set_cons_succ, List.set_cons_zero]
                refine WG.put rfl (v := .bool false) (fun w => by first | rfl | (go_simp; done) | (simp [go_sem]; done) | (simp [execOp, go_sem]; done)) ?_
                simp only [Act.put, List.setIfInBounds_toArray, List.set_cons_succ, List.set_cons_zero]
                refine WG.put rfl (v := .bool false) (fun w => by first | rfl | (go_simp; done) | (simp [go_sem]; done) | (simp [execOp, go_sem]; done)) ?_
                simp only [Act.put, List.setIfInBounds_toArray, List.set_cons_succ, List.set_cons_zero]
                refine WG.put rfl (v := .bool false) (fun w => by first | rfl | (go_simp; done) | (simp [go_sem]; done) | (simp [execOp, go_sem]; done)) ?_
                simp only [Act.put, List.setIfInBounds_toArray, List.set_cons_succ, List.set_cons_zero]
                refine WG.nil ?_
                intro w9 B9
                go_wp2
                go_roundw
                case rel => exact ⟨i + 1, by omega, by go_num, HNX, Below.then HB.out (Below.then B5 B9)⟩
                case measure => simp [intOf]; omega
              · refine grow_allW (by kernel_rfl) (by kernel_rfl) ?_
                refine WG.put rfl (v := .bool true) (fun w => by first | rfl | (go_simp; done) | (simp [go_sem]; done) | (simp [execOp, go_sem]; done)) ?_
                simp only [Act.put, List.setIfInBounds_toArray, List.set_cons_succ, List.set_cons_zero]
                refine WG.put rfl (v := .int .i64 (X : Int)) (fun w => by first | rfl | (go_simp; done) | (simp [go_sem]; done) | (simp [execOp, go_sem]; done)) ?_
                simp only [Act.put, List.setIfInBounds_toArray, List.set_cons_succ, List.set_cons_zero]
                refine WG.put rfl (v := .bool true) (fun w => by first | rfl | (go_simp; done) | (simp [go_sem, hge]; done) | (simp [execOp, go_sem, hge]; done)) ?_
                simp only [Act.put, List.setIfInBounds_toArray, List.set_cons_succ, List.set_cons_zero]
                refine WG.put rfl (v := .bool false) (fun w => by first | rfl | (go_simp; done) | (simp [go_sem]; done) | (simp [execOp, go_sem]; done)) ?_
                simp only [Act.put, List.setIfInBounds_toArray, List.set_cons_succ, List.set_cons_zero]
                refine WG.put rfl (v := .bool false) (fun w => by first | rfl | (go_simp; done) | (simp [go_sem]; done) | (simp [execOp, go_sem]; done)) ?_
                simp only [Act.put, List.setIfInBounds_toArray, List.set_cons_succ, List.set_cons_zero]
                refine WG.put rfl (v := .int .i64 (X : Int)) (fun w => by first | rfl | (go_simp; done) | (simp [go_sem]; done) | (simp [execOp, go_sem]; done)) ?_
                simp only [Act.put, List.setIfInBounds_toArray, List.set_cons_succ, List.set_cons_zero]
                refine WG.put rfl (v := .int .i64 (n : Int)) (fun w => by first | rfl | (go_simp; done) | (simp [go_sem]; done) | (simp [execOp, go_sem]; done)) ?_
                simp only [Act.put, List.setIfInBounds_toArray, List.set_cons_succ, List.set_cons_zero]
                refine WG.put rfl (v := .bool false) (fun w => by first | rfl | (go_simp; done) | (simp [go_sem, hlt]; done) | (simp [execOp, go_sem, hlt]; done)) ?_
                simp only [Act.put, List.setIfInBounds_toArray, List.set_cons_succ, List.set_cons_zero]
                refine WG.put rfl (v := .bool false) (fun w => by first | rfl | (go_simp; done) | (simp [go_sem]; done) | (simp [execOp, go_sem]; done)) ?_
                simp only [Act.put, List.setIfInBounds_toArray, List.set_cons_succ, List.set_cons_zero]
                refine WG.put rfl (v := .bool false) (fun w => by first | rfl | (go_simp; done) | (simp [go_sem]; done) | (simp [execOp, go_sem]; done)) ?_
                simp only [Act.put, List.setIfInBounds_toArray, List.set_cons_succ, List.set_cons_zero]
                refine WG.put rfl (v := .bool true) (fun w => by first | rfl | (go_simp; done) | (simp [go_sem]; done) | (simp [execOp, go_sem]; done)) ?_
                simp only [Act.put, List.setIfInBounds_toArray, List.set_cons_succ, List.set_cons_zero]
                refine WG.put rfl (v := .bool true) (fun w => by first | rfl | (go_simp; done) | (simp [go_sem]; done) | (simp [execOp, go_sem]; done)) ?_
                simp only [Act.put, List.setIfInBounds_toArray, List.set_cons_succ, List.set_cons_zero]
                refine WG.put rfl (v := .pointer (some ⟨b1, 0, none⟩)) (fun w => by first | rfl | (go_simp; done) | (simp [go_sem]; done) | (simp [execOp, go_sem]; done)) ?_
                simp only [Act.put, List.setIfInBounds_toArray, List.set_cons_succ, List.set_cons_zero]
                refine WG.cell rfl 37 _ rfl rfl y0 (fun w h => by simp [go_sem, h]) ?_
                simp only [Act.put, List.setIfInBounds_toArray, List.set_cons_succ, List.set_cons_zero]
                refine WG.put rfl (v := .int .i64 (X : Int)) (fun w => by first | rfl | (go_simp; done) | (simp [go_sem]; done) | (simp [execOp, go_sem]; done)) ?_
                simp only [Act.put, List.setIfInBounds_toArray, List.set_cons_succ, List.set_cons_zero]
                refine WG.put rfl (v := .pointer (some ⟨be, oe + X * 5, none⟩)) (fun w => by first | rfl | (go_simp; done) | (simp [go_sem, hXi]; done) | (simp [execOp, go_sem, hXi]; done)) ?_
                simp only [Act.put, List.setIfInBounds_toArray, List.set_cons_succ, List.set_cons_zero]
                refine WG.range rfl 46 _ rfl rfl (evL (evA l X)) hbe rX _ Tryd.underlying46 rfl infoEv ?_
                simp only [Act.put, List.setIfInBounds_toArray, List.set_cons_succ, List.set_cons_zero]
                refine WG.call rfl (v := .bool true) (fun w' _ => by have := write_any (evA l X) w'; rw [hwr] at this; exact this) (fun w => by first | rfl | (go_simp; done) | (simp [go_sem]; done) | (simp [execOp, go_sem]; done)) ?_
                simp only [Act.put, List.setIfInBounds_toArray, List.set_cons_succ, List.set_cons_zero]
                refine WG.put rfl (v := .bool false) (fun w => by first | rfl | (go_simp; done) | (simp [go_sem]; done) | (simp [execOp, go_sem]; done)) ?_
                simp only [Act.put, List.setIfInBounds_toArray, List.set_cons_succ, List.set_cons_zero]
                refine WG.put rfl (v := .bool false) (fun w => by first | rfl | (go_simp; done) | (simp [go_sem]; done) | (simp [execOp, go_sem]; done)) ?_
                simp only [Act.put, List.setIfInBounds_toArray, List.set_cons_succ, List.set_cons_zero]
                refine WG.put rfl (v := .pointer (some ⟨b1, 0, none⟩)) (fun w => by first | rfl | (go_simp; done) | (simp [go_sem]; done) | (simp [execOp, go_sem]; done)) ?_
                simp only [Act.put, List.setIfInBounds_toArray, List.set_cons_succ, List.set_cons_zero]
                refine WG.cell rfl 37 _ rfl rfl y0 (fun w h => by simp [go_sem, h]) ?_
                simp only [Act.put, List.setIfInBounds_toArray, List.set_cons_succ, List.set_cons_zero]
                refine WG.put rfl (v := .int .i64 (X : Int)) (fun w => by first | rfl | (go_simp; done) | (simp [go_sem]; done) | (simp [execOp, go_sem]; done)) ?_
                simp only [Act.put, List.setIfInBounds_toArray, List.set_cons_succ, List.set_cons_zero]
                refine WG.put rfl (v := .pointer (some ⟨be, oe + X * 5, none⟩)) (fun w => by first | rfl | (go_simp; done) | (simp [go_sem, hXi]; done) | (simp [execOp, go_sem, hXi]; done)) ?_
                simp only [Act.put, List.setIfInBounds_toArray, List.set_cons_succ, List.set_cons_zero]
                refine WG.put rfl (v := .pointer (some ⟨be, oe + X * 5 + 3, none⟩)) (fun w => by first | rfl | (go_simp; done) | (simp [go_sem]; done) | (simp [execOp, go_sem]; done)) ?_
                simp only [Act.put, List.setIfInBounds_toArray, List.set_cons_succ, List.set_cons_zero]
                refine WG.cell rfl 3 _ rfl rfl lX (fun w h => by simp [go_sem, h]) ?_
                simp only [Act.put, List.setIfInBounds_toArray, List.set_cons_succ, List.set_cons_zero]
                refine WG.put rfl (v := .pointer (some ⟨b1, 0, none⟩)) (fun w => by first | rfl | (go_simp; done) | (simp [go_sem]; done) | (simp [execOp, go_sem]; done)) ?_
                simp only [Act.put, List.setIfInBounds_toArray, List.set_cons_succ, List.set_cons_zero]
                refine WG.cell rfl 37 _ rfl rfl y0 (fun w h => by simp [go_sem, h]) ?_
                simp only [Act.put, List.setIfInBounds_toArray, List.set_cons_succ, List.set_cons_zero]
                refine WG.put rfl (v := .int .i64 (i : Int)) (fun w => by first | rfl | (go_simp; done) | (simp [go_sem]; done) | (simp [execOp, go_sem]; done)) ?_
                simp only [Act.put, List.setIfInBounds_toArray, List.set_cons_succ, List.set_cons_zero]
                refine WG.put rfl (v := .pointer (some ⟨be, oe + i * 5, none⟩)) (fun w => by first | rfl | (go_simp; done) | (simp [go_sem, hin]; done) | (simp [execOp, go_sem, hin]; done)) ?_
                simp only [Act.put, List.setIfInBounds_toArray, List.set_cons_succ, List.set_cons_zero]
                refine WG.put rfl (v := .pointer (some ⟨be, oe + i * 5 + 3, none⟩)) (fun w => by first | rfl | (go_simp; done) | (simp [go_sem]; done) | (simp [execOp, go_sem]; done)) ?_
                simp only [Act.put, List.setIfInBounds_toArray, List.set_cons_succ, List.set_cons_zero]
                refine WG.cell rfl 3 _ rfl rfl lI (fun w h => by simp [go_sem, h]) ?_
                simp only [Act.put, List.setIfInBounds_toArray, List.set_cons_succ, List.set_cons_zero]
                refine WG.put rfl (v := .bool true) (fun w => by first | rfl | (go_simp; done) | (simp [go_sem, hloc]; done) | (simp [execOp, go_sem, hloc]; done)) ?_
                simp only [Act.put, List.setIfInBounds_toArray, List.set_cons_succ, List.set_cons_zero]
                refine WG.put rfl (v := .bool true) (fun w => by first | rfl | (go_simp; done) | (simp [go_sem]; done) | (simp [execOp, go_sem]; done)) ?_
                simp only [Act.put, List.setIfInBounds_toArray, List.set_cons_succ, List.set_cons_zero]
                refine WG.put rfl (v := .bool true) (fun w => by first | rfl | (go_simp; done) | (simp [go_sem]; done) | (simp [execOp, go_sem]; done)) ?_
                simp only [Act.put, List.setIfInBounds_toArray, List.set_cons_succ, List.set_cons_zero]
                refine WG.put rfl (v := .bool true) (fun w => by first | rfl | (go_simp; done) | (simp [go_sem]; done) | (simp [execOp, go_sem]; done)) ?_
                simp only [Act.put, List.setIfInBounds_toArray, List.set_cons_succ, List.set_cons_zero]
                refine WG.nil ?_
                intro w9 B9
                go_wp2
                go_ret
                exact ⟨false, rfl, (fun e => by cases e), Below.then HB1.out (Below.then HB.out (Below.then B5 B9))⟩
          · have hlt : (n : Int) ≤ x := by omega
            refine grow_allW (by kernel_rfl) (by kernel_rfl) ?_
            refine WG.put rfl (v := .bool true) (fun w => by first | rfl | (go_simp; done) | (simp [go_sem]; done) | (simp [execOp, go_sem]; done)) ?_
            simp only [Act.put, List.setIfInBounds_toArray, List.set_cons_succ, List.set_cons_zero]
            refine WG.put rfl (v := .int .i64 x) (fun w => by first | rfl | (go_simp; done) | (simp [go_sem]; done) | (simp [execOp, go_sem]; done)) ?_
            simp only [Act.put, List.setIfInBounds_toArray, List.set_cons_succ, List.set_cons_zero]
            refine WG.put rfl (v := .bool true) (fun w => by first | rfl | (go_simp; done) | (simp [go_sem, hge]; done) | (simp [execOp, go_sem, hge]; done)) ?_
            simp only [Act.put, List.setIfInBounds_toArray, List.set_cons_succ, List.set_cons_zero]
            refine WG.put rfl (v := .bool false) (fun w => by first | rfl | (go_simp; done) | (simp [go_sem]; done) | (simp [execOp, go_sem]; done)) ?_
            simp only [Act.put, List.setIfInBounds_toArray, List.set_cons_succ, List.set_cons_zero]
            refine WG.put rfl (v := .bool false) (fun w => by first | rfl | (go_simp; done) | (simp [go_sem]; done) | (simp [execOp, go_sem]; done)) ?_
            simp only [Act.put, List.setIfInBounds_toArray, List.set_cons_succ, List.set_cons_zero]
            refine WG.put rfl (v := .int .i64 x) (fun w => by first | rfl | (go_simp; done) | (simp [go_sem]; done) | (simp [execOp, go_sem]; done)) ?_
            simp only [Act.put, List.setIfInBounds_toArray, List.set_cons_succ, List.set_cons_zero]
            refine WG.put rfl (v := .int .i64 (n : Int)) (fun w => by first | rfl | (go_simp; done) | (simp [go_sem]; done) | (simp [execOp, go_sem]; done)) ?_
            simp only [Act.put, List.setIfInBounds_toArray, List.set_cons_succ, List.set_cons_zero]
            refine WG.put rfl (v := .bool true) (fun w => by first | rfl | (go_simp; done) | (simp [go_sem, hlt]; done) | (simp [execOp, go_sem, hlt]; done)) ?_
            simp only [Act.put, List.setIfInBounds_toArray, List.set_cons_succ, List.set_cons_zero]
            refine WG.put rfl (v := .bool true) (fun w => by first | rfl | (go_simp; done) | (simp [go_sem]; done) | (simp [execOp, go_sem]; done)) ?_
            simp only [Act.put, List.setIfInBounds_toArray, List.set_cons_succ, List.set_cons_zero]
            refine WG.put rfl (v := .bool true) (fun w => by first | rfl | (go_simp; done) | (simp [go_sem]; done) | (simp [execOp, go_sem]; done)) ?_
            simp only [Act.put, List.setIfInBounds_toArray, List.set_cons_succ, List.set_cons_zero]
            refine WG.skip rfl ?_
            simp only [Act.put, List.setIfInBounds_toArray, List.set_cons_succ, List.set_cons_zero]
            refine WG.skip rfl ?_
            simp only [Act.put, List.setIfInBounds_toArray, List.set_cons_succ, List.set_cons_zero]
            refine WG.skip rfl ?_
            simp only [Act.put, List.setIfInBounds_toArray, List.set_cons_succ, List.set_cons_zero]
            refine WG.skip rfl ?_
            simp only [Act.put, List.setIfInBounds_toArray, List.set_cons_succ, List.set_cons_zero]
            refine WG.skip rfl ?_
            simp only [Act.put, List.setIfInBounds_toArray, List.set_cons_succ, List.set_cons_zero]
            refine WG.skip rfl ?_
            simp only [Act.put, List.setIfInBounds_toArray, List.set_cons_succ, List.set_cons_zero]
            refine WG.skip rfl ?_
            simp only [Act.put, List.setIfInBounds_toArray, List.set_cons_succ, List.set_cons_zero]
            refine WG.skip rfl ?_
            simp only [Act.put, List.setIfInBounds_toArray, List.set_cons_succ, List.set_cons_zero]
            refine WG.skip rfl ?_
            simp only [Act.put, List.setIfInBounds_toArray, List.set_cons_succ, List.set_cons_zero]
            refine WG.skip rfl ?_
            simp only [Act.put, List.setIfInBounds_toArray, List.set_cons_succ, List.set_cons_zero]
            refine WG.skip rfl ?_
            simp only [Act.put, List.setIfInBounds_toArray, List.set_cons_succ, List.set_cons_zero]
            refine WG.skip rfl ?_
            simp only [Act.put, List.setIfInBounds_toArray, List.set_cons_succ, List.set_cons_zero]
            refine WG.skip rfl ?_
            simp only [Act.put, List.setIfInBounds_toArray, List.set_cons_succ, List.set_cons_zero]
            refine WG.skip rfl ?_
            simp only [Act.put, List.setIfInBounds_toArray, List.set_cons_succ, List.set_cons_zero]
            refine WG.skip rfl ?_
            simp only [Act.put, List.setIfInBounds_toArray, List.set_cons_succ, List.set_cons_zero]
            refine WG.skip rfl ?_
            simp only [Act.put, List.setIfInBounds_toArray, List.set_cons_succ, List.set_cons_zero]
            refine WG.skip rfl ?_
            simp only [Act.put, List.setIfInBounds_toArray, List.set_cons_succ, List.set_cons_zero]
            refine WG.skip rfl ?_
            simp only [Act.put, List.setIfInBounds_toArray, List.set_cons_succ, List.set_cons_zero]
            refine WG.skip rfl ?_
            simp only [Act.put, List.setIfInBounds_toArray, List.set_cons_succ, List.set_cons_zero]
            refine WG.skip rfl ?_
            simp only [Act.put, List.setIfInBounds_toArray, List.set_cons_succ, List.set_cons_zero]
            refine WG.skip rfl ?_
            simp only [Act.put, List.setIfInBounds_toArray, List.set_cons_succ, List.set_cons_zero]
            refine WG.skip rfl ?_
            simp only [Act.put, List.setIfInBounds_toArray, List.set_cons_succ, List.set_cons_zero]
            refine WG.skip rfl ?_
            simp only [Act.put, List.setIfInBounds_toArray, List.set_cons_succ, List.set_cons_zero]
            refine WG.skip rfl ?_
            simp only [Act.put, List.setIfInBounds_toArray, List.set_cons_succ, List.set_cons_zero]
            refine WG.skip rfl ?_
            simp only [Act.put, List.setIfInBounds_toArray, List.set_cons_succ, List.set_cons_zero]
            refine WG.put rfl (v := .bool true) (fun w => by first | rfl | (go_simp; done) | (simp [go_sem]; done) | (simp [execOp, go_sem]; done)) ?_
            simp only [Act.put, List.setIfInBounds_toArray, List.set_cons_succ, List.set_cons_zero]
            refine WG.nil ?_
            intro w9 B9
            go_wp2
            go_ret
            exact ⟨false, rfl, (fun e => by cases e), Below.then HB1.out (Below.then HB.out (Below.then B5 B9))⟩
        · have hlt : True := trivial
          refine grow_allW (by kernel_rfl) (by kernel_rfl) ?_
          refine WG.put rfl (v := .bool true) (fun w => by first | rfl | (go_simp; done) | (simp [go_sem]; done) | (simp [execOp, go_sem]; done)) ?_
          simp only [Act.put, List.setIfInBounds_toArray, List.set_cons_succ, List.set_cons_zero]
          refine WG.put rfl (v := .int .i64 x) (fun w => by first | rfl | (go_simp; done) | (simp [go_sem]; done) | (simp [execOp, go_sem]; done)) ?_
          simp only [Act.put, List.setIfInBounds_toArray, List.set_cons_succ, List.set_cons_zero]
          refine WG.put rfl (v := .bool false) (fun w => by first | rfl | (go_simp; done) | (simp [go_sem, hge]; done) | (simp [execOp, go_sem, hge]; done)) ?_
          simp only [Act.put, List.setIfInBounds_toArray, List.set_cons_succ, List.set_cons_zero]
          refine WG.put rfl (v := .bool true) (fun w => by first | rfl | (go_simp; done) | (simp [go_sem]; done) | (simp [execOp, go_sem]; done)) ?_
          simp only [Act.put, List.setIfInBounds_toArray, List.set_cons_succ, List.set_cons_zero]
          refine WG.put rfl (v := .bool true) (fun w => by first | rfl | (go_simp; done) | (simp [go_sem]; done) | (simp [execOp, go_sem]; done)) ?_
          simp only [Act.put, List.setIfInBounds_toArray, List.set_cons_succ, List.set_cons_zero]
          refine WG.skip rfl ?_
          simp only [Act.put, List.setIfInBounds_toArray, List.set_cons_succ, List.set_cons_zero]
          refine WG.skip rfl ?_
          simp only [Act.put, List.setIfInBounds_toArray, List.set_cons_succ, List.set_cons_zero]
          refine WG.skip rfl ?_
          simp only [Act.put, List.setIfInBounds_toArray, List.set_cons_succ, List.set_cons_zero]
          refine WG.put rfl (v := .bool true) (fun w => by first | rfl | (go_simp; done) | (simp [go_sem]; done) | (simp [execOp, go_sem]; done)) ?_
          simp only [Act.put, List.setIfInBounds_toArray, List.set_cons_succ, List.set_cons_zero]
          refine WG.put rfl (v := .bool true) (fun w => by first | rfl | (go_simp; done) | (simp [go_sem]; done) | (simp [execOp, go_sem]; done)) ?_
          simp only [Act.put, List.setIfInBounds_toArray, List.set_cons_succ, List.set_cons_zero]
          refine WG.skip rfl ?_
          simp only [Act.put, List.setIfInBounds_toArray, List.set_cons_succ, List.set_cons_zero]
          refine WG.skip rfl ?_
          simp only [Act.put, List.setIfInBounds_toArray, List.set_cons_succ, List.set_cons_zero]
          refine WG.skip rfl ?_
          simp only [Act.put, List.setIfInBounds_toArray, List.set_cons_succ, List.set_cons_zero]
          refine WG.skip rfl ?_
          simp only [Act.put, List.setIfInBounds_toArray, List.set_cons_succ, List.set_cons_zero]
          refine WG.skip rfl ?_
          simp only [Act.put, List.setIfInBounds_toArray, List.set_cons_succ, List.set_cons_zero]
          refine WG.skip rfl ?_
          simp only [Act.put, List.setIfInBounds_toArray, List.set_cons_succ, List.set_cons_zero]
          refine WG.skip rfl ?_
          simp only [Act.put, List.setIfInBounds_toArray, List.set_cons_succ, List.set_cons_zero]
          refine WG.skip rfl ?_
          simp only [Act.put, List.setIfInBounds_toArray, List.set_cons_succ, List.set_cons_zero]
          refine WG.skip rfl ?_
          simp only [Act.put, List.setIfInBounds_toArray, List.set_cons_succ, List.set_cons_zero]
          refine WG.skip rfl ?_
          simp only [Act.put, List.setIfInBounds_toArray, List.set_cons_succ, List.set_cons_zero]
          refine WG.skip rfl ?_
          simp only [Act.put, List.setIfInBounds_toArray, List.set_cons_succ, List.set_cons_zero]
          refine WG.skip rfl ?_
          simp only [Act.put, List.setIfInBounds_toArray, List.set_cons_succ, List.set_cons_zero]
          refine WG.skip rfl ?_
          simp only [Act.put, List.setIfInBounds_toArray, List.set_cons_succ, List.set_cons_zero]
          refine WG.skip rfl ?_
          simp only [Act.put, List.setIfInBounds_toArray, List.set_cons_succ, List.set_cons_zero]
          refine WG.skip rfl ?_
          simp only [Act.put, List.setIfInBounds_toArray, List.set_cons_succ, List.set_cons_zero]
          refine WG.skip rfl ?_
          simp only [Act.put, List.setIfInBounds_toArray, List.set_cons_succ, List.set_cons_zero]
          refine WG.skip rfl ?_
          simp only [Act.put, List.setIfInBounds_toArray, List.set_cons_succ, List.set_cons_zero]
          refine WG.skip rfl ?_
          simp only [Act.put, List.setIfInBounds_toArray, List.set_cons_succ, List.set_cons_zero]
          refine WG.skip rfl ?_
          simp only [Act.put, List.setIfInBounds_toArray, List.set_cons_succ, List.set_cons_zero]
          refine WG.skip rfl ?_
          simp only [Act.put, List.setIfInBounds_toArray, List.set_cons_succ, List.set_cons_zero]
          refine WG.skip rfl ?_
          simp only [Act.put, List.setIfInBounds_toArray, List.set_cons_succ, List.set_cons_zero]
          refine WG.skip rfl ?_
          simp only [Act.put, List.setIfInBounds_toArray, List.set_cons_succ, List.set_cons_zero]
          refine WG.skip rfl ?_
          simp only [Act.put, List.setIfInBounds_toArray, List.set_cons_succ, List.set_cons_zero]
          refine WG.skip rfl ?_
          simp only [Act.put, List.setIfInBounds_toArray, List.set_cons_succ, List.set_cons_zero]
          refine WG.skip rfl ?_
          simp only [Act.put, List.setIfInBounds_toArray, List.set_cons_succ, List.set_cons_zero]
          refine WG.put rfl (v := .bool true) (fun w => by first | rfl | (go_simp; done) | (simp [go_sem]; done) | (simp [execOp, go_sem]; done)) ?_
          simp only [Act.put, List.setIfInBounds_toArray, List.set_cons_succ, List.set_cons_zero]
          refine WG.nil ?_
          intro w9 B9
          go_wp2
          go_ret
          exact ⟨false, rfl, (fun e => by cases e), Below.then HB1.out (Below.then HB.out (Below.then B5 B9))⟩
    · have e : n = i := by omega
      subst e
      have hin : ¬ ((n : Int) < (n : Int)) := by omega
      clear hlt hi
      have HB2 : Hid (Below w.heap.size w wr) := Below.then HB1.out HB.out
      have HC2 : Hid (IsS wr b1 51 cs) := HC1.out.grown HB.out
      clear HC1 HB HB1
      have t1 : True := trivial
      go_wp2_with (first
        | (clear t1; refine wpList_mkMap rfl rfl ?_; intro W2 bm F2 M2; have HB3 : Hid (Below w.heap.size w W2) := Below.then HB2.out (F_b F2); have hbm : Hid (wr.heap.size = bm) := F2.at'.symm; have HC3 : Hid (IsS W2 b1 51 cs) := HC2.out.grown (F_b F2); clear F2))
      have hne1 : b1 ≠ bm := by have h1 := HC2.out.lt; have h2 := hbm.out; omega
      have hwb : w.heap.size ≤ bm := by have h1 := HB2.out.size; have h2 := hbm.out; omega
      have HM2 : Hid (MapV Tryd.prog 3 W2 bm 0 (fun _ => none) 0) := M2
      have HFR : Hid (∀ j, j < n → FrO l fr j) := HR.out
      clear M2 HC2 HB2 hbm HR
      go_loopw [8, 9] (fun c i wr => ∃ k : Nat, k ≤ no ∧ i = .int .i64 (k : Int) ∧ c = .int .i64 (((EE od k 0).length : Nat) : Int) ∧ Hid (∃ ff c, MapV Tryd.prog 3 wr bm (EE od k 0).length ff c ∧ MapE (EE od k 0) ff) ∧ Hid (SeenP l od k 0) ∧ Hid (IsS wr b1 51 cs) ∧ Hid (Below w.heap.size w wr)) (fun _ i _ => no - (intOf i).toNat)
      case atStart => exact ⟨0, Nat.zero_le _, rfl, by rw [EE_zero]; rfl, ⟨_, _, by rw [EE_zero]; exact HM2.out, by rw [EE_zero]; exact MapE.nil⟩, seen_zero l od, HC3.out, HB3.out⟩
      case round =>
        clear HM2 HC3 HB3
        obtain ⟨i, hi, rfl, rfl, HM, HS, HC, HB⟩ := hrel
        by_cases hlt : i < no
        · have hino : (i : Int) < (no : Int) := by omega
          obtain ⟨r, hr⟩ : ∃ r, od[i]? = some r := ⟨_, List.getElem?_eq_getElem (by rw [HNO.out]; exact hlt)⟩
          have HRr : Hid (od[i]? = some r) := hr
          have hrb := HI.out r (List.mem_of_getElem? hr)
          obtain ⟨ba, oa, al, cl, ea, hba, ca0, hsl, _⟩ := HO.out.at i r hr
          obtain ⟨rl, hrl⟩ : ∃ n, r.length = n := ⟨_, rfl⟩
          rw [hrl] at hrb ca0
          have HRL : Hid (r.length = rl) := hrl
          have HSL : Hid (Seg w al (r.flatMap intE)) := hsl
          have HCA : Hid (ba < w.heap.size ∧ w.cell? ⟨ba, oa + i, none⟩ = some (.slice al rl cl)) := ⟨hba, ca0⟩
          subst ea
          have y3 := (HC.out.cell 3).trans H3.out
          clear hr hrl hsl hba ca0
          go_wp2
          go_loopw [8, 10] (fun c k' wr => ∃ k : Nat, k ≤ rl ∧ k' = .int .i64 (k : Int) ∧ c = .int .i64 (((EE od i k).length : Nat) : Int) ∧ Hid (∃ ff c, MapV Tryd.prog 3 wr bm (EE od i k).length ff c ∧ MapE (EE od i k) ff) ∧ Hid (SeenP l od i k) ∧ Hid (IsS wr b1 51 cs) ∧ Hid (Below w.heap.size w wr)) (fun _ k' _ => rl - (intOf k').toNat)
          case atStart => exact ⟨0, Nat.zero_le _, rfl, rfl, HM.out, HS.out, HC.out, HB.out⟩
          case round =>
            clear HM HS HC HB y3
            obtain ⟨k, hk, rfl, rfl, HM, HS, HC, HB⟩ := hrel
            have y3 := (HC.out.cell 3).trans H3.out
            have ca := (HB.out.cell (p := ⟨ba, oa + i, none⟩) HCA.out.1).trans HCA.out.2
            have hlE := seen_le HS.out
            rw [HN.out] at hlE
            by_cases hlt2 : k < rl
            · have hkr : (k : Int) < (rl : Int) := by omega
              obtain ⟨x, hx⟩ : ∃ x, r[k]? = some x := ⟨_, List.getElem?_eq_getElem (by rw [HRL.out]; exact hlt2)⟩
              obtain ⟨br, ob, rfl, hbr, cx0⟩ := seg_int HSL.out hx
              have cx := (HB.out.cell (p := ⟨br, ob + k, none⟩) hbr).trans cx0
              have y0 := (HC.out.cell 0).trans H0.out
              have HX : Hid (r[k]? = some x) := hx
              clear hx cx0
              by_cases hneg : x < 0
              · go_wp2
                go_ret
                exact ⟨false, rfl, (fun e => by cases e), HB.out⟩
              by_cases hxn : (n : Int) ≤ x
              · go_wp2
                go_ret
                exact ⟨false, rfl, (fun e => by cases e), HB.out⟩
              obtain ⟨X, rfl⟩ : ∃ X : Nat, x = (X : Int) := ⟨x.toNat, by omega⟩
              have hXn : (X : Int) < (n : Int) := by omega
              have hX0 : (0 : Int) ≤ (X : Int) := by omega
              have hX64 : (X : Int) < 64 := by omega
              have hel := evA_at (l := l) (i := X) (by rw [HN.out]; omega)
              obtain ⟨be, oe, rfl, hbe0, rX0⟩ := seg_ev HE.out hel
              have rX : wr.rangeAt be (oe + X * 5) (evL (evA l X)) := fun j v hv => (HB.out.cell (p := ⟨be, oe + X * 5 + j, none⟩) hbe0).trans (rX0 j v hv)
              have dL : wr.cell? ⟨be, oe + X * 5 + 3, none⟩ = some (.int .i64 (evA l X).loc) := rX 3 _ rfl
              have dK : wr.cell? ⟨be, oe + X * 5, none⟩ = some (.int .i64 (evA l X).kind) := rX 0 _ rfl
              have hcw := fun W => write_any (evA l X) W
              clear rX0 hel
              have HEL : Hid (X < l.length) := by show _ < _; rw [HN.out]; omega
              cases hwr : wrB (evA l X) with
              | false =>
                simp only [hwr] at hcw
                have s1 : True := trivial
                have s2 : True := trivial
                go_wp2_with (first
                  | (clear s1; refine wpList_rangeWG ?_ 46 _ rfl rfl rX _ Tryd.underlying46 rfl infoEv ?_)
                  | (clear s2; go_at_call 18; refine (hcw _).mono ?_; rintro e wr5 ⟨rfl, B5⟩; replace y0 := cell_grow y0 B5; have e1 := cell_grow dL B5))
                go_ret
                exact ⟨false, rfl, (fun e => by cases e), Below.then HB.out B5⟩
              | true =>
                simp only [hwr] at hcw
                have HWR : Hid (wrB (evA l X) = true) := hwr
                clear hwr
                by_cases hloc : (evA l X).loc = (i : Int)
                rotate_left
                · have hlq : ((evA l X).loc != (i : Int)) = true := by simpa using hloc
                  have s1 : True := trivial
                  have s2 : True := trivial
                  go_wp2_with (first
                    | (clear s1; refine wpList_rangeWG ?_ 46 _ rfl rfl rX _ Tryd.underlying46 rfl infoEv ?_)
                    | (clear s2; go_at_call 18; refine (hcw _).mono ?_; rintro e wr5 ⟨rfl, B5⟩; replace y0 := cell_grow y0 B5; have e1 := cell_grow dL B5))
                  go_ret
                  exact ⟨false, rfl, (fun e => by cases e), Below.then HB.out B5⟩
                have hlq : ((evA l X).loc != (i : Int)) = false := by simpa using hloc
                obtain ⟨ff, cc, MV, ME⟩ := HM.out
                have HME : Hid (MapE (EE od i k) ff) := ME
                have hff := ME (X : Int)
                clear ME HM
                by_cases hin : (X : Int) ∈ EE od i k
                · rw [if_pos hin] at hff
                  have hv : (ff (.int .i64 (X : Int))).getD (.int .i64 0) = .int .i64 1 := by rw [hff]; rfl
                  have s1 : True := trivial
                  have s2 : True := trivial
                  go_wp2_with (first
                    | (clear s1; refine wpList_rangeWG ?_ 46 _ rfl rfl rX _ Tryd.underlying46 rfl infoEv ?_)
                    | (clear s2; go_at_call 18; refine (hcw _).mono ?_; rintro e wr5 ⟨rfl, B5⟩; replace MV := MV.same (B5.block bm MV.lt); replace y0 := cell_grow y0 B5; have e1 := cell_grow dL B5; have e2 := cell_grow dK B5; have hlk := MV.look law3 Tryd.underlying70 (zero3 wr5) (key_int hX0 hX64); rw [hv] at hlk))
                  go_ret
                  exact ⟨false, rfl, (fun e => by cases e), Below.then HB.out B5⟩
                rw [if_neg hin] at hff
                have hv : (ff (.int .i64 (X : Int))).getD (.int .i64 0) = .int .i64 0 := by rw [hff]; rfl
                have HIN : Hid ((X : Int) ∉ EE od i k) := hin
                clear hin
                by_cases hk0 : k = 0
                · subst hk0
                  simp only [Nat.add_zero] at cx
                  have hkr0 : (0 : Int) < (rl : Int) := by omega
                  by_cases hkd : (evA l X).kind = 1
                  · have s4 : True := trivial
                    have s1 : True := trivial
                    have s2 : True := trivial
                    go_wp2_with (first
                      | (clear s1; refine wpList_rangeWG ?_ 46 _ rfl rfl rX _ Tryd.underlying46 rfl infoEv ?_)
                      | (clear s2; go_at_call 18; refine (hcw _).mono ?_; rintro e wr5 ⟨rfl, B5⟩; replace MV := MV.same (B5.block bm MV.lt); replace y0 := cell_grow y0 B5; have e1 := cell_grow dL B5; have e2 := cell_grow dK B5; have hlk := MV.look law3 Tryd.underlying70 (zero3 wr5) (key_int hX0 hX64); rw [hv] at hlk)
                      | (clear s4; refine wpList_updV rfl _ _ _ rfl MV law3 Tryd.underlying70 (by show _ < (9223372036854775807 : Nat); omega) rfl _ _ _ rfl rfl (key_int hX0 hX64) ?_; intro w6 MV6 ht6))
                    have HCN : Hid (IsS w6 b1 51 cs) := (mapTurned_other ht6 hne1).trans (HC.out.grown B5)
                    have HBN : Hid (Below w.heap.size w w6) := below_turn (Below.then HB.out B5) (Nat.le_trans (Below.then HB.out B5).size (Nat.le_refl _)) ht6 hwb
                    have hE1 : EE od i (0 + 1) = EE od i 0 ++ [(X : Int)] := EE_step HRr.out HX.out
                    have hE2 : (EE od i (0 + 1)).length = (EE od i 0).length + 1 := by rw [hE1, List.length_append]; rfl
                    have HSN : Hid (SeenP l od i (0 + 1)) := seen_step HS.out HRr.out HX.out ⟨X, rfl, HEL.out, HWR.out, hloc⟩ HIN.out
                    have HMN : Hid (∃ ff c, MapV Tryd.prog 3 w6 bm (EE od i (0 + 1)).length ff c ∧ MapE (EE od i (0 + 1)) ff) := ⟨_, _, by rw [hE2]; exact MV6, by rw [hE1]; exact HME.out.next (X : Int)⟩
                    go_roundw
                    case rel => exact ⟨0 + 1, by omega, by go_num, by rw [hE2]; go_num, HMN.out, HSN.out, HCN.out, HBN.out⟩
                    case measure => simp [intOf]; omega
                  · have hkb : ((evA l X).kind == 1) = false := by simpa using hkd
                    clear hkd
                    have s1 : True := trivial
                    have s2 : True := trivial
                    go_wp2_with (first
                      | (clear s1; refine wpList_rangeWG ?_ 46 _ rfl rfl rX _ Tryd.underlying46 rfl infoEv ?_)
                      | (clear s2; go_at_call 18; refine (hcw _).mono ?_; rintro e wr5 ⟨rfl, B5⟩; replace MV := MV.same (B5.block bm MV.lt); replace y0 := cell_grow y0 B5; have e1 := cell_grow dL B5; have e2 := cell_grow dK B5; have hlk := MV.look law3 Tryd.underlying70 (zero3 wr5) (key_int hX0 hX64); rw [hv] at hlk))
                    go_ret
                    exact ⟨false, rfl, (fun e => by cases e), Below.then HB.out B5⟩
                · have hk0' : ((k : Int) == 0) = false := by simp; omega
                  by_cases hkd : (evA l X).kind = 1
                  · have s1 : True := trivial
                    have s2 : True := trivial
                    go_wp2_with (first
                      | (clear s1; refine wpList_rangeWG ?_ 46 _ rfl rfl rX _ Tryd.underlying46 rfl infoEv ?_)
                      | (clear s2; go_at_call 18; refine (hcw _).mono ?_; rintro e wr5 ⟨rfl, B5⟩; replace MV := MV.same (B5.block bm MV.lt); replace y0 := cell_grow y0 B5; have e1 := cell_grow dL B5; have e2 := cell_grow dK B5; have hlk := MV.look law3 Tryd.underlying70 (zero3 wr5) (key_int hX0 hX64); rw [hv] at hlk))
                    go_ret
                    exact ⟨false, rfl, (fun e => by cases e), Below.then HB.out B5⟩
                  · have hkb : ((evA l X).kind == 1) = false := by simpa using hkd
                    clear hkd
                    have s4 : True := trivial
                    have s1 : True := trivial
                    have s2 : True := trivial
                    go_wp2_with (first
                      | (clear s1; refine wpList_rangeWG ?_ 46 _ rfl rfl rX _ Tryd.underlying46 rfl infoEv ?_)
                      | (clear s2; go_at_call 18; refine (hcw _).mono ?_; rintro e wr5 ⟨rfl, B5⟩; replace MV := MV.same (B5.block bm MV.lt); replace y0 := cell_grow y0 B5; have e1 := cell_grow dL B5; have e2 := cell_grow dK B5; have hlk := MV.look law3 Tryd.underlying70 (zero3 wr5) (key_int hX0 hX64); rw [hv] at hlk)
                      | (clear s4; refine wpList_updV rfl _ _ _ rfl MV law3 Tryd.underlying70 (by show _ < (9223372036854775807 : Nat); omega) rfl _ _ _ rfl rfl (key_int hX0 hX64) ?_; intro w6 MV6 ht6))
                    have HCN : Hid (IsS w6 b1 51 cs) := (mapTurned_other ht6 hne1).trans (HC.out.grown B5)
                    have HBN : Hid (Below w.heap.size w w6) := below_turn (Below.then HB.out B5) (Nat.le_trans (Below.then HB.out B5).size (Nat.le_refl _)) ht6 hwb
                    have hE1 : EE od i (k + 1) = EE od i k ++ [(X : Int)] := EE_step HRr.out HX.out
                    have hE2 : (EE od i (k + 1)).length = (EE od i k).length + 1 := by rw [hE1, List.length_append]; rfl
                    have HSN : Hid (SeenP l od i (k + 1)) := seen_step HS.out HRr.out HX.out ⟨X, rfl, HEL.out, HWR.out, hloc⟩ HIN.out
                    have HMN : Hid (∃ ff c, MapV Tryd.prog 3 w6 bm (EE od i (k + 1)).length ff c ∧ MapE (EE od i (k + 1)) ff) := ⟨_, _, by rw [hE2]; exact MV6, by rw [hE1]; exact HME.out.next (X : Int)⟩
                    go_roundw
                    case rel => exact ⟨k + 1, by omega, by go_num, by rw [hE2]; go_num, HMN.out, HSN.out, HCN.out, HBN.out⟩
                    case measure => simp [intOf]; omega
            · have e : k = rl := by omega
              subst e
              have hkr : ¬ ((k : Int) < (k : Int)) := by omega
              have hEn : EE od i k = EE od (i + 1) 0 := by rw [← HRL.out]; exact EE_next HRr.out
              go_wp2
              go_roundw
              case rel => exact ⟨i + 1, by omega, by go_num, by rw [hEn], by rw [← hEn]; exact HM.out, seen_next HRr.out (by rw [HRL.out]; exact HS.out), HC.out, HB.out⟩
              case measure => simp [intOf]; omega
        · have e : i = no := by omega
          subst e
          have hino : ¬ ((i : Int) < (i : Int)) := by omega
          have y3 := (HC.out.cell 3).trans H3.out
          have hlE := seen_le HS.out
          rw [HN.out] at hlE
          have HC4 : Hid (IsS wr b1 51 cs) := HC.out
          have HB4 : Hid (Below w.heap.size w wr) := HB.out
          have HS4 : Hid (SeenP l od od.length 0) := by show SeenP _ _ _ _; rw [HNO.out]; exact HS.out
          have HT : Hid ((EE od od.length 0).length = (EE od i 0).length) := by show _ = _; rw [HNO.out]
          clear hlt hi HM HS HC HB
          generalize (EE od i 0).length = T at *
          go_wp2
          go_loopw [8, 12] (fun c k' wr => ∃ k : Nat, k ≤ n ∧ k' = .int .i64 (k : Int) ∧ c = .int .i64 ((T : Int) - ((cntW l k : Nat) : Int)) ∧ Hid (IsS wr b1 51 cs) ∧ Hid (Below w.heap.size w wr)) (fun _ k' _ => n - (intOf k').toNat)
          case atStart => exact ⟨0, Nat.zero_le _, rfl, by rw [cntW_zero]; simp, HC4.out, HB4.out⟩
          case round =>
            clear HC4 HB4 y3
            obtain ⟨k, hk, rfl, rfl, HC, HB⟩ := hrel
            by_cases hlt : k < n
            · have hkn : (k : Int) < (n : Int) := by omega
              have y0 := (HC.out.cell 0).trans H0.out
              have hel := evA_at (l := l) (i := k) (by rw [HN.out]; exact hlt)
              obtain ⟨be, oe, rfl, hbe0, rX0⟩ := seg_ev HE.out hel
              have rX : wr.rangeAt be (oe + k * 5) (evL (evA l k)) := fun j v hv => (HB.out.cell (p := ⟨be, oe + k * 5 + j, none⟩) hbe0).trans (rX0 j v hv)
              have hcw := fun W => write_any (evA l k) W
              clear rX0 hel
              cases hwr : wrB (evA l k) with
              | false =>
                simp only [hwr] at hcw
                have hc1 : cntW l (k + 1) = cntW l k := by rw [cntW_succ, hwr]; rfl
                have s1 : True := trivial
                have s2 : True := trivial
                go_wp2_with (first
                  | (clear s1; refine wpList_rangeWG ?_ 46 _ rfl rfl rX _ Tryd.underlying46 rfl infoEv ?_)
                  | (clear s2; go_at_call 18; refine (hcw _).mono ?_; rintro e wr5 ⟨rfl, B5⟩))
                go_roundw
                case rel => exact ⟨k + 1, by omega, by go_num, by rw [hc1], HC.out.grown B5, Below.then HB.out B5⟩
                case measure => simp [intOf]; omega
              | true =>
                simp only [hwr] at hcw
                have HST : Hid (wrap64 ((T : Int) - ((cntW l k : Nat) : Int) - 1) = (T : Int) - ((cntW l (k + 1) : Nat) : Int)) := cntW_wrap l T k (by omega) (by omega) hwr
                have s1 : True := trivial
                have s2 : True := trivial
                go_wp2_with (first
                  | (clear s1; refine wpList_rangeWG ?_ 46 _ rfl rfl rX _ Tryd.underlying46 rfl infoEv ?_)
                  | (clear s2; go_at_call 18; refine (hcw _).mono ?_; rintro e wr5 ⟨rfl, B5⟩))
                go_roundw
                case rel => exact ⟨k + 1, by omega, by go_num, by rw [HST.out], HC.out.grown B5, Below.then HB.out B5⟩
                case measure => simp [intOf]; omega
            · have e : k = n := by omega
              subst e
              have hkn : ¬ ((k : Int) < (k : Int)) := by omega
              go_wp2
              go_ret
              refine ⟨_, rfl, fun h => ?_, HB.out⟩
              have h5 : (EE od od.length 0).length = cntW l l.length := by
                rw [HT.out, HN.out]
                simp at h
                omega
              exact whole_mk (by rw [HN.out]; omega) (by rw [HNF.out, HN.out]) (fun j hj => HFR.out j (by rw [← HN.out]; exact hj)) HS4.out h5
end Go.Proofs.YtdjlfpkemdiadaaDoor
/- Executions as arguments, their events besides. -/
namespace Go.Proofs.YtdjlfpkemdiadaaDoor.Ex
open Go.Proofs.YtdjlfpkemdiadaaDoor Go.ChangeShapes Go.WideShapes Go.ChangeAt Go.RowKit M
set_option linter.unusedSimpArgs false
set_option linter.unusedVariables false

theorem cells3o : Tryd.prog.cellsOf 3 = 1 := by kernel_rfl
theorem cellsEx : Tryd.prog.cellsOf 51 = 5 := by kernel_rfl
theorem cellsSE : Tryd.prog.cellsOf 37 = 1 := by kernel_rfl
theorem cellsSI : Tryd.prog.cellsOf 48 = 1 := by kernel_rfl
theorem cellsSL : Tryd.prog.cellsOf 26 = 1 := by kernel_rfl
theorem cellsSSI : Tryd.prog.cellsOf 49 = 1 := by kernel_rfl
theorem cellsSSL : Tryd.prog.cellsOf 25 = 1 := by kernel_rfl
theorem cells4o : Tryd.prog.cellsOf 4 = 1 := by kernel_rfl
theorem cellsEvo : Tryd.prog.cellsOf 46 = 5 := by kernel_rfl
theorem take_oneo {cs : List Value} {v : Value} {i : Nat} (h : List.take 1 (List.drop i cs) = [v]) : cs[i]? = some v := by
  have := congrArg List.head? h
  simpa [List.head?_take, List.head?_drop] using this
theorem flat_get {α : Type} (encE : α → List Value) (k : Nat) (hk : 0 < k) (hlen : ∀ g, (encE g).length = k) : ∀ (xs : List α) (j : Nat) (v : Value), (xs.flatMap encE)[j]? = some v → ∃ g, xs[j / k]? = some g ∧ (encE g)[j % k]? = some v
  | [], j, v, h => by simp at h
  | x :: xs, j, v, h => by
    rw [List.flatMap_cons] at h
    by_cases hj : j < k
    · rw [List.getElem?_append_left (by rw [hlen]; exact hj)] at h
      exact ⟨x, by rw [Nat.div_eq_of_lt hj]; rfl, by rw [Nat.mod_eq_of_lt hj]; exact h⟩
    · rw [List.getElem?_append_right (by rw [hlen]; omega), hlen] at h
      obtain ⟨g, h1, h2⟩ := flat_get encE k hk hlen xs (j - k) v h
      have e1 : j / k = (j - k) / k + 1 := by
        have : j = (j - k) + k := by omega
        conv => lhs; rw [this]
        rw [Nat.add_div_right _ hk]
      have e2 : j % k = (j - k) % k := by
        have : j = (j - k) + k := by omega
        conv => lhs; rw [this]
        rw [Nat.add_mod_right]
      exact ⟨g, by rw [e1]; exact h1, by rw [e2]; exact h2⟩
theorem open_sl {α : Type} (z0 : α) {T t k : Nat} (hu : Tryd.prog.underlying T = some (.slice t)) (hk : Tryd.prog.cellsOf t = k) (hk0 : 0 < k) (encE : α → List Value) (hlen : ∀ g, (encE g).length = k) (Pw : α → Prop)
    {H : Type} {enc : TypeId × Value → H} {W : World} (opn : ∀ (fuel : Nat) (cs : List Value) (x : DataW H × List MemPlace), DataW.trod enc Tryd.prog W 0 (fun _ => true) true fuel t cs = some x → ∃ g, cs = encE g ∧ Pw g)
    {fuel : Nat} {cs : List Value} {x : DataW H × List MemPlace} (h : DataW.trod enc Tryd.prog W 0 (fun _ => true) true fuel T cs = some x) :
    ∃ (a : Option Addr) (xs : List α) (cap : Nat), cs = [.slice a xs.length cap] ∧ Seg W a (xs.flatMap encE) ∧ (∀ g ∈ xs, Pw g) ∧ (xs = [] ∨ ∃ elems spare, x.1 = .slice elems spare ∧ elems.length = xs.length) ∧ (a = none → cap = 0) ∧ xs.length ≤ cap ∧ cap ≤ 9223372036854775807 := by
  rcases DataW.trod_slice hu h with ⟨hcs, _⟩ | ⟨a, len, cap, elems, rest, n, _, hcs, hx, _, hlc, hcm, hel, hall, _, _⟩
  · exact ⟨none, [], 0, hcs, Seg.nil _ _, (fun g hg => by cases hg), .inl rfl, fun _ => rfl, Nat.le_refl _, by decide⟩
  · rw [hk] at hall
    have one : ∀ i, i < len → ∃ g : α, (∀ j, j < k → W.cell? ((a.add (i * k)).add j) = (encE g)[j]?) ∧ Pw g := fun i hi => by
      have hh := hall i hi
      have hie : i < elems.length := by omega
      rw [List.getElem?_eq_getElem hie] at hh
      obtain ⟨cs', hc, ht⟩ := Option.bind_eq_some_iff.1 hh
      obtain ⟨_, _, hcell⟩ := World.cells?_some hc
      obtain ⟨g, rfl, hg1⟩ := opn _ _ _ ht
      exact ⟨g, hcell, hg1⟩
    obtain ⟨f, hf⟩ : ∃ f : Nat → α, ∀ i, i < len → (∀ j, j < k → W.cell? ((a.add (i * k)).add j) = (encE (f i))[j]?) ∧ Pw (f i) :=
      ⟨fun i => if hi : i < len then Classical.choose (one i hi) else z0, fun i hi => by
        simp only [dif_pos hi]
        exact Classical.choose_spec (one i hi)⟩
    refine ⟨some a, (List.range len).map f, cap, by rw [hcs]; simp, ?_, ?_, .inr ⟨elems.map (·.1), rest.map (·.1), by rw [hx], by simp [hel]⟩, fun e => (by cases e), (by simpa using hlc), (by unfold maxLen at hcm; omega)⟩
    · intro j v hv
      obtain ⟨g, hg, hgv⟩ := flat_get encE k hk0 hlen _ j v hv
      have hq : j / k < len := by have := (List.getElem?_eq_some_iff.1 hg).1; simpa using this
      have hgf : g = f (j / k) := by
        rw [List.getElem?_map, List.getElem?_range hq] at hg
        simpa using hg.symm
      subst hgf
      have hr : j % k < k := Nat.mod_lt _ hk0
      have hc := ((hf _ hq).1 _ hr).trans hgv
      obtain ⟨b, off, spot⟩ := a
      have hspot : spot = none := by
        obtain ⟨u, hu0⟩ : ∃ u, (encE (f 0))[0]? = some u := ⟨_, List.getElem?_eq_getElem (by rw [hlen]; exact hk0)⟩
        have := World.cell?_spot (((hf 0 (Nat.lt_of_le_of_lt (Nat.zero_le _) hq)).1 0 hk0).trans hu0)
        simpa [Addr.add] using this
      subst hspot
      rw [Addr.add_mid, Addr.add_mid] at hc
      have e : off + j / k * k + j % k = off + j := by have := Nat.div_add_mod j k; rw [Nat.mul_comm] at this; omega
      rw [e] at hc
      exact ⟨b, off, rfl, World.block_lt_of_cell? W _ hc, hc⟩
    · intro g hg
      obtain ⟨i, hi, rfl⟩ := List.mem_map.1 hg
      exact (hf i (by simpa using hi)).2
section
variable {H : Type} {enc : TypeId × Value → H} {W : World}
/-- A slice, read, of which the length alone is asked. -/
theorem open_len {T t : Nat} (hu : Tryd.prog.underlying T = some (.slice t)) {fuel : Nat} {cs : List Value} {x : DataW H × List MemPlace} (h : DataW.trod enc Tryd.prog W 0 (fun _ => true) true fuel T cs = some x) :
    ∃ (a : Option Addr) (n cap : Nat), cs = [.slice a n cap] ∧ n ≤ 9223372036854775807 := by
  rcases DataW.trod_slice hu h with ⟨hcs, _⟩ | ⟨a, len, cap, elems, rest, n, _, hcs, hx, _, hlc, hcm, _⟩
  · exact ⟨none, 0, 0, hcs, by decide⟩
  · exact ⟨some a, len, cap, hcs, by unfold maxLen at hcm; omega⟩
theorem open_int1 (fuel : Nat) (cs : List Value) (x : DataW H × List MemPlace) (h : DataW.trod enc Tryd.prog W 0 (fun _ => true) true fuel 3 cs = some x) : ∃ g : Int, cs = intE g ∧ (-9223372036854775808 ≤ g ∧ g ≤ 9223372036854775807) := by
  obtain ⟨k, e0, _, hw⟩ := DataW.trod_int Tryd.underlying3 h
  have hb := bounds_i64 hw
  exact ⟨k, e0, by omega, by omega⟩
abbrev RowA (β : Type) := Option Addr × Nat × List β
def rowE {β : Type} (g : RowA β) : List Value := [.slice g.1 g.2.2.length g.2.1]
def RowP {β : Type} (W : World) (encE : β → List Value) (g : RowA β) : Prop := Seg W g.1 (g.2.2.flatMap encE) ∧ (g.1 = none → g.2.1 = 0) ∧ g.2.2.length ≤ 9223372036854775807
theorem open_row {β : Type} (z0 : β) {T t k : Nat} (hu : Tryd.prog.underlying T = some (.slice t)) (hk : Tryd.prog.cellsOf t = k) (hk0 : 0 < k) (encE : β → List Value) (hlen : ∀ g, (encE g).length = k) (Pw : β → Prop)
    (opn : ∀ (fuel : Nat) (cs : List Value) (x : DataW H × List MemPlace), DataW.trod enc Tryd.prog W 0 (fun _ => true) true fuel t cs = some x → ∃ g, cs = encE g ∧ Pw g)
    (fuel : Nat) (cs : List Value) (x : DataW H × List MemPlace) (h : DataW.trod enc Tryd.prog W 0 (fun _ => true) true fuel T cs = some x) : ∃ g : RowA β, cs = rowE g ∧ RowP W encE g := by
  obtain ⟨a, xs, cap, h1, h2, h3, _, h6, h7, h8⟩ := open_sl z0 hu hk hk0 encE hlen Pw opn h
  exact ⟨(a, cap, xs), h1, h2, h6, by show xs.length ≤ _; omega⟩
theorem rows_of {β : Type} {encE : β → List Value} {a : Option Addr} {cap : Nat} {xs : List (RowA β)} (hs : Seg W a (xs.flatMap rowE)) (hp : ∀ g ∈ xs, RowP W encE g) (hn : a = none → cap = 0) : RowsV W (.slice a (xs.map (·.2.2)).length cap) encE (xs.map (·.2.2)) := by
  refine ⟨xs.map fun g => .slice g.1 g.2.2.length g.2.1, by simp, ⟨a, cap, rfl, ?_, hn⟩, fun j u ys hu hy => ?_⟩
  · rw [show xs.flatMap rowE = xs.map fun g => .slice g.1 g.2.2.length g.2.1 from flat1 _ xs] at hs
    exact hs
  · rw [List.getElem?_map] at hu hy
    cases hg : xs[j]? with
    | none => rw [hg] at hu; cases hu
    | some g =>
      rw [hg] at hu hy
      cases hu; cases hy
      have := hp g (List.mem_of_getElem? hg)
      exact ⟨g.1, g.2.1, rfl, this.1, this.2.1⟩
/-- An execution, read. -/
theorem open_ev1 (fuel : Nat) (cs : List Value) (x : DataW H × List MemPlace) (h : DataW.trod enc Tryd.prog W 0 (fun _ => true) true fuel 46 cs = some x) : ∃ g : EV, cs = evL g ∧ True := by
  obtain ⟨ys, n, _, hx, hcl, hyl, hall⟩ := DataW.trod_struct Tryd.underlying46 h
  rw [cellsEvo] at hcl
  match ys, hyl, hx, hall with
  | [y0, y1, y2, y3, y4], _, hx, hall =>
    have g0 : DataW.trod enc Tryd.prog W 0 (fun _ => true) true n 3 (List.take (Tryd.prog.cellsOf 3) (List.drop 0 cs)) = some y0 := hall 0 _ rfl
    have g1 : DataW.trod enc Tryd.prog W 0 (fun _ => true) true n 3 (List.take (Tryd.prog.cellsOf 3) (List.drop 1 cs)) = some y1 := hall 1 _ rfl
    have g2 : DataW.trod enc Tryd.prog W 0 (fun _ => true) true n 3 (List.take (Tryd.prog.cellsOf 3) (List.drop 2 cs)) = some y2 := hall 2 _ rfl
    have g3 : DataW.trod enc Tryd.prog W 0 (fun _ => true) true n 3 (List.take (Tryd.prog.cellsOf 3) (List.drop 3 cs)) = some y3 := hall 3 _ rfl
    have g4 : DataW.trod enc Tryd.prog W 0 (fun _ => true) true n 4 (List.take (Tryd.prog.cellsOf 4) (List.drop 4 cs)) = some y4 := hall 4 _ rfl
    rw [cells3o] at g0 g1 g2 g3
    rw [cells4o] at g4
    obtain ⟨k0, e0, _, _⟩ := DataW.trod_int Tryd.underlying3 g0
    obtain ⟨k1, e1, _, w1⟩ := DataW.trod_int Tryd.underlying3 g1
    obtain ⟨k2, e2, _, w2⟩ := DataW.trod_int Tryd.underlying3 g2
    obtain ⟨k3, e3, _, _⟩ := DataW.trod_int Tryd.underlying3 g3
    obtain ⟨k4, e4, _⟩ := DataW.trod_bool Tryd.underlying4 g4
    exact ⟨⟨k0, k1, k2, k3, k4⟩, list5 hcl (take_one e0) (take_one e1) (take_one e2) (take_one e3) (take_one e4), trivial⟩
theorem open_ex (fuel : Nat) (cs : List Value) (x : DataW H × List MemPlace) (h : DataW.trod enc Tryd.prog W 0 (fun _ => true) true fuel 51 cs = some x) :
    ∃ (l : List EV) (fr : List Int) (od : List (List Int)) (ae af ao : Option Addr) (ce cf co : Nat), XE W cs l.length fr od ∧ cs[0]? = some (.slice ae l.length ce) ∧ cs[2]? = some (.slice af fr.length cf) ∧ cs[3]? = some (.slice ao od.length co) ∧ Seg W ae (l.flatMap evL) ∧ Seg W af (fr.flatMap intE) ∧ RowsV W (.slice ao od.length co) intE od := by
  obtain ⟨ys, n, _, hx, hcl, hyl, hall⟩ := DataW.trod_struct Tryd.underlying51 h
  rw [cellsEx] at hcl
  match ys, hyl, hx, hall with
  | [y0, y1, y2, y3, y4], _, hx, hall =>
    have g0 : DataW.trod enc Tryd.prog W 0 (fun _ => true) true n 37 (List.take (Tryd.prog.cellsOf 37) (List.drop 0 cs)) = some y0 := hall 0 _ rfl
    have g1 : DataW.trod enc Tryd.prog W 0 (fun _ => true) true n 26 (List.take (Tryd.prog.cellsOf 26) (List.drop 1 cs)) = some y1 := hall 1 _ rfl
    have g2 : DataW.trod enc Tryd.prog W 0 (fun _ => true) true n 48 (List.take (Tryd.prog.cellsOf 48) (List.drop 2 cs)) = some y2 := hall 2 _ rfl
    have g3 : DataW.trod enc Tryd.prog W 0 (fun _ => true) true n 49 (List.take (Tryd.prog.cellsOf 49) (List.drop 3 cs)) = some y3 := hall 3 _ rfl
    have g4 : DataW.trod enc Tryd.prog W 0 (fun _ => true) true n 25 (List.take (Tryd.prog.cellsOf 25) (List.drop 4 cs)) = some y4 := hall 4 _ rfl
    rw [cellsSE] at g0
    rw [cellsSL] at g1
    rw [cellsSI] at g2
    rw [cellsSSI] at g3
    rw [cellsSSL] at g4
    obtain ⟨ae, l, ce, e0, s0, p0, _, n0, m0, l0⟩ := open_sl ev0 Tryd.underlying37 cellsEvo (by decide) evL (fun _ => rfl) (fun _ : EV => True) open_ev1 g0
    obtain ⟨av, nv, cv, e1, l1⟩ := open_len Tryd.underlying26 g1
    obtain ⟨af, fr, cf, e2, s2, p2, _, n2, m2, l2⟩ := open_sl 0 Tryd.underlying48 cells3o (by decide) intE (fun _ => rfl) (fun g : Int => -9223372036854775808 ≤ g ∧ g ≤ 9223372036854775807) open_int1 g2
    obtain ⟨ao, xo, co, e3, s3, p3, _, n3, m3, l3⟩ := open_sl (none, 0, []) Tryd.underlying49 cellsSI (by decide) rowE (fun _ => rfl) (RowP W intE) (open_row 0 Tryd.underlying48 cells3o (by decide) intE (fun _ => rfl) (fun g : Int => -9223372036854775808 ≤ g ∧ g ≤ 9223372036854775807) open_int1) g3
    obtain ⟨ar, nr, cr, e4, l4⟩ := open_len Tryd.underlying25 g4
    refine ⟨l, fr, xo.map (·.2.2), ae, af, ao, ce, cf, co, ⟨hcl, ⟨ae, ce, af, cf, ao, co, take_one e0, take_one e2, ?_, m2, s2, rows_of s3 p3 n3⟩, ?_, by omega, by omega, by rw [List.length_map]; omega, fun l hl => ?_⟩, take_one e0, take_one e2, ?_, s0, s2, ?_⟩
    · rw [List.length_map]; exact take_one e3
    · intro v hv
      obtain ⟨i, hi⟩ := List.getElem?_of_mem hv
      have hi5 : i < 5 := by have := (List.getElem?_eq_some_iff.1 hi).1; omega
      have f0 := take_one e0
      have f1 := take_one e1
      have f2 := take_one e2
      have f3 := take_one e3
      have f4 := take_one e4
      rcases (show i = 0 ∨ i = 1 ∨ i = 2 ∨ i = 3 ∨ i = 4 by omega) with rfl | rfl | rfl | rfl | rfl
      · rw [f0] at hi; cases hi; rfl
      · rw [f1] at hi; cases hi; rfl
      · rw [f2] at hi; cases hi; rfl
      · rw [f3] at hi; cases hi; rfl
      · rw [f4] at hi; cases hi; rfl
    · obtain ⟨g, hg, rfl⟩ := List.mem_map.1 hl
      exact (p3 g hg).2.2
    · rw [List.length_map]; exact take_one e3
    · exact rows_of s3 p3 n3
end
end Go.Proofs.YtdjlfpkemdiadaaDoor.Ex

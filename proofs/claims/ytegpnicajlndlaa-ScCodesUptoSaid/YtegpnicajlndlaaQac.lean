/- Several texts in one: PT, M1. -/
import Derived.Test.YtegpnicajlndlaaQab
/- States and their texts, in plain mathematics: what is read from a text, one value behind the other; the text of what is read is what was read, and a state's text is read as it. -/
namespace Go.Proofs.Ytegpnicajlndlaa
open M
set_option linter.unusedSimpArgs false
set_option linter.unusedVariables false

def I64 (v : Int) : Prop := -9223372036854775808 ≤ v ∧ v ≤ 9223372036854775807
theorem takeA_cut {s : ByteArray} {p : Nat} {v : Int} {n : Nat} (h : takeA s (p : Int) = some (v, n)) : I64 v ∧ n ≤ 10 ∧ p + n ≤ s.size ∧ s.data.toList.drop p = M.putL v ++ s.data.toList.drop (p + n) := by
  unfold takeA at h
  by_cases hc : (p : Int) < 0 ∨ (s.size : Int) ≤ p
  · rw [if_pos hc] at h; cases h
  · rw [if_neg hc] at h
    obtain ⟨hv, hn, r, hr⟩ := M.put_takeO h
    rw [Int.toNat_natCast] at hr
    have hl := (M.putL_len hv.1 hv.2).2
    refine ⟨hv, by omega, ?_, ?_⟩
    · have := congrArg List.length hr
      rw [List.length_drop, List.length_append] at this
      have e : s.data.toList.length = s.size := by rw [Array.length_toList]; rfl
      omega
    · rw [← List.drop_drop, hr, hn, List.drop_left]
/-- A state. -/
structure ST where
  pc : List Int
  ph : List Int
  regs : List (List Int)
  mem : List Int
  buf : List (List (Int × Int))
  lock : Int
/-- What tells a program's states from others. -/
structure Shp where
  ins : List Nat
  rgs : List Nat
  locs : Nat
/-- The values of a thread, ahead of memory's. -/
def thV (s : ST) (i : Nat) : List Int := s.pc.getD i 0 :: s.ph.getD i 0 :: s.regs.getD i []
def thsV (s : ST) (k : Nat) : List Int := (List.range k).flatMap (thV s)
theorem thsV_succ (s : ST) (k : Nat) : thsV s (k + 1) = thsV s k ++ thV s k := by unfold thsV; rw [List.range_succ, List.flatMap_append]; simp
def wrV (b : List (Int × Int)) : List Int := b.flatMap fun w => [w.1, w.2]
def bfV (b : List (Int × Int)) : List Int := (b.length : Int) :: wrV b
/-- A state's values in their order. -/
def valsS (s : ST) : List Int := thsV s s.pc.length ++ (s.mem ++ (s.buf.flatMap bfV ++ [s.lock]))
/-- A state's text. -/
def textS (s : ST) : List UInt8 := (valsS s).flatMap M.putL
/-- A buffer's writes are of locations. -/
def bufOk (nl : Nat) (b : List (Int × Int)) : Prop := b.length ≤ 64 ∧ ∀ w ∈ b, 0 ≤ w.1 ∧ w.1 < nl
/-- A state is one of these. -/
structure Fits (z : Shp) (s : ST) : Prop where
  pc : s.pc.length = z.ins.length
  ph : s.ph.length = z.ins.length
  rg : s.regs.length = z.ins.length
  bf : s.buf.length = z.ins.length
  mm : s.mem.length = z.locs
  th : ∀ i, i < z.ins.length → (s.regs.getD i []).length = z.rgs.getD i 0 ∧ (0 ≤ s.pc.getD i 0 ∧ s.pc.getD i 0 ≤ z.ins.getD i 0) ∧ (0 ≤ s.ph.getD i 0 ∧ s.ph.getD i 0 ≤ 2) ∧ bufOk z.locs (s.buf.getD i [])
  lk : -1 ≤ s.lock ∧ s.lock ≤ (z.ins.length : Int) - 1
/-- All values are of 64 bits. -/
structure Wid (s : ST) : Prop where
  pc : ∀ v ∈ s.pc, I64 v
  ph : ∀ v ∈ s.ph, I64 v
  rg : ∀ l ∈ s.regs, ∀ v ∈ l, I64 v
  mm : ∀ v ∈ s.mem, I64 v
  bf : ∀ l ∈ s.buf, l.length ≤ 9223372036854775807 ∧ ∀ v ∈ l, I64 v.1 ∧ I64 v.2
  lk : I64 s.lock
/-- A reader: its place, and whether something was wrong. -/
structure RD where
  at' : Nat
  bad : Bool
def valR (T : ByteArray) (r : RD) : Int × RD := match takeA T (r.at' : Int) with
  | some (v, n) => (v, ⟨r.at' + n, r.bad⟩)
  | none => (0, ⟨r.at', true⟩)
def numR (T : ByteArray) (lo hi : Int) (r : RD) : Int × RD :=
  if lo ≤ (valR T r).1 ∧ (valR T r).1 ≤ hi then valR T r else (0, ⟨(valR T r).2.at', true⟩)
def valsR (T : ByteArray) (r : RD) : Nat → List Int × RD
  | 0 => ([], r)
  | k + 1 => ((valsR T r k).1 ++ [(valR T (valsR T r k).2).1], (valR T (valsR T r k).2).2)
def wrsR (T : ByteArray) (nl : Nat) (r : RD) : Nat → List (Int × Int) × RD
  | 0 => ([], r)
  | k + 1 =>
    let a := wrsR T nl r k
    let b := numR T 0 ((nl : Int) - 1) a.2
    let c := valR T b.2
    (a.1 ++ [(b.1, c.1)], c.2)
def bufR (T : ByteArray) (nl : Nat) (r : RD) : List (Int × Int) × RD := wrsR T nl (numR T 0 64 r).2 (numR T 0 64 r).1.toNat
/-- The threads' heads, the first so many. -/
def thsR (T : ByteArray) (z : Shp) (r : RD) : Nat → (List Int × List Int × List (List Int)) × RD
  | 0 => (([], [], []), r)
  | k + 1 =>
    let a := thsR T z r k
    let b := numR T 0 (z.ins.getD k 0 : Nat) a.2
    let c := numR T 0 2 b.2
    let d := valsR T c.2 (z.rgs.getD k 0)
    ((a.1.1 ++ [b.1], a.1.2.1 ++ [c.1], a.1.2.2 ++ [d.1]), d.2)
def bufsR (T : ByteArray) (nl : Nat) (r : RD) : Nat → List (List (Int × Int)) × RD
  | 0 => ([], r)
  | k + 1 =>
    let a := bufsR T nl r k
    let b := bufR T nl a.2
    (a.1 ++ [b.1], b.2)
/-- All of a state, read. -/
def stR (T : ByteArray) (z : Shp) : ST × RD :=
  let a := thsR T z ⟨0, false⟩ z.ins.length
  let b := valsR T a.2 z.locs
  let c := bufsR T z.locs b.2 z.ins.length
  let d := numR T (-1) ((z.ins.length : Int) - 1) c.2
  (⟨a.1.1, a.1.2.1, a.1.2.2, b.1, c.1, d.1⟩, d.2)
/-- The state of a text, if one has it. -/
def readS (T : ByteArray) (z : Shp) : Option ST := if (stR T z).2.bad = false ∧ (stR T z).2.at' = T.size then some (stR T z).1 else none

/-- What was read without a fault stands there. -/
def Cut (T : ByteArray) (r q : RD) (vs : List Int) : Prop := q.bad = false → r.bad = false ∧ (∀ v ∈ vs, I64 v) ∧ T.data.toList.drop r.at' = vs.flatMap M.putL ++ T.data.toList.drop q.at'
theorem Cut.refl (T : ByteArray) (r : RD) : Cut T r r [] := fun h => ⟨h, by simp, by simp⟩
theorem Cut.trans {T : ByteArray} {r q s : RD} {vs us : List Int} (h : Cut T r q vs) (h' : Cut T q s us) : Cut T r s (vs ++ us) := fun hb => by
  obtain ⟨a1, a2, a3⟩ := h' hb
  obtain ⟨b1, b2, b3⟩ := h a1
  refine ⟨b1, fun v hv => (List.mem_append.1 hv).elim (b2 v) (a2 v), ?_⟩
  rw [b3, a3, List.flatMap_append, List.append_assoc]
theorem valR_cut (T : ByteArray) (r : RD) : Cut T r (valR T r).2 [(valR T r).1] := by
  unfold valR
  cases h : takeA T (r.at' : Int) with
  | none => exact fun hb => by cases hb
  | some p =>
    obtain ⟨v, n⟩ := p
    intro hb
    obtain ⟨h1, _, _, h2⟩ := takeA_cut h
    exact ⟨hb, by simpa using h1, by simpa using h2⟩
theorem numR_cut (T : ByteArray) (lo hi : Int) (r : RD) : Cut T r (numR T lo hi r).2 [(numR T lo hi r).1] ∧ ((numR T lo hi r).2.bad = false → lo ≤ (numR T lo hi r).1 ∧ (numR T lo hi r).1 ≤ hi) := by
  unfold numR
  split
  · rename_i h; exact ⟨valR_cut T r, fun _ => h⟩
  · exact ⟨(fun hb => by cases hb), fun hb => by cases hb⟩
theorem valsR_cut (T : ByteArray) (r : RD) : ∀ k, Cut T r (valsR T r k).2 (valsR T r k).1 ∧ (valsR T r k).1.length = k
  | 0 => ⟨Cut.refl T r, rfl⟩
  | k + 1 => by
    obtain ⟨h1, h2⟩ := valsR_cut T r k
    exact ⟨h1.trans (valR_cut T _), by simp [valsR, h2]⟩
theorem wrV_snoc (l : List (Int × Int)) (a b : Int) : wrV (l ++ [(a, b)]) = wrV l ++ ([a] ++ [b]) := by simp [wrV]
theorem wrsR_cut (T : ByteArray) (nl : Nat) (r : RD) : ∀ k, Cut T r (wrsR T nl r k).2 (wrV (wrsR T nl r k).1) ∧ (wrsR T nl r k).1.length = k ∧ ((wrsR T nl r k).2.bad = false → ∀ w ∈ (wrsR T nl r k).1, 0 ≤ w.1 ∧ w.1 < nl)
  | 0 => ⟨Cut.refl T r, rfl, fun _ w hw => by cases hw⟩
  | k + 1 => by
    obtain ⟨h1, h2, h3⟩ := wrsR_cut T nl r k
    obtain ⟨g1, g2⟩ := numR_cut T 0 ((nl : Int) - 1) (wrsR T nl r k).2
    have g3 := valR_cut T (numR T 0 ((nl : Int) - 1) (wrsR T nl r k).2).2
    refine ⟨?_, by simp [wrsR, h2], fun hb w hw => ?_⟩
    · show Cut T r _ (wrV ((wrsR T nl r k).1 ++ [(_, _)]))
      rw [wrV_snoc]
      exact h1.trans (g1.trans g3)
    · obtain ⟨c1, _⟩ := g3 hb
      obtain ⟨c2, _⟩ := g1 c1
      rcases List.mem_append.1 hw with hw | hw
      · exact h3 c2 w hw
      · have := g2 c1
        simp only [List.mem_singleton] at hw
        subst hw
        exact ⟨this.1, by have := this.2; omega⟩
theorem bufR_cut (T : ByteArray) (nl : Nat) (r : RD) : Cut T r (bufR T nl r).2 (bfV (bufR T nl r).1) ∧ ((bufR T nl r).2.bad = false → bufOk nl (bufR T nl r).1) := by
  obtain ⟨g1, g2⟩ := numR_cut T 0 64 r
  obtain ⟨h1, h2, h3⟩ := wrsR_cut T nl (numR T 0 64 r).2 (numR T 0 64 r).1.toNat
  have hl : (bufR T nl r).1.length = (numR T 0 64 r).1.toNat := h2
  constructor
  · intro hb
    obtain ⟨c1, _⟩ := h1 hb
    have := g2 c1
    have e : bfV (bufR T nl r).1 = [(numR T 0 64 r).1] ++ wrV (bufR T nl r).1 := by
      unfold bfV
      rw [hl, show (((numR T 0 64 r).1.toNat : Nat) : Int) = (numR T 0 64 r).1 by omega]
      rfl
    rw [e]
    exact g1.trans h1 hb
  · intro hb
    obtain ⟨c1, _⟩ := h1 hb
    have := g2 c1
    exact ⟨by rw [hl]; omega, h3 hb⟩
/-- The heads' values, put together. -/
def headV (a : List Int × List Int × List (List Int)) (k : Nat) : List Int := (List.range k).flatMap fun i => a.1.getD i 0 :: a.2.1.getD i 0 :: a.2.2.getD i []
theorem fmS_congr {α β : Type} {l : List α} {f g : α → List β} (h : ∀ x ∈ l, f x = g x) : l.flatMap f = l.flatMap g := by
  induction l with
  | nil => rfl
  | cons x l ih => rw [List.flatMap_cons, List.flatMap_cons, h x (by simp), ih fun y hy => h y (by simp [hy])]
theorem thsR_cut (T : ByteArray) (z : Shp) (r : RD) : ∀ k, Cut T r (thsR T z r k).2 (headV (thsR T z r k).1 k) ∧ (thsR T z r k).1.1.length = k ∧ (thsR T z r k).1.2.1.length = k ∧ (thsR T z r k).1.2.2.length = k ∧ (∀ i, i < k → ((thsR T z r k).1.2.2.getD i []).length = z.rgs.getD i 0) ∧
    ((thsR T z r k).2.bad = false → ∀ i, i < k → (0 ≤ (thsR T z r k).1.1.getD i 0 ∧ (thsR T z r k).1.1.getD i 0 ≤ z.ins.getD i 0) ∧ (0 ≤ (thsR T z r k).1.2.1.getD i 0 ∧ (thsR T z r k).1.2.1.getD i 0 ≤ 2))
  | 0 => ⟨Cut.refl T r, rfl, rfl, rfl, (fun i hi => by omega), fun _ i hi => by omega⟩
  | k + 1 => by
    obtain ⟨h1, l1, l2, l3, l4, h2⟩ := thsR_cut T z r k
    obtain ⟨b1, b2⟩ := numR_cut T 0 (z.ins.getD k 0 : Nat) (thsR T z r k).2
    obtain ⟨c1, c2⟩ := numR_cut T 0 2 (numR T 0 (z.ins.getD k 0 : Nat) (thsR T z r k).2).2
    obtain ⟨d1, d2⟩ := valsR_cut T (numR T 0 2 (numR T 0 (z.ins.getD k 0 : Nat) (thsR T z r k).2).2).2 (z.rgs.getD k 0)
    have e : thsR T z r (k + 1) = (((thsR T z r k).1.1 ++ [(numR T 0 (z.ins.getD k 0 : Nat) (thsR T z r k).2).1], (thsR T z r k).1.2.1 ++ [(numR T 0 2 (numR T 0 (z.ins.getD k 0 : Nat) (thsR T z r k).2).2).1], (thsR T z r k).1.2.2 ++ [(valsR T (numR T 0 2 (numR T 0 (z.ins.getD k 0 : Nat) (thsR T z r k).2).2).2 (z.rgs.getD k 0)).1]), (valsR T (numR T 0 2 (numR T 0 (z.ins.getD k 0 : Nat) (thsR T z r k).2).2).2 (z.rgs.getD k 0)).2) := rfl
    rw [e]
    generalize numR T 0 (z.ins.getD k 0 : Nat) (thsR T z r k).2 = B at *
    generalize numR T 0 2 B.2 = C at *
    generalize valsR T C.2 (z.rgs.getD k 0) = D at *
    generalize thsR T z r k = A at *
    obtain ⟨⟨p1, p2, p3⟩, q⟩ := A
    simp only at l1 l2 l3 l4 h1 h2 b1 ⊢
    have lo : ∀ {α : Type} (l : List α) (x d : α) (i : Nat), i < l.length → (l ++ [x]).getD i d = l.getD i d := fun l x d i hi => by simp [List.getD_eq_getElem?_getD, List.getElem?_append_left hi]
    have hi' : ∀ {α : Type} (l : List α) (x d : α) (i : Nat), i = l.length → (l ++ [x]).getD i d = x := fun l x d i hi => by subst hi; simp [List.getD_eq_getElem?_getD]
    refine ⟨?_, by simp [l1], by simp [l2], by simp [l3], fun i hi => ?_, fun hb i hi => ?_⟩
    · have e2 : headV (p1 ++ [B.1], p2 ++ [C.1], p3 ++ [D.1]) (k + 1) = headV (p1, p2, p3) k ++ ([B.1] ++ ([C.1] ++ D.1)) := by
        unfold headV
        rw [List.range_succ, List.flatMap_append]
        congr 1
        · refine fmS_congr fun i hi => ?_
          have := List.mem_range.1 hi
          simp only
          rw [lo _ _ _ _ (by omega), lo _ _ _ _ (by omega), lo _ _ _ _ (by omega)]
        · simp only [List.flatMap_cons, List.flatMap_nil, List.append_nil]
          rw [hi' _ _ _ _ l1.symm, hi' _ _ _ _ l2.symm, hi' _ _ _ _ l3.symm]
          rfl
      rw [e2]
      exact h1.trans (b1.trans (c1.trans d1))
    · by_cases hik : i < k
      · rw [lo _ _ _ _ (by omega)]; exact l4 i hik
      · obtain rfl : i = k := by omega
        rw [hi' _ _ _ _ l3.symm]; exact d2
    · obtain ⟨x1, _⟩ := d1 hb
      obtain ⟨x2, _⟩ := c1 x1
      obtain ⟨x3, _⟩ := b1 x2
      by_cases hik : i < k
      · rw [lo _ _ _ _ (by omega), lo _ _ _ _ (by omega)]; exact h2 x3 i hik
      · obtain rfl : i = k := by omega
        rw [hi' _ _ _ _ l1.symm, hi' _ _ _ _ l2.symm]; exact ⟨b2 x2, c2 x1⟩
theorem bufsR_cut (T : ByteArray) (nl : Nat) (r : RD) : ∀ k, Cut T r (bufsR T nl r k).2 ((bufsR T nl r k).1.flatMap bfV) ∧ (bufsR T nl r k).1.length = k ∧ ((bufsR T nl r k).2.bad = false → ∀ b ∈ (bufsR T nl r k).1, bufOk nl b)
  | 0 => ⟨Cut.refl T r, rfl, fun _ b hb => by cases hb⟩
  | k + 1 => by
    obtain ⟨h1, h2, h3⟩ := bufsR_cut T nl r k
    obtain ⟨g1, g2⟩ := bufR_cut T nl (bufsR T nl r k).2
    have e : bufsR T nl r (k + 1) = ((bufsR T nl r k).1 ++ [(bufR T nl (bufsR T nl r k).2).1], (bufR T nl (bufsR T nl r k).2).2) := rfl
    rw [e]
    refine ⟨?_, by simp [h2], fun hb b hm => ?_⟩
    · rw [List.flatMap_append, List.flatMap_cons, List.flatMap_nil, List.append_nil]
      exact h1.trans g1
    · rcases List.mem_append.1 hm with hm | hm
      · exact h3 (g1 hb).1 b hm
      · simp only [List.mem_singleton] at hm; subst hm; exact g2 hb
/-- What is read is a state, and its text is what was read. -/
theorem readS_some {T : ByteArray} {z : Shp} {s : ST} (h : readS T z = some s) : Fits z s ∧ (∀ v ∈ valsS s, I64 v) ∧ textS s = T.data.toList := by
  unfold readS at h
  split at h
  · rename_i hc
    obtain ⟨hb, hat⟩ := hc
    have hs := Option.some.inj h
    subst hs
    obtain ⟨a1, al1, al2, al3, al4, a2⟩ := thsR_cut T z ⟨0, false⟩ z.ins.length
    obtain ⟨b1, b2⟩ := valsR_cut T (thsR T z ⟨0, false⟩ z.ins.length).2 z.locs
    obtain ⟨c1, c2, c3⟩ := bufsR_cut T z.locs (valsR T (thsR T z ⟨0, false⟩ z.ins.length).2 z.locs).2 z.ins.length
    obtain ⟨d1, d2⟩ := numR_cut T (-1) ((z.ins.length : Int) - 1) (bufsR T z.locs (valsR T (thsR T z ⟨0, false⟩ z.ins.length).2 z.locs).2 z.ins.length).2
    have e : stR T z = (⟨(thsR T z ⟨0, false⟩ z.ins.length).1.1, (thsR T z ⟨0, false⟩ z.ins.length).1.2.1, (thsR T z ⟨0, false⟩ z.ins.length).1.2.2, (valsR T (thsR T z ⟨0, false⟩ z.ins.length).2 z.locs).1, (bufsR T z.locs (valsR T (thsR T z ⟨0, false⟩ z.ins.length).2 z.locs).2 z.ins.length).1, (numR T (-1) ((z.ins.length : Int) - 1) (bufsR T z.locs (valsR T (thsR T z ⟨0, false⟩ z.ins.length).2 z.locs).2 z.ins.length).2).1⟩, (numR T (-1) ((z.ins.length : Int) - 1) (bufsR T z.locs (valsR T (thsR T z ⟨0, false⟩ z.ins.length).2 z.locs).2 z.ins.length).2).2) := rfl
    have hall := a1.trans (b1.trans (c1.trans d1))
    rw [e] at hb hat ⊢
    simp only at hb hat ⊢
    generalize numR T (-1) ((z.ins.length : Int) - 1) (bufsR T z.locs (valsR T (thsR T z ⟨0, false⟩ z.ins.length).2 z.locs).2 z.ins.length).2 = D at *
    have cb := (d1 hb).1
    generalize bufsR T z.locs (valsR T (thsR T z ⟨0, false⟩ z.ins.length).2 z.locs).2 z.ins.length = C at *
    have bb := (c1 cb).1
    generalize valsR T (thsR T z ⟨0, false⟩ z.ins.length).2 z.locs = B at *
    have ab := (b1 bb).1
    generalize thsR T z ⟨0, false⟩ z.ins.length = A at *
    obtain ⟨⟨p1, p2, p3⟩, q⟩ := A
    simp only at *
    obtain ⟨_, hw, htx⟩ := hall hb
    have ev : valsS ⟨p1, p2, p3, B.1, C.1, D.1⟩ = headV (p1, p2, p3) z.ins.length ++ (B.1 ++ (C.1.flatMap bfV ++ [D.1])) := by
      unfold valsS thsV headV thV
      simp only [al1]
    refine ⟨⟨al1, al2, al3, c2, b2, fun i hi => ⟨al4 i hi, (a2 ab i hi).1, (a2 ab i hi).2, ?_⟩, d2 hb⟩, ?_, ?_⟩
    · refine c3 cb _ ?_
      simp only [List.getD_eq_getElem?_getD]
      rw [List.getElem?_eq_getElem (by omega)]
      exact List.getElem_mem _
    · rw [ev]; exact hw
    · unfold textS
      rw [ev]
      rw [List.drop_zero] at htx
      rw [htx, hat, List.drop_of_length_le (by rw [Array.length_toList]; exact Nat.le_refl _), List.append_nil]
  · cases h

theorem dropS_cons {α : Type} {l : List α} {k : Nat} {x : α} (h : l[k]? = some x) : l.drop k = x :: l.drop (k + 1) := by
  obtain ⟨hk, rfl⟩ := List.getElem?_eq_some_iff.1 h
  exact List.drop_eq_getElem_cons hk
theorem takeS_snoc {α : Type} {l : List α} {k : Nat} {x : α} (h : l[k]? = some x) : l.take (k + 1) = l.take k ++ [x] := by
  rw [List.take_add_one, h]; rfl
theorem getDS_of {α : Type} {l : List α} {k : Nat} {x d : α} (h : l[k]? = some x) : l.getD k d = x := by rw [List.getD_eq_getElem?_getD, h]; rfl
theorem getDS_mem {α : Type} {l : List α} {x d : α} (h : x ∈ l) : ∃ k, k < l.length ∧ l.getD k d = x := by
  obtain ⟨k, hk, rfl⟩ := List.getElem_of_mem h
  exact ⟨k, hk, by rw [List.getD_eq_getElem?_getD, List.getElem?_eq_getElem hk]; rfl⟩
end Go.Proofs.Ytegpnicajlndlaa
/-
  Plain mathematics of numbers in texts: digits, the longest run of them, what they say, a number's parts, its value. No program is named.
-/
namespace Go.Proofs.Ytegpnicajlndlaa.M
set_option linter.unusedSimpArgs false
set_option linter.unusedVariables false

/-- What a byte says as a digit; 2^64 - 1 where it is none. -/
def dig (c : Nat) : Nat :=
  if 48 ≤ c ∧ c ≤ 57 then c - 48 else if 97 ≤ c ∧ c ≤ 102 then c - 87 else if 65 ≤ c ∧ c ≤ 70 then c - 55 else 18446744073709551615
/-- Whether a byte is a digit to a base. -/
def isD (b : Nat) (c : UInt8) : Bool := decide (dig c.toNat < b)
/-- The digits with which a text begins. -/
def dl (b : Nat) (l : List UInt8) : List UInt8 := l.takeWhile (isD b)
/-- What digits say. -/
def val (b : Nat) (l : List UInt8) : Nat := l.foldl (fun n c => n * b + dig c.toNat) 0

/-- Whether a text begins with -. -/
def minusB : List UInt8 → Bool
  | c :: _ => c.toNat == 45
  | [] => false
/-- Whether a text begins as hexadecimal numbers do. -/
def markB : List UInt8 → Bool
  | a :: b :: _ => a.toNat == 48 && (b.toNat == 120 || b.toNat == 88)
  | _ => false

/-- A number's parts behind its sign: base, digits, and how many bytes it has there. -/
def bodyF (r : List UInt8) : Nat × List UInt8 × Nat :=
  if markB r = true ∧ dl 16 (r.drop 2) ≠ [] then (16, dl 16 (r.drop 2), 2 + (dl 16 (r.drop 2)).length) else (10, dl 10 r, (dl 10 r).length)
/-- How many bytes the sign has. -/
def sgn (l : List UInt8) : Nat := if minusB l then 1 else 0
/-- A number's value; none: it is too big. -/
def valF (m : Bool) (v : Nat) : Option Int :=
  if 18446744073709551615 < v ∨ (m = true ∧ 9223372036854775808 < v) then none
  else some (if m then -(v : Int) else if (v : Int) ≤ 9223372036854775807 then (v : Int) else (v : Int) - 18446744073709551616)
/-- The digits of the number with which a text begins, its base, its length, its value. -/
def digF (l : List UInt8) : List UInt8 := (bodyF (l.drop (sgn l))).2.1
def baseF (l : List UInt8) : Nat := (bodyF (l.drop (sgn l))).1
def numF (l : List UInt8) : Option Int := valF (minusB l) (val (baseF l) (digF l))

end Go.Proofs.Ytegpnicajlndlaa.M

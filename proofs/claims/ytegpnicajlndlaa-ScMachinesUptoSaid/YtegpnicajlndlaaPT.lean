/- PT -/
import Derived.Test.YtegpnicajlndlaaWC2
namespace Go.Proofs.Ytegpnicajlndlaa
open M
set_option linter.unusedSimpArgs false
set_option linter.unusedVariables false
def I64 (v : Int) : Prop := -9223372036854775808 ≤ v ∧ v ≤ 9223372036854775807
theorem takeA_at {l r : List UInt8} {v : Int} (h : I64 v) : takeA ⟨(l ++ (M.putL v ++ r)).toArray⟩ (l.length : Int) = some (v, (M.putL v).length) := by
 unfold takeA
 have hp := (M.putL_len h.1 h.2).1
 rw [if_neg (by simp [ByteArray.size]; omega)]
 show M.takeO (((l ++ (M.putL v ++ r))).drop ((l.length : Int)).toNat) = _
 rw [Int.toNat_natCast, List.drop_left]
 exact M.takeO_put h.1 h.2 r
theorem takeA_cut {s : ByteArray} {p : Nat} {v : Int} {n : Nat} (h : takeA s (p : Int) = some (v, n)) : I64 v ∧ n ≤ 10 ∧ p + n ≤ s.size ∧ s.data.toList.drop p = M.putL v ++ s.data.toList.drop (p + n) := by
 unfold takeA at h
 by_cases hc : (p : Int) < 0 ∨ (s.size : Int) ≤ p
 · rw [if_pos hc] at h; cases h
 · rw [if_neg hc] at h
   obtain ⟨hv, hn, r, hr⟩ := M.put_takeO h
   rw [Int.toNat_natCast] at hr
   have hl := (M.putL_len hv.1 hv.2).2
   refine ⟨hv, by omega, ?_, ?_⟩
   · have := congrArg List.length hr
     rw [List.length_drop, List.length_append] at this
     have e : s.data.toList.length = s.size := by rw [Array.length_toList]; rfl
     omega
   · rw [← List.drop_drop, hr, hn, List.drop_left]
structure ST where
 pc : List Int
 ph : List Int
 regs : List (List Int)
 mem : List Int
 buf : List (List (Int × Int))
 lock : Int
structure Shp where
 ins : List Nat
 rgs : List Nat
 locs : Nat
def thV (s : ST) (i : Nat) : List Int := s.pc.getD i 0 :: s.ph.getD i 0 :: s.regs.getD i []
def thsV (s : ST) (k : Nat) : List Int := (List.range k).flatMap (thV s)
theorem thsV_succ (s : ST) (k : Nat) : thsV s (k + 1) = thsV s k ++ thV s k := by unfold thsV; rw [List.range_succ, List.flatMap_append]; simp
def wrV (b : List (Int × Int)) : List Int := b.flatMap fun w => [w.1, w.2]
def bfV (b : List (Int × Int)) : List Int := (b.length : Int) :: wrV b
def valsS (s : ST) : List Int := thsV s s.pc.length ++ (s.mem ++ (s.buf.flatMap bfV ++ [s.lock]))
def textS (s : ST) : List UInt8 := (valsS s).flatMap M.putL
def bufOk (nl : Nat) (b : List (Int × Int)) : Prop := b.length ≤ 64 ∧ ∀ w ∈ b, 0 ≤ w.1 ∧ w.1 < nl
structure Fits (z : Shp) (s : ST) : Prop where
 pc : s.pc.length = z.ins.length
 ph : s.ph.length = z.ins.length
 rg : s.regs.length = z.ins.length
 bf : s.buf.length = z.ins.length
 mm : s.mem.length = z.locs
 th : ∀ i, i < z.ins.length → (s.regs.getD i []).length = z.rgs.getD i 0 ∧ (0 ≤ s.pc.getD i 0 ∧ s.pc.getD i 0 ≤ z.ins.getD i 0) ∧ (0 ≤ s.ph.getD i 0 ∧ s.ph.getD i 0 ≤ 2) ∧ bufOk z.locs (s.buf.getD i [])
 lk : -1 ≤ s.lock ∧ s.lock ≤ (z.ins.length : Int) - 1
structure Wid (s : ST) : Prop where
 pc : ∀ v ∈ s.pc, I64 v
 ph : ∀ v ∈ s.ph, I64 v
 rg : ∀ l ∈ s.regs, ∀ v ∈ l, I64 v
 mm : ∀ v ∈ s.mem, I64 v
 bf : ∀ l ∈ s.buf, l.length ≤ 9223372036854775807 ∧ ∀ v ∈ l, I64 v.1 ∧ I64 v.2
 lk : I64 s.lock
structure RD where
 at' : Nat
 bad : Bool
def valR (T : ByteArray) (r : RD) : Int × RD := match takeA T (r.at' : Int) with
 | some (v, n) => (v, ⟨r.at' + n, r.bad⟩)
 | none => (0, ⟨r.at', true⟩)
def numR (T : ByteArray) (lo hi : Int) (r : RD) : Int × RD :=
 if lo ≤ (valR T r).1 ∧ (valR T r).1 ≤ hi then valR T r else (0, ⟨(valR T r).2.at', true⟩)
def valsR (T : ByteArray) (r : RD) : Nat → List Int × RD
 | 0 => ([], r)
 | k + 1 => ((valsR T r k).1 ++ [(valR T (valsR T r k).2).1], (valR T (valsR T r k).2).2)
def wrsR (T : ByteArray) (nl : Nat) (r : RD) : Nat → List (Int × Int) × RD
 | 0 => ([], r)
 | k + 1 =>
  let a := wrsR T nl r k
  let b := numR T 0 ((nl : Int) - 1) a.2
  let c := valR T b.2
  (a.1 ++ [(b.1, c.1)], c.2)
def bufR (T : ByteArray) (nl : Nat) (r : RD) : List (Int × Int) × RD := wrsR T nl (numR T 0 64 r).2 (numR T 0 64 r).1.toNat
def thsR (T : ByteArray) (z : Shp) (r : RD) : Nat → (List Int × List Int × List (List Int)) × RD
 | 0 => (([], [], []), r)
 | k + 1 =>
  let a := thsR T z r k
  let b := numR T 0 (z.ins.getD k 0 : Nat) a.2
  let c := numR T 0 2 b.2
  let d := valsR T c.2 (z.rgs.getD k 0)
  ((a.1.1 ++ [b.1], a.1.2.1 ++ [c.1], a.1.2.2 ++ [d.1]), d.2)
def bufsR (T : ByteArray) (nl : Nat) (r : RD) : Nat → List (List (Int × Int)) × RD
 | 0 => ([], r)
 | k + 1 =>
  let a := bufsR T nl r k
  let b := bufR T nl a.2
  (a.1 ++ [b.1], b.2)
def stR (T : ByteArray) (z : Shp) : ST × RD :=
 let a := thsR T z ⟨0, false⟩ z.ins.length
 let b := valsR T a.2 z.locs
 let c := bufsR T z.locs b.2 z.ins.length
 let d := numR T (-1) ((z.ins.length : Int) - 1) c.2
 (⟨a.1.1, a.1.2.1, a.1.2.2, b.1, c.1, d.1⟩, d.2)
def readS (T : ByteArray) (z : Shp) : Option ST := if (stR T z).2.bad = false ∧ (stR T z).2.at' = T.size then some (stR T z).1 else none
def Cut (T : ByteArray) (r q : RD) (vs : List Int) : Prop := q.bad = false → r.bad = false ∧ (∀ v ∈ vs, I64 v) ∧ T.data.toList.drop r.at' = vs.flatMap M.putL ++ T.data.toList.drop q.at'
theorem Cut.refl (T : ByteArray) (r : RD) : Cut T r r [] := fun h => ⟨h, by simp, by simp⟩
theorem Cut.trans {T : ByteArray} {r q s : RD} {vs us : List Int} (h : Cut T r q vs) (h' : Cut T q s us) : Cut T r s (vs ++ us) := fun hb => by
 obtain ⟨a1, a2, a3⟩ := h' hb
 obtain ⟨b1, b2, b3⟩ := h a1
 refine ⟨b1, fun v hv => (List.mem_append.1 hv).elim (b2 v) (a2 v), ?_⟩
 rw [b3, a3, List.flatMap_append, List.append_assoc]
theorem valR_cut (T : ByteArray) (r : RD) : Cut T r (valR T r).2 [(valR T r).1] := by
 unfold valR
 cases h : takeA T (r.at' : Int) with
 | none => exact fun hb => by cases hb
 | some p =>
  obtain ⟨v, n⟩ := p
  intro hb
  obtain ⟨h1, _, _, h2⟩ := takeA_cut h
  exact ⟨hb, by simpa using h1, by simpa using h2⟩
theorem numR_cut (T : ByteArray) (lo hi : Int) (r : RD) : Cut T r (numR T lo hi r).2 [(numR T lo hi r).1] ∧ ((numR T lo hi r).2.bad = false → lo ≤ (numR T lo hi r).1 ∧ (numR T lo hi r).1 ≤ hi) := by
 unfold numR
 split
 · rename_i h; exact ⟨valR_cut T r, fun _ => h⟩
 · exact ⟨(fun hb => by cases hb), fun hb => by cases hb⟩
theorem valsR_cut (T : ByteArray) (r : RD) : ∀ k, Cut T r (valsR T r k).2 (valsR T r k).1 ∧ (valsR T r k).1.length = k
 | 0 => ⟨Cut.refl T r, rfl⟩
 | k + 1 => by
  obtain ⟨h1, h2⟩ := valsR_cut T r k
  exact ⟨h1.trans (valR_cut T _), by simp [valsR, h2]⟩
theorem wrV_snoc (l : List (Int × Int)) (a b : Int) : wrV (l ++ [(a, b)]) = wrV l ++ ([a] ++ [b]) := by simp [wrV]
theorem wrsR_cut (T : ByteArray) (nl : Nat) (r : RD) : ∀ k, Cut T r (wrsR T nl r k).2 (wrV (wrsR T nl r k).1) ∧ (wrsR T nl r k).1.length = k ∧ ((wrsR T nl r k).2.bad = false → ∀ w ∈ (wrsR T nl r k).1, 0 ≤ w.1 ∧ w.1 < nl)
 | 0 => ⟨Cut.refl T r, rfl, fun _ w hw => by cases hw⟩
 | k + 1 => by
  obtain ⟨h1, h2, h3⟩ := wrsR_cut T nl r k
  obtain ⟨g1, g2⟩ := numR_cut T 0 ((nl : Int) - 1) (wrsR T nl r k).2
  have g3 := valR_cut T (numR T 0 ((nl : Int) - 1) (wrsR T nl r k).2).2
  refine ⟨?_, by simp [wrsR, h2], fun hb w hw => ?_⟩
  · show Cut T r _ (wrV ((wrsR T nl r k).1 ++ [(_, _)]))
    rw [wrV_snoc]
    exact h1.trans (g1.trans g3)
  · obtain ⟨c1, _⟩ := g3 hb
    obtain ⟨c2, _⟩ := g1 c1
    rcases List.mem_append.1 hw with hw | hw
    · exact h3 c2 w hw
    · have := g2 c1
      simp only [List.mem_singleton] at hw
      subst hw
      exact ⟨this.1, by have := this.2; omega⟩
theorem bufR_cut (T : ByteArray) (nl : Nat) (r : RD) : Cut T r (bufR T nl r).2 (bfV (bufR T nl r).1) ∧ ((bufR T nl r).2.bad = false → bufOk nl (bufR T nl r).1) := by
 obtain ⟨g1, g2⟩ := numR_cut T 0 64 r
 obtain ⟨h1, h2, h3⟩ := wrsR_cut T nl (numR T 0 64 r).2 (numR T 0 64 r).1.toNat
 have hl : (bufR T nl r).1.length = (numR T 0 64 r).1.toNat := h2
 constructor
 · intro hb
   obtain ⟨c1, _⟩ := h1 hb
   have := g2 c1
   have e : bfV (bufR T nl r).1 = [(numR T 0 64 r).1] ++ wrV (bufR T nl r).1 := by
    unfold bfV
    rw [hl, show (((numR T 0 64 r).1.toNat : Nat) : Int) = (numR T 0 64 r).1 by omega]
    rfl
   rw [e]
   exact g1.trans h1 hb
 · intro hb
   obtain ⟨c1, _⟩ := h1 hb
   have := g2 c1
   exact ⟨by rw [hl]; omega, h3 hb⟩
def headV (a : List Int × List Int × List (List Int)) (k : Nat) : List Int := (List.range k).flatMap fun i => a.1.getD i 0 :: a.2.1.getD i 0 :: a.2.2.getD i []
theorem fmS_congr {α β : Type} {l : List α} {f g : α → List β} (h : ∀ x ∈ l, f x = g x) : l.flatMap f = l.flatMap g := by
 induction l with
 | nil => rfl
 | cons x l ih => rw [List.flatMap_cons, List.flatMap_cons, h x (by simp), ih fun y hy => h y (by simp [hy])]
theorem thsR_cut (T : ByteArray) (z : Shp) (r : RD) : ∀ k, Cut T r (thsR T z r k).2 (headV (thsR T z r k).1 k) ∧ (thsR T z r k).1.1.length = k ∧ (thsR T z r k).1.2.1.length = k ∧ (thsR T z r k).1.2.2.length = k ∧ (∀ i, i < k → ((thsR T z r k).1.2.2.getD i []).length = z.rgs.getD i 0) ∧
    ((thsR T z r k).2.bad = false → ∀ i, i < k → (0 ≤ (thsR T z r k).1.1.getD i 0 ∧ (thsR T z r k).1.1.getD i 0 ≤ z.ins.getD i 0) ∧ (0 ≤ (thsR T z r k).1.2.1.getD i 0 ∧ (thsR T z r k).1.2.1.getD i 0 ≤ 2))
 | 0 => ⟨Cut.refl T r, rfl, rfl, rfl, (fun i hi => by omega), fun _ i hi => by omega⟩
 | k + 1 => by
  obtain ⟨h1, l1, l2, l3, l4, h2⟩ := thsR_cut T z r k
  obtain ⟨b1, b2⟩ := numR_cut T 0 (z.ins.getD k 0 : Nat) (thsR T z r k).2
  obtain ⟨c1, c2⟩ := numR_cut T 0 2 (numR T 0 (z.ins.getD k 0 : Nat) (thsR T z r k).2).2
  obtain ⟨d1, d2⟩ := valsR_cut T (numR T 0 2 (numR T 0 (z.ins.getD k 0 : Nat) (thsR T z r k).2).2).2 (z.rgs.getD k 0)
  have e : thsR T z r (k + 1) = (((thsR T z r k).1.1 ++ [(numR T 0 (z.ins.getD k 0 : Nat) (thsR T z r k).2).1], (thsR T z r k).1.2.1 ++ [(numR T 0 2 (numR T 0 (z.ins.getD k 0 : Nat) (thsR T z r k).2).2).1], (thsR T z r k).1.2.2 ++ [(valsR T (numR T 0 2 (numR T 0 (z.ins.getD k 0 : Nat) (thsR T z r k).2).2).2 (z.rgs.getD k 0)).1]), (valsR T (numR T 0 2 (numR T 0 (z.ins.getD k 0 : Nat) (thsR T z r k).2).2).2 (z.rgs.getD k 0)).2) := rfl
  rw [e]
  generalize numR T 0 (z.ins.getD k 0 : Nat) (thsR T z r k).2 = B at *
  generalize numR T 0 2 B.2 = C at *
  generalize valsR T C.2 (z.rgs.getD k 0) = D at *
  generalize thsR T z r k = A at *
  obtain ⟨⟨p1, p2, p3⟩, q⟩ := A
  simp only at l1 l2 l3 l4 h1 h2 b1 ⊢
  have lo : ∀ {α : Type} (l : List α) (x d : α) (i : Nat), i < l.length → (l ++ [x]).getD i d = l.getD i d := fun l x d i hi => by simp [List.getD_eq_getElem?_getD, List.getElem?_append_left hi]
  have hi' : ∀ {α : Type} (l : List α) (x d : α) (i : Nat), i = l.length → (l ++ [x]).getD i d = x := fun l x d i hi => by subst hi; simp [List.getD_eq_getElem?_getD]
  refine ⟨?_, by simp [l1], by simp [l2], by simp [l3], fun i hi => ?_, fun hb i hi => ?_⟩
  · have e2 : headV (p1 ++ [B.1], p2 ++ [C.1], p3 ++ [D.1]) (k + 1) = headV (p1, p2, p3) k ++ ([B.1] ++ ([C.1] ++ D.1)) := by
     unfold headV
     rw [List.range_succ, List.flatMap_append]
     congr 1
     · refine fmS_congr fun i hi => ?_
       have := List.mem_range.1 hi
       simp only
       rw [lo _ _ _ _ (by omega), lo _ _ _ _ (by omega), lo _ _ _ _ (by omega)]
     · simp only [List.flatMap_cons, List.flatMap_nil, List.append_nil]
       rw [hi' _ _ _ _ l1.symm, hi' _ _ _ _ l2.symm, hi' _ _ _ _ l3.symm]
       rfl
    rw [e2]
    exact h1.trans (b1.trans (c1.trans d1))
  · by_cases hik : i < k
    · rw [lo _ _ _ _ (by omega)]; exact l4 i hik
    · obtain rfl : i = k := by omega
      rw [hi' _ _ _ _ l3.symm]; exact d2
  · obtain ⟨x1, _⟩ := d1 hb
    obtain ⟨x2, _⟩ := c1 x1
    obtain ⟨x3, _⟩ := b1 x2
    by_cases hik : i < k
    · rw [lo _ _ _ _ (by omega), lo _ _ _ _ (by omega)]; exact h2 x3 i hik
    · obtain rfl : i = k := by omega
      rw [hi' _ _ _ _ l1.symm, hi' _ _ _ _ l2.symm]; exact ⟨b2 x2, c2 x1⟩
theorem bufsR_cut (T : ByteArray) (nl : Nat) (r : RD) : ∀ k, Cut T r (bufsR T nl r k).2 ((bufsR T nl r k).1.flatMap bfV) ∧ (bufsR T nl r k).1.length = k ∧ ((bufsR T nl r k).2.bad = false → ∀ b ∈ (bufsR T nl r k).1, bufOk nl b)
 | 0 => ⟨Cut.refl T r, rfl, fun _ b hb => by cases hb⟩
 | k + 1 => by
  obtain ⟨h1, h2, h3⟩ := bufsR_cut T nl r k
  obtain ⟨g1, g2⟩ := bufR_cut T nl (bufsR T nl r k).2
  have e : bufsR T nl r (k + 1) = ((bufsR T nl r k).1 ++ [(bufR T nl (bufsR T nl r k).2).1], (bufR T nl (bufsR T nl r k).2).2) := rfl
  rw [e]
  refine ⟨?_, by simp [h2], fun hb b hm => ?_⟩
  · rw [List.flatMap_append, List.flatMap_cons, List.flatMap_nil, List.append_nil]
    exact h1.trans g1
  · rcases List.mem_append.1 hm with hm | hm
    · exact h3 (g1 hb).1 b hm
    · simp only [List.mem_singleton] at hm; subst hm; exact g2 hb
theorem readS_some {T : ByteArray} {z : Shp} {s : ST} (h : readS T z = some s) : Fits z s ∧ (∀ v ∈ valsS s, I64 v) ∧ textS s = T.data.toList := by
 unfold readS at h
 split at h
 · rename_i hc
   obtain ⟨hb, hat⟩ := hc
   have hs := oI h
   subst hs
   obtain ⟨a1, al1, al2, al3, al4, a2⟩ := thsR_cut T z ⟨0, false⟩ z.ins.length
   obtain ⟨b1, b2⟩ := valsR_cut T (thsR T z ⟨0, false⟩ z.ins.length).2 z.locs
   obtain ⟨c1, c2, c3⟩ := bufsR_cut T z.locs (valsR T (thsR T z ⟨0, false⟩ z.ins.length).2 z.locs).2 z.ins.length
   obtain ⟨d1, d2⟩ := numR_cut T (-1) ((z.ins.length : Int) - 1) (bufsR T z.locs (valsR T (thsR T z ⟨0, false⟩ z.ins.length).2 z.locs).2 z.ins.length).2
   have e : stR T z = (⟨(thsR T z ⟨0, false⟩ z.ins.length).1.1, (thsR T z ⟨0, false⟩ z.ins.length).1.2.1, (thsR T z ⟨0, false⟩ z.ins.length).1.2.2, (valsR T (thsR T z ⟨0, false⟩ z.ins.length).2 z.locs).1, (bufsR T z.locs (valsR T (thsR T z ⟨0, false⟩ z.ins.length).2 z.locs).2 z.ins.length).1, (numR T (-1) ((z.ins.length : Int) - 1) (bufsR T z.locs (valsR T (thsR T z ⟨0, false⟩ z.ins.length).2 z.locs).2 z.ins.length).2).1⟩, (numR T (-1) ((z.ins.length : Int) - 1) (bufsR T z.locs (valsR T (thsR T z ⟨0, false⟩ z.ins.length).2 z.locs).2 z.ins.length).2).2) := rfl
   have hall := a1.trans (b1.trans (c1.trans d1))
   rw [e] at hb hat ⊢
   simp only at hb hat ⊢
   generalize numR T (-1) ((z.ins.length : Int) - 1) (bufsR T z.locs (valsR T (thsR T z ⟨0, false⟩ z.ins.length).2 z.locs).2 z.ins.length).2 = D at *
   have cb := (d1 hb).1
   generalize bufsR T z.locs (valsR T (thsR T z ⟨0, false⟩ z.ins.length).2 z.locs).2 z.ins.length = C at *
   have bb := (c1 cb).1
   generalize valsR T (thsR T z ⟨0, false⟩ z.ins.length).2 z.locs = B at *
   have ab := (b1 bb).1
   generalize thsR T z ⟨0, false⟩ z.ins.length = A at *
   obtain ⟨⟨p1, p2, p3⟩, q⟩ := A
   simp only at *
   obtain ⟨_, hw, htx⟩ := hall hb
   have ev : valsS ⟨p1, p2, p3, B.1, C.1, D.1⟩ = headV (p1, p2, p3) z.ins.length ++ (B.1 ++ (C.1.flatMap bfV ++ [D.1])) := by
    unfold valsS thsV headV thV
    simp only [al1]
   refine ⟨⟨al1, al2, al3, c2, b2, fun i hi => ⟨al4 i hi, (a2 ab i hi).1, (a2 ab i hi).2, ?_⟩, d2 hb⟩, ?_, ?_⟩
   · refine c3 cb _ ?_
     simp only [List.getD_eq_getElem?_getD]
     rw [List.getElem?_eq_getElem (by omega)]
     exact List.getElem_mem _
   · rw [ev]; exact hw
   · unfold textS
     rw [ev]
     rw [List.drop_zero] at htx
     rw [htx, hat, List.drop_of_length_le (by rw [Array.length_toList]; exact Nat.le_refl _), List.append_nil]
 · cases h
def On (T : ByteArray) (p : Nat) (vs : List Int) : Prop := ∃ l, T.data.toList = l ++ vs.flatMap M.putL ∧ l.length = p
theorem valR_on {T : ByteArray} {p : Nat} {v : Int} {vs : List Int} (h : On T p (v :: vs)) (hv : I64 v) : ∃ p', valR T ⟨p, false⟩ = (v, ⟨p', false⟩) ∧ On T p' vs := by
 obtain ⟨l, h1, rfl⟩ := h
 refine ⟨l.length + (M.putL v).length, ?_, l ++ M.putL v, by rw [h1, List.flatMap_cons, List.append_assoc], by rw [List.length_append]⟩
 have e : T = ⟨(l ++ (M.putL v ++ vs.flatMap M.putL)).toArray⟩ := by
  cases T with
  | mk d =>
   rw [List.flatMap_cons] at h1
   congr 1
   rw [← h1, Array.toArray_toList]
 unfold valR
 have := takeA_at (l := l) (r := vs.flatMap M.putL) hv
 rw [← e] at this
 simp only [this]
theorem numR_on {T : ByteArray} {p : Nat} {v lo hi : Int} {vs : List Int} (h : On T p (v :: vs)) (hv : I64 v) (hb : lo ≤ v ∧ v ≤ hi) : ∃ p', numR T lo hi ⟨p, false⟩ = (v, ⟨p', false⟩) ∧ On T p' vs := by
 obtain ⟨p', h1, h2⟩ := valR_on h hv
 refine ⟨p', ?_, h2⟩
 unfold numR
 rw [h1, if_pos hb]
theorem dropS_cons {α : Type} {l : List α} {k : Nat} {x : α} (h : l[k]? = some x) : l.drop k = x :: l.drop (k + 1) := by
 obtain ⟨hk, rfl⟩ := List.getElem?_eq_some_iff.1 h
 exact List.drop_eq_getElem_cons hk
theorem takeS_snoc {α : Type} {l : List α} {k : Nat} {x : α} (h : l[k]? = some x) : l.take (k + 1) = l.take k ++ [x] := by
 rw [List.take_add_one, h]; rfl
theorem valsR_on {T : ByteArray} {p : Nat} {xs vs : List Int} (h : On T p (xs ++ vs)) (hx : ∀ v ∈ xs, I64 v) : ∀ k, k ≤ xs.length → ∃ p', valsR T ⟨p, false⟩ k = (xs.take k, ⟨p', false⟩) ∧ On T p' (xs.drop k ++ vs)
 | 0, _ => ⟨p, by simp [valsR], by simpa using h⟩
 | k + 1, hk => by
  obtain ⟨p', h1, h2⟩ := valsR_on h hx k (by omega)
  obtain ⟨x, hxk⟩ : ∃ x, xs[k]? = some x := ⟨_, List.getElem?_eq_getElem (by omega)⟩
  rw [dropS_cons hxk, List.cons_append] at h2
  obtain ⟨p2, h3, h4⟩ := valR_on h2 (hx x (List.mem_of_getElem? hxk))
  exact ⟨p2, by simp only [valsR, h1, h3, takeS_snoc hxk], h4⟩
theorem wrsR_on {T : ByteArray} {p nl : Nat} {b : List (Int × Int)} {vs : List Int} (h : On T p (wrV b ++ vs)) (hx : ∀ w ∈ b, I64 w.1 ∧ I64 w.2) (hl : ∀ w ∈ b, 0 ≤ w.1 ∧ w.1 < nl) : ∀ k, k ≤ b.length → ∃ p', wrsR T nl ⟨p, false⟩ k = (b.take k, ⟨p', false⟩) ∧ On T p' (wrV (b.drop k) ++ vs)
 | 0, _ => ⟨p, by simp [wrsR], by simpa using h⟩
 | k + 1, hk => by
  obtain ⟨p', h1, h2⟩ := wrsR_on h hx hl k (by omega)
  obtain ⟨x, hxk⟩ : ∃ x, b[k]? = some x := ⟨_, List.getElem?_eq_getElem (by omega)⟩
  have hm := List.mem_of_getElem? hxk
  have e : wrV (b.drop k) ++ vs = x.1 :: x.2 :: (wrV (b.drop (k + 1)) ++ vs) := by rw [dropS_cons hxk]; simp [wrV]
  rw [e] at h2
  obtain ⟨p2, h3, h4⟩ := numR_on (lo := 0) (hi := (nl : Int) - 1) h2 (hx x hm).1 ⟨(hl x hm).1, by have := (hl x hm).2; omega⟩
  obtain ⟨p3, h5, h6⟩ := valR_on h4 (hx x hm).2
  exact ⟨p3, by simp only [wrsR, h1, h3, h5, takeS_snoc hxk], h6⟩
theorem bufR_on {T : ByteArray} {p nl : Nat} {b : List (Int × Int)} {vs : List Int} (h : On T p (bfV b ++ vs)) (hx : ∀ w ∈ b, I64 w.1 ∧ I64 w.2) (hb : bufOk nl b) : ∃ p', bufR T nl ⟨p, false⟩ = (b, ⟨p', false⟩) ∧ On T p' vs := by
 obtain ⟨p1, h1, h2⟩ := numR_on (lo := 0) (hi := 64) (v := (b.length : Int)) (vs := wrV b ++ vs) h ⟨by have := hb.1; omega, by have := hb.1; omega⟩ ⟨by omega, by have := hb.1; omega⟩
 obtain ⟨p2, h3, h4⟩ := wrsR_on h2 hx hb.2 b.length (Nat.le_refl _)
 refine ⟨p2, ?_, by simpa [wrV] using h4⟩
 unfold bufR
 rw [h1]
 simp only [Int.toNat_natCast, h3, List.take_length]
theorem getDS_of {α : Type} {l : List α} {k : Nat} {x d : α} (h : l[k]? = some x) : l.getD k d = x := by rw [List.getD_eq_getElem?_getD, h]; rfl
theorem thsR_on {T : ByteArray} {p : Nat} {z : Shp} {s : ST} {vs : List Int} (hf : Fits z s) (hw : Wid s) (h : On T p (thsV s z.ins.length ++ vs)) : ∀ k, k ≤ z.ins.length → ∃ p', thsR T z ⟨p, false⟩ k = ((s.pc.take k, s.ph.take k, s.regs.take k), ⟨p', false⟩) ∧ On T p' (((List.range z.ins.length).drop k).flatMap (thV s) ++ vs)
 | 0, _ => ⟨p, by simp [thsR], by simpa [thsV] using h⟩
 | k + 1, hk => by
  obtain ⟨p', h1, h2⟩ := thsR_on hf hw h k (by omega)
  obtain ⟨c, hc⟩ : ∃ x, s.pc[k]? = some x := ⟨_, List.getElem?_eq_getElem (by have := hf.pc; omega)⟩
  obtain ⟨d, hd⟩ : ∃ x, s.ph[k]? = some x := ⟨_, List.getElem?_eq_getElem (by have := hf.ph; omega)⟩
  obtain ⟨g, hg⟩ : ∃ x, s.regs[k]? = some x := ⟨_, List.getElem?_eq_getElem (by have := hf.rg; omega)⟩
  have hr : (List.range z.ins.length)[k]? = some k := List.getElem?_range (by omega)
  have ht := hf.th k (by omega)
  rw [getDS_of hc, getDS_of hd, getDS_of hg] at ht
  have e : ((List.range z.ins.length).drop k).flatMap (thV s) ++ vs = c :: d :: (g ++ (((List.range z.ins.length).drop (k + 1)).flatMap (thV s) ++ vs)) := by
   rw [dropS_cons hr, List.flatMap_cons]
   unfold thV
   rw [getDS_of hc, getDS_of hd, getDS_of hg]
   simp
  rw [e] at h2
  obtain ⟨p2, h3, h4⟩ := numR_on (lo := 0) (hi := (z.ins.getD k 0 : Nat)) h2 (hw.pc c (List.mem_of_getElem? hc)) ht.2.1
  obtain ⟨p3, h5, h6⟩ := numR_on (lo := 0) (hi := 2) h4 (hw.ph d (List.mem_of_getElem? hd)) ht.2.2.1
  obtain ⟨p4, h7, h8⟩ := valsR_on h6 (hw.rg g (List.mem_of_getElem? hg)) g.length (Nat.le_refl _)
  refine ⟨p4, ?_, by simpa using h8⟩
  rw [List.take_length, ht.1] at h7
  simp only [thsR, h1, h3, h5, h7, takeS_snoc hc, takeS_snoc hd, takeS_snoc hg]
theorem bufsR_on {T : ByteArray} {p nl : Nat} {bs : List (List (Int × Int))} {vs : List Int} (h : On T p (bs.flatMap bfV ++ vs)) (hx : ∀ b ∈ bs, ∀ w ∈ b, I64 w.1 ∧ I64 w.2) (hb : ∀ b ∈ bs, bufOk nl b) : ∀ k, k ≤ bs.length → ∃ p', bufsR T nl ⟨p, false⟩ k = (bs.take k, ⟨p', false⟩) ∧ On T p' ((bs.drop k).flatMap bfV ++ vs)
 | 0, _ => ⟨p, by simp [bufsR], by simpa using h⟩
 | k + 1, hk => by
  obtain ⟨p', h1, h2⟩ := bufsR_on h hx hb k (by omega)
  obtain ⟨x, hxk⟩ : ∃ x, bs[k]? = some x := ⟨_, List.getElem?_eq_getElem (by omega)⟩
  have hm := List.mem_of_getElem? hxk
  rw [dropS_cons hxk, List.flatMap_cons, List.append_assoc] at h2
  obtain ⟨p2, h3, h4⟩ := bufR_on h2 (hx x hm) (hb x hm)
  exact ⟨p2, by simp only [bufsR, h1, h3, takeS_snoc hxk], h4⟩
theorem getDS_mem {α : Type} {l : List α} {x d : α} (h : x ∈ l) : ∃ k, k < l.length ∧ l.getD k d = x := by
 obtain ⟨k, hk, rfl⟩ := List.getElem_of_mem h
 exact ⟨k, hk, by rw [List.getD_eq_getElem?_getD, List.getElem?_eq_getElem hk]; rfl⟩
theorem readS_text {z : Shp} {s : ST} (hf : Fits z s) (hw : Wid s) : readS ⟨(textS s).toArray⟩ z = some s := by
 have h0 : On ⟨(textS s).toArray⟩ 0 (thsV s z.ins.length ++ (s.mem ++ (s.buf.flatMap bfV ++ [s.lock]))) := ⟨[], by
  show textS s = _
  unfold textS valsS
  rw [hf.pc]
  rfl, rfl⟩
 generalize (⟨(textS s).toArray⟩ : ByteArray) = T at *
 obtain ⟨p1, h1, g1⟩ := thsR_on hf hw h0 z.ins.length (Nat.le_refl _)
 rw [List.drop_of_length_le (by simp)] at g1
 obtain ⟨p2, h2, g2⟩ := valsR_on (p := p1) (xs := s.mem) (vs := s.buf.flatMap bfV ++ [s.lock]) g1 hw.mm s.mem.length (Nat.le_refl _)
 rw [List.drop_length, List.nil_append] at g2
 rw [hf.mm, List.take_of_length_le (by rw [hf.mm]; exact Nat.le_refl _)] at h2
 obtain ⟨p3, h3, g3⟩ := bufsR_on (nl := z.locs) g2 (fun b hb => (hw.bf b hb).2) (fun b hb => by
  obtain ⟨k, hk, e⟩ := getDS_mem (d := []) hb
  have := (hf.th k (by have := hf.bf; omega)).2.2.2
  rwa [e] at this) s.buf.length (Nat.le_refl _)
 rw [List.drop_length, List.flatMap_nil, List.nil_append] at g3
 rw [hf.bf, List.take_of_length_le (by rw [hf.bf]; exact Nat.le_refl _)] at h3
 obtain ⟨p4, h4, g4⟩ := numR_on (lo := -1) (hi := (z.ins.length : Int) - 1) g3 hw.lk hf.lk
 rw [List.take_of_length_le (by rw [hf.pc]; exact Nat.le_refl _), List.take_of_length_le (by rw [hf.ph]; exact Nat.le_refl _), List.take_of_length_le (by rw [hf.rg]; exact Nat.le_refl _)] at h1
 have e : stR T z = (s, ⟨p4, false⟩) := by
  unfold stR
  simp only [h1, h2, h3, h4]
 unfold readS
 rw [e, if_pos]
 refine ⟨rfl, ?_⟩
 obtain ⟨l, hl, rfl⟩ := g4
 rw [List.flatMap_nil, List.append_nil] at hl
 show l.length = T.size
 rw [← hl, Array.length_toList]
 rfl
theorem readS_wid {T : ByteArray} {z : Shp} {s : ST} (h : readS T z = some s) : Wid s := by
 obtain ⟨hf, hv, _⟩ := readS_some h
 have key : ∀ v, (v ∈ thsV s s.pc.length ∨ v ∈ s.mem ∨ v ∈ s.buf.flatMap bfV ∨ v = s.lock) → I64 v := fun v hm => hv v (by
  unfold valsS
  simp only [List.mem_append, List.mem_singleton]
  exact hm)
 have th : ∀ i, i < s.pc.length → ∀ v ∈ thV s i, I64 v := fun i hi v hm => key v (.inl (by
  unfold thsV
  exact List.mem_flatMap.2 ⟨i, List.mem_range.2 hi, hm⟩))
 refine ⟨fun v hm => ?_, fun v hm => ?_, fun l hl v hm => ?_, fun v hm => key v (.inr (.inl hm)), fun l hl => ⟨?_, fun v hm => ?_⟩, key _ (.inr (.inr (.inr rfl)))⟩
 · obtain ⟨k, hk, e⟩ := getDS_mem (d := 0) hm
   exact th k hk v (by unfold thV; rw [e]; simp)
 · obtain ⟨k, hk, e⟩ := getDS_mem (d := 0) hm
   exact th k (by have := hf.pc; have := hf.ph; omega) v (by unfold thV; rw [e]; simp)
 · obtain ⟨k, hk, e⟩ := getDS_mem (d := []) hl
   exact th k (by have := hf.pc; have := hf.rg; omega) v (by unfold thV; rw [e]; simp [hm])
 · obtain ⟨k, hk, e⟩ := getDS_mem (d := []) hl
   have := (hf.th k (by have := hf.bf; omega)).2.2.2.1
   rw [e] at this
   omega
 · have a : ∀ u ∈ bfV l, I64 u := fun u hu => key u (.inr (.inr (.inl (List.mem_flatMap.2 ⟨l, hl, hu⟩))))
   have b : ∀ u ∈ [v.1, v.2], I64 u := fun u hu => a u (by unfold bfV wrV; exact List.mem_cons_of_mem _ (List.mem_flatMap.2 ⟨v, hm, hu⟩))
   exact ⟨b _ (by simp), b _ (by simp)⟩
end Go.Proofs.Ytegpnicajlndlaa

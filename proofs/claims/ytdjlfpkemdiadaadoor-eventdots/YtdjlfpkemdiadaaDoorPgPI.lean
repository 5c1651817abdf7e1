/- Index of both sides. -/
import Derived.Test.YtdjlfpkemdiadaaDoorPgPN
import Derived.Test.YtdjlfpkemdiadaaDoorQI
namespace Go.Proofs.YtdjlfpkemdiadaaDoor
open Go.RowKit M
set_option linter.unusedSimpArgs false
set_option linter.unusedVariables false

def refB (a b : RF) : Bool := (a.1 == b.1) && (a.2.toList == b.2.toList)
theorem refB_comm (a b : RF) : refB a b = refB b a := by
  unfold refB
  rw [Bool.eq_iff_iff]
  simp only [Bool.and_eq_true, beq_iff_eq]
  exact ⟨fun h => ⟨h.1.symm, h.2.symm⟩, fun h => ⟨h.1.symm, h.2.symm⟩⟩
def idxF (ns : List RF) (r : RF) : Option Nat := ns.findIdx? fun x => refB x r
def idxO : Option Nat → Int
  | some j => j
  | none => -1
def idxI (ns : List RF) (r : RF) : Int := idxO (idxF ns r)
theorem idx_hit {ns : List RF} {r g : RF} {j : Nat} (hg : ns[j]? = some g) (h : refB g r = true) (hno : ∀ i, i < j → ∀ x, ns[i]? = some x → refB x r = false) : idxF ns r = some j := by
  obtain ⟨hj, e⟩ := List.getElem?_eq_some_iff.1 hg
  unfold idxF
  rw [List.findIdx?_eq_some_iff_getElem]
  refine ⟨hj, by rw [e]; exact h, fun i hi => ?_⟩
  rw [hno i hi _ (List.getElem?_eq_getElem (by omega))]; simp
theorem idx_miss {ns : List RF} {r : RF} (hno : ∀ i, i < ns.length → ∀ x, ns[i]? = some x → refB x r = false) : idxF ns r = none := by
  unfold idxF
  rw [List.findIdx?_eq_none_iff]
  intro x hx
  obtain ⟨i, hi⟩ := List.getElem?_of_mem hx
  exact hno i (List.getElem?_eq_some_iff.1 hi).1 x hi
theorem ref_at : ∀ (gs : List RF) (j : Nat) (g : RF), gs[j]? = some g → ∀ (i : Nat) (v : Value), (refL g)[i]? = some v → (gs.flatMap refL)[j * 2 + i]? = some v
  | [], j, g, h, i, v, hv => by simp at h
  | x :: gs, 0, g, h, i, v, hv => by
    simp at h; subst h
    have hi : i < (refL x).length := (List.getElem?_eq_some_iff.1 hv).1
    show (refL x ++ gs.flatMap refL)[0 * 2 + i]? = some v
    rw [Nat.zero_mul, Nat.zero_add, List.getElem?_append_left hi]; exact hv
  | x :: gs, j + 1, g, h, i, v, hv => by
    have := ref_at gs j g (by simpa using h) i v hv
    show (refL x ++ gs.flatMap refL)[(j + 1) * 2 + i]? = some v
    have e : (refL x).length = 2 := rfl
    rw [List.getElem?_append_right (by omega), e, show (j + 1) * 2 + i - 2 = j * 2 + i by omega]
    exact this
theorem Seg.ref {w : World} {a : Option Addr} {gs : List RF} (h : Seg w a (gs.flatMap refL)) {j : Nat} {g : RF} (hg : gs[j]? = some g) : ∃ b o, a = some ⟨b, o, none⟩ ∧ b < w.heap.size ∧ w.rangeAt b (o + j * 2) (refL g) := by
  obtain ⟨b, o, e, hb, _⟩ := h (j * 2 + 0) _ (ref_at gs j g hg 0 _ rfl)
  refine ⟨b, o, e, hb, fun i v hv => ?_⟩
  obtain ⟨b', o', e', _, hc⟩ := h (j * 2 + i) v (ref_at gs j g hg i v hv)
  rw [e] at e'; cases e'
  rw [Nat.add_assoc]; exact hc
def idxV (o : Option Nat) : Value := match o with
  | some j => .tuple #[.int .i64 (j : Int), .bool true]
  | none => .tuple #[.int .i64 0, .bool false]
end Go.Proofs.YtdjlfpkemdiadaaDoor

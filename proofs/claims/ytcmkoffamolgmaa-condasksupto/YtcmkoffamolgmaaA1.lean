/- References in order: registers ahead of locations, by thread, by name. -/
import Derived.Test.YtcmkoffamolgmaaORD
import Derived.Test.YtcmkoffamolgmaaT0
import Derived.Lib.Bytealg
namespace Go.Proofs.Ytcmkoffamolgmaa
open Go Go.Lib
set_option linter.unusedSimpArgs false
set_option linter.unusedVariables false

theorem cb_refl : ∀ l : List UInt8, compareBytes l l = 0
  | [] => rfl
  | a :: l => by unfold compareBytes; rw [if_neg (UInt8.lt_irrefl a), if_neg (UInt8.lt_irrefl a), cb_refl l]
theorem cb_eq : ∀ {a b : List UInt8}, compareBytes a b = 0 → a = b
  | [], [], _ => rfl
  | [], _ :: _, h => by simp [compareBytes] at h
  | _ :: _, [], h => by simp [compareBytes] at h
  | x :: a, y :: b, h => by
    unfold compareBytes at h
    split at h
    · omega
    · split at h
      · omega
      · rename_i h1 h2
        have : x = y := UInt8.le_antisymm (UInt8.not_lt.1 h2) (UInt8.not_lt.1 h1)
        rw [this, cb_eq h]
theorem cb_vals : ∀ (a b : List UInt8), compareBytes a b = -1 ∨ compareBytes a b = 0 ∨ compareBytes a b = 1
  | [], [] => .inr (.inl rfl)
  | [], _ :: _ => .inl rfl
  | _ :: _, [] => .inr (.inr rfl)
  | x :: a, y :: b => by
    unfold compareBytes
    split
    · exact .inl rfl
    · split
      · exact .inr (.inr rfl)
      · exact cb_vals a b
theorem cb_anti : ∀ (a b : List UInt8), compareBytes a b = - compareBytes b a
  | [], [] => rfl
  | [], _ :: _ => rfl
  | _ :: _, [] => rfl
  | x :: a, y :: b => by
    unfold compareBytes
    by_cases h1 : x < y
    · rw [if_pos h1, if_neg (UInt8.not_lt.2 (UInt8.le_of_lt h1)), if_pos h1]
    · by_cases h2 : y < x
      · rw [if_neg h1, if_pos h2, if_pos h2]; rfl
      · rw [if_neg h1, if_neg h2, if_neg h2, if_neg h1, cb_anti a b]
theorem cb_trans : ∀ {a b c : List UInt8}, compareBytes a b < 0 → compareBytes b c < 0 → compareBytes a c < 0
  | [], [], _, h, _ => by simp [compareBytes] at h
  | [], _ :: _, [], _, h => by simp [compareBytes] at h
  | [], _ :: _, _ :: _, _, _ => by simp [compareBytes]
  | _ :: _, [], _, h, _ => by simp [compareBytes] at h
  | _ :: _, _ :: _, [], _, h => by simp [compareBytes] at h
  | x :: a, y :: b, z :: c, h1, h2 => by
    unfold compareBytes at h1 h2 ⊢
    by_cases e1 : x < y
    · by_cases e2 : y < z
      · rw [if_pos (UInt8.lt_trans e1 e2)]; omega
      · by_cases e3 : z < y
        · rw [if_neg e2, if_pos e3] at h2; omega
        · have : y = z := UInt8.le_antisymm (UInt8.not_lt.1 e3) (UInt8.not_lt.1 e2)
          subst this
          rw [if_pos e1]; omega
    · by_cases e2 : y < x
      · rw [if_neg e1, if_pos e2] at h1; omega
      · have : x = y := UInt8.le_antisymm (UInt8.not_lt.1 e2) (UInt8.not_lt.1 e1)
        subst this
        rw [if_neg e1, if_neg e1] at h1
        by_cases e3 : x < z
        · rw [if_pos e3]; omega
        · by_cases e4 : z < x
          · rw [if_neg e3, if_pos e4] at h2; omega
          · rw [if_neg e3, if_neg e4] at h2 ⊢
            exact cb_trans h1 h2
theorem less_cb : ∀ (a b : List UInt8), Op.bytesLess a b = decide (compareBytes a b < 0)
  | [], [] => rfl
  | [], _ :: _ => rfl
  | _ :: _, [] => rfl
  | x :: a, y :: b => by
    unfold Op.bytesLess compareBytes
    by_cases h1 : x < y
    · simp [h1]
    · by_cases h2 : y < x
      · have hne : ¬ x = y := fun e => UInt8.lt_irrefl x (by rw [← e] at h2; exact h2)
        simp [h1, h2, hne]
      · have : x = y := UInt8.le_antisymm (UInt8.not_lt.1 h2) (UInt8.not_lt.1 h1)
        subst this
        simp [h1, less_cb a b]
def cmS (a b : ByteArray) : Int := compareBytes a.data.toList b.data.toList
theorem ba_eq {a b : ByteArray} (h : a.data.toList = b.data.toList) : a = b := by cases a; cases b; simp at h; simpa using h
theorem ordS : Ords cmS where
  irrefl x := by unfold cmS; rw [cb_refl]; omega
  trans x y z h1 h2 := cb_trans h1 h2
  tri x y := by
    unfold cmS
    rcases cb_vals x.data.toList y.data.toList with h | h | h
    · exact .inl (by omega)
    · exact .inr (.inl (ba_eq (cb_eq h)))
    · exact .inr (.inr (by rw [cb_anti, h]; omega))
/-- A reference: its thread, its name. -/
abbrev RK := Int × ByteArray
def thI (r : RK) : Int := r.1
/-- A reference of a thread from -1 on: its thread and one more, its name. -/
abbrev NK := Nat × ByteArray
def unN (r : NK) : RK := ((r.1 : Int) - 1, r.2)
theorem unN_inj {a b : NK} (h : unN a = unN b) : a = b := by
  have h1 : (a.1 : Int) - 1 = (b.1 : Int) - 1 := congrArg Prod.fst h
  exact Prod.ext (by omega) (show (unN a).2 = (unN b).2 by rw [h])
def cmI (x y : Int) : Int := if x < y then -1 else if y < x then 1 else 0
def cmK (a b : RK) : Int :=
  if (decide (thI a = -1) != decide (thI b = -1)) = true then - cmI (thI a) (thI b)
  else if cmI (thI a) (thI b) ≠ 0 then cmI (thI a) (thI b) else cmS a.2 b.2
def cmN (a b : NK) : Int := cmK (unN a) (unN b)
theorem cmN_less (a b : NK) : cmN a b < 0 ↔ (a.1 ≠ 0 ∧ b.1 = 0) ∨ ((a.1 = 0 ↔ b.1 = 0) ∧ (a.1 < b.1 ∨ (a.1 = b.1 ∧ cmS a.2 b.2 < 0))) := by
  unfold cmN cmK thI unN cmI
  by_cases h1 : a.1 = 0 <;> by_cases h2 : b.1 = 0
  · have e1 : ((a.1 : Int) - 1 = -1) := by omega
    have e2 : ((b.1 : Int) - 1 = -1) := by omega
    simp [e1, e2, h1, h2]
  · have e1 : ((a.1 : Int) - 1 = -1) := by omega
    have e2 : ¬ ((b.1 : Int) - 1 = -1) := by omega
    have e3 : (-1 : Int) < (b.1 : Int) - 1 := by omega
    simp [e1, e2, h1, h2, e3]
  · have e1 : ¬ ((a.1 : Int) - 1 = -1) := by omega
    have e2 : ((b.1 : Int) - 1 = -1) := by omega
    have e3 : (-1 : Int) < (a.1 : Int) - 1 := by omega
    have e4 : ¬ (a.1 : Int) - 1 < -1 := by omega
    simp [e1, e2, h1, h2, e3, e4]
  · have e1 : ¬ ((a.1 : Int) - 1 = -1) := by omega
    have e2 : ¬ ((b.1 : Int) - 1 = -1) := by omega
    rcases Nat.lt_trichotomy a.1 b.1 with h | h | h
    · have e3 : (a.1 : Int) - 1 < (b.1 : Int) - 1 := by omega
      simp [e1, e2, h1, h2, e3, h]
    · simp [e1, e2, h1, h2, h]
    · have e3 : ¬ (a.1 : Int) - 1 < (b.1 : Int) - 1 := by omega
      have e4 : (b.1 : Int) - 1 < (a.1 : Int) - 1 := by omega
      have e5 : ¬ a.1 < b.1 := by omega
      have e6 : ¬ a.1 = b.1 := by omega
      simp [e1, e2, h1, h2, e3, e4, e5, e6]
theorem ordN : Ords cmN where
  irrefl x := by rw [cmN_less]; have := ordS.irrefl x.2; omega
  trans x y z h1 h2 := by
    rw [cmN_less] at *
    have ht := ordS.trans x.2 y.2 z.2
    by_cases hx : x.1 = 0 <;> by_cases hy : y.1 = 0 <;> by_cases hz : z.1 = 0 <;> simp only [hx, hy, hz, ne_eq, not_true_eq_false, not_false_eq_true, true_and, false_and, and_true, and_false, false_or, or_false, true_or, iff_true, true_iff, iff_false, false_iff, iff_self, Nat.lt_irrefl, or_true] at h1 h2 ⊢
    · exact ht h1 h2
    · rcases h1 with h1 | ⟨h1, h1'⟩ <;> rcases h2 with h2 | ⟨h2, h2'⟩
      · exact .inl (by omega)
      · exact .inl (by omega)
      · exact .inl (by omega)
      · exact .inr ⟨by omega, ht h1' h2'⟩
  tri x y := by
    rw [cmN_less, cmN_less]
    by_cases hx : x.1 = 0 <;> by_cases hy : y.1 = 0
    · rcases ordS.tri x.2 y.2 with h | h | h
      · exact .inl (.inr ⟨by simp [hx, hy], .inr ⟨by omega, h⟩⟩)
      · exact .inr (.inl (Prod.ext (by omega) h))
      · exact .inr (.inr (.inr ⟨by simp [hx, hy], .inr ⟨by omega, h⟩⟩))
    · exact .inr (.inr (.inl ⟨hy, hx⟩))
    · exact .inl (.inl ⟨hx, hy⟩)
    · rcases Nat.lt_trichotomy x.1 y.1 with h | h | h
      · exact .inl (.inr ⟨by simp [hx, hy], .inl h⟩)
      · rcases ordS.tri x.2 y.2 with h' | h' | h'
        · exact .inl (.inr ⟨by simp [hx, hy], .inr ⟨h, h'⟩⟩)
        · exact .inr (.inl (Prod.ext h h'))
        · exact .inr (.inr (.inr ⟨by simp [hx, hy], .inr ⟨h.symm, h'⟩⟩))
      · exact .inr (.inr (.inr ⟨by simp [hx, hy], .inl h⟩))
/-- The references of a tree, in the order of its nodes. -/
def rkOf (th : Int) (nm : ByteArray) : RK := (th, nm)
theorem thI_rk {th : Int} {nm : ByteArray} (h : -1 ≤ th) : thI (rkOf th nm) = th := rfl
def nkOf (th : Int) (nm : ByteArray) : NK := ((th + 1).toNat, nm)
theorem un_nk {th : Int} {nm : ByteArray} (h : -1 ≤ th) : unN (nkOf th nm) = rkOf th nm := by unfold unN nkOf rkOf; simp; omega
def refsN (ns : List Nd) : List NK := (ns.filter fun n => n.op == 2).map fun n => nkOf n.th n.nm
theorem refsN_snoc (ns : List Nd) (n : Nd) : refsN (ns ++ [n]) = refsN ns ++ (if n.op = 2 then [nkOf n.th n.nm] else []) := by
  unfold refsN
  rw [List.filter_append, List.map_append]
  by_cases h : n.op = 2
  · simp [h]
  · simp [h]
/-- Whether a tree holds. -/
def Tr.ev (val : RK → Int) : Tr → Bool
  | .tru => true
  | .is th nm v => val (rkOf th nm) == v
  | .not t => !t.ev val
  | .and x y => x.ev val && y.ev val
  | .or x y => x.ev val || y.ev val
/-- An equation of a tree. -/
def InT (th : Int) (nm : ByteArray) (v : Int) : Tr → Prop
  | .tru => False
  | .is a b c => (.is a b c : Tr) = .is th nm v
  | .not t => InT th nm v t
  | .and x y => InT th nm v x ∨ InT th nm v y
  | .or x y => InT th nm v x ∨ InT th nm v y
end Go.Proofs.Ytcmkoffamolgmaa

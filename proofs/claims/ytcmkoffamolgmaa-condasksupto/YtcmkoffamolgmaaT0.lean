/- Conditions as trees: nodes, the fold that makes a tree of them, its depth and its text. No program is named. -/
import Derived.ProofKit
namespace Go.Proofs.Ytcmkoffamolgmaa
set_option linter.unusedSimpArgs false
set_option linter.unusedVariables false

/-- A node of a condition. -/
structure Nd where
  op : Int
  a : Int
  b : Int
  th : Int
  nm : ByteArray
  val : Int
def noName : ByteArray := ⟨#[]⟩
inductive Tr where
  | tru
  | is (th : Int) (nm : ByteArray) (v : Int)
  | not (t : Tr)
  | and (x y : Tr)
  | or (x y : Tr)
def Tr.sz : Tr → Nat
  | .tru => 1
  | .is _ _ _ => 1
  | .not t => t.sz + 1
  | .and x y => x.sz + y.sz + 1
  | .or x y => x.sz + y.sz + 1
theorem Tr.pos : ∀ t : Tr, 0 < t.sz
  | .tru => by simp [Tr.sz]
  | .is _ _ _ => by simp [Tr.sz]
  | .not _ => by simp [Tr.sz]
  | .and _ _ => by simp [Tr.sz]
  | .or _ _ => by simp [Tr.sz]
def Tr.op : Tr → Int
  | .tru => 1
  | .is _ _ _ => 2
  | .not _ => 3
  | .and _ _ => 4
  | .or _ _ => 5
/-- Whether a name may stand in a condition, and its thread. -/
def refOk (nb : ByteArray → Bool) (th : Int) (nm : ByteArray) : Prop := -1 ≤ th ∧ th ≤ 9999 ∧ nb nm = true
/-- A tree's nodes stand from a place on. -/
def At (nb : ByteArray → Bool) (ns : List Nd) : Tr → Nat → Prop
  | .tru, lo => ns[lo]? = some ⟨1, 0, 0, 0, noName, 0⟩
  | .is th nm v, lo => ns[lo]? = some ⟨2, 0, 0, th, nm, v⟩ ∧ refOk nb th nm
  | .not t, lo => At nb ns t lo ∧ ns[lo + t.sz]? = some ⟨3, ((lo + t.sz - 1 : Nat) : Int), 0, 0, noName, 0⟩
  | .and x y, lo => At nb ns x lo ∧ At nb ns y (lo + x.sz) ∧ ns[lo + x.sz + y.sz]? = some ⟨4, ((lo + x.sz - 1 : Nat) : Int), ((lo + x.sz + y.sz - 1 : Nat) : Int), 0, noName, 0⟩
  | .or x y, lo => At nb ns x lo ∧ At nb ns y (lo + x.sz) ∧ ns[lo + x.sz + y.sz]? = some ⟨5, ((lo + x.sz - 1 : Nat) : Int), ((lo + x.sz + y.sz - 1 : Nat) : Int), 0, noName, 0⟩
/-- The place of a tree's last node. -/
def Tr.root (t : Tr) (lo : Nat) : Nat := lo + t.sz - 1
theorem At.root {nb : ByteArray → Bool} {ns : List Nd} : ∀ {t : Tr} {lo : Nat}, At nb ns t lo → ∃ n, ns[t.root lo]? = some n ∧ n.op = t.op
  | .tru, lo, h => ⟨_, h, rfl⟩
  | .is _ _ _, lo, h => ⟨_, h.1, rfl⟩
  | .not t, lo, h => ⟨_, h.2, rfl⟩
  | .and x y, lo, h => ⟨_, (by rw [show (Tr.and x y).root lo = lo + x.sz + y.sz by simp only [Tr.root, Tr.sz]; omega]; exact h.2.2), rfl⟩
  | .or x y, lo, h => ⟨_, (by rw [show (Tr.or x y).root lo = lo + x.sz + y.sz by simp only [Tr.root, Tr.sz]; omega]; exact h.2.2), rfl⟩
theorem At.lt {nb : ByteArray → Bool} {ns : List Nd} {t : Tr} {lo : Nat} (h : At nb ns t lo) : lo + t.sz ≤ ns.length := by
  obtain ⟨n, h, _⟩ := h.root
  have := (List.getElem?_eq_some_iff.1 h).1
  have := t.pos
  unfold Tr.root at *
  omega

/-- A node is put onto the trees ahead of it. -/
def stepT (nb : ByteArray → Bool) (st : List Tr) (i : Nat) (n : Nd) : Option (List Tr) :=
  if n.op = 1 then (if n.a = 0 ∧ n.b = 0 ∧ n.th = 0 ∧ n.nm = noName ∧ n.val = 0 then some (.tru :: st) else none)
  else if n.op = 2 then (if n.a = 0 ∧ n.b = 0 ∧ -1 ≤ n.th ∧ n.th ≤ 9999 ∧ nb n.nm = true then some (.is n.th n.nm n.val :: st) else none)
  else if n.op = 3 then match st with
    | t :: r => if n.a = (i : Int) - 1 ∧ n.b = 0 ∧ n.th = 0 ∧ n.nm = noName ∧ n.val = 0 then some (.not t :: r) else none
    | [] => none
  else if n.op = 4 then match st with
    | y :: x :: r => if n.a = (i : Int) - y.sz - 1 ∧ n.b = (i : Int) - 1 ∧ n.th = 0 ∧ n.nm = noName ∧ n.val = 0 then some (.and x y :: r) else none
    | _ => none
  else if n.op = 5 then match st with
    | y :: x :: r => if n.a = (i : Int) - y.sz - 1 ∧ n.b = (i : Int) - 1 ∧ n.th = 0 ∧ n.nm = noName ∧ n.val = 0 then some (.or x y :: r) else none
    | _ => none
  else none
def foldT (nb : ByteArray → Bool) : List Nd → Nat → List Tr → Option (List Tr)
  | [], _, st => some st
  | n :: ns, i, st => match stepT nb st i n with
    | none => none
    | some st' => foldT nb ns (i + 1) st'
/-- The trees stand one behind the other, the last one first in the list. -/
def Stand (nb : ByteArray → Bool) (ns : List Nd) : List Tr → Nat → Prop
  | [], i => i = 0
  | t :: r, i => t.sz ≤ i ∧ At nb ns t (i - t.sz) ∧ Stand nb ns r (i - t.sz)

theorem stand_step {nb : ByteArray → Bool} {ns : List Nd} {st st' : List Tr} {i : Nat} {n : Nd} (hS : Stand nb ns st i) (hn : ns[i]? = some n) (h : stepT nb st i n = some st') : Stand nb ns st' (i + 1) := by
  obtain ⟨op, a, b, th, nm, val⟩ := n
  unfold stepT at h
  split at h
  · rename_i h1
    split at h
    · rename_i h2
      obtain ⟨x1, x2, x3, x4, x5⟩ := h2
      dsimp only at h1 x1 x2 x3 x4 x5
      subst h1 x1 x2 x3 x4 x5
      cases h
      exact ⟨by simp [Tr.sz], by simpa [Tr.sz, At] using hn, by simpa [Tr.sz] using hS⟩
    · cases h
  · split at h
    · rename_i _ h1
      split at h
      · rename_i h2
        obtain ⟨x1, x2, x3, x4, x5⟩ := h2
        dsimp only at h1 x1 x2 x3 x4 x5
        subst h1 x1 x2
        cases h
        exact ⟨by simp [Tr.sz], ⟨by simpa [Tr.sz] using hn, x3, x4, x5⟩, by simpa [Tr.sz] using hS⟩
      · cases h
    · split at h
      · rename_i _ _ h1
        rcases st with _ | ⟨t, r⟩
        · cases h
        · obtain ⟨s1, s2, s3⟩ := hS
          dsimp only at h
          split at h
          · rename_i h2
            obtain ⟨x1, x2, x3, x4, x5⟩ := h2
            dsimp only at h1 x1 x2 x3 x4 x5
            subst h1 x2 x3 x4 x5
            cases h
            have hp := t.pos
            refine ⟨by simp [Tr.sz]; omega, ⟨by rw [show i + 1 - (Tr.not t).sz = i - t.sz by simp [Tr.sz]]; exact s2, ?_⟩, by rw [show i + 1 - (Tr.not t).sz = i - t.sz by simp [Tr.sz]]; exact s3⟩
            rw [show i + 1 - (Tr.not t).sz + t.sz = i by simp [Tr.sz]; omega, hn]
            congr 2
            rw [x1]; omega
          · cases h
      · split at h
        · rename_i _ _ _ h1
          rcases st with _ | ⟨y, _ | ⟨x, r⟩⟩
          · cases h
          · cases h
          · obtain ⟨s1, s2, s3, s4, s5⟩ := hS
            dsimp only at h
            split at h
            · rename_i h2
              obtain ⟨x1, x2, x3, x4, x5⟩ := h2
              dsimp only at h1 x1 x2 x3 x4 x5
              subst h1 x3 x4 x5
              cases h
              have hp := x.pos
              have hq := y.pos
              have e1 : i + 1 - (Tr.and x y).sz = i - y.sz - x.sz := by simp [Tr.sz]; omega
              have e2 : i - y.sz - x.sz + x.sz = i - y.sz := by omega
              have e3 : i - y.sz + y.sz = i := by omega
              refine ⟨by simp [Tr.sz]; omega, ⟨by rw [e1]; exact s4, by rw [e1, e2]; exact s2, ?_⟩, by rw [e1]; exact s5⟩
              rw [e1, e2, e3, hn]
              congr 2
              · rw [x1]; omega
              · rw [x2]; omega
            · cases h
        · split at h
          · rename_i _ _ _ _ h1
            rcases st with _ | ⟨y, _ | ⟨x, r⟩⟩
            · cases h
            · cases h
            · obtain ⟨s1, s2, s3, s4, s5⟩ := hS
              dsimp only at h
              split at h
              · rename_i h2
                obtain ⟨x1, x2, x3, x4, x5⟩ := h2
                dsimp only at h1 x1 x2 x3 x4 x5
                subst h1 x3 x4 x5
                cases h
                have hp := x.pos
                have hq := y.pos
                have e1 : i + 1 - (Tr.or x y).sz = i - y.sz - x.sz := by simp [Tr.sz]; omega
                have e2 : i - y.sz - x.sz + x.sz = i - y.sz := by omega
                have e3 : i - y.sz + y.sz = i := by omega
                refine ⟨by simp [Tr.sz]; omega, ⟨by rw [e1]; exact s4, by rw [e1, e2]; exact s2, ?_⟩, by rw [e1]; exact s5⟩
                rw [e1, e2, e3, hn]
                congr 2
                · rw [x1]; omega
                · rw [x2]; omega
              · cases h
          · cases h
theorem stand_fold {nb : ByteArray → Bool} {all : List Nd} : ∀ (ns : List Nd) (i : Nat) (st st' : List Tr), all.drop i = ns → Stand nb all st i → foldT nb ns i st = some st' → Stand nb all st' (i + ns.length)
  | [], i, st, st', hd, hS, h => by cases h; exact hS
  | n :: ns, i, st, st', hd, hS, h => by
    have hn : all[i]? = some n := by have : (all.drop i)[0]? = some n := by rw [hd]; rfl
                                     simpa using this
    have hd' : all.drop (i + 1) = ns := by rw [← List.tail_drop, hd]; rfl
    unfold foldT at h
    split at h
    · cases h
    · rename_i st1 h1
      have := stand_fold ns (i + 1) st1 st' hd' (stand_step hS hn h1) h
      rw [List.length_cons, show i + (ns.length + 1) = i + 1 + ns.length by omega]
      exact this
/-- Nodes make a condition: this one. -/
def treeOf (nb : ByteArray → Bool) (ns : List Nd) : Option Tr :=
  if ns.length < 1 ∨ 1024 < ns.length then none
  else match foldT nb ns 0 [] with
    | some [t] => some t
    | _ => none
theorem tree_at {nb : ByteArray → Bool} {ns : List Nd} {t : Tr} (h : treeOf nb ns = some t) : At nb ns t 0 ∧ t.sz = ns.length ∧ 1 ≤ ns.length ∧ ns.length ≤ 1024 := by
  unfold treeOf at h
  split at h
  · cases h
  · rename_i hl
    split at h
    · rename_i t' hf
      cases h
      have := stand_fold (all := ns) ns 0 [] _ List.drop_zero rfl hf
      obtain ⟨s1, s2, s3⟩ := this
      have s3' : 0 + ns.length - t.sz = 0 := s3
      rw [s3'] at s2
      exact ⟨s2, by omega, by omega, by omega⟩
    · cases h

/-- Whether a part stands in brackets. -/
def brk (outer inner : Int) (second : Bool) : Bool :=
  if outer = 3 then inner == 4 || inner == 5
  else if outer = 4 then inner == 5 || (second && inner == 4)
  else second && inner == 5
def b2n (b : Bool) : Nat := if b then 1 else 0
def Tr.deep : Tr → Nat
  | .tru => 0
  | .is _ _ _ => 0
  | .not t => t.deep + b2n (brk 3 t.op false) + 1
  | .and x y => max (x.deep + b2n (brk 4 x.op false)) (y.deep + b2n (brk 4 y.op true))
  | .or x y => max (x.deep + b2n (brk 5 x.op false)) (y.deep + b2n (brk 5 y.op true))
theorem Tr.deep_le : ∀ t : Tr, t.deep ≤ 2 * t.sz
  | .tru => by simp [Tr.deep]
  | .is _ _ _ => by simp [Tr.deep]
  | .not t => by have := t.deep_le; simp only [Tr.deep, Tr.sz, b2n]; split <;> omega
  | .and x y => by have := x.deep_le; have := y.deep_le; have := x.pos; have := y.pos; simp only [Tr.deep, Tr.sz, b2n]; split <;> split <;> omega
  | .or x y => by have := x.deep_le; have := y.deep_le; have := x.pos; have := y.pos; simp only [Tr.deep, Tr.sz, b2n]; split <;> split <;> omega
def wrapB (b : Bool) (l : List UInt8) : List UInt8 := if b then 40 :: (l ++ [41]) else l
/-- A condition's text; numbers as a given function writes them. -/
def Tr.text (nt : Int → List UInt8) : Tr → List UInt8
  | .tru => [116, 114, 117, 101]
  | .is th nm v => (if th = -1 then nm.data.toList else nt th ++ 58 :: nm.data.toList) ++ 61 :: nt v
  | .not t => 126 :: wrapB (brk 3 t.op false) (t.text nt)
  | .and x y => wrapB (brk 4 x.op false) (x.text nt) ++ [32, 47, 92, 32] ++ wrapB (brk 4 y.op true) (y.text nt)
  | .or x y => wrapB (brk 5 x.op false) (x.text nt) ++ [32, 92, 47, 32] ++ wrapB (brk 5 y.op true) (y.text nt)
theorem wrapB_le (b : Bool) (l : List UInt8) : (wrapB b l).length ≤ l.length + 2 := by unfold wrapB; split <;> simp
/-- Check's answer. -/
def checkF (nb : ByteArray → Bool) (ns : List Nd) : Int := match treeOf nb ns with
  | none => 60
  | some t => if 64 < t.deep then 2 else 0
end Go.Proofs.Ytcmkoffamolgmaa

/- Several texts in one: K7, V0. -/
import Derived.Test.YtjnbhcakfenbhaaGreatDoorQam
import Derived.Test.YtjnbhcakfenbhaaGreatDoorQan
/- add, where there are too many nodes already. -/
namespace Go.Proofs.YtjnbhcakfenbhaaGreatDoor
open Go.RowKit Go.Shelf M
set_option linter.unusedSimpArgs false
set_option linter.unusedVariables false

theorem ldCd {b o : Nat} {v : Value} (w : World) (h : w.cell? ⟨b, o, none⟩ = some v) : (Instr.loadAt 23 (.pointer (some ⟨b, o, none⟩))).run Tryz.prog w = .ok v w := by simp [go_sem, h]
set_option maxRecDepth 100000 in
set_option maxHeartbeats 1000000 in
theorem add_no (a : Option Addr) (cap k d : Nat) (a0 : Option Addr) (c0 : Nat) (nd : Nd) (gs : List GT) (hn : gs.length ≤ 1099511627776) (hk : k ≤ 1099511627776) (br : Nat) (w : World) (hT : Toks w a gs) (hR : IsS w br 94 (rdL a gs.length cap (k + 1) d (.slice a0 1024 c0))) :
    Calls Tryz.prog 86 #[.pointer (some ⟨br, 0, none⟩), .agg (ndL nd).toArray] w fun en w' => Thrown w (gEnd gs k).line (gEnd gs k).col 1 en w' ∧ Below w.heap.size w w' := by
  have cT := fun W h1 h2 => throw_any a cap (k + 1) d (.slice a0 1024 c0) gs hn k hk 1 br W h1 h2
  have hbr := hR.lt
  go_enter Tryz.func86, Tryz.ntmps86
  go_wp2_with (first
    | (refine wpList_boxS rfl 62 _ rfl (ndL nd) rfl ?_; intro W1 b3 F1 N1; have B1 := F1.trans (Below.refl _ w) (Nat.le_refl _); have R1 := hR.fresh F1; have c3 : W1.cell? ⟨br, 3, none⟩ = some (.slice a0 1024 c0) := R1.cell 3; have c1 : W1.cell? ⟨br, 1, none⟩ = some (.int .i64 ((k : Int) + 1)) := R1.cell 1; clear F1)
    | (go_at_call 110; refine (cT W1 (hT.below B1) R1).mono ?_; rintro en W2 ⟨⟨bp, rfl, hb, hI⟩, B2⟩))
  exact ⟨rfl, ⟨bp, rfl, Nat.le_trans B1.size hb, hI⟩, Below.then B1 B2⟩
end Go.Proofs.YtjnbhcakfenbhaaGreatDoor
/- What a reader of conditions does, in plain mathematics. -/
namespace Go.Proofs.YtjnbhcakfenbhaaGreatDoor
open Go.RowKit Go.Shelf M
set_option linter.unusedSimpArgs false
set_option linter.unusedVariables false

/-- Where a reader stands: the next token, how many ( and ~ are open, its nodes, and what it found wrong. -/
structure CS where
  k : Nat
  deep : Int
  nodes : List Nd
  F : Option (Int × Int × Int)
def isT (gs : List GT) (σ : CS) (on : Nat) (kd : Int) (x : List UInt8) : Bool := σ.F.isNone && (decide (σ.k + on < gs.length) && ((gAt gs (σ.k + on)).kind == kd && (gAt gs (σ.k + on)).text.data.toList == x))
def failC (σ : CS) (g : GT) (e : Int) : CS := if σ.F.isSome = true then σ else ⟨σ.k, σ.deep, σ.nodes, some (g.line, g.col, e)⟩
def synC (gs : List GT) (σ : CS) : CS := failC σ (gEnd gs σ.k) 70
def takeC (gs : List GT) (σ : CS) : CS := if (σ.F.isSome || decide (gs.length ≤ σ.k)) = true then σ else ⟨σ.k + 1, σ.deep, σ.nodes, σ.F⟩
def signC (gs : List GT) (σ : CS) (x : List UInt8) : CS := if isT gs σ 0 4 x = true then takeC gs σ else synC gs σ
def nameQ (gs : List GT) (σ : CS) : Bool := σ.F.isNone && (decide (σ.k < gs.length) && ((gAt gs σ.k).kind == 1 && nameB (gAt gs σ.k).text.data.toList))
def nameX (gs : List GT) (σ : CS) : ByteArray := if nameQ gs σ = true then (gAt gs σ.k).text else noName
def nameC (gs : List GT) (σ : CS) : CS := if nameQ gs σ = true then takeC gs σ else synC gs σ
def nbrQ (gs : List GT) (σ : CS) : Bool := σ.F.isNone && (decide (σ.k < gs.length) && (gAt gs σ.k).kind == 2)
def nbrX (gs : List GT) (σ : CS) : Int := if nbrQ gs σ = true then (gAt gs σ.k).value else 0
def nbrC (gs : List GT) (σ : CS) : CS := if nbrQ gs σ = true then takeC gs σ else synC gs σ
def nodeI (σ : CS) : Int := if (σ.F.isSome || decide (σ.nodes.length = 1024)) = true then 0 else σ.nodes.length
def nodeC (gs : List GT) (σ : CS) (nd : Nd) : CS := if σ.F.isSome = true then σ else if σ.nodes.length = 1024 then failC σ (gAt gs (σ.k - 1)) 1 else ⟨σ.k, σ.deep, σ.nodes ++ [nd], none⟩
def openC (gs : List GT) (σ : CS) : CS := if 64 ≤ σ.deep then failC σ (gAt gs σ.k) 2 else takeC gs ⟨σ.k, σ.deep + 1, σ.nodes, σ.F⟩
def outC (σ : CS) : CS := ⟨σ.k, σ.deep - 1, σ.nodes, σ.F⟩
/-- What digits say, if there are one to four of them and nothing else. -/
def digs : List UInt8 → Nat → Option Nat
  | [], n => some n
  | c :: r, n => if 48 ≤ c.toNat ∧ c.toNat ≤ 57 then digs r (10 * n + (c.toNat - 48)) else none
def thrF (l : List UInt8) : Option Nat := if l.length = 0 ∨ 4 < l.length then none else digs l 0
def thrQ (gs : List GT) (σ : CS) : Option Nat := if σ.k < gs.length ∧ (gAt gs σ.k).kind = 2 then thrF (gAt gs σ.k).text.data.toList else none
/-- A reference: its thread, its name, and what comes behind. -/
def refC (gs : List GT) (σ : CS) : CS :=
  if isT gs σ 0 4 [91] = true then signC gs (nameC gs (takeC gs σ)) [93]
  else match thrQ gs σ with
    | some n => nameC gs (signC gs (takeC gs σ) [58])
    | none => nameC gs σ
def refT (gs : List GT) (σ : CS) : Int :=
  if isT gs σ 0 4 [91] = true then -1
  else match thrQ gs σ with
    | some n => n
    | none => -1
def refN (gs : List GT) (σ : CS) : ByteArray :=
  if isT gs σ 0 4 [91] = true then nameX gs (takeC gs σ)
  else match thrQ gs σ with
    | some n => nameX gs (signC gs (takeC gs σ) [58])
    | none => nameX gs σ
def eqS (gs : List GT) (σ : CS) : CS := signC gs (refC gs σ) [61]
def eqN (gs : List GT) (σ : CS) : Nd := ⟨2, 0, 0, refT gs σ, refN gs σ, nbrX gs (eqS gs σ)⟩
def eqC (gs : List GT) (σ : CS) : CS := nodeC gs (nbrC gs (eqS gs σ)) (eqN gs σ)
def eqI (gs : List GT) (σ : CS) : Int := nodeI (nbrC gs (eqS gs σ))
def wTrue : List UInt8 := [116, 114, 117, 101]
def sgnOf (lvl : Nat) : List UInt8 := if lvl = 0 then [47, 92] else [92, 47]
def opOf (lvl : Nat) : Int := if lvl = 0 then 4 else 5
def nd2 (op a b : Int) : Nd := ⟨op, a, b, 0, noName, 0⟩
/-- The reader: parts of a level, or what comes behind the first of them. -/
def goC (gs : List GT) : Nat → Option Int → Nat → CS → Int × CS
  | 0, _, _, σ => (0, σ)
  | f + 1, some a, lvl, σ =>
    if isT gs σ 0 4 (sgnOf lvl) = true then
      goC gs f (some (nodeI (goC gs f none lvl (takeC gs σ)).2)) lvl (nodeC gs (goC gs f none lvl (takeC gs σ)).2 (nd2 (opOf lvl) a (goC gs f none lvl (takeC gs σ)).1))
    else (a, σ)
  | f + 1, none, lvl + 1, σ => goC gs f (some (goC gs f none lvl σ).1) lvl (goC gs f none lvl σ).2
  | f + 1, none, 0, σ =>
    if σ.F.isSome = true then (0, σ)
    else if isT gs σ 0 4 [126] = true then (nodeI (outC (goC gs f none 0 (openC gs σ)).2), nodeC gs (outC (goC gs f none 0 (openC gs σ)).2) (nd2 3 (goC gs f none 0 (openC gs σ)).1 0))
    else if isT gs σ 0 4 [40] = true then ((goC gs f none 2 (openC gs σ)).1, outC (signC gs (goC gs f none 2 (openC gs σ)).2 [41]))
    else if (isT gs σ 0 1 wTrue && !isT gs σ 1 4 [61]) = true then (nodeI (takeC gs σ), nodeC gs (takeC gs σ) (nd2 1 0 0))
    else (eqI gs σ, eqC gs σ)

/-- Nothing is wrong so far; the place is one of the list's. -/
structure Ok (gs : List GT) (σ : CS) : Prop where
  F : σ.F = none
  k : σ.k ≤ gs.length
def need (gs : List GT) (m : Option Int) (lvl : Nat) (σ : CS) : Nat := 4 * (gs.length - σ.k) + (match m with | none => lvl + 1 | some _ => 1)
/-- What comes behind a state: the place does not go back, a fault stays. -/
structure On (gs : List GT) (σ σ' : CS) : Prop where
  k : σ.k ≤ σ'.k
  len : σ.k ≤ gs.length → σ'.k ≤ gs.length
  F : ∀ f, σ.F = some f → σ'.F = some f
theorem On.refl (gs : List GT) (σ : CS) : On gs σ σ := ⟨Nat.le_refl _, id, fun _ h => h⟩
theorem On.trans {gs : List GT} {a b c : CS} (h : On gs a b) (h' : On gs b c) : On gs a c := ⟨Nat.le_trans h.k h'.k, fun x => h'.len (h.len x), fun f x => h'.F f (h.F f x)⟩
theorem on_fail (gs : List GT) (σ : CS) (g : GT) (e : Int) : On gs σ (failC σ g e) := by
  unfold failC; split
  · exact On.refl _ _
  · rename_i h
    refine ⟨Nat.le_refl _, id, fun f hf => ?_⟩
    rw [hf] at h; exact absurd rfl h
theorem on_take (gs : List GT) (σ : CS) : On gs σ (takeC gs σ) := by
  unfold takeC; split
  · exact On.refl _ _
  · rename_i h
    refine ⟨Nat.le_succ _, fun _ => ?_, fun f hf => hf⟩
    simp only [Bool.or_eq_true, decide_eq_true_eq, not_or] at h
    show σ.k + 1 ≤ gs.length
    omega
theorem on_sign (gs : List GT) (σ : CS) (x : List UInt8) : On gs σ (signC gs σ x) := by unfold signC; split; exact on_take gs σ; exact on_fail gs σ _ _
theorem on_name (gs : List GT) (σ : CS) : On gs σ (nameC gs σ) := by unfold nameC; split; exact on_take gs σ; exact on_fail gs σ _ _
theorem on_nbr (gs : List GT) (σ : CS) : On gs σ (nbrC gs σ) := by unfold nbrC; split; exact on_take gs σ; exact on_fail gs σ _ _
theorem on_node (gs : List GT) (σ : CS) (nd : Nd) : On gs σ (nodeC gs σ nd) := by
  unfold nodeC; split
  · exact On.refl _ _
  · split
    · exact on_fail gs σ _ _
    · rename_i h _
      exact ⟨Nat.le_refl _, id, fun f hf => by rw [hf] at h; exact absurd rfl h⟩
theorem on_open (gs : List GT) (σ : CS) : On gs σ (openC gs σ) := by
  unfold openC; split
  · exact on_fail gs σ _ _
  · exact ⟨(on_take gs ⟨σ.k, σ.deep + 1, σ.nodes, σ.F⟩).k, (on_take gs ⟨σ.k, σ.deep + 1, σ.nodes, σ.F⟩).len, (on_take gs ⟨σ.k, σ.deep + 1, σ.nodes, σ.F⟩).F⟩
theorem on_out (gs : List GT) (σ : CS) : On gs σ (outC σ) := ⟨Nat.le_refl _, id, fun _ h => h⟩
theorem on_ref (gs : List GT) (σ : CS) : On gs σ (refC gs σ) := by
  unfold refC; split
  · exact (on_take gs σ).trans ((on_name gs _).trans (on_sign gs _ _))
  · split
    · exact (on_take gs σ).trans ((on_sign gs _ _).trans (on_name gs _))
    · exact on_name gs σ
theorem on_eqS (gs : List GT) (σ : CS) : On gs σ (eqS gs σ) := (on_ref gs σ).trans (on_sign gs _ _)
theorem on_eq (gs : List GT) (σ : CS) : On gs σ (eqC gs σ) := (on_eqS gs σ).trans ((on_nbr gs _).trans (on_node gs _ _))
theorem on_go (gs : List GT) : ∀ (f : Nat) (m : Option Int) (lvl : Nat) (σ : CS), On gs σ (goC gs f m lvl σ).2
  | 0, _, _, σ => On.refl gs σ
  | f + 1, some a, lvl, σ => by
    unfold goC
    split
    · exact (on_take gs σ).trans ((on_go gs f none lvl _).trans ((on_node gs _ _).trans (on_go gs f _ lvl _)))
    · exact On.refl gs σ
  | f + 1, none, lvl + 1, σ => by
    unfold goC
    exact (on_go gs f none lvl σ).trans (on_go gs f _ lvl _)
  | f + 1, none, 0, σ => by
    unfold goC
    split
    · exact On.refl gs σ
    · split
      · exact (on_open gs σ).trans ((on_go gs f none 0 _).trans ((on_out gs _).trans (on_node gs _ _)))
      · split
        · exact (on_open gs σ).trans ((on_go gs f none 2 _).trans ((on_sign gs _ _).trans (on_out gs _)))
        · split
          · exact (on_take gs σ).trans (on_node gs _ _)
          · exact on_eq gs σ
/-- A state in which something is wrong stays as it is. -/
theorem go_bad (gs : List GT) {σ : CS} {x : Int × Int × Int} (h : σ.F = some x) : ∀ (f : Nat) (m : Option Int) (lvl : Nat), (goC gs f m lvl σ).2.F = some x := fun f m lvl => (on_go gs f m lvl σ).F x h

/-- Where nothing is wrong behind an operation, nothing was wrong ahead of it, and as many are open as before. -/
structure Kp (σ σ' : CS) : Prop where
  F : σ'.F = none → σ.F = none
  deep : σ'.F = none → σ'.deep = σ.deep
theorem Kp.refl (σ : CS) : Kp σ σ := ⟨id, fun _ => rfl⟩
theorem Kp.trans {a b c : CS} (h : Kp a b) (h' : Kp b c) : Kp a c := ⟨fun x => h.F (h'.F x), fun x => (h'.deep x).trans (h.deep (h'.F x))⟩
theorem kp_fail (σ : CS) (g : GT) (e : Int) : Kp σ (failC σ g e) := by
  unfold failC; split
  · exact Kp.refl σ
  · exact ⟨fun h => by simp at h, fun h => by simp at h⟩
theorem fail_not {σ : CS} {g : GT} {e : Int} : (failC σ g e).F ≠ none := by
  unfold failC; split
  · rename_i h; intro e; rw [e] at h; cases h
  · intro h; cases h
theorem kp_take (gs : List GT) (σ : CS) : Kp σ (takeC gs σ) := by unfold takeC; split; exact Kp.refl σ; exact ⟨id, fun _ => rfl⟩
theorem kp_sign (gs : List GT) (σ : CS) (x : List UInt8) : Kp σ (signC gs σ x) := by unfold signC; split; exact kp_take gs σ; exact kp_fail σ _ _
theorem kp_name (gs : List GT) (σ : CS) : Kp σ (nameC gs σ) := by unfold nameC; split; exact kp_take gs σ; exact kp_fail σ _ _
theorem kp_nbr (gs : List GT) (σ : CS) : Kp σ (nbrC gs σ) := by unfold nbrC; split; exact kp_take gs σ; exact kp_fail σ _ _
theorem kp_node (gs : List GT) (σ : CS) (nd : Nd) : Kp σ (nodeC gs σ nd) := by
  unfold nodeC; split
  · exact Kp.refl σ
  · split
    · exact kp_fail σ _ _
    · rename_i h _
      exact ⟨fun _ => by simpa using h, fun _ => rfl⟩
theorem open_deep {gs : List GT} {σ : CS} (h : (openC gs σ).F = none) : σ.F = none ∧ (openC gs σ).deep = σ.deep + 1 ∧ σ.deep < 64 := by
  unfold openC at *
  split at h
  · exact absurd h fail_not
  · rename_i hd
    have := kp_take gs ⟨σ.k, σ.deep + 1, σ.nodes, σ.F⟩
    rw [if_neg hd]
    exact ⟨this.F h, this.deep h, by omega⟩
theorem kp_ref (gs : List GT) (σ : CS) : Kp σ (refC gs σ) := by
  unfold refC; split
  · exact (kp_take gs σ).trans ((kp_name gs _).trans (kp_sign gs _ _))
  · split
    · exact (kp_take gs σ).trans ((kp_sign gs _ _).trans (kp_name gs _))
    · exact kp_name gs σ
theorem kp_eqS (gs : List GT) (σ : CS) : Kp σ (eqS gs σ) := (kp_ref gs σ).trans (kp_sign gs _ _)
theorem kp_eq (gs : List GT) (σ : CS) : Kp σ (eqC gs σ) := (kp_eqS gs σ).trans ((kp_nbr gs _).trans (kp_node gs _ _))
theorem kp_go (gs : List GT) : ∀ (f : Nat) (m : Option Int) (lvl : Nat) (σ : CS), Kp σ (goC gs f m lvl σ).2
  | 0, _, _, σ => Kp.refl σ
  | f + 1, some a, lvl, σ => by
    unfold goC
    split
    · exact (kp_take gs σ).trans ((kp_go gs f none lvl _).trans ((kp_node gs _ _).trans (kp_go gs f _ lvl _)))
    · exact Kp.refl σ
  | f + 1, none, lvl + 1, σ => by
    unfold goC
    exact (kp_go gs f none lvl σ).trans (kp_go gs f _ lvl _)
  | f + 1, none, 0, σ => by
    unfold goC
    split
    · exact Kp.refl σ
    · split
      · have h1 := kp_go gs f none 0 (openC gs σ)
        have h2 := kp_node gs (outC (goC gs f none 0 (openC gs σ)).2) (nd2 3 (goC gs f none 0 (openC gs σ)).1 0)
        refine ⟨fun h => (open_deep (h1.F (h2.F h))).1, fun h => ?_⟩
        have e1 := h2.deep h
        have e2 := h1.deep (h2.F h)
        have e3 := (open_deep (h1.F (h2.F h))).2.1
        rw [e1]
        show (goC gs f none 0 (openC gs σ)).2.deep - 1 = _
        rw [e2, e3]; omega
      · split
        · have h1 := kp_go gs f none 2 (openC gs σ)
          have h2 := kp_sign gs (goC gs f none 2 (openC gs σ)).2 [41]
          refine ⟨fun h => (open_deep (h1.F (h2.F h))).1, fun h => ?_⟩
          have e1 := h2.deep h
          have e2 := h1.deep (h2.F h)
          have e3 := (open_deep (h1.F (h2.F h))).2.1
          show (signC gs (goC gs f none 2 (openC gs σ)).2 [41]).deep - 1 = _
          rw [e1, e2, e3]; omega
        · split
          · exact (kp_take gs σ).trans (kp_node gs _ _)
          · exact kp_eq gs σ
theorem take_more {gs : List GT} {σ : CS} (hF : σ.F = none) (hk : σ.k < gs.length) : takeC gs σ = ⟨σ.k + 1, σ.deep, σ.nodes, none⟩ := by
  unfold takeC
  rw [hF]
  have : decide (gs.length ≤ σ.k) = false := by simp; omega
  rw [this]; rfl
theorem isT_lt {gs : List GT} {σ : CS} {on : Nat} {kd : Int} {x : List UInt8} (h : isT gs σ on kd x = true) : σ.F = none ∧ σ.k + on < gs.length := by
  unfold isT at h
  simp only [Bool.and_eq_true, Option.isNone_iff_eq_none, decide_eq_true_eq] at h
  exact ⟨h.1, h.2.1⟩
theorem nbr_more {gs : List GT} {σ : CS} (h : (nbrC gs σ).F = none) : σ.k < (nbrC gs σ).k := by
  unfold nbrC at *
  split at h
  · rename_i hq
    unfold nbrQ at hq
    simp only [Bool.and_eq_true, Option.isNone_iff_eq_none, decide_eq_true_eq] at hq
    rw [if_pos (by unfold nbrQ; simp [hq]), take_more hq.1 hq.2.1]
    exact Nat.lt_succ_self _
  · exact absurd h fail_not
theorem eq_more {gs : List GT} {σ : CS} (h : (nbrC gs (eqS gs σ)).F = none) : σ.k < (nbrC gs (eqS gs σ)).k := Nat.lt_of_le_of_lt (on_eqS gs σ).k (nbr_more h)
/-- What was read had a token at least. -/
theorem go_more (gs : List GT) : ∀ (f : Nat) (lvl : Nat) (σ : CS), lvl < f → (goC gs f none lvl σ).2.F = none → σ.k < (goC gs f none lvl σ).2.k
  | 0, _, _, h, _ => by omega
  | f + 1, lvl + 1, σ, h, hF => by
    unfold goC at *
    have h1 := kp_go gs f (some (goC gs f none lvl σ).1) lvl (goC gs f none lvl σ).2
    exact Nat.lt_of_lt_of_le (go_more gs f lvl σ (by omega) (h1.F hF)) (on_go gs f _ lvl _).k
  | f + 1, 0, σ, h, hF => by
    unfold goC at *
    split at hF
    · rename_i hs
      dsimp only at hF
      rw [hF] at hs; cases hs
    · rename_i h0
      rw [if_neg h0]
      split at hF
      · rename_i h1
        rw [if_pos h1]
        have k1 := kp_node gs (outC (goC gs f none 0 (openC gs σ)).2) (nd2 3 (goC gs f none 0 (openC gs σ)).1 0)
        have k2 := (kp_go gs f none 0 (openC gs σ)).F (k1.F hF)
        have k3 := (open_deep k2).2.2
        have k4 : openC gs σ = takeC gs ⟨σ.k, σ.deep + 1, σ.nodes, σ.F⟩ := by unfold openC; rw [if_neg (by omega)]
        have k5 := isT_lt h1
        have k6 : (openC gs σ).k = σ.k + 1 := by rw [k4, take_more (σ := ⟨σ.k, σ.deep + 1, σ.nodes, σ.F⟩) k5.1 (by have := k5.2; show σ.k < _; omega)]
        have k7 := (on_go gs f none 0 (openC gs σ)).k
        have k8 := (on_node gs (outC (goC gs f none 0 (openC gs σ)).2) (nd2 3 (goC gs f none 0 (openC gs σ)).1 0)).k
        have k9 : (outC (goC gs f none 0 (openC gs σ)).2).k = (goC gs f none 0 (openC gs σ)).2.k := rfl
        dsimp only
        omega
      · rename_i h1
        rw [if_neg h1]
        split at hF
        · rename_i h2
          rw [if_pos h2]
          have k1 := kp_sign gs (goC gs f none 2 (openC gs σ)).2 [41]
          have k2 := (kp_go gs f none 2 (openC gs σ)).F (k1.F hF)
          have k3 := (open_deep k2).2.2
          have k4 : openC gs σ = takeC gs ⟨σ.k, σ.deep + 1, σ.nodes, σ.F⟩ := by unfold openC; rw [if_neg (by omega)]
          have k5 := isT_lt h2
          have k6 : (openC gs σ).k = σ.k + 1 := by rw [k4, take_more (σ := ⟨σ.k, σ.deep + 1, σ.nodes, σ.F⟩) k5.1 (by have := k5.2; show σ.k < _; omega)]
          have k7 := (on_go gs f none 2 (openC gs σ)).k
          have k8 := (on_sign gs (goC gs f none 2 (openC gs σ)).2 [41]).k
          have k9 : (outC (signC gs (goC gs f none 2 (openC gs σ)).2 [41])).k = (signC gs (goC gs f none 2 (openC gs σ)).2 [41]).k := rfl
          dsimp only
          omega
        · rename_i h2
          rw [if_neg h2]
          split at hF
          · rename_i h3
            rw [if_pos h3]
            simp only [Bool.and_eq_true] at h3
            have k5 := isT_lt h3.1
            have k8 := (on_node gs (takeC gs σ) (nd2 1 0 0)).k
            rw [take_more k5.1 (by have := k5.2; omega)] at k8 ⊢
            dsimp only at k8 ⊢
            omega
          · rename_i h3
            rw [if_neg h3]
            have k1 := kp_node gs (nbrC gs (eqS gs σ)) (eqN gs σ)
            exact Nat.lt_of_lt_of_le (eq_more (k1.F hF)) (on_node gs _ _).k
end Go.Proofs.YtjnbhcakfenbhaaGreatDoor

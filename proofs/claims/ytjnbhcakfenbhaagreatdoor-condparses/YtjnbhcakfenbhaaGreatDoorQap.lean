/- Several texts in one: V1, Y0. -/
import Derived.Test.YtjnbhcakfenbhaaGreatDoorQao
import Derived.StillTailTactics
import Derived.TacticsInMore
import Derived.OwnWalkIn
import Derived.OrdersIn
import Derived.RangeFuncCalls
/- The program's reader of conditions by the plain reader's steps: sign, number, name, open. -/
namespace Go.Proofs.YtjnbhcakfenbhaaGreatDoor
open Go.RowKit Go.Shelf M
set_option linter.unusedSimpArgs false
set_option linter.unusedVariables false

/-- One block is turned, all others stand; memory may grow. -/
structure Turn (w W : World) (b : Nat) : Prop where
  os : W.os = w.os
  tape : W.tape = w.tape
  output : W.output = w.output
  size : w.heap.size ≤ W.heap.size
  block : ∀ k, k < w.heap.size → k ≠ b → W.heap[k]? = w.heap[k]?
theorem Turn.of_below {w W : World} (h : Below w.heap.size w W) (b : Nat) : Turn w W b := ⟨h.os, h.tape, h.output, h.size, fun k hk _ => h.block k hk⟩
theorem Turn.of_upd {w W : World} {b : Nat} (h : Upd w W b) : Turn w W b := ⟨h.os, h.tape, h.output, by rw [h.size]; exact Nat.le_refl _, fun k _ hk => h.block k hk⟩
theorem Turn.trans {w W W' : World} {b : Nat} (h : Turn w W b) (h' : Turn W W' b) : Turn w W' b :=
  ⟨h'.os.trans h.os, h'.tape.trans h.tape, h'.output.trans h.output, Nat.le_trans h.size h'.size, fun k hk hb => (h'.block k (Nat.lt_of_lt_of_le hk h.size) hb).trans (h.block k hk hb)⟩
theorem Turn.of_step {w W : World} {b : Nat} (h : Step (some b) none none w W) : Turn w W b := ⟨h.os, h.tape, h.output, h.size, fun k hk hb => h.block k hk (fun e => hb (by cases e; rfl)) (fun e => by cases e)⟩
theorem Turn.below {w0 w W : World} {B b : Nat} (h : Below B w0 w) (hB : B ≤ b) (hs : B ≤ w.heap.size) (T : Turn w W b) : Below B w0 W :=
  ⟨T.os.trans h.os, T.tape.trans h.tape, T.output.trans h.output, Nat.le_trans h.size T.size, fun k hk => (T.block k (by omega) (by omega)).trans (h.block k hk)⟩
theorem IsS.turn {w W : World} {b b' t : Nat} {cs : List Value} (h : IsS w b t cs) (T : Turn w W b') (hb : b ≠ b') : IsS W b t cs := (T.block b h.lt hb).trans h
theorem below_lower {B B' : Nat} {w W : World} (h : Below B w W) (hb : B' ≤ B) : Below B' w W := ⟨h.os, h.tape, h.output, h.size, fun k hk => h.block k (by omega)⟩
theorem own_turnN {W W' : World} {base n b t : Nat} {v : Value} {xs cs : List Value} (h : W.ownsRow base 62 6 v n xs) (hc : IsS W b t cs) (ht : t ≠ 62) (T : Turn W W' b) : W'.ownsRow base 62 6 v n xs := by
  refine ⟨h.1, ?_⟩
  rcases h.2 with hn | ⟨g, cap, cur, rfl, hg, hh, rest⟩
  · exact Or.inl hn
  · refine Or.inr ⟨g, cap, cur, rfl, hg, (T.block g (Array.getElem?_eq_some_iff.1 hh).1 ?_).trans hh, rest⟩
    rintro rfl
    rw [show W.heap[g]? = _ from hc] at hh
    cases hh
    exact ht rfl
/-- The program's reader of tokens that lie below a bound, above which all its own lies. -/
structure PC (gs : List GT) (a : Option Addr) (cap base br : Nat) (W : World) (σ : CS) : Prop where
  ex : ∃ (v : Value) (d : Nat), σ.deep = (d : Int) ∧ d ≤ 64 ∧ IsS W br 94 (rdL a gs.length cap σ.k d v) ∧ W.ownsRow base 62 6 v σ.nodes.length (cellsL σ.nodes)
  toks : Toks W a gs
  tb : ∀ b o, a = some ⟨b, o, none⟩ → b < base
  bb : base ≤ br
  sz : base ≤ W.heap.size
  len : σ.nodes.length ≤ 1024
section
variable {gs : List GT} {a : Option Addr} {cap base br : Nat} {w W W' : World} {σ σ' : CS}
theorem PC.lt (h : PC gs a cap base br W σ) : br < W.heap.size := by obtain ⟨v, d, _, _, h1, _⟩ := h.ex; exact h1.lt
theorem toks_low {w W : World} {a : Option Addr} {gs : List GT} {B : Nat} (h : Toks w a gs) (hb : ∀ b o, a = some ⟨b, o, none⟩ → b < B) (hB : Below B w W) : Toks W a gs := fun j g hg => by
  obtain ⟨b, o, h1, h2, h3⟩ := h j g hg
  have hbb := hb b o h1
  refine ⟨b, o, h1, Nat.lt_of_lt_of_le h2 hB.size, fun i v hv => ?_⟩
  rw [hB.cell (p := ⟨b, o + j * 7 + i, none⟩) hbb]
  exact h3 i v hv
theorem PC.turn (h : PC gs a cap base br W σ) (T : Turn W W' br) {v : Value} {d d' : Nat} (hv : IsS W br 94 (rdL a gs.length cap σ.k d v)) (hk : σ'.nodes = σ.nodes) (hd : σ'.deep = (d' : Int)) (hd2 : d' ≤ 64) (hc : IsS W' br 94 (rdL a gs.length cap σ'.k d' v)) : PC gs a cap base br W' σ' := by
  obtain ⟨v0, d0, _, _, h1, h2⟩ := h.ex
  have e : v0 = v := by
    have e1 : W.cell? ⟨br, 3, none⟩ = some v0 := h1.cell 3
    have e2 : W.cell? ⟨br, 3, none⟩ = some v := hv.cell 3
    rw [e1] at e2
    injection e2
  subst e
  have hB : Below base W W' := Turn.below (Below.refl _ _) h.bb h.sz T
  refine ⟨⟨v0, d', hd, hd2, hc, ?_⟩, toks_low h.toks h.tb hB, h.tb, h.bb, Nat.le_trans h.sz T.size, by rw [hk]; exact h.len⟩
  rw [hk]
  exact own_turnN h2 h1 (by decide) T
theorem PC.grown (h : PC gs a cap base br W σ) (B : Below W.heap.size W W') : PC gs a cap base br W' σ := by
  obtain ⟨v, d, h1, h2, h3, h4⟩ := h.ex
  exact h.turn (Turn.of_below B br) h3 rfl h1 h2 (h3.grown B)
theorem PC.fresh {c : Nat} (h : PC gs a cap base br W σ) (F : Fresh W W' c) : PC gs a cap base br W' σ := h.grown (F.trans (Below.refl _ _) (Nat.le_refl _))
end
/-- What an operation of the reader comes to. -/
structure OutC (gs : List GT) (a : Option Addr) (cap base br : Nat) (w : World) (σ : CS) (v : Value) (en : Ending) (w' : World) : Prop where
  goes : σ.F = none → en = .returned v ∧ PC gs a cap base br w' σ
  ups : ∀ x, σ.F = some x → Thrown w x.1 x.2.1 x.2.2 en w'
  bel : Below base w w'
section
variable {gs : List GT} {a : Option Addr} {cap base br : Nat} {w w1 w' : World} {σ : CS} {v : Value} {en : Ending} {x : Int × Int × Int}
theorem OutC.thrown (u : σ.F = some x) (h : Thrown w x.1 x.2.1 x.2.2 en w') (B : Below base w w') : OutC gs a cap base br w σ v en w' :=
  ⟨fun g => (by rw [u] at g; cases g), fun y hy => (by rw [u] at hy; cases hy; exact h), B⟩
theorem OutC.ret (g : σ.F = none) (h : PC gs a cap base br w' σ) (B : Below base w w') : OutC gs a cap base br w σ v (.returned v) w' :=
  ⟨fun _ => ⟨rfl, h⟩, fun y hy => (by rw [g] at hy; cases hy), B⟩
theorem F_or (σ : CS) : σ.F = none ∨ ∃ x, σ.F = some x := by cases σ.F with | none => exact .inl rfl | some x => exact .inr ⟨x, rfl⟩
end
theorem gAt_none {gs : List GT} {k : Nat} (h : gs.length ≤ k) : gAt gs k = noGT := by unfold gAt; rw [List.getElem?_eq_none h]; rfl
theorem isT_sees {gs : List GT} {σ : CS} (hF : σ.F = none) (s : ByteArray) : isT gs σ 0 4 s.data.toList = seesB gs σ.k s := by
  unfold isT seesB
  rw [hF, Nat.add_zero]
  by_cases h : σ.k < gs.length
  · have : decide (σ.k < gs.length) = true := by simpa using h
    rw [this, Bool.eq_iff_iff]
    simp
  · rw [gAt_none (by omega), Bool.eq_iff_iff]
    simp [noGT]
section
variable {gs : List GT} {a : Option Addr} {cap base br : Nat}
/-- Tokens that a list can have. -/
def Few (gs : List GT) : Prop := gs.length ≤ 1099511627776 ∧ ∀ g ∈ gs, g.text.size ≤ maxLen
theorem csign_any (hn : Few gs) (σ : CS) (ok : Ok gs σ) (x : ByteArray) (w : World) (hP : PC gs a cap base br w σ) :
    Calls Tryz.prog 112 #[.pointer (some ⟨br, 0, none⟩), .string x] w fun en w' => OutC gs a cap base br w (signC gs σ x.data.toList) (.tuple #[]) en w' ∧ Turn w w' br := by
  obtain ⟨v, d, h1, h2, h3, h4⟩ := hP.ex
  have e := isT_sees (gs := gs) ok.F x
  cases hs : seesB gs σ.k x with
  | true =>
    rw [hs] at e
    have hlt := (isT_lt e).2
    have e2 : signC gs σ x.data.toList = ⟨σ.k + 1, σ.deep, σ.nodes, none⟩ := by unfold signC; rw [if_pos e, take_more ok.F (by omega)]
    rw [e2]
    refine (sign_yes a cap σ.k d v gs hn.1 ok.k x hs br w hP.toks h3).mono ?_
    rintro en w' ⟨rfl, hc, hst⟩
    have T := Turn.of_step (hst none)
    exact ⟨OutC.ret rfl (hP.turn (σ' := ⟨σ.k + 1, σ.deep, σ.nodes, none⟩) T h3 rfl h1 h2 hc) (Turn.below (Below.refl _ _) hP.bb hP.sz T), T⟩
  | false =>
    rw [hs] at e
    have e2 : signC gs σ x.data.toList = ⟨σ.k, σ.deep, σ.nodes, some ((gEnd gs σ.k).line, (gEnd gs σ.k).col, 70)⟩ := by unfold signC synC failC; rw [if_neg (by rw [e]; simp), if_neg (by rw [ok.F]; simp)]
    rw [e2]
    refine (sign_no a cap σ.k d v gs hn.1 ok.k x hs br w hP.toks h3).mono ?_
    rintro en w' ⟨ht, B⟩
    exact ⟨OutC.thrown rfl ht (below_lower B hP.sz), Turn.of_below B br⟩
theorem cnbr_any (hn : Few gs) (σ : CS) (ok : Ok gs σ) (w : World) (hP : PC gs a cap base br w σ) :
    Calls Tryz.prog 139 #[.pointer (some ⟨br, 0, none⟩)] w fun en w' => OutC gs a cap base br w (nbrC gs σ) (.int .i64 (nbrX gs σ)) en w' ∧ Turn w w' br := by
  obtain ⟨v, d, h1, h2, h3, h4⟩ := hP.ex
  by_cases hs : (gAt gs σ.k).kind = 2
  · have hlt : σ.k < gs.length := Nat.lt_of_not_le fun h => (by rw [gAt_none h] at hs; exact absurd hs (by decide))
    have q : nbrQ gs σ = true := by unfold nbrQ; simp [ok.F, hlt, hs]
    have e2 : nbrC gs σ = ⟨σ.k + 1, σ.deep, σ.nodes, none⟩ := by unfold nbrC; rw [if_pos q, take_more ok.F hlt]
    have e3 : nbrX gs σ = (gAt gs σ.k).value := if_pos q
    rw [e2, e3]
    refine (number_yes a cap σ.k d v gs _ hn.1 ok.k rfl hs br w hP.toks h3).mono ?_
    rintro en w' ⟨rfl, hc, hst⟩
    have T := Turn.of_step (hst none (fun b h => by cases h))
    exact ⟨OutC.ret rfl (hP.turn (σ' := ⟨σ.k + 1, σ.deep, σ.nodes, none⟩) T h3 rfl h1 h2 hc) (Turn.below (Below.refl _ _) hP.bb hP.sz T), T⟩
  · have q : nbrQ gs σ = false := by unfold nbrQ; simp [hs]
    have e2 : nbrC gs σ = ⟨σ.k, σ.deep, σ.nodes, some ((gEnd gs σ.k).line, (gEnd gs σ.k).col, 70)⟩ := by unfold nbrC synC failC; rw [if_neg (by rw [q]; simp), if_neg (by rw [ok.F]; simp)]
    rw [e2]
    refine (number_no a cap σ.k d v gs _ hn.1 ok.k rfl hs br w hP.toks h3).mono ?_
    rintro en w' ⟨ht, B⟩
    exact ⟨OutC.thrown rfl ht (below_lower B hP.sz), Turn.of_below B br⟩
theorem cname_any (hn : Few gs) (σ : CS) (ok : Ok gs σ) (w : World) (hP : PC gs a cap base br w σ) :
    Calls Tryz.prog 153 #[.pointer (some ⟨br, 0, none⟩)] w fun en w' => OutC gs a cap base br w (nameC gs σ) (.string (nameX gs σ)) en w' ∧ Turn w w' br := by
  obtain ⟨v, d, h1, h2, h3, h4⟩ := hP.ex
  by_cases hs : (gAt gs σ.k).kind = 1
  · have hlt : σ.k < gs.length := Nat.lt_of_not_le fun h => (by rw [gAt_none h] at hs; exact absurd hs (by decide))
    have hsz : (gAt gs σ.k).text.size ≤ maxLen := by
      refine hn.2 _ ?_
      unfold gAt
      rw [List.getElem?_eq_getElem hlt]
      exact List.getElem_mem hlt
    cases hb : nameB (gAt gs σ.k).text.data.toList with
    | true =>
      have q : nameQ gs σ = true := by unfold nameQ; simp [ok.F, hlt, hs, hb]
      have e2 : nameC gs σ = ⟨σ.k + 1, σ.deep, σ.nodes, none⟩ := by unfold nameC; rw [if_pos q, take_more ok.F hlt]
      have e3 : nameX gs σ = (gAt gs σ.k).text := if_pos q
      rw [e2, e3]
      refine (name_yes a cap σ.k d v gs _ hn.1 ok.k rfl hs hb hsz br w hP.toks h3).mono ?_
      rintro en w' ⟨rfl, hc, hst⟩
      have T := Turn.of_step (hst none (fun b h => by cases h))
      exact ⟨OutC.ret rfl (hP.turn (σ' := ⟨σ.k + 1, σ.deep, σ.nodes, none⟩) T h3 rfl h1 h2 hc) (Turn.below (Below.refl _ _) hP.bb hP.sz T), T⟩
    | false =>
      have q : nameQ gs σ = false := by unfold nameQ; simp [hb]
      have e2 : nameC gs σ = ⟨σ.k, σ.deep, σ.nodes, some ((gEnd gs σ.k).line, (gEnd gs σ.k).col, 70)⟩ := by unfold nameC synC failC; rw [if_neg (by rw [q]; simp), if_neg (by rw [ok.F]; simp)]
      rw [e2]
      refine (name_bad a cap σ.k d v gs _ hn.1 ok.k rfl hs hb hsz br w hP.toks h3).mono ?_
      rintro en w' ⟨ht, B⟩
      exact ⟨OutC.thrown rfl ht (below_lower B hP.sz), Turn.of_below B br⟩
  · have q : nameQ gs σ = false := by unfold nameQ; simp [hs]
    have e2 : nameC gs σ = ⟨σ.k, σ.deep, σ.nodes, some ((gEnd gs σ.k).line, (gEnd gs σ.k).col, 70)⟩ := by unfold nameC synC failC; rw [if_neg (by rw [q]; simp), if_neg (by rw [ok.F]; simp)]
    rw [e2]
    refine (name_kind a cap σ.k d v gs _ hn.1 ok.k rfl hs br w hP.toks h3).mono ?_
    rintro en w' ⟨ht, B⟩
    exact ⟨OutC.thrown rfl ht (below_lower B hP.sz), Turn.of_below B br⟩
theorem gEnd_at {gs : List GT} {k : Nat} (h : k < gs.length) : gEnd gs k = gAt gs k := by unfold gEnd; rw [if_neg (by omega), Nat.min_eq_left (by omega)]
theorem copen_any (hn : Few gs) (σ : CS) (ok : Ok gs σ) (hlt : σ.k < gs.length) (w : World) (hP : PC gs a cap base br w σ) :
    Calls Tryz.prog 111 #[.pointer (some ⟨br, 0, none⟩)] w fun en w' => OutC gs a cap base br w (openC gs σ) (.tuple #[]) en w' := by
  obtain ⟨v, d, h1, h2, h3, h4⟩ := hP.ex
  by_cases hd : d = 64
  · subst hd
    have e2 : openC gs σ = ⟨σ.k, σ.deep, σ.nodes, some ((gEnd gs σ.k).line, (gEnd gs σ.k).col, 2)⟩ := by unfold openC failC; rw [if_pos (by rw [h1]; decide), if_neg (by rw [ok.F]; simp), gEnd_at hlt]
    rw [e2]
    refine (open_no a cap σ.k v gs hn.1 (by have := hn.1; omega) br w hP.toks h3).mono ?_
    rintro en w' ⟨ht, B⟩
    exact OutC.thrown rfl ht (below_lower B hP.sz)
  · have e2 : openC gs σ = ⟨σ.k + 1, σ.deep + 1, σ.nodes, none⟩ := by unfold openC; rw [if_neg (by rw [h1]; omega), take_more (σ := ⟨σ.k, σ.deep + 1, σ.nodes, σ.F⟩) ok.F hlt]
    rw [e2]
    refine (open_yes a gs.length cap σ.k d v (by have := hn.1; omega) (by omega) br w h3).mono ?_
    rintro en w' ⟨rfl, hc, hst⟩
    have T := Turn.of_step (hst none)
    exact OutC.ret rfl (hP.turn (σ' := ⟨σ.k + 1, σ.deep + 1, σ.nodes, none⟩) T h3 rfl (by show σ.deep + 1 = _; rw [h1]; rfl) (by omega) hc) (Turn.below (Below.refl _ _) hP.bb hP.sz T)
end
end Go.Proofs.YtjnbhcakfenbhaaGreatDoor
/- A region that draws its order, whose head only reads and whose tail comes in order, inside a round of a loop over an iterator: one walk in the text's order. -/
namespace Go.Proofs.YtjnbhcakfenbhaaGreatDoor
open Go

def noDefer (o : Oper) : Bool := match o.op with
  | .defer _ => false
  | _ => true
section
variable {P : Program} {ops : Array Oper} {md : Region.Mode} {w : World} {lo m : Nat}
theorem wpOpIn_of_stOp (hnd : ∀ (i : Nat) (o : Oper), ops[i]? = some o → ∀ c, o.op ≠ .defer c) {i : Nat} {K : Act → Prop} {K' : Act → World → Prop} {Q' : Exit → Act → World → Prop} {a : Act} (h : ∀ a', K a' → K' a' w) (hs : stOp P ops w i K a) :
    wpOpIn (Fence.wide.inRound lo) m P ops Q' i K' a w := by
  unfold stOp at hs
  unfold wpOpIn
  cases ho : ops[i]? with
  | none => simp only [ho] at hs ⊢; exact h _ hs
  | some o =>
    simp only [ho] at hs ⊢
    by_cases hw : Region.wanted o (yielded ops a.tmps) = true
    · rw [if_pos hw] at hs ⊢
      refine ⟨fun f _ => trivial, ?_⟩
      rw [Oper.semAt_plain (Fence.wide.inRound lo) _ _ (hnd i o ho)]
      unfold Oper.still at hs
      generalize (execOp a.eval o).run P w = r at *
      match r, hs with
      | .ok (.value v) w', ⟨e, hn⟩ => subst e; exact h _ hn
      | .ok .skip w', ⟨e, hn⟩ => subst e; exact h _ hn
      | .ok (.enter f args) w', ⟨e, v, hc, hn⟩ =>
        subst e
        refine ⟨fun hd => by simp [Fence.wide, Fence.inRound] at hd, CallsIn.inRound lo (callsIn_wide.2 (hc.mono ?_))⟩
        rintro e w'' ⟨rfl, rfl⟩
        exact h _ hn
    · rw [if_neg hw] at hs ⊢
      exact ⟨fun f _ => trivial, h _ hs⟩
theorem wpAnyIn_of_head (hnd : ∀ (i : Nat) (o : Oper), ops[i]? = some o → ∀ c, o.op ≠ .defer c) {n g : Nat} {L : Array Bool → Act → Prop} {Q' : Exit → Act → World → Prop} (hL : ∀ listed a, L listed a → wpAnyIn (Fence.wide.inRound lo) m P md ops Q' g listed a w) :
    ∀ (f : Nat) (listed : Array Bool) (a : Act), wpAnyL P md ops w n L f listed a → wpAnyIn (Fence.wide.inRound lo) m P md ops Q' (f + g) listed a w := by
  intro f
  induction f with
  | zero =>
    intro listed a h
    have := hL listed a h
    rwa [Nat.zero_add]
  | succ f ih =>
    intro listed a h
    have e : f + 1 + g = f + g + 1 := Nat.add_right_comm f 1 g
    rw [e]
    refine ⟨fun none => (h.1 none).elim, fun i hi => ?_⟩
    have step := (h.2 i hi).2
    exact wpOpIn_of_stOp hnd (fun a' more => ih _ a' more) step
theorem tail_in_order {F : Fence} {Q' : Exit → Act → World → Prop} (l : List Oper) : ∀ (k : Nat) (listed : Array Bool) (a : Act) (w : World), (∀ j, ops[k + j]? = l[j]?) →
    Region.seqB md ops l.length k listed = true → wpListIn F m P ops Q' l a w → wpAnyIn F m P md ops Q' l.length listed a w := by
  induction l with
  | nil =>
    intro k listed a w _ hB h
    have hr : Region.ready md ops listed = [] := by simpa [Region.seqB] using hB
    exact ⟨hr, h⟩
  | cons o l ih =>
    intro k listed a w hl hB h
    have here : ops[k]? = some o := hl 0
    have both := hB
    rw [List.length_cons, Region.seqB, Bool.and_eq_true] at both
    have hr : Region.ready md ops listed = [k] := of_decide_eq_true both.1
    constructor
    · intro h1
      rw [hr] at h1
      exact absurd h1 (by simp)
    · intro i hi
      rw [hr, List.mem_singleton] at hi
      rw [hi]
      have first : wpOpIn F m P ops Q' k (wpListIn F m P ops Q' l) a w := by
        unfold wpOpIn
        rw [here]
        exact h
      refine wpOpIn_mono (fun a' w' h' => ih (k + 1) _ a' w' (fun j => ?_) both.2 h') first
      have := hl (j + 1)
      rw [List.getElem?_cons_succ] at this
      rw [← this]
      congr 1
      omega
theorem nothing_yet (n : Nat) : HeadInv md ops n (Array.replicate ops.size false) := by
  refine ⟨?_, ?_, ?_⟩
  · simp
  · intro j oj _ hl
    rw [getD_replicate_false] at hl
    cases hl
  · intro t _ ht
    have hlt : t < (Array.replicate ops.size false).size := by simpa using ht
    exact getD_in hlt (getD_replicate_false _ _)
theorem still_tail_round {id : Nat} {Q : Exit → Act → World → Prop} {a : Act} {w : World} {l : List Oper} (n : Nat) (hm : P.follows .mixedOrders = true) (hB : Region.lexTailB .any l.toArray n = true) (hall : l.all noDefer = true)
    (h : wpStill P l.toArray { w with drawn := w.drawn + 1 } (fun a' => wpListIn (Fence.wide.inRound lo) m P l.toArray Q (l.drop n) a' { w with drawn := w.drawn + 1 }) (l.take n) a) : (Code.region id l.toArray true).wpIn (Fence.wide.inRound lo) m P Q a w := by
  have hnd : ∀ (i : Nat) (o : Oper), l.toArray[i]? = some o → ∀ c, o.op ≠ .defer c := fun i o ho c hc => by
    have h1 : l[i]? = some o := by simpa using ho
    have h2 := List.all_eq_true.1 hall o (List.mem_of_getElem? h1)
    unfold noDefer at h2
    rw [hc] at h2
    cases h2
  unfold Region.lexTailB at hB
  rw [Bool.and_eq_true, Bool.and_eq_true, Bool.and_eq_true, Bool.and_eq_true] at hB
  have hn : n < l.toArray.size := of_decide_eq_true hB.1.1.1.2
  have hlen : n ≤ l.length := by have := hn; simp at this; omega
  have len1 : (l.take n).length = n := List.length_take_of_le hlen
  have len2 : (l.drop n).length = l.toArray.size - n := by rw [List.length_drop]; simp
  have lex : Region.lexHead .any l.toArray (l.toArray.size - n) (l.take n).length 0 (Array.replicate l.toArray.size false) = true := by rw [len1]; exact hB.2
  have head := wpAnyL_lex hB.1.1.1.1 hB.1.1.2 hB.1.2 hn (l.take n) 0 _ a (fun j hj => by
    rw [len1] at hj
    rw [List.getElem?_take_of_lt hj]
    simp) (by rw [len1]; omega) (nothing_yet n) lex h
  have whole := wpAnyIn_of_head (lo := lo) (m := m) hnd (Q' := Q) (g := l.toArray.size - n) (fun listed a' hL => by
    rw [← len2]
    rw [← len2] at hL
    exact tail_in_order (l.drop n) n listed a' _ (fun j => by simp) hL.1 hL.2) _ _ _ head
  have total : (l.take n).length + (l.toArray.size - n) = l.toArray.size := by rw [len1]; omega
  rw [total] at whole
  exact wpIn_region_any hm whole
end
end Go.Proofs.YtjnbhcakfenbhaaGreatDoor

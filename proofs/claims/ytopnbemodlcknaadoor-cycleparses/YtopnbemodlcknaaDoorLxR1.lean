/- A loop over an iterator that keeps memory of its own: a contract that parts memory between the two sides, and the law of the loop for it. -/
import Derived.Test.YtopnbemodlcknaaDoorLxX17
import Derived.RangeFuncNested
import Derived.RangeFuncBound
import Derived.RangeFuncCalls
import Derived.RangeFuncLeaves
import Derived.RangeFuncBox
namespace Go.Proofs.YtopnbemodlcknaaDoor.Lx
open Go.RowKit Go.Shelf M
set_option linter.unusedSimpArgs false
set_option linter.unusedVariables false

/-- Blocks of one's own lie as they lay. -/
structure Keep (O : Nat → Prop) (X Y : World) : Prop where
  os : Y.os = X.os
  tape : Y.tape = X.tape
  output : Y.output = X.output
  size : X.heap.size ≤ Y.heap.size
  block : ∀ k o, O k → X.heap[k]? = some o → Y.heap[k]? = some o
/-- A round of the caller's: what is neither its own nor handed to it lies as it lay; what it owns behind it owned, was handed or has made. -/
structure Chg (O A O' : Nat → Prop) (X Y : World) : Prop where
  os : Y.os = X.os
  tape : Y.tape = X.tape
  output : Y.output = X.output
  size : X.heap.size ≤ Y.heap.size
  block : ∀ k o, ¬ O k → ¬ A k → X.heap[k]? = some o → Y.heap[k]? = some o
  own : ∀ k, O' k → O k ∨ A k ∨ X.heap.size ≤ k
  bd : ∀ k, O' k → k < Y.heap.size
def Abides (J : (Nat → Prop) → World → Prop) : Prop := ∀ O X Y, J O X → Keep O X Y → J O Y
theorem Keep.of_below {O : Nat → Prop} {X Y : World} (h : Below X.heap.size X Y) : Keep O X Y :=
  ⟨h.os, h.tape, h.output, h.size, fun k o _ hk => (h.block k (Array.getElem?_eq_some_iff.1 hk).1).trans hk⟩
theorem Keep.of_turn {O : Nat → Prop} {X Y : World} {b : Nat} (h : Turn X Y b) (hb : ¬ O b) : Keep O X Y :=
  ⟨h.os, h.tape, h.output, h.size, fun k o ho hk => (h.block k (Array.getElem?_eq_some_iff.1 hk).1 (fun e => hb (e ▸ ho))).trans hk⟩
theorem Keep.of_upd {O : Nat → Prop} {X Y : World} {b : Nat} (h : Upd X Y b) (hb : ¬ O b) : Keep O X Y := Keep.of_turn (Turn.of_upd h) hb
theorem Keep.put {O : Nat → Prop} {X : World} {b : Nat} (o : Obj) (hb : ¬ O b) : Keep O X (X.putObj b o) :=
  ⟨rfl, rfl, rfl, by simp, fun k _ ho hk => (World.putObj_heap_other (fun e => hb (by first | (rw [← e]; exact ho) | (rw [e]; exact ho)))).trans hk⟩
theorem Keep.sub {O O' : Nat → Prop} {X Y : World} (h : Keep O X Y) (hs : ∀ k, O' k → O k) : Keep O' X Y := ⟨h.os, h.tape, h.output, h.size, fun k o ho hk => h.block k o (hs k ho) hk⟩

/-- An iterator's contract: it goes through these; what it hands over in a round is encoded so. -/
def SeqM {α : Type} (g : Nat) (lb : Array Value) (R : α → World → Array Value → (Nat → Prop) → Prop) (xs : List α) (w : World) : Prop :=
  ∀ (n l : Nat) (J Jx : List α → (Nat → Prop) → World → Prop) (W : World) (O : Nat → Prop), Below w.heap.size w W → (∀ pre, Abides (J pre)) → (∀ pre, Abides (Jx pre)) → (∀ k, O k → k < W.heap.size) →
    (∀ pre x post args A O W1 m, pre ++ x :: post = xs → J pre O W1 → R x W1 args A → (∀ k, A k → W.heap.size ≤ k) → YieldAt Fence.wide m Tryd.prog l args W1 fun e W' =>
      (e = .returned (.bool true) ∧ ∃ O', J (pre ++ [x]) O' W' ∧ Chg O A O' W1 W') ∨ (e = .returned (.bool false) ∧ ∃ O', Jx (pre ++ [x]) O' W' ∧ Chg O A O' W1 W')) →
    J [] O W → CallsIn Fence.wide n Tryd.prog g (#[.func (.yield l) #[] #[]] ++ lb) W fun e W' => (∃ v, e = .returned v) ∧ ∃ O', J xs O' W' ∨ ∃ pre, pre <+: xs ∧ Jx pre O' W'

/-- What a loop's two blocks hold. -/
def Holds2 (W : World) (D : Nat) (r : Loop) : Prop := W.heap[D]? = some (.deferred (some [])) ∧ W.heap[D + 1]? = some (.loop r)
theorem Holds2.lt {W : World} {D : Nat} {r : Loop} (h : Holds2 W D r) : D + 1 < W.heap.size := (Array.getElem?_eq_some_iff.1 h.2).1
theorem Holds2.put {W : World} {D : Nat} {r : Loop} (h : Holds2 W D r) (r' : Loop) : Holds2 (W.putObj (D + 1) (.loop r')) D r' :=
  ⟨(World.putObj_heap_other (by omega)).trans h.1, World.putObj_heap_same h.lt⟩

/-- How the body of a round may be left. -/
def postM {α : Type} (O : Nat → Prop) (I : List α → (Nat → Prop) → World → Prop) (Ix : Code → List α → (Nat → Prop) → World → Prop) (xs : List α) (W : World) : Exit → Act → World → Prop
  | .normal, _, W' => ∃ O', Chg O (fun _ => False) O' W W' ∧ I xs O' W'
  | .ret, _, W' => ∃ O', Chg O (fun _ => False) O' W W' ∧ Ix .ret xs O' W'
  | .exit id, _, W' => ∃ O', Chg O (fun _ => False) O' W W' ∧ Ix (.exit id) xs O' W'
  | _, _, _ => False

theorem rangeM {α : Type} {g : Operand} {ps : Array Tmp} {assign body : Code} {Q : Exit → Act → World → Prop} {a : Act} {w : World} {n : Nat} (h1 : 1 ≤ n)
    {gf : Nat} {lb : Array Value} (hg : a.eval g = .func (.func gf) #[] lb) (eg : ∀ args w, (callFunc gf args).run Tryd.prog w = .ok (.enter gf args) w)
    {R : α → World → Array Value → (Nat → Prop) → Prop} {xs : List α} {w0 : World} (hseq : SeqM gf lb R xs w0) (hb0 : Below w0.heap.size w0 w) (hR : ∀ x W args A, R x W args A → args.size = ps.size)
    (I : List α → (Nat → Prop) → World → Prop) (Ix : Code → List α → (Nat → Prop) → World → Prop) (Mid : List α → α → Act → (Nat → Prop) → World → Prop)
    (hI : ∀ pre, Abides (I pre)) (hIx : ∀ c pre, Abides (Ix c pre)) (hMid : ∀ pre x a', Abides (Mid pre x a')) (O0 : Nat → Prop) (hO0 : ∀ k, O0 k → k < w.heap.size) (h0 : I [] O0 w)
    (hassign : ∀ (l m : Nat) (pre : List α) (x : α) (post : List α) (args : Array Value) (A O : Nat → Prop) (W : World) (K : Act → World → Prop), pre ++ x :: post = xs → I pre O W → R x W args A → (∀ a' O' W', Mid pre x a' O' W' → Chg O A O' W W' → K a' W') →
      assign.wpIn (Fence.wide.inRound l) m Tryd.prog (Exit.then K (fun _ _ _ => False)) { tmps := (ps.zip args).foldl (fun t (p, v) => t.setIfInBounds p v) a.tmps, defers := [] } W)
    (hbody : ∀ (l m : Nat) (pre : List α) (x : α) (post : List α) (a' : Act) (O : Nat → Prop) (W : World), pre ++ x :: post = xs → Mid pre x a' O W → body.wpIn (Fence.wide.inRound l) m Tryd.prog (postM O I Ix (pre ++ [x]) W) a' W)
    (hdone : ∀ (D : Nat) (O : Nat → Prop) (W : World), w.heap.size ≤ D → ¬ O D → I xs O W → W.heap[D]? = some (.deferred (some [])) → Q .normal { a with defers := { target := .collected D, args := #[] } :: a.defers } W)
    (hstop : ∀ (D : Nat) (c : Code) (pre : List α) (O : Nat → Prop) (W : World), w.heap.size ≤ D → ¬ O D → pre <+: xs → Ix c pre O W → W.heap[D]? = some (.deferred (some [])) → c.wpIn Fence.wide n Tryd.prog Q { a with defers := { target := .collected D, args := #[] } :: a.defers } W) :
    (Code.rangeFunc g ps assign body).wpIn Fence.wide n Tryd.prog Q a w := by
  refine wpIn_rangeFunc fun fn hfn => ?_
  rw [show Fence.wide.round = none from rfl]
  obtain ⟨mk, hmk⟩ : ∃ mk : LoopState → Option Code → Loop, mk = fun st pe => { state := st, pending := pe, fn, tmps := a.tmps, params := ps, assign, body, defers := w.heap.size } := ⟨_, rfl⟩
  have hen : (Instr.enterLoop fn a.tmps ps assign body none).run Tryd.prog w = .ok (w.heap.size + 1, [{ target := .collected w.heap.size, args := #[] }]) ((w.alloc (.deferred (some []))).alloc (.loop (mk .ready none))) := by
    rw [hmk]; exact run_enterLoop_outer _ _ _ _ _
  have hB1 : Below w.heap.size w ((w.alloc (.deferred (some []))).alloc (.loop (mk .ready none))) := ((Below.refl _ w).alloc (Nat.le_refl _) _).alloc (by simp) _
  have hH1 : Holds2 ((w.alloc (.deferred (some []))).alloc (.loop (mk .ready none))) w.heap.size (mk .ready none) := by
    refine ⟨(Below.heap_alloc _ _ _ (by simp)).trans (World.alloc_heap_new w _), ?_⟩
    have := World.alloc_heap_new (w.alloc (.deferred (some []))) (.loop (mk .ready none))
    rwa [World.size_alloc] at this
  have hsz : ((w.alloc (.deferred (some []))).alloc (.loop (mk .ready none))).heap.size = w.heap.size + 2 := by simp
  generalize (w.alloc (.deferred (some []))).alloc (.loop (mk .ready none)) = W1 at *
  have hI1 : I [] O0 W1 := hI [] O0 w W1 h0 (Keep.of_below hB1)
  obtain ⟨D, hD⟩ : ∃ D, w.heap.size = D := ⟨_, rfl⟩
  rw [hD] at hsz hH1 hen
  -- the two sides
  let up : (Nat → Prop) → Nat → Prop := fun Oi k => Oi k ∨ k = D ∨ k = D + 1
  let off : (Nat → Prop) → Prop := fun Oi => ¬ Oi D ∧ ¬ Oi (D + 1)
  have ab : ∀ (K : (Nat → Prop) → World → Prop) (r : Loop), Abides K → Abides (fun O W => ∃ Oi, (∀ k, O k ↔ Oi k ∨ k = D ∨ k = D + 1) ∧ (¬ Oi D ∧ ¬ Oi (D + 1)) ∧ K Oi W ∧ Holds2 W D r) := fun K r hK O X Y hs hk => by
    obtain ⟨Oi, e, ho, hj, hh⟩ := hs
    exact ⟨Oi, e, ho, hK Oi X Y hj (hk.sub fun k h => (e k).2 (.inl h)), hk.block D _ ((e D).2 (.inr (.inl rfl))) hh.1, hk.block (D + 1) _ ((e _).2 (.inr (.inr rfl))) hh.2⟩
  refine ⟨D + 1, _, W1, { target := .fn (.func gf) lb, args := #[.func (.yield (D + 1)) #[] #[]] }, W1, gf, #[.func (.yield (D + 1)) #[] #[]] ++ lb, W1, hen, ?_, ?_, ?_, fun _ => h1, ?_⟩
  · simp only [resolve, hg]
    simp [go_sem]
  · intro f' hf'; trivial
  · simp [invoke, go_sem, eg]
  · refine (hseq (n - 1) (D + 1) (fun pre O W => ∃ Oi, (∀ k, O k ↔ Oi k ∨ k = D ∨ k = D + 1) ∧ (¬ Oi D ∧ ¬ Oi (D + 1)) ∧ I pre Oi W ∧ Holds2 W D (mk .ready none))
      (fun pre O W => ∃ c Oi, (∀ k, O k ↔ Oi k ∨ k = D ∨ k = D + 1) ∧ (¬ Oi D ∧ ¬ Oi (D + 1)) ∧ Ix c pre Oi W ∧ Holds2 W D (mk .done (some c))) W1 (fun k => O0 k ∨ k = D ∨ k = D + 1)
      (hb0.trans (hB1.mono hb0.size)) (fun pre => ab _ _ (hI pre)) (fun pre O X Y hs hk => by
        obtain ⟨c, hs⟩ := hs
        exact ⟨c, ab _ _ (hIx c pre) O X Y hs hk⟩) ?_ ?_ ⟨O0, fun k => Iff.rfl, ⟨fun h => by have := hO0 _ h; omega, fun h => by have := hO0 _ h; omega⟩, hI1, hH1⟩).mono ?_
    · rintro k (h | rfl | rfl)
      · have := hO0 k h; omega
      · omega
      · omega
    · rintro pre x post args A O W m hxs ⟨Oi, he, ho, hi, hh⟩ hr hA
      have hy := run_yield (P := Tryd.prog) (args := args) hh.2 (by rw [hmk]; exact hR x W args A hr)
      rw [hmk] at hy
      refine ⟨fn, _, assign, body, hy, roundIn_of_wpIn hfn (hassign _ _ pre x post args A Oi W _ hxs hi hr (fun a' O2 W2 hm2 hc2 => ?_))⟩
      have hAD : ¬ A D ∧ ¬ A (D + 1) := ⟨fun h => by have := hA _ h; omega, fun h => by have := hA _ h; omega⟩
      have hlt := hh.lt
      have hh2 : Holds2 W2 D (mk .ready none) := ⟨hc2.block _ _ ho.1 hAD.1 hh.1, hc2.block _ _ ho.2 hAD.2 hh.2⟩
      have ho2 : ¬ O2 D ∧ ¬ O2 (D + 1) := ⟨fun h => (hc2.own _ h).elim (fun h => ho.1 h) fun h => h.elim (fun h => hAD.1 h) fun h => by omega, fun h => (hc2.own _ h).elim (fun h => ho.2 h) fun h => h.elim (fun h => hAD.2 h) fun h => by omega⟩
      refine ⟨_, run_beginRound hh2.2 (by rw [hmk]), ?_⟩
      have hbz := hh2.put { mk .ready none with state := .busy }
      have hm3 := hMid pre x a' O2 W2 _ hm2 (Keep.put (.loop { mk .ready none with state := .busy }) ho2.2)
      have hs3 : (W2.putObj (D + 1) (.loop { mk .ready none with state := .busy })).heap.size = W2.heap.size := by simp
      refine wpIn_mono (hbody _ _ pre x post a' O2 _ hxs hm3) ?_
      have fin : ∀ (jump : Option Code) (O4 : Nat → Prop) (W4 : World), Chg O2 (fun _ => False) O4 (W2.putObj (D + 1) (.loop { mk .ready none with state := .busy })) W4 →
          (Instr.endRound (D + 1) jump).run Tryd.prog W4 = .ok (.bool jump.isNone) (W4.putObj (D + 1) (.loop (mk (if jump.isNone then .ready else .done) jump))) ∧ Holds2 W4 D { mk .ready none with state := .busy } ∧ (¬ O4 D ∧ ¬ O4 (D + 1)) ∧
          Chg O A (fun k => O4 k ∨ k = D ∨ k = D + 1) W (W4.putObj (D + 1) (.loop (mk (if jump.isNone then .ready else .done) jump))) := fun jump O4 W4 hc4 => by
        have h4 : Holds2 W4 D { mk .ready none with state := .busy } := ⟨hc4.block _ _ ho2.1 (fun h => h) hbz.1, hc4.block _ _ ho2.2 (fun h => h) hbz.2⟩
        have ho4 : ¬ O4 D ∧ ¬ O4 (D + 1) := ⟨fun h => (hc4.own _ h).elim (fun h => ho2.1 h) fun h => h.elim (fun h => h.elim) fun h => by have := hbz.lt; omega, fun h => (hc4.own _ h).elim (fun h => ho2.2 h) fun h => h.elim (fun h => h.elim) fun h => by have := hbz.lt; omega⟩
        refine ⟨?_, h4, ho4, ?_, ?_, ?_, ?_, ?_, ?_, ?_⟩
        · have := run_endRound (P := Tryd.prog) jump h4.2
          rw [hmk] at this ⊢
          exact this
        · exact hc4.os.trans hc2.os
        · exact hc4.tape.trans hc2.tape
        · exact hc4.output.trans hc2.output
        · have e1 := hc4.size; have e2 := hc2.size
          rw [hs3] at e1
          have : (W4.putObj (D + 1) (.loop (mk (if jump.isNone then .ready else .done) jump))).heap.size = W4.heap.size := by simp
          omega
        · intro k o hk hka hko
          have hko' : ¬ Oi k ∧ k ≠ D ∧ k ≠ D + 1 := ⟨fun h => hk ((he k).2 (.inl h)), fun h => hk ((he k).2 (.inr (.inl h))), fun h => hk ((he k).2 (.inr (.inr h)))⟩
          have hklt := (Array.getElem?_eq_some_iff.1 hko).1
          have g2 := hc2.block k o hko'.1 hka hko
          have g3 : (W2.putObj (D + 1) (.loop { mk .ready none with state := .busy })).heap[k]? = some o := (World.putObj_heap_other (fun e => hko'.2.2 e)).trans g2
          have n2 : ¬ O2 k := fun h => (hc2.own _ h).elim (fun h => hko'.1 h) fun h => h.elim (fun h => hka h) fun h => by omega
          have g4 := hc4.block k o n2 (fun h => h) g3
          exact (World.putObj_heap_other (fun e => hko'.2.2 e)).trans g4
        · rintro k (h | rfl | rfl)
          · rcases hc4.own _ h with h | h | h
            · rcases hc2.own _ h with h | h | h
              · exact .inl ((he k).2 (.inl h))
              · exact .inr (.inl h)
              · exact .inr (.inr h)
            · exact h.elim
            · have e2 := hc2.size
              rw [hs3] at h
              exact .inr (.inr (by omega))
          · exact .inl ((he _).2 (.inr (.inl rfl)))
          · exact .inl ((he _).2 (.inr (.inr rfl)))
        · have e5 : (W4.putObj (D + 1) (.loop (mk (if jump.isNone then .ready else .done) jump))).heap.size = W4.heap.size := by simp
          have := h4.lt
          rintro k (h | rfl | rfl)
          · rw [e5]; exact hc4.bd k h
          · omega
          · omega
      have out : ∀ (c : Code) (O4 : Nat → Prop) (W4 : World), Chg O2 (fun _ => False) O4 (W2.putObj (D + 1) (.loop { mk .ready none with state := .busy })) W4 → Ix c (pre ++ [x]) O4 W4 →
          ∃ v w', (Instr.endRound (D + 1) (some c)).run Tryd.prog W4 = .ok v w' ∧ ((Ending.returned v = .returned (.bool true) ∧ ∃ O', (∃ Oi, (∀ k, O' k ↔ Oi k ∨ k = D ∨ k = D + 1) ∧ (¬ Oi D ∧ ¬ Oi (D + 1)) ∧ I (pre ++ [x]) Oi w' ∧ Holds2 w' D (mk .ready none)) ∧ Chg O A O' W w') ∨
            (Ending.returned v = .returned (.bool false) ∧ ∃ O', (∃ c Oi, (∀ k, O' k ↔ Oi k ∨ k = D ∨ k = D + 1) ∧ (¬ Oi D ∧ ¬ Oi (D + 1)) ∧ Ix c (pre ++ [x]) Oi w' ∧ Holds2 w' D (mk .done (some c))) ∧ Chg O A O' W w')) := fun c O4 W4 hc4 hx4 => by
        obtain ⟨hr4, h4, ho4, hch⟩ := fin (some c) O4 W4 hc4
        exact ⟨_, _, hr4, .inr ⟨rfl, _, ⟨c, O4, fun k => Iff.rfl, ho4, hIx c _ O4 _ _ hx4 (Keep.put _ ho4.2), h4.put _⟩, hch⟩⟩
      rintro e a3 W4 hp
      cases e with
      | normal =>
        obtain ⟨O4, hc4, hi4⟩ := hp
        obtain ⟨hr4, h4, ho4, hch⟩ := fin none O4 W4 hc4
        exact ⟨_, _, hr4, .inl ⟨rfl, _, ⟨O4, fun k => Iff.rfl, ho4, hI _ O4 _ _ hi4 (Keep.put _ ho4.2), h4.put _⟩, hch⟩⟩
      | ret => obtain ⟨O4, hc4, hx4⟩ := hp; exact out .ret O4 W4 hc4 hx4
      | exit id => obtain ⟨O4, hc4, hx4⟩ := hp; exact out (.exit id) O4 W4 hc4 hx4
      | goto t => exact hp.elim
      | panic ch => exact hp.elim
      | outgrown => exact hp.elim
    · rintro e W2 ⟨⟨v, rfl⟩, O', (⟨Oi, he, ho, hi, hh⟩ | ⟨pre, hpre, c, Oi, he, ho, hi, hh⟩)⟩
      · have hel := run_endLoop (P := Tryd.prog) hh.2 (by rw [hmk]; simp)
        have hp : (mk .ready none).pending = none := by rw [hmk]
        rw [hp] at hel
        exact ⟨none, _, hel, hdone D Oi _ (by omega) ho.1 (hI _ Oi _ _ hi (Keep.put _ ho.2)) ((World.putObj_heap_other (by omega)).trans hh.1)⟩
      · have hel := run_endLoop (P := Tryd.prog) hh.2 (by rw [hmk]; simp)
        have hp : (mk .done (some c)).pending = some c := by rw [hmk]
        rw [hp] at hel
        exact ⟨some c, _, hel, hstop D c pre Oi _ (by omega) ho.1 hpre (hIx c _ Oi _ _ hi (Keep.put _ ho.2)) ((World.putObj_heap_other (by omega)).trans hh.1)⟩
end Go.Proofs.YtopnbemodlcknaaDoor.Lx

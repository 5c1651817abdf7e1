/- A loop over an iterator that itself goes through another iterator: a contract that asks of the caller's word that it abide every turn of what is no cells, and the law of the loop for it. -/
import Derived.Test.YtdneaaegllpnlaaDoorRlE2
namespace Go.Proofs.YtdneaaegllpnlaaDoor
open Go.RowKit Go.Shelf M
set_option linter.unusedSimpArgs false
set_option linter.unusedVariables false

/-- All blocks but these lie as they lay; of those from B on also but for cells of these types. -/
def KpB (B : Nat) (bs ts : List Nat) (W W' : World) : Prop :=
  W.heap.size ≤ W'.heap.size ∧ ∀ k o, W.heap[k]? = some o → k ∉ bs → (B ≤ k → ∀ c t fr, o = .cells c t fr → t ∉ ts) → W'.heap[k]? = some o
theorem KpB.refl (B : Nat) (bs ts : List Nat) (W : World) : KpB B bs ts W W := ⟨Nat.le_refl _, fun _ _ h _ _ => h⟩
theorem KpB.trans {B : Nat} {bs ts : List Nat} {X Y Z : World} (h : KpB B bs ts X Y) (k : KpB B bs ts Y Z) : KpB B bs ts X Z := ⟨Nat.le_trans h.1 k.1, fun j o hj hb ht => k.2 j o (h.2 j o hj hb ht) hb ht⟩
theorem KpB.putObj {B : Nat} {bs ts : List Nat} {W : World} {l : Nat} (h : l ∈ bs) (o : Obj) : KpB B bs ts W (W.putObj l o) := ⟨by simp, fun k _ hk hb _ => (World.putObj_heap_other (fun e => hb (by rw [e]; exact h))).trans hk⟩
theorem KpB.keepsFrom {B : Nat} {bs ts : List Nat} {W W' : World} {B' : Nat} (h : KpB B bs ts W W') (hb : ∀ b ∈ bs, b < B') : KeepsFrom B' W W' :=
  ⟨h.1, fun k o hk ho hc => h.2 k o ho (fun hm => by have := hb k hm; omega) (fun _ c t fr e => by subst e; cases hc)⟩
theorem KpB.of_below {B : Nat} {bs ts : List Nat} {W W' : World} (h : Below W.heap.size W W') : KpB B bs ts W W' := ⟨h.size, fun k o hk _ _ => (h.block k (Array.getElem?_eq_some_iff.1 hk).1).trans hk⟩
theorem KpB.of_upd {B : Nat} {bs ts : List Nat} {W W' : World} {b : Nat} (h : Upd W W' b) (hb : b ∈ bs) : KpB B bs ts W W' := ⟨by rw [h.size]; exact Nat.le_refl _, fun k o hk hn _ => (h.block k (fun e => hn (e ▸ hb))).trans hk⟩

/-- An iterator's contract, for a caller whose word abides the turn of any block that is no cells and was laid since, and whose rounds leave all blocks but some of its own as they lay. -/
def SeqO {α : Type} (F : Fence) (n : Nat) (P : Program) (g : Nat) (lb : Array Value) (encs : α → Array Value) (bs ts : List Nat) (S Sp : List α → Prop) (N : Nat) (w : World) : Prop :=
  ∀ (l : Nat) (J Jx : List α → World → Prop) (W : World), Below w.heap.size w W → (∀ b ∈ bs, b < W.heap.size) → OwnFrom W.heap.size J → OwnFrom W.heap.size Jx →
    (∀ pre x W1, J pre W1 → pre.length < N → YieldAt F (n - 1) P l (encs x) W1 fun e W' =>
      (e = .returned (.bool true) ∧ J (pre ++ [x]) W' ∧ KpB w.heap.size bs ts W1 W') ∨ (e = .returned (.bool false) ∧ Jx (pre ++ [x]) W' ∧ KpB w.heap.size bs ts W1 W')) →
    J [] W →
    CallsIn F n P g (#[.func (.yield l) #[] #[]] ++ lb) W fun e W' => (∃ v, e = .returned v) ∧ ((∃ xs, S xs ∧ J xs W') ∨ (∃ pre, Sp pre ∧ Jx pre W'))

/-- What a loop's two blocks hold. -/
def Holds2 (W : World) (D : Nat) (r : Loop) : Prop := W.heap[D]? = some (.deferred (some [])) ∧ W.heap[D + 1]? = some (.loop r)
theorem Holds2.lt {W : World} {D : Nat} {r : Loop} (h : Holds2 W D r) : D + 1 < W.heap.size := (Array.getElem?_eq_some_iff.1 h.2).1
theorem Holds2.put {W : World} {D : Nat} {r : Loop} (h : Holds2 W D r) (r' : Loop) : Holds2 (W.putObj (D + 1) (.loop r')) D r' :=
  ⟨(World.putObj_heap_other (by omega)).trans h.1, World.putObj_heap_same h.lt⟩
theorem Holds2.keeps {W W' : World} {D : Nat} {r : Loop} (h : Holds2 W D r) (hk : KeepsFrom D W W') : Holds2 W' D r :=
  ⟨hk.same D _ (Nat.le_refl _) h.1 rfl, hk.same (D + 1) _ (by omega) h.2 rfl⟩
theorem holds2_own {β : Type} {B D : Nat} (r : β → Loop) (hB : D + 1 < B) : OwnFrom B (fun s W => Holds2 W D (r s)) := fun s X Y row hs hg hr => by
  have key : ∀ k o, k ≤ D + 1 → X.heap[k]? = some o → Y.heap[k]? = some o := fun k o hk ho =>
    (hg.block k (Array.getElem?_eq_some_iff.1 ho).1 (fun e => by have := (hr k e.symm).1; omega)).trans ho
  exact ⟨key D _ (by omega) hs.1, key (D + 1) _ (Nat.le_refl _) hs.2⟩
theorem ownFrom_mono {β : Type} {B B' : Nat} {I : β → World → Prop} (h : OwnFrom B I) (hB : B ≤ B') : OwnFrom B' I := fun s X Y row hs hg hr =>
  h s X Y row hs hg (fun r e => ⟨Nat.le_trans hB (hr r e).1, (hr r e).2⟩)

/-- How the body of a round may be left. -/
def ownPostB {α : Type} (B B' : Nat) (bs ts : List Nat) (I : List α → World → Prop) (Ix : Code → List α → World → Prop) (xs : List α) (W : World) : Exit → Act → World → Prop
  | .normal, _, W' => KeepsFrom B W W' ∧ KpB B' bs ts W W' ∧ I xs W'
  | .ret, _, W' => KeepsFrom B W W' ∧ KpB B' bs ts W W' ∧ Ix .ret xs W'
  | .exit id, _, W' => KeepsFrom B W W' ∧ KpB B' bs ts W W' ∧ Ix (.exit id) xs W'
  | .goto t, _, W' => KeepsFrom B W W' ∧ KpB B' bs ts W W' ∧ Ix (.goto t) xs W'
  | .panic _, _, _ => False
  | .outgrown, _, _ => False

theorem rangeO {F : Fence} {n : Nat} {P : Program} {α : Type} {g : Operand} {ps : Array Tmp} {assign body : Code} {Q : Exit → Act → World → Prop} {a : Act} {w : World}
    (hro : F.round = none) (h1 : 1 ≤ n) {gf : Nat} {lb : Array Value} (hg : a.eval g = .func (.func gf) #[] lb) (hFg : F.fn gf) (eg : ∀ args w, (callFunc gf args).run P w = .ok (.enter gf args) w)
    {encs : α → Array Value} {bs ts : List Nat} {S Sp : List α → Prop} {N : Nat} {w0 : World} (hseq : SeqO F (n - 1) P gf lb encs bs ts S Sp N w0)
    (hbs : ∀ b ∈ bs, b < w.heap.size + 2) (hrec : w.heap.size + 1 ∈ bs) (hb0 : Below w0.heap.size w0 w) (hps : ∀ x, (encs x).size = ps.size)
    (I : List α → World → Prop) (Ix : Code → List α → World → Prop) (hI : OwnFrom w.heap.size I) (hIx : ∀ c, OwnFrom w.heap.size (Ix c)) (h0 : I [] w)
    (Ax : α → Act → World → Prop) (hAx : ∀ x a', OwnFrom w.heap.size (fun (_ : Unit) W => Ax x a' W))
    (hassign : ∀ (l : Nat) (pre : List α) (x : α) (W : World) (K : Act → World → Prop), I pre W → (∀ a' W', KeepsFrom w.heap.size W W' → KpB w0.heap.size bs ts W W' → I pre W' → Ax x a' W' → K a' W') →
      assign.wpIn (F.inRound l) (n - 1 - 1) P (Exit.then K (fun _ _ _ => False)) { tmps := (ps.zip (encs x)).foldl (fun t (p, v) => t.setIfInBounds p v) a.tmps, defers := [] } W)
    (hbody : ∀ (l : Nat) (pre : List α) (x : α) (a' : Act) (W : World), I pre W → Ax x a' W → pre.length < N → body.wpIn (F.inRound l) (n - 1 - 1) P (ownPostB w.heap.size w0.heap.size bs ts I Ix (pre ++ [x]) W) a' W)
    (hdone : ∀ (D : Nat) (xs : List α) (W : World), w.heap.size ≤ D → S xs → I xs W → W.heap[D]? = some (.deferred (some [])) → Q .normal { a with defers := { target := .collected D, args := #[] } :: a.defers } W)
    (hstop : ∀ (D : Nat) (c : Code) (pre : List α) (W : World), w.heap.size ≤ D → Sp pre → Ix c pre W → W.heap[D]? = some (.deferred (some [])) → c.wpIn F n P Q { a with defers := { target := .collected D, args := #[] } :: a.defers } W) :
    (Code.rangeFunc g ps assign body).wpIn F n P Q a w := by
  refine wpIn_rangeFunc fun fn hfn => ?_
  rw [hro]
  obtain ⟨mk, hmk⟩ : ∃ mk : LoopState → Option Code → Loop, mk = fun st pe => { state := st, pending := pe, fn, tmps := a.tmps, params := ps, assign, body, defers := w.heap.size } := ⟨_, rfl⟩
  have hen : (Instr.enterLoop fn a.tmps ps assign body none).run P w = .ok (w.heap.size + 1, [{ target := .collected w.heap.size, args := #[] }]) ((w.alloc (.deferred (some []))).alloc (.loop (mk .ready none))) := by
    rw [hmk]; exact run_enterLoop_outer _ _ _ _ _
  have hB1 : Below w.heap.size w ((w.alloc (.deferred (some []))).alloc (.loop (mk .ready none))) := ((Below.refl _ w).alloc (Nat.le_refl _) _).alloc (by simp) _
  have hH1 : Holds2 ((w.alloc (.deferred (some []))).alloc (.loop (mk .ready none))) w.heap.size (mk .ready none) := by
    refine ⟨(Below.heap_alloc _ _ _ (by simp)).trans (World.alloc_heap_new w _), ?_⟩
    have := World.alloc_heap_new (w.alloc (.deferred (some []))) (.loop (mk .ready none))
    rwa [World.size_alloc] at this
  have hI1 : I [] ((w.alloc (.deferred (some []))).alloc (.loop (mk .ready none))) := hI.alloc _ (hI.alloc _ h0)
  have hsz : ((w.alloc (.deferred (some []))).alloc (.loop (mk .ready none))).heap.size = w.heap.size + 2 := by simp
  generalize (w.alloc (.deferred (some []))).alloc (.loop (mk .ready none)) = W1 at *
  have hfl : ∀ (W : World) (r' : Loop), KpB w0.heap.size bs ts W (W.putObj (w.heap.size + 1) (.loop r')) := fun W r' => KpB.putObj hrec _
  refine ⟨w.heap.size + 1, _, W1, { target := .fn (.func gf) lb, args := #[.func (.yield (w.heap.size + 1)) #[] #[]] }, W1, gf, #[.func (.yield (w.heap.size + 1)) #[] #[]] ++ lb, W1, hen, ?_, ?_, ?_, fun _ => h1, ?_⟩
  · simp only [resolve, hg]
    simp [go_sem]
  · intro f' hf'; simp [Target.leads] at hf'; subst hf'; exact hFg
  · simp [invoke, go_sem, eg]
  · refine (hseq (w.heap.size + 1) (fun pre W => I pre W ∧ Holds2 W w.heap.size (mk .ready none)) (fun pre W => ∃ c, Ix c pre W ∧ Holds2 W w.heap.size (mk .done (some c))) W1
      (hb0.trans (hB1.mono hb0.size)) (fun b hb => by have := hbs b hb; omega) (OwnFrom.and (ownFrom_mono hI (by omega)) (holds2_own (fun _ => mk .ready none) (by omega)))
      (fun s X Y row hs hg' hr => by
        obtain ⟨c, h2, h3⟩ := hs
        exact ⟨c, ownFrom_mono (B' := W1.heap.size) (hIx c) (by omega) s X Y row h2 hg' hr, holds2_own (fun _ : Unit => mk .done (some c)) (by omega) () X Y row h3 hg' hr⟩)
      ?_ ⟨hI1, hH1⟩).mono ?_
    · rintro pre x W ⟨hi, hh⟩ hlen
      have hy := run_yield (P := P) (args := encs x) hh.2 (by rw [hmk]; exact hps x)
      rw [hmk] at hy
      refine ⟨fn, _, assign, body, hy, roundIn_of_wpIn hfn (hassign _ pre x W _ hi (fun a' W' hk' hkp' hi' hx' => ?_))⟩
      have hh' := hh.keeps hk'
      refine ⟨_, run_beginRound hh'.2 (by rw [hmk]), ?_⟩
      have hbz := hh'.put { mk .ready none with state := .busy }
      have hib := hI.putObj (.loop { mk .ready none with state := .busy }) hi' (by omega) hh'.2 rfl
      have hxb := (hAx x a').putObj (s := ()) (.loop { mk .ready none with state := .busy }) hx' (by omega) hh'.2 rfl
      refine wpIn_mono (hbody _ pre x a' _ hib hxb hlen) ?_
      have fin : ∀ (jump : Option Code) (W3 : World), KeepsFrom w.heap.size (W'.putObj (w.heap.size + 1) (.loop { mk .ready none with state := .busy })) W3 →
          (Instr.endRound (w.heap.size + 1) jump).run P W3 = .ok (.bool jump.isNone) (W3.putObj (w.heap.size + 1) (.loop (mk (if jump.isNone then .ready else .done) jump))) ∧
          Holds2 W3 w.heap.size { mk .ready none with state := .busy } := fun jump W3 hk3 => by
        have h3 := hbz.keeps hk3
        have := run_endRound (P := P) jump h3.2
        rw [hmk] at this h3 ⊢
        exact ⟨this, h3⟩
      have out : ∀ (c : Code) (W3 : World), KeepsFrom w.heap.size (W'.putObj (w.heap.size + 1) (.loop { mk .ready none with state := .busy })) W3 → KpB w0.heap.size bs ts (W'.putObj (w.heap.size + 1) (.loop { mk .ready none with state := .busy })) W3 → Ix c (pre ++ [x]) W3 →
          ∃ v w', (Instr.endRound (w.heap.size + 1) (some c)).run P W3 = .ok v w' ∧ ((Ending.returned v = .returned (.bool true) ∧ (I (pre ++ [x]) w' ∧ Holds2 w' w.heap.size (mk .ready none)) ∧ KpB w0.heap.size bs ts W w') ∨ (Ending.returned v = .returned (.bool false) ∧ (∃ c, Ix c (pre ++ [x]) w' ∧ Holds2 w' w.heap.size (mk .done (some c))) ∧ KpB w0.heap.size bs ts W w')) := fun c W3 hk3 hq3 hx3 => by
        obtain ⟨hr, h3⟩ := fin (some c) W3 hk3
        exact ⟨_, _, hr, .inr ⟨rfl, ⟨c, (hIx c).putObj _ hx3 (by omega) h3.2 rfl, h3.put _⟩, (hkp'.trans ((hfl _ _).trans hq3)).trans (hfl _ _)⟩⟩
      rintro e a3 W3 hp
      cases e with
      | normal =>
        obtain ⟨hk3, hkp3, hi3⟩ := hp
        obtain ⟨hr, h3⟩ := fin none W3 hk3
        exact ⟨_, _, hr, .inl ⟨rfl, ⟨hI.putObj _ hi3 (by omega) h3.2 rfl, h3.put _⟩, (hkp'.trans ((hfl _ _).trans hkp3)).trans (hfl _ _)⟩⟩
      | ret => exact out .ret W3 hp.1 hp.2.1 hp.2.2
      | exit id => exact out (.exit id) W3 hp.1 hp.2.1 hp.2.2
      | goto t => exact out (.goto t) W3 hp.1 hp.2.1 hp.2.2
      | panic ch => exact hp.elim
      | outgrown => exact hp.elim
    · rintro e W2 ⟨⟨v, rfl⟩, (⟨xs, hS, hi, hh⟩ | ⟨pre, hSp, c, hi, hh⟩)⟩
      · have he := run_endLoop (P := P) hh.2 (by rw [hmk]; simp)
        have hp : (mk .ready none).pending = none := by rw [hmk]
        rw [hp] at he
        refine ⟨none, _, he, hdone _ xs _ (Nat.le_refl _) hS (hI.putObj _ hi (by omega) hh.2 rfl) ((World.putObj_heap_other (by omega)).trans hh.1)⟩
      · have he := run_endLoop (P := P) hh.2 (by rw [hmk]; simp)
        have hp : (mk .done (some c)).pending = some c := by rw [hmk]
        rw [hp] at he
        refine ⟨some c, _, he, hstop _ c pre _ (Nat.le_refl _) hSp ((hIx c).putObj _ hi (by omega) hh.2 rfl) ((World.putObj_heap_other (by omega)).trans hh.1)⟩
end Go.Proofs.YtdneaaegllpnlaaDoor

/- A loop that takes one order of an iterator and leaves; Extends and Extend. -/
import Derived.Test.YtkccckjiemijeabDoorG2
import Derived.Test.YtkccckjiemijeabDoorZ5
namespace Go.Proofs.YtkccckjiemijeabDoor
open Go.RowKit Go.Shelf M P
attribute [local go_sem] Oper.semAt_some
set_option linter.unusedSimpArgs false
set_option linter.unusedVariables false

/-- An iterator's contract, for a caller that takes one list of numbers and leaves. -/
def SeqOnce (g : Nat) (lb : Array Value) (o : List Nat) (S : Bool) (w : World) : Prop :=
  ∀ (n l B : Nat) (bs : List Nat) (J : World → Prop) (Jx : Value → World → Prop) (W : World), Below w.heap.size w W → B = W.heap.size → (∀ b ∈ bs, b < B) → 0 ∉ bs → Dep B none J → (∀ v, Dep B v.ownBlock (Jx v)) →
    (∀ v W1 m, J W1 → W1.ownsRow B 3 1 v o.length (encI o) → YieldAt Fence.wide m Tryd.prog l #[v] W1 fun e W' => e = .returned (.bool false) ∧ Jx v W' ∧ KpB B bs [] W1 W') →
    J W → CallsIn Fence.wide n Tryd.prog g (#[.func (.yield l) #[] #[]] ++ lb) W fun e W' => (∃ v, e = .returned v) ∧ ((S = false ∧ J W') ∨ (S = true ∧ ∃ v, Jx v W' ∧ W'.ownsRow B 3 1 v o.length (encI o)))

theorem holds2_dep {B D : Nat} (r : Loop) (own : Option Nat) (hB : D + 1 < B) : Dep B own (fun W => Holds2 W D r) := fun X Y hs hk => ⟨hk.block D _ hs.1 (Or.inl (by omega)), hk.block (D + 1) _ hs.2 (Or.inl hB)⟩
theorem kin_put {B D : Nat} {own : Option Nat} {X : World} (o : Obj) (hB : B ≤ D) (ho : own ≠ some D) : Kin B own X (X.putObj D o) := kin_grown (grownBy_put o) (fun r e => by cases e; exact ⟨hB, ho⟩)
theorem Dep.mono {B B' : Nat} {own : Option Nat} {J : World → Prop} (h : Dep B own J) (hB : B ≤ B') : Dep B' own J := fun X Y hs hk => h X Y hs ⟨hk.os, hk.tape, hk.output, hk.size, fun k o hko hc => hk.block k o hko (hc.imp (fun h => by omega) id)⟩

theorem rangeOnce {g : Operand} {p : Tmp} {assign body : Code} {Q : Exit → Act → World → Prop} {a : Act} {w : World} {n : Nat} (h1 : 1 ≤ n)
    {gf : Nat} {lb : Array Value} (hg : a.eval g = .func (.func gf) #[] lb) (eg : ∀ args w, (callFunc gf args).run Tryd.prog w = .ok (.enter gf args) w)
    {o : List Nat} {S : Bool} {w0 : World} (hseq : SeqOnce gf lb o S w0) (hb0 : Below w0.heap.size w0 w)
    (bs : List Nat) (hbs : ∀ b ∈ bs, b < w.heap.size) (hbs0 : 0 ∉ bs)
    (I : World → Prop) (Ix : Value → World → Prop) (hI : Dep w.heap.size none I) (hIx : ∀ v, Dep w.heap.size v.ownBlock (Ix v)) (h0 : I w) (a₁ : Value → Act)
    (hassign : ∀ (l m : Nat) (v : Value) (W : World) (K : Act → World → Prop), K (a₁ v) W → assign.wpIn (Fence.wide.inRound l) m Tryd.prog (Exit.then K (fun _ _ _ => False)) { tmps := (#[p].zip #[v]).foldl (fun t (p, v) => t.setIfInBounds p v) a.tmps, defers := [] } W)
    (hbody : ∀ (l m : Nat) (v : Value) (W : World), I W → W.ownsRow (w.heap.size + 2) 3 1 v o.length (encI o) → body.wpIn (Fence.wide.inRound l) m Tryd.prog (fun e a' W' => e = .ret ∧ Ix v W' ∧ KpB (w.heap.size + 2) bs [] W W') (a₁ v) W)
    (hdone : ∀ (D : Nat) (W : World), w.heap.size ≤ D → S = false → I W → W.heap[D]? = some (.deferred (some [])) → Q .normal { a with defers := { target := .collected D, args := #[] } :: a.defers } W)
    (hstop : ∀ (D : Nat) (v : Value) (W : World), w.heap.size ≤ D → S = true → Ix v W → W.ownsRow (w.heap.size + 2) 3 1 v o.length (encI o) → W.heap[D]? = some (.deferred (some [])) → Code.ret.wpIn Fence.wide n Tryd.prog Q { a with defers := { target := .collected D, args := #[] } :: a.defers } W) :
    (Code.rangeFunc g #[p] assign body).wpIn Fence.wide n Tryd.prog Q a w := by
  refine wpIn_rangeFunc fun fn hfn => ?_
  rw [show Fence.wide.round = none from rfl]
  obtain ⟨mk, hmk⟩ : ∃ mk : LoopState → Option Code → Loop, mk = fun st pe => { state := st, pending := pe, fn, tmps := a.tmps, params := #[p], assign, body, defers := w.heap.size } := ⟨_, rfl⟩
  have hen : (Instr.enterLoop fn a.tmps #[p] assign body none).run Tryd.prog w = .ok (w.heap.size + 1, [{ target := .collected w.heap.size, args := #[] }]) ((w.alloc (.deferred (some []))).alloc (.loop (mk .ready none))) := by
    rw [hmk]; exact run_enterLoop_outer _ _ _ _ _
  have hB1 : Below w.heap.size w ((w.alloc (.deferred (some []))).alloc (.loop (mk .ready none))) := ((Below.refl _ w).alloc (Nat.le_refl _) _).alloc (by simp) _
  have hH1 : Holds2 ((w.alloc (.deferred (some []))).alloc (.loop (mk .ready none))) w.heap.size (mk .ready none) := by
    refine ⟨(Below.heap_alloc _ _ _ (by simp)).trans (World.alloc_heap_new w _), ?_⟩
    have := World.alloc_heap_new (w.alloc (.deferred (some []))) (.loop (mk .ready none))
    rwa [World.size_alloc] at this
  have hsz : ((w.alloc (.deferred (some []))).alloc (.loop (mk .ready none))).heap.size = w.heap.size + 2 := by simp
  generalize (w.alloc (.deferred (some []))).alloc (.loop (mk .ready none)) = W1 at *
  have hI1 : I W1 := hI w W1 h0 (kin_below hB1)
  have hw0 := hb0.size
  refine ⟨w.heap.size + 1, _, W1, { target := .fn (.func gf) lb, args := #[.func (.yield (w.heap.size + 1)) #[] #[]] }, W1, gf, #[.func (.yield (w.heap.size + 1)) #[] #[]] ++ lb, W1, hen, ?_, ?_, ?_, fun _ => h1, ?_⟩
  · simp only [resolve, hg]
    simp [go_sem]
  · intro f' hf'; trivial
  · simp [invoke, go_sem, eg]
  · refine (hseq (n - 1) (w.heap.size + 1) (w.heap.size + 2) ((w.heap.size + 1) :: bs) (fun W => I W ∧ Holds2 W w.heap.size (mk .ready none)) (fun v W => Ix v W ∧ Holds2 W w.heap.size (mk .done (some .ret))) W1
      (hb0.trans (hB1.mono hb0.size)) hsz.symm ?_ ?_ ?_ ?_ ?_ ⟨hI1, hH1⟩).mono ?_
    · intro b hb
      rcases List.mem_cons.1 hb with rfl | hb
      · omega
      · have := hbs b hb; omega
    · intro hb
      rcases List.mem_cons.1 hb with hb | hb
      · omega
      · exact hbs0 hb
    · exact fun X Y hs hk => ⟨(hI.mono (by omega)) X Y hs.1 hk, holds2_dep _ none (by omega) X Y hs.2 hk⟩
    · exact fun v X Y hs hk => ⟨((hIx v).mono (by omega)) X Y hs.1 hk, holds2_dep _ _ (by omega) X Y hs.2 hk⟩
    · rintro v W m ⟨hi, hh⟩ hown
      have hy := run_yield (P := Tryd.prog) (args := #[v]) hh.2 (by rw [hmk]; rfl)
      rw [hmk] at hy
      refine ⟨fn, _, assign, body, hy, roundIn_of_wpIn hfn (hassign _ _ v W _ ?_)⟩
      refine ⟨_, run_beginRound hh.2 (by rw [hmk]), ?_⟩
      have hbz := hh.put { mk .ready none with state := .busy }
      have hvD : v.ownBlock ≠ some (w.heap.size + 1) := fun e => by have := (hown.lt _ e).1; omega
      have hib : I (W.putObj (w.heap.size + 1) (.loop { mk .ready none with state := .busy })) := hI W _ hi (kin_put _ (by omega) (by simp))
      have hob : (W.putObj (w.heap.size + 1) (.loop { mk .ready none with state := .busy })).ownsRow (w.heap.size + 2) 3 1 v o.length (encI o) := hown.kept (grownBy_put _) (Or.inr hvD)
      have hk1 : KpB (w.heap.size + 2) ((w.heap.size + 1) :: bs) [] W (W.putObj (w.heap.size + 1) (.loop { mk .ready none with state := .busy })) := KpB.putObj (by simp) _
      refine wpIn_mono (hbody _ _ v _ hib hob) ?_
      rintro e a3 W3 ⟨rfl, hx3, hk3⟩
      have nots : ∀ (k : Nat) (ob : Obj), (w.heap.size + 2 ≤ k → ∀ c t fr, ob = .cells c t fr → t ∉ ([] : List Nat)) := fun _ _ _ _ _ _ _ => List.not_mem_nil
      have n1 : w.heap.size ∉ bs := fun hm => by have := hbs _ hm; omega
      have n2 : w.heap.size + 1 ∉ bs := fun hm => by have := hbs _ hm; omega
      have h3 : Holds2 W3 w.heap.size { mk .ready none with state := .busy } := ⟨hk3.2 _ _ hbz.1 n1 (nots _ _), hk3.2 _ _ hbz.2 n2 (nots _ _)⟩
      have hkk := hk1.trans (hk3.weaken (fun b hb => List.mem_cons_of_mem (w.heap.size + 1) hb))
      have hr := run_endRound (P := Tryd.prog) (some Code.ret) h3.2
      rw [hmk] at hr h3 ⊢
      refine ⟨_, _, hr, rfl, ⟨hIx v W3 _ hx3 (kin_put _ (by omega) hvD), h3.put _⟩, hkk.trans (KpB.putObj (l := w.heap.size + 1) List.mem_cons_self _)⟩
    · rintro e W2 ⟨⟨v, rfl⟩, (⟨hS, hi, hh⟩ | ⟨hS, v, ⟨hi, hh⟩, hown⟩)⟩
      · have he := run_endLoop (P := Tryd.prog) hh.2 (by rw [hmk]; simp)
        have hp : (mk .ready none).pending = none := by rw [hmk]
        rw [hp] at he
        exact ⟨none, _, he, hdone _ _ (Nat.le_refl _) hS (hI W2 _ hi (kin_put _ (by omega) (by simp))) ((World.putObj_heap_other (by omega)).trans hh.1)⟩
      · have hvD : v.ownBlock ≠ some (w.heap.size + 1) := fun e => by have := (hown.lt _ e).1; omega
        have he := run_endLoop (P := Tryd.prog) hh.2 (by rw [hmk]; simp)
        have hp : (mk .done (some .ret)).pending = some .ret := by rw [hmk]
        rw [hp] at he
        exact ⟨some .ret, _, he, hstop _ v _ (Nat.le_refl _) hS (hIx v W2 _ hi (kin_put _ (by omega) hvD)) (hown.kept (grownBy_put _) (Or.inr hvD)) ((World.putObj_heap_other (by omega)).trans hh.1)⟩
end Go.Proofs.YtkccckjiemijeabDoor

/- Several texts in one: RlO1, RlO2. -/
import Derived.Test.YtdjlfpkemdiadaaDoorRlE2
/- A loop over an iterator that itself goes through another iterator: a contract that asks of the caller's word that it abide every turn of what is no cells, and the law of the loop for it. -/
namespace Go.Proofs.YtdjlfpkemdiadaaDoor
open Go.RowKit Go.Shelf M
set_option linter.unusedSimpArgs false
set_option linter.unusedVariables false

/-- All blocks but these lie as they lay; of those from B on also but for cells of these types. -/
def KpB (B : Nat) (bs ts : List Nat) (W W' : World) : Prop :=
  W.heap.size ≤ W'.heap.size ∧ ∀ k o, W.heap[k]? = some o → k ∉ bs → (B ≤ k → ∀ c t fr, o = .cells c t fr → t ∉ ts) → W'.heap[k]? = some o
theorem KpB.refl (B : Nat) (bs ts : List Nat) (W : World) : KpB B bs ts W W := ⟨Nat.le_refl _, fun _ _ h _ _ => h⟩
theorem KpB.trans {B : Nat} {bs ts : List Nat} {X Y Z : World} (h : KpB B bs ts X Y) (k : KpB B bs ts Y Z) : KpB B bs ts X Z := ⟨Nat.le_trans h.1 k.1, fun j o hj hb ht => k.2 j o (h.2 j o hj hb ht) hb ht⟩
theorem KpB.putObj {B : Nat} {bs ts : List Nat} {W : World} {l : Nat} (h : l ∈ bs) (o : Obj) : KpB B bs ts W (W.putObj l o) := ⟨by simp, fun k _ hk hb _ => (World.putObj_heap_other (fun e => hb (by rw [e]; exact h))).trans hk⟩
theorem KpB.keepsFrom {B : Nat} {bs ts : List Nat} {W W' : World} {B' : Nat} (h : KpB B bs ts W W') (hb : ∀ b ∈ bs, b < B') : KeepsFrom B' W W' :=
  ⟨h.1, fun k o hk ho hc => h.2 k o ho (fun hm => by have := hb k hm; omega) (fun _ c t fr e => by subst e; cases hc)⟩
theorem KpB.of_below {B : Nat} {bs ts : List Nat} {W W' : World} (h : Below W.heap.size W W') : KpB B bs ts W W' := ⟨h.size, fun k o hk _ _ => (h.block k (Array.getElem?_eq_some_iff.1 hk).1).trans hk⟩
theorem KpB.of_upd {B : Nat} {bs ts : List Nat} {W W' : World} {b : Nat} (h : Upd W W' b) (hb : b ∈ bs) : KpB B bs ts W W' := ⟨by rw [h.size]; exact Nat.le_refl _, fun k o hk hn _ => (h.block k (fun e => hn (e ▸ hb))).trans hk⟩

/-- An iterator's contract, for a caller whose word abides the turn of any block that is no cells and was laid since, and whose rounds leave all blocks but some of its own as they lay. -/
def SeqO {α : Type} (F : Fence) (n : Nat) (P : Program) (g : Nat) (lb : Array Value) (encs : α → Array Value) (bs ts : List Nat) (S Sp : List α → Prop) (N : Nat) (w : World) : Prop :=
  ∀ (l : Nat) (J Jx : List α → World → Prop) (W : World), Below w.heap.size w W → (∀ b ∈ bs, b < W.heap.size) → OwnFrom W.heap.size J → OwnFrom W.heap.size Jx →
    (∀ pre x W1, J pre W1 → pre.length < N → YieldAt F (n - 1) P l (encs x) W1 fun e W' =>
      (e = .returned (.bool true) ∧ J (pre ++ [x]) W' ∧ KpB w.heap.size bs ts W1 W') ∨ (e = .returned (.bool false) ∧ Jx (pre ++ [x]) W' ∧ KpB w.heap.size bs ts W1 W')) →
    J [] W →
    CallsIn F n P g (#[.func (.yield l) #[] #[]] ++ lb) W fun e W' => (∃ v, e = .returned v) ∧ ((∃ xs, S xs ∧ J xs W') ∨ (∃ pre, Sp pre ∧ Jx pre W'))

/-- What a loop's two blocks hold. -/
def Holds2 (W : World) (D : Nat) (r : Loop) : Prop := W.heap[D]? = some (.deferred (some [])) ∧ W.heap[D + 1]? = some (.loop r)
theorem Holds2.lt {W : World} {D : Nat} {r : Loop} (h : Holds2 W D r) : D + 1 < W.heap.size := (Array.getElem?_eq_some_iff.1 h.2).1
theorem Holds2.put {W : World} {D : Nat} {r : Loop} (h : Holds2 W D r) (r' : Loop) : Holds2 (W.putObj (D + 1) (.loop r')) D r' :=
  ⟨(World.putObj_heap_other (by omega)).trans h.1, World.putObj_heap_same h.lt⟩
theorem Holds2.keeps {W W' : World} {D : Nat} {r : Loop} (h : Holds2 W D r) (hk : KeepsFrom D W W') : Holds2 W' D r :=
  ⟨hk.same D _ (Nat.le_refl _) h.1 rfl, hk.same (D + 1) _ (by omega) h.2 rfl⟩
theorem holds2_own {β : Type} {B D : Nat} (r : β → Loop) (hB : D + 1 < B) : OwnFrom B (fun s W => Holds2 W D (r s)) := fun s X Y row hs hg hr => by
  have key : ∀ k o, k ≤ D + 1 → X.heap[k]? = some o → Y.heap[k]? = some o := fun k o hk ho =>
    (hg.block k (Array.getElem?_eq_some_iff.1 ho).1 (fun e => by have := (hr k e.symm).1; omega)).trans ho
  exact ⟨key D _ (by omega) hs.1, key (D + 1) _ (Nat.le_refl _) hs.2⟩
theorem ownFrom_mono {β : Type} {B B' : Nat} {I : β → World → Prop} (h : OwnFrom B I) (hB : B ≤ B') : OwnFrom B' I := fun s X Y row hs hg hr =>
  h s X Y row hs hg (fun r e => ⟨Nat.le_trans hB (hr r e).1, (hr r e).2⟩)

/-- How the body of a round may be left. -/
def ownPostB {α : Type} (B B' : Nat) (bs ts : List Nat) (I : List α → World → Prop) (Ix : Code → List α → World → Prop) (xs : List α) (W : World) : Exit → Act → World → Prop
  | .normal, _, W' => KeepsFrom B W W' ∧ KpB B' bs ts W W' ∧ I xs W'
  | .ret, _, W' => KeepsFrom B W W' ∧ KpB B' bs ts W W' ∧ Ix .ret xs W'
  | .exit id, _, W' => KeepsFrom B W W' ∧ KpB B' bs ts W W' ∧ Ix (.exit id) xs W'
  | .goto t, _, W' => KeepsFrom B W W' ∧ KpB B' bs ts W W' ∧ Ix (.goto t) xs W'
  | .panic _, _, _ => False
  | .outgrown, _, _ => False

theorem rangeO {F : Fence} {n : Nat} {P : Program} {α : Type} {g : Operand} {ps : Array Tmp} {assign body : Code} {Q : Exit → Act → World → Prop} {a : Act} {w : World}
    (hro : F.round = none) (h1 : 1 ≤ n) {gf : Nat} {lb : Array Value} (hg : a.eval g = .func (.func gf) #[] lb) (hFg : F.fn gf) (eg : ∀ args w, (callFunc gf args).run P w = .ok (.enter gf args) w)
    {encs : α → Array Value} {bs ts : List Nat} {S Sp : List α → Prop} {N : Nat} {w0 : World} (hseq : SeqO F (n - 1) P gf lb encs bs ts S Sp N w0)
    (hbs : ∀ b ∈ bs, b < w.heap.size + 2) (hrec : w.heap.size + 1 ∈ bs) (hb0 : Below w0.heap.size w0 w) (hps : ∀ x, (encs x).size = ps.size)
    (I : List α → World → Prop) (Ix : Code → List α → World → Prop) (hI : OwnFrom w.heap.size I) (hIx : ∀ c, OwnFrom w.heap.size (Ix c)) (h0 : I [] w)
    (Ax : α → Act → World → Prop) (hAx : ∀ x a', OwnFrom w.heap.size (fun (_ : Unit) W => Ax x a' W))
    (hassign : ∀ (l : Nat) (pre : List α) (x : α) (W : World) (K : Act → World → Prop), I pre W → (∀ a' W', KeepsFrom w.heap.size W W' → KpB w0.heap.size bs ts W W' → I pre W' → Ax x a' W' → K a' W') →
      assign.wpIn (F.inRound l) (n - 1 - 1) P (Exit.then K (fun _ _ _ => False)) { tmps := (ps.zip (encs x)).foldl (fun t (p, v) => t.setIfInBounds p v) a.tmps, defers := [] } W)
    (hbody : ∀ (l : Nat) (pre : List α) (x : α) (a' : Act) (W : World), I pre W → Ax x a' W → pre.length < N → body.wpIn (F.inRound l) (n - 1 - 1) P (ownPostB w.heap.size w0.heap.size bs ts I Ix (pre ++ [x]) W) a' W)
    (hdone : ∀ (D : Nat) (xs : List α) (W : World), w.heap.size ≤ D → S xs → I xs W → W.heap[D]? = some (.deferred (some [])) → Q .normal { a with defers := { target := .collected D, args := #[] } :: a.defers } W)
    (hstop : ∀ (D : Nat) (c : Code) (pre : List α) (W : World), w.heap.size ≤ D → Sp pre → Ix c pre W → W.heap[D]? = some (.deferred (some [])) → c.wpIn F n P Q { a with defers := { target := .collected D, args := #[] } :: a.defers } W) :
    (Code.rangeFunc g ps assign body).wpIn F n P Q a w := by
  refine wpIn_rangeFunc fun fn hfn => ?_
  rw [hro]
  obtain ⟨mk, hmk⟩ : ∃ mk : LoopState → Option Code → Loop, mk = fun st pe => { state := st, pending := pe, fn, tmps := a.tmps, params := ps, assign, body, defers := w.heap.size } := ⟨_, rfl⟩
  have hen : (Instr.enterLoop fn a.tmps ps assign body none).run P w = .ok (w.heap.size + 1, [{ target := .collected w.heap.size, args := #[] }]) ((w.alloc (.deferred (some []))).alloc (.loop (mk .ready none))) := by
    rw [hmk]; exact run_enterLoop_outer _ _ _ _ _
  have hB1 : Below w.heap.size w ((w.alloc (.deferred (some []))).alloc (.loop (mk .ready none))) := ((Below.refl _ w).alloc (Nat.le_refl _) _).alloc (by simp) _
  have hH1 : Holds2 ((w.alloc (.deferred (some []))).alloc (.loop (mk .ready none))) w.heap.size (mk .ready none) := by
    refine ⟨(Below.heap_alloc _ _ _ (by simp)).trans (World.alloc_heap_new w _), ?_⟩
    have := World.alloc_heap_new (w.alloc (.deferred (some []))) (.loop (mk .ready none))
    rwa [World.size_alloc] at this
  have hI1 : I [] ((w.alloc (.deferred (some []))).alloc (.loop (mk .ready none))) := hI.alloc _ (hI.alloc _ h0)
  have hsz : ((w.alloc (.deferred (some []))).alloc (.loop (mk .ready none))).heap.size = w.heap.size + 2 := by simp
  generalize (w.alloc (.deferred (some []))).alloc (.loop (mk .ready none)) = W1 at *
  have hfl : ∀ (W : World) (r' : Loop), KpB w0.heap.size bs ts W (W.putObj (w.heap.size + 1) (.loop r')) := fun W r' => KpB.putObj hrec _
  refine ⟨w.heap.size + 1, _, W1, { target := .fn (.func gf) lb, args := #[.func (.yield (w.heap.size + 1)) #[] #[]] }, W1, gf, #[.func (.yield (w.heap.size + 1)) #[] #[]] ++ lb, W1, hen, ?_, ?_, ?_, fun _ => h1, ?_⟩
  · simp only [resolve, hg]
    simp [go_sem]
  · intro f' hf'; simp [Target.leads] at hf'; subst hf'; exact hFg
  · simp [invoke, go_sem, eg]
  · refine (hseq (w.heap.size + 1) (fun pre W => I pre W ∧ Holds2 W w.heap.size (mk .ready none)) (fun pre W => ∃ c, Ix c pre W ∧ Holds2 W w.heap.size (mk .done (some c))) W1
      (hb0.trans (hB1.mono hb0.size)) (fun b hb => by have := hbs b hb; omega) (OwnFrom.and (ownFrom_mono hI (by omega)) (holds2_own (fun _ => mk .ready none) (by omega)))
      (fun s X Y row hs hg' hr => by
        obtain ⟨c, h2, h3⟩ := hs
        exact ⟨c, ownFrom_mono (B' := W1.heap.size) (hIx c) (by omega) s X Y row h2 hg' hr, holds2_own (fun _ : Unit => mk .done (some c)) (by omega) () X Y row h3 hg' hr⟩)
      ?_ ⟨hI1, hH1⟩).mono ?_
    · rintro pre x W ⟨hi, hh⟩ hlen
      have hy := run_yield (P := P) (args := encs x) hh.2 (by rw [hmk]; exact hps x)
      rw [hmk] at hy
      refine ⟨fn, _, assign, body, hy, roundIn_of_wpIn hfn (hassign _ pre x W _ hi (fun a' W' hk' hkp' hi' hx' => ?_))⟩
      have hh' := hh.keeps hk'
      refine ⟨_, run_beginRound hh'.2 (by rw [hmk]), ?_⟩
      have hbz := hh'.put { mk .ready none with state := .busy }
      have hib := hI.putObj (.loop { mk .ready none with state := .busy }) hi' (by omega) hh'.2 rfl
      have hxb := (hAx x a').putObj (s := ()) (.loop { mk .ready none with state := .busy }) hx' (by omega) hh'.2 rfl
      refine wpIn_mono (hbody _ pre x a' _ hib hxb hlen) ?_
      have fin : ∀ (jump : Option Code) (W3 : World), KeepsFrom w.heap.size (W'.putObj (w.heap.size + 1) (.loop { mk .ready none with state := .busy })) W3 →
          (Instr.endRound (w.heap.size + 1) jump).run P W3 = .ok (.bool jump.isNone) (W3.putObj (w.heap.size + 1) (.loop (mk (if jump.isNone then .ready else .done) jump))) ∧
          Holds2 W3 w.heap.size { mk .ready none with state := .busy } := fun jump W3 hk3 => by
        have h3 := hbz.keeps hk3
        have := run_endRound (P := P) jump h3.2
        rw [hmk] at this h3 ⊢
        exact ⟨this, h3⟩
      have out : ∀ (c : Code) (W3 : World), KeepsFrom w.heap.size (W'.putObj (w.heap.size + 1) (.loop { mk .ready none with state := .busy })) W3 → KpB w0.heap.size bs ts (W'.putObj (w.heap.size + 1) (.loop { mk .ready none with state := .busy })) W3 → Ix c (pre ++ [x]) W3 →
          ∃ v w', (Instr.endRound (w.heap.size + 1) (some c)).run P W3 = .ok v w' ∧ ((Ending.returned v = .returned (.bool true) ∧ (I (pre ++ [x]) w' ∧ Holds2 w' w.heap.size (mk .ready none)) ∧ KpB w0.heap.size bs ts W w') ∨ (Ending.returned v = .returned (.bool false) ∧ (∃ c, Ix c (pre ++ [x]) w' ∧ Holds2 w' w.heap.size (mk .done (some c))) ∧ KpB w0.heap.size bs ts W w')) := fun c W3 hk3 hq3 hx3 => by
        obtain ⟨hr, h3⟩ := fin (some c) W3 hk3
        exact ⟨_, _, hr, .inr ⟨rfl, ⟨c, (hIx c).putObj _ hx3 (by omega) h3.2 rfl, h3.put _⟩, (hkp'.trans ((hfl _ _).trans hq3)).trans (hfl _ _)⟩⟩
      rintro e a3 W3 hp
      cases e with
      | normal =>
        obtain ⟨hk3, hkp3, hi3⟩ := hp
        obtain ⟨hr, h3⟩ := fin none W3 hk3
        exact ⟨_, _, hr, .inl ⟨rfl, ⟨hI.putObj _ hi3 (by omega) h3.2 rfl, h3.put _⟩, (hkp'.trans ((hfl _ _).trans hkp3)).trans (hfl _ _)⟩⟩
      | ret => exact out .ret W3 hp.1 hp.2.1 hp.2.2
      | exit id => exact out (.exit id) W3 hp.1 hp.2.1 hp.2.2
      | goto t => exact out (.goto t) W3 hp.1 hp.2.1 hp.2.2
      | panic ch => exact hp.elim
      | outgrown => exact hp.elim
    · rintro e W2 ⟨⟨v, rfl⟩, (⟨xs, hS, hi, hh⟩ | ⟨pre, hSp, c, hi, hh⟩)⟩
      · have he := run_endLoop (P := P) hh.2 (by rw [hmk]; simp)
        have hp : (mk .ready none).pending = none := by rw [hmk]
        rw [hp] at he
        refine ⟨none, _, he, hdone _ xs _ (Nat.le_refl _) hS (hI.putObj _ hi (by omega) hh.2 rfl) ((World.putObj_heap_other (by omega)).trans hh.1)⟩
      · have he := run_endLoop (P := P) hh.2 (by rw [hmk]; simp)
        have hp : (mk .done (some c)).pending = some c := by rw [hmk]
        rw [hp] at he
        refine ⟨some c, _, he, hstop _ c pre _ (Nat.le_refl _) hSp ((hIx c).putObj _ hi (by omega) hh.2 rfl) ((World.putObj_heap_other (by omega)).trans hh.1)⟩
end Go.Proofs.YtdjlfpkemdiadaaDoor
/- Edges: goes through the pairs of a relation; a loop over an iterator inside a plain loop. -/
namespace Go.Proofs.YtdjlfpkemdiadaaDoor
open Go.RowKit Go.Shelf M
attribute [local go_sem] Oper.semAt_some
set_option linter.unusedSimpArgs false
set_option linter.unusedVariables false

def edgesL (N : Nat) (f : Nat → Nat) : List (Nat × Nat) := (List.range N).flatMap fun a => (lst (f a)).map fun b => (a, b)
def valsP (l : List (Fin 64 × Fin 64)) : List (Nat × Nat) := l.map fun x => (x.1.val, x.2.val)
def encE (x : Fin 64 × Fin 64) : Array Value := #[.agg #[.int .i64 (x.1.val : Nat), .int .i64 (x.2.val : Nat)]]
theorem edgesL_succ (k : Nat) (f : Nat → Nat) : edgesL (k + 1) f = edgesL k f ++ (lst (f k)).map fun b => (k, b) := by
  simp [edgesL, List.range_succ]
theorem edgesL_pre (k N : Nat) (h : k ≤ N) (f : Nat → Nat) : edgesL k f <+: edgesL N f := by
  obtain ⟨d, rfl⟩ : ∃ d, N = k + d := ⟨N - k, by omega⟩
  induction d with
  | zero => exact List.prefix_refl _
  | succ d ih =>
    rw [← Nat.add_assoc, edgesL_succ]
    exact (ih (by omega)).trans (List.prefix_append _ _)
theorem tab_own {β : Type} : Own (fun (_ : β) W => TabAt W) := fun s X Y row hs hg hr => by
  intro j hj
  have hc := hs j hj
  refine (World.cell?_of_block (w := X) (hg.block 1 hs.pos (fun e => ?_))).trans hc
  obtain ⟨o, ho, hcells⟩ := hr 1 e.symm
  simp only [World.cell?] at hc
  rw [ho] at hc
  cases o <;> simp_all [Obj.isCells]
theorem round_wide {n n' l l' : Nat} {fn : FuncId} {t : Array Value} {a b : Code} {W : World} {R : Ending → World → Prop} (h : RoundIn Fence.wide n Tryd.prog l fn t a b W R) : RoundIn (Fence.wide.inRound l') n' Tryd.prog l fn t a b W R :=
  ⟨h.1, fun c cs hr => h.2 c cs (by simp [Fence.room, Fence.wide])⟩
def mark (D : Nat) : Deferred := { target := .collected D, args := #[] }
theorem leaves_marks {fn : Func} (hres : fn.results = #[]) (tmps : Array Value) {R : Ending → World → Prop} {G : World → Prop} {B n : Nat} (hG : ∀ W, G W → R (.returned (.tuple #[])) W) (hput : ∀ W D o, G W → B ≤ D → W.heap[D]? = some (.deferred (some o)) → G (W.putObj D (.deferred none))) :
    ∀ (ds : List Nat) (W : World), G W → (∀ D ∈ ds, B ≤ D ∧ W.heap[D]? = some (.deferred (some []))) → ds.Nodup → LeavesInM Fence.wide n Tryd.prog fn tmps R (ds.map mark) .returning W
  | [], W, h, _, _ => ⟨_, results_none hres _ _ _, hG W h⟩
  | D :: ds, W, h, hd, hn => by
    have h1 := hd D (by simp)
    have hnd := List.nodup_cons.1 hn
    refine ⟨by simp, .inl ⟨D, _, rfl, run_takeDeferred h1.2, ?_⟩⟩
    refine leaves_marks hres tmps hG hput ds _ (hput W D _ h h1.1 h1.2) (fun E hE => ?_) hnd.2
    have h2 := hd E (by simp [hE])
    exact ⟨h2.1, (World.putObj_heap_other (fun e => hnd.1 (by rw [← e]; exact hE))).trans h2.2⟩

def Marks (B : Nat) (ds : List Nat) (W : World) : Prop := ∀ D ∈ ds, B ≤ D ∧ W.heap[D]? = some (.deferred (some []))
theorem Marks.lt {B : Nat} {ds : List Nat} {W : World} (h : Marks B ds W) : ∀ D ∈ ds, D < W.heap.size := fun D hD => (Array.getElem?_eq_some_iff.1 (h D hD).2).1
theorem Marks.same {B : Nat} {ds : List Nat} {W W' : World} (h : Marks B ds W) (hs : ∀ D ∈ ds, W'.heap[D]? = W.heap[D]?) : Marks B ds W' := fun D hD => ⟨(h D hD).1, (hs D hD).trans (h D hD).2⟩
theorem marks_own {β : Type} {B B' : Nat} {ds : List Nat} (hd : ∀ D ∈ ds, D < B') : OwnFrom B' (fun (_ : β) W => Marks B ds W) := fun s X Y row hs hg hr =>
  hs.same fun D hD => hg.block D (hs.lt D hD) (fun e => by have := (hr D e.symm).1; have := hd D hD; omega)
theorem valsP_map (k : Fin 64) (pre : List (Fin 64)) : valsP (pre.map fun b => (k, b)) = (valsF pre).map fun b => (k.val, b) := by simp [valsP, valsF]
theorem valsP_app (a b : List (Fin 64 × Fin 64)) : valsP (a ++ b) = valsP a ++ valsP b := by simp [valsP]
theorem valsP_len (a : List (Fin 64 × Fin 64)) : (valsP a).length = a.length := by simp [valsP]

set_option maxRecDepth 100000 in
set_option maxHeartbeats 2000000 in
theorem edges1_O (Bn N : Nat) (hN : N ≤ 64) (f : Nat → Nat) (hf : Hid (Wf f)) (bs ts : List Nat) (h0 : 1 ∉ bs) (hBn : Bn ∉ bs) (hts : 121 ∉ ts ∧ 3 ∉ ts) (w : World) (hr : IsR w Bn N f) (hT : TabAt w) (m : Nat) :
    SeqO Fence.wide m Tryd.prog 92 #[.pointer (some ⟨Bn, 0, none⟩)] encE bs ts (fun ys => valsP ys = edgesL N f) (fun pre => valsP pre <+: edgesL N f) (edgesL N f).length w := by
  intro l J Jx W hW hbs hJ hJx hY hJ0
  have rW := hr.grown hW
  have tW := hT.below hW
  refine callsIn_wide.2 ((callsIn_wide (n := 8)).1 ?_)
  refine callsIn_of_wp_marks Tryd.func92 rfl trivial ?_ rfl
  simp only [Tryd.ntmps92, List.size_toArray, List.length_cons, List.length_nil, Nat.reduceAdd, Nat.reduceSub, Array.replicate_succ, Array.replicate_zero, List.push_toArray, List.append_toArray, List.nil_append, List.cons_append]
  have F2 := Fresh.alloc W (.cells #[.func (.yield l) #[] #[]] 121)
  have rW2 := rW.alloc (.cells #[.func (.yield l) #[] #[]] 121)
  have hn2 := rW2.n
  gi_wp2
  have bY := Boxed.new W 121 (.func (.yield l) #[] #[])
  have hJ2 := hJ.alloc (.cells #[.func (.yield l) #[] #[]] 121) hJ0
  have tW2 := tW.below F2.below
  have hle2 : W.heap.size ≤ (W.alloc (.cells #[.func (.yield l) #[] #[]] 121)).heap.size := F2.below.size
  have hb2 : W.heap.size ≤ W.heap.size := Nat.le_refl _
  clear hn2 F2
  generalize W.alloc (.cells #[.func (.yield l) #[] #[]] 121) = W2 at *
  obtain ⟨b2, hb2e⟩ : ∃ b2, W.heap.size = b2 := ⟨_, rfl⟩
  have hb2b : b2 ∉ bs := fun h => by have := hbs b2 h; omega
  obtain ⟨B0, hB0⟩ : ∃ B0, B0 = b2 := ⟨_, rfl⟩
  rw [hb2e] at bY hJ hJx hle2 ⊢
  rw [← hB0] at hJ hJx hle2
  refine wpIn_loop (fun a V => ∃ (k : Nat) (P0 : List (Fin 64 × Fin 64)) (ds : List Nat) (u3 u4 u8 u9 u10 u11 u12 u13 u14 u15 u16 u17 u18 u19 u20 u21 u22 : Value), k ≤ N ∧ a = { tmps := #[.func (.yield l) #[] #[], .pointer (some ⟨Bn, 0, none⟩), .pointer (some ⟨b2, 0, none⟩), u3, u4, .pointer (some ⟨Bn, 0, none⟩), .int .i64 (N : Nat), .int .i64 (k : Nat), u8, u9, u10, u11, u12, u13, u14, u15, u16, u17, u18, u19, u20, u21, u22], defers := ds.map mark } ∧ valsP P0 = edgesL k f ∧ J P0 V ∧ Boxed V b2 121 (.func (.yield l) #[] #[]) ∧ IsR V Bn N f ∧ TabAt V ∧ Marks B0 ds V ∧ ds.Nodup ∧ B0 ≤ V.heap.size)
    (fun a _ => N - (intOf (a.tmps.getD 7 undef)).toNat) ?start ?round
  case start => exact ⟨0, [], [], _, _, _, _, _, _, _, _, _, _, _, _, _, _, _, _, _, by omega, rfl, rfl, hJ2, bY, rW2, tW2, fun _ h => (by simp at h), List.nodup_nil, hle2⟩
  case round =>
    clear hJ2 bY rW2 tW2 hle2
    rintro a V ⟨k, P0, ds, u3, u4, u8, u9, u10, u11, u12, u13, u14, u15, u16, u17, u18, u19, u20, u21, u22, hk, rfl, hv, hj, bY, rV, tV, hds, hnd, hle⟩
    by_cases hlt : k < N
    · have hki : (k : Int) < (N : Int) := by omega
      have rV3 := rV.alloc (.cells #[.int .i64 (k : Nat)] 3)
      have hrow := rV3.row k (by omega)
      have hxl := hf.out k
      have hk64 : k < 64 := by omega
      have hf70 : Fence.wide.fn 93 := trivial
      have hf83 : Fence.wide.fn 97 := trivial
      gi_wp2_with (first
        | (gi_at_call 93; refine (callsIn_wide.2 (each_any _ _)).mono ?_; rintro e w' ⟨rfl, rfl⟩))
      have hVs : ((V.alloc (.cells #[.int .i64 (k : Nat)] 3)).alloc (.cells #[.int .u64 (f k : Nat)] 29)).heap.size = V.heap.size + 2 := by simp
      have bK := (Boxed.new V 3 (.int .i64 (k : Nat))).alloc (.cells #[.int .u64 (f k : Nat)] 29)
      have bE := Boxed.new (V.alloc (.cells #[.int .i64 (k : Nat)] 3)) 29 (.int .u64 (f k : Nat))
      rw [World.size_alloc] at bE
      have BV : Below V.heap.size V ((V.alloc (.cells #[.int .i64 (k : Nat)] 3)).alloc (.cells #[.int .u64 (f k : Nat)] 29)) := ((Below.refl _ V).alloc (Nat.le_refl _) _).alloc (by simp) _
      have hj3 := ownFrom_mono hJ hle |>.alloc (.cells #[.int .u64 (f k : Nat)] 29) (ownFrom_mono hJ hle |>.alloc (.cells #[.int .i64 (k : Nat)] 3) hj)
      have bY3 := (bY.alloc (.cells #[.int .i64 (k : Nat)] 3)).alloc (.cells #[.int .u64 (f k : Nat)] 29)
      have rV4 := rV3.alloc (.cells #[.int .u64 (f k : Nat)] 29)
      have tV4 := tV.below BV
      have hd4 : Marks B0 ds ((V.alloc (.cells #[.int .i64 (k : Nat)] 3)).alloc (.cells #[.int .u64 (f k : Nat)] 29)) := hds.same fun D hD => BV.block D (hds.lt D hD)
      have hdl : ∀ D ∈ ds, D < V.heap.size + 2 := fun D hD => by have := hds.lt D hD; omega
      have hb3b : V.heap.size ∉ bs := fun h => by have := hbs _ h; omega
      have hEk := edgesL_succ k f
      have hEp := edgesL_pre (k + 1) N (by omega) f
      have hlen0 : P0.length = (edgesL k f).length := by rw [← hv, valsP_len]
      have hlenN : (edgesL k f).length + (lst (f k)).length ≤ (edgesL N f).length := by
        have := hEp.length_le
        rw [hEk] at this
        simpa using this
      have hV0 : B0 ≤ V.heap.size + 2 := by omega
      have hbY := bY.lt
      clear rV3 hrow hj bY rV tV BV
      generalize (V.alloc (.cells #[.int .i64 (k : Nat)] 3)).alloc (.cells #[.int .u64 (f k : Nat)] 29) = V4 at *
      refine wpIn_rangeFunc_ownG rfl (by omega) (gf := 97) (lb := #[.pointer (some ⟨V.heap.size + 1, 0, none⟩)]) rfl trivial (enters_of Tryd.func97 (by kernel_rfl) rfl)
        (each_stops (8 - 1) (by omega) (V.heap.size + 1) (f k) hxl V4 (by omega) bE.cell tV4) Same.trans (Same.putObj (by simp; omega)) (Below.refl _ _) (fun _ => rfl)
        (fun pre W' => J (P0 ++ pre.map fun b => ((⟨k, hk64⟩ : Fin 64), b)) W' ∧ Boxed W' b2 121 (.func (.yield l) #[] #[]) ∧ Boxed W' V.heap.size 3 (.int .i64 (k : Nat)) ∧ IsR W' Bn N f ∧ TabAt W' ∧ Marks B0 ds W' ∧ V.heap.size + 2 ≤ W'.heap.size)
        (fun c pre W' => c = .ret ∧ Jx (P0 ++ pre.map fun b => ((⟨k, hk64⟩ : Fin 64), b)) W' ∧ Marks B0 ds W')
        ?ownI ?ownX ?start2
        (fun x => { tmps := #[.func (.yield l) #[] #[], .pointer (some ⟨Bn, 0, none⟩), .pointer (some ⟨b2, 0, none⟩), .pointer (some ⟨V.heap.size, 0, none⟩), .int .i64 (x.val : Nat), .pointer (some ⟨Bn, 0, none⟩), .int .i64 (N : Nat), .int .i64 (k : Nat), .bool true, .int .i64 (k : Nat), .int .i64 (k : Nat), .pointer (some ⟨Bn, 1, none⟩), .pointer (some ⟨Bn, 1 + k, none⟩), .int .u64 (f k : Nat), .func (.func 97) #[] #[.pointer (some ⟨V.heap.size + 1, 0, none⟩)], .int .i64 (x.val : Nat), u16, u17, u18, u19, u20, u21, u22], defers := [] }) ?assign ?body ?done ?stop
      case ownI =>
        refine OwnFrom.and (fun s X Y row hs hg hr => hJ _ X Y row hs hg (fun r e => ⟨by have := (hr r e).1; omega, (hr r e).2⟩)) (OwnFrom.and (Own.from (boxed_own _ _ (fun _ => _)) _) (OwnFrom.and (Own.from (boxed_own _ _ (fun _ => _)) _) (OwnFrom.and (Own.from (isR_own _ _ (fun _ => f)) _) (OwnFrom.and (Own.from tab_own _) (OwnFrom.and (marks_own (fun D hD => by have := hdl D hD; omega)) ?_)))))
        exact fun s X Y row hs hg hr => Nat.le_trans hs hg.size
      case ownX =>
        exact fun c => OwnFrom.and (ownFrom_pure _ (fun _ => c = .ret)) (OwnFrom.and (fun s X Y row hs hg hr => hJx _ X Y row hs hg (fun r e => ⟨by have := (hr r e).1; omega, (hr r e).2⟩)) (marks_own (fun D hD => by have := hdl D hD; omega)))
      case start2 => exact ⟨by simpa using hj3, bY3, bK, rV4, tV4, hd4, by omega⟩
      case assign =>
        intro l' x W' K hK
        gi_wp2
        exact hK
      case body =>
        rintro l' pre x W' ⟨hj', qY, qK, qR, qT, qD, qS⟩ hlt'
        have hlen' : (P0 ++ pre.map fun b => ((⟨k, hk64⟩ : Fin 64), b)).length < (edgesL N f).length := by
          rw [List.length_append, List.length_map, hlen0]; omega
        obtain ⟨fn, tmps, assign, body, hy, hR⟩ := hY _ ((⟨k, hk64⟩ : Fin 64), x) W' hj' hlen'
        dsimp only [encE] at hy
        have cY := qY.cell
        have cK := qK.cell
        have hsn : (P0 ++ pre.map fun b => ((⟨k, hk64⟩ : Fin 64), b)) ++ [((⟨k, hk64⟩ : Fin 64), x)] = P0 ++ (pre ++ [x]).map fun b => ((⟨k, hk64⟩ : Fin 64), b) := by simp
        rw [hsn] at hR
        have HKF : Hid (∀ W3, KpB w.heap.size bs ts W' W3 → KeepsFrom V4.heap.size W' W3 ∧ Same [1] W' W3 ∧ Boxed W3 b2 121 (.func (.yield l) #[] #[]) ∧ Boxed W3 V.heap.size 3 (.int .i64 (k : Nat)) ∧ IsR W3 Bn N f ∧ TabAt W3 ∧ Marks B0 ds W3 ∧ V.heap.size + 2 ≤ W3.heap.size) := fun W3 h3 => by
          have hs0 : Same [1] W' W3 := fun b hb => by
            rw [List.mem_singleton] at hb
            subst hb
            obtain ⟨o, ho⟩ : ∃ o, W'.heap[1]? = some o := ⟨_, Array.getElem?_eq_getElem qT.pos⟩
            rw [ho]
            exact h3.2 1 o ho h0 (fun hle => by have := hT.pos; omega)
          exact ⟨h3.keepsFrom (fun b hb => by have := hbs b hb; omega), hs0, h3.2 b2 _ qY hb2b (fun _ c t fr e => by cases e; exact hts.1), h3.2 _ _ qK hb3b (fun _ c t fr e => by cases e; exact hts.2), h3.2 Bn _ qR hBn (fun hle => by have := hr.lt; omega), qT.same hs0 (by simp), fun D hD => ⟨(qD D hD).1, h3.2 D _ (qD D hD).2 (fun hm => by have := hbs D hm; have := (qD D hD).1; omega) (fun _ c t fr e => by cases e)⟩, Nat.le_trans qS h3.1⟩
        clear hlen' hlt' hsn qY qK qR qT qD qS hj' hj3 bY3 bK rV4 tV4 hd4 bE hds hdl hEk hEp hlen0 hlenN hVs hnd hv hxl
        gi_wp2
        refine (round_wide hR).mono ?_
        rintro e W3 (⟨rfl, hJ3, hk3⟩ | ⟨rfl, hJ3, hk3⟩)
        · obtain ⟨g1, g2, g3, g4, g5, g6, g7, g8⟩ := HKF.out W3 hk3
          gi_wp2
          exact ⟨g1, g2, hJ3, g3, g4, g5, g6, g7, g8⟩
        · obtain ⟨g1, g2, g3, g4, g5, g6, g7, g8⟩ := HKF.out W3 hk3
          gi_wp2
          exact ⟨g1, rfl, hJ3, g7⟩
      case done =>
        rintro D ys W' hD hys ⟨hj', qY, qK, qR, qT, qD, qS⟩ hK
        have hv' : valsP (P0 ++ ys.map fun b => ((⟨k, hk64⟩ : Fin 64), b)) = edgesL (k + 1) f := by
          rw [valsP_app, hv, valsP_map, hys, hEk]
        have hnd' : (D :: ds).Nodup := List.nodup_cons.2 ⟨fun hm => by have := hdl D hm; omega, hnd⟩
        have hm' : Marks B0 (D :: ds) W' := fun E hE => by
          rcases List.mem_cons.1 hE with rfl | hE
          · exact ⟨by omega, hK⟩
          · exact qD E hE
        have hdd : { target := Target.collected D, args := #[] } :: ds.map mark = (D :: ds).map mark := rfl
        rw [hdd]
        have hle' : B0 ≤ W'.heap.size := by omega
        have HH : Hid (valsP (P0 ++ ys.map fun b => ((⟨k, hk64⟩ : Fin 64), b)) = edgesL (k + 1) f ∧ J (P0 ++ ys.map fun b => ((⟨k, hk64⟩ : Fin 64), b)) W' ∧ Boxed W' b2 121 (.func (.yield l) #[] #[]) ∧ IsR W' Bn N f ∧ TabAt W' ∧ Marks B0 (D :: ds) W' ∧ (D :: ds).Nodup ∧ B0 ≤ W'.heap.size) := ⟨hv', hj', qY, qR, qT, hm', hnd', hle'⟩
        clear hv' hnd' hm' hdd hle' hys qK hK hj' qY qR qT qD qS hj3 bY3 bK rV4 tV4 hd4 bE hds hdl hEk hEp hlen0 hlenN hVs hnd hv hxl
        gi_wp2
        obtain ⟨e1, e2, e3, e4, e5, e6, e7, e8⟩ := HH.out
        refine ⟨⟨k + 1, _, D :: ds, _, _, _, _, _, _, _, _, _, _, _, _, _, _, _, _, _, by omega, rfl, e1, e2, e3, e4, e5, e6, e7, e8⟩, ?_⟩
        simp [intOf]
        omega
      case stop =>
        rintro D c pre W' hD hpre ⟨rfl, hjx, qD⟩ hK
        have hpp : valsP (P0 ++ pre.map fun b => ((⟨k, hk64⟩ : Fin 64), b)) <+: edgesL N f := by
          rw [valsP_app, hv, valsP_map]
          refine List.IsPrefix.trans ?_ hEp
          rw [hEk]
          exact List.prefix_append_right_inj _ |>.2 (hpre.map _)
        have hnd' : (D :: ds).Nodup := List.nodup_cons.2 ⟨fun hm => by have := hdl D hm; omega, hnd⟩
        have hm' : Marks B0 (D :: ds) W' := fun E hE => by
          rcases List.mem_cons.1 hE with rfl | hE
          · exact ⟨by omega, hK⟩
          · exact qD E hE
        clear hj3 bY3 bK rV4 tV4 hd4 bE hds hdl hEk hEp hlen0 hlenN hVs hnd hv hxl hK
        gi_wp2
        exact leaves_marks rfl _ (G := fun V' => ∃ xs, valsP xs <+: edgesL N f ∧ Jx xs V') (B := B0) (fun W' h => ⟨⟨_, rfl⟩, .inr h⟩) (fun W' D o h hD hd => by
          obtain ⟨xs, h1, h2⟩ := h
          exact ⟨xs, h1, hJx.putObj _ h2 hD hd rfl⟩) (D :: ds) W' ⟨_, hpp, hjx⟩ hm' hnd'
    · have hkN : k = N := by omega
      subst hkN
      gi_wp2
      exact leaves_marks rfl _ (G := fun V' => ∃ xs, valsP xs = edgesL k f ∧ J xs V') (B := B0) (fun W' h => ⟨⟨_, rfl⟩, .inl h⟩) (fun W' D o h hD hd => by
        obtain ⟨xs, h1, h2⟩ := h
        exact ⟨xs, h1, hJ.putObj _ h2 hD hd rfl⟩) ds V ⟨P0, hv, hj⟩ hds hnd
end Go.Proofs.YtdjlfpkemdiadaaDoor

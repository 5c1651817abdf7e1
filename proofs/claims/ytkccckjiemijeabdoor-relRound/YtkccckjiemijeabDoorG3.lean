/- A loop over an iterator whose caller need only abide the rounds that come; going through a row's numbers so. -/
import Derived.Test.YtkccckjiemijeabDoorO2
namespace Go.Proofs.YtkccckjiemijeabDoor
open Go.RowKit Go.Shelf M
attribute [local go_sem] Oper.semAt_some
set_option linter.unusedSimpArgs false
set_option linter.unusedVariables false

/-- An iterator's contract, for a caller that abides the rounds that come, in their order, and leaves the library's table. -/
def SeqP {α : Type} (F : Fence) (n : Nat) (P : Program) (g : Nat) (lb : Array Value) (encs : α → Array Value) (Pr S : List α → Prop) (w : World) : Prop :=
  ∀ (l : Nat) (J Jx : List α → World → Prop) (W : World), Below w.heap.size w W →
    (∀ pre x W1, J pre W1 → Pr (pre ++ [x]) → YieldAt F (n - 1) P l (encs x) W1 fun e W' =>
      (e = .returned (.bool true) ∧ J (pre ++ [x]) W' ∧ Same [0] W1 W') ∨ (e = .returned (.bool false) ∧ Jx (pre ++ [x]) W')) →
    J [] W →
    CallsIn F n P g (#[.func (.yield l) #[] #[]] ++ lb) W fun e W' => (∃ v, e = .returned v) ∧ ((∃ xs, S xs ∧ J xs W') ∨ (∃ pre, Pr pre ∧ Jx pre W'))

theorem rangeP {F : Fence} {n : Nat} {P : Program} {α : Type} {g : Operand} {ps : Array Tmp} {assign body : Code} {Q : Exit → Act → World → Prop} {a : Act} {w : World}
    (hro : F.round = none) (h1 : 1 ≤ n) {gf : Nat} {lb : Array Value} (hg : a.eval g = .func (.func gf) #[] lb) (hFg : F.fn gf) (eg : ∀ args w, (callFunc gf args).run P w = .ok (.enter gf args) w)
    {encs : α → Array Value} {Pr S : List α → Prop} {w0 : World} (hseq : SeqP F (n - 1) P gf lb encs Pr S w0)
    (hb0 : Below w0.heap.size w0 w) (hps : ∀ x, (encs x).size = ps.size)
    (I : List α → World → Prop) (Ix : Code → List α → World → Prop) (hI : OwnFrom w.heap.size I) (hIx : ∀ c, OwnFrom w.heap.size (Ix c)) (h0 : I [] w)
    (Ax : α → Act → World → Prop) (hAx : ∀ x a', OwnFrom w.heap.size (fun (_ : Unit) W => Ax x a' W))
    (hassign : ∀ (l : Nat) (pre : List α) (x : α) (W : World) (K : Act → World → Prop), I pre W → (∀ a' W', KeepsFrom w.heap.size W W' → Same [0] W W' → I pre W' → Ax x a' W' → K a' W') →
      assign.wpIn (F.inRound l) (n - 1 - 1) P (Exit.then K (fun _ _ _ => False)) { tmps := (ps.zip (encs x)).foldl (fun t (p, v) => t.setIfInBounds p v) a.tmps, defers := [] } W)
    (hbody : ∀ (l : Nat) (pre : List α) (x : α) (a' : Act) (W : World), I pre W → Ax x a' W → Pr (pre ++ [x]) → body.wpIn (F.inRound l) (n - 1 - 1) P (ownPostG w.heap.size (Same [0]) I Ix (pre ++ [x]) W) a' W)
    (hdone : ∀ (D : Nat) (xs : List α) (W : World), w.heap.size ≤ D → S xs → I xs W → W.heap[D]? = some (.deferred (some [])) → Q .normal { a with defers := { target := .collected D, args := #[] } :: a.defers } W)
    (hstop : ∀ (D : Nat) (c : Code) (pre : List α) (W : World), w.heap.size ≤ D → Pr pre → Ix c pre W → W.heap[D]? = some (.deferred (some [])) → c.wpIn F n P Q { a with defers := { target := .collected D, args := #[] } :: a.defers } W) :
    (Code.rangeFunc g ps assign body).wpIn F n P Q a w := by
  refine wpIn_rangeFunc fun fn hfn => ?_
  rw [hro]
  obtain ⟨mk, hmk⟩ : ∃ mk : LoopState → Option Code → Loop, mk = fun st pe => { state := st, pending := pe, fn, tmps := a.tmps, params := ps, assign, body, defers := w.heap.size } := ⟨_, rfl⟩
  have hen : (Instr.enterLoop fn a.tmps ps assign body none).run P w = .ok (w.heap.size + 1, [{ target := .collected w.heap.size, args := #[] }]) ((w.alloc (.deferred (some []))).alloc (.loop (mk .ready none))) := by
    rw [hmk]; exact run_enterLoop_outer _ _ _ _ _
  have hB1 : Below w.heap.size w ((w.alloc (.deferred (some []))).alloc (.loop (mk .ready none))) := ((Below.refl _ w).alloc (Nat.le_refl _) _).alloc (by simp) _
  have hH1 : Holds2 ((w.alloc (.deferred (some []))).alloc (.loop (mk .ready none))) w.heap.size (mk .ready none) := by
    refine ⟨(Below.heap_alloc _ _ _ (by simp)).trans (World.alloc_heap_new w _), ?_⟩
    have := World.alloc_heap_new (w.alloc (.deferred (some []))) (.loop (mk .ready none))
    rwa [World.size_alloc] at this
  have hI1 : I [] ((w.alloc (.deferred (some []))).alloc (.loop (mk .ready none))) := hI.alloc _ (hI.alloc _ h0)
  have hsz : ((w.alloc (.deferred (some []))).alloc (.loop (mk .ready none))).heap.size = w.heap.size + 2 := by simp
  generalize (w.alloc (.deferred (some []))).alloc (.loop (mk .ready none)) = W1 at *
  have hfl : ∀ (W : World) (r' : Loop), Same [0] W (W.putObj (w.heap.size + 1) (.loop r')) := fun W r' => fun b hb => World.putObj_heap_other (by rw [List.mem_singleton] at hb; omega)
  refine ⟨w.heap.size + 1, _, W1, { target := .fn (.func gf) lb, args := #[.func (.yield (w.heap.size + 1)) #[] #[]] }, W1, gf, #[.func (.yield (w.heap.size + 1)) #[] #[]] ++ lb, W1, hen, ?_, ?_, ?_, fun _ => h1, ?_⟩
  · simp only [resolve, hg]
    simp [go_sem]
  · intro f' hf'; simp [Target.leads] at hf'; subst hf'; exact hFg
  · simp [invoke, go_sem, eg]
  · refine (hseq (w.heap.size + 1) (fun pre W => I pre W ∧ Holds2 W w.heap.size (mk .ready none)) (fun pre W => ∃ c, Ix c pre W ∧ Holds2 W w.heap.size (mk .done (some c))) W1
      (hb0.trans (hB1.mono hb0.size))
      ?_ ⟨hI1, hH1⟩).mono ?_
    · rintro pre x W ⟨hi, hh⟩ hlen
      have hy := run_yield (P := P) (args := encs x) hh.2 (by rw [hmk]; exact hps x)
      rw [hmk] at hy
      refine ⟨fn, _, assign, body, hy, roundIn_of_wpIn hfn (hassign _ pre x W _ hi (fun a' W' hk' hkp' hi' hx' => ?_))⟩
      have hh' := hh.keeps hk'
      refine ⟨_, run_beginRound hh'.2 (by rw [hmk]), ?_⟩
      have hbz := hh'.put { mk .ready none with state := .busy }
      have hib := hI.putObj (.loop { mk .ready none with state := .busy }) hi' (by omega) hh'.2 rfl
      have hxb := (hAx x a').putObj (s := ()) (.loop { mk .ready none with state := .busy }) hx' (by omega) hh'.2 rfl
      refine wpIn_mono (hbody _ pre x a' _ hib hxb hlen) ?_
      have fin : ∀ (jump : Option Code) (W3 : World), KeepsFrom w.heap.size (W'.putObj (w.heap.size + 1) (.loop { mk .ready none with state := .busy })) W3 →
          (Instr.endRound (w.heap.size + 1) jump).run P W3 = .ok (.bool jump.isNone) (W3.putObj (w.heap.size + 1) (.loop (mk (if jump.isNone then .ready else .done) jump))) ∧
          Holds2 W3 w.heap.size { mk .ready none with state := .busy } := fun jump W3 hk3 => by
        have h3 := hbz.keeps hk3
        have := run_endRound (P := P) jump h3.2
        rw [hmk] at this h3 ⊢
        exact ⟨this, h3⟩
      have out : ∀ (c : Code) (W3 : World), KeepsFrom w.heap.size (W'.putObj (w.heap.size + 1) (.loop { mk .ready none with state := .busy })) W3 → Ix c (pre ++ [x]) W3 →
          ∃ v w', (Instr.endRound (w.heap.size + 1) (some c)).run P W3 = .ok v w' ∧ ((Ending.returned v = .returned (.bool true) ∧ (I (pre ++ [x]) w' ∧ Holds2 w' w.heap.size (mk .ready none)) ∧ Same [0] W w') ∨ (Ending.returned v = .returned (.bool false) ∧ (∃ c, Ix c (pre ++ [x]) w' ∧ Holds2 w' w.heap.size (mk .done (some c))))) := fun c W3 hk3 hx3 => by
        obtain ⟨hr, h3⟩ := fin (some c) W3 hk3
        exact ⟨_, _, hr, .inr ⟨rfl, c, (hIx c).putObj _ hx3 (by omega) h3.2 rfl, h3.put _⟩⟩
      rintro e a3 W3 hp
      cases e with
      | normal =>
        obtain ⟨hk3, hkp3, hi3⟩ := hp
        obtain ⟨hr, h3⟩ := fin none W3 hk3
        exact ⟨_, _, hr, .inl ⟨rfl, ⟨hI.putObj _ hi3 (by omega) h3.2 rfl, h3.put _⟩, (hkp'.trans ((hfl _ _).trans hkp3)).trans (hfl _ _)⟩⟩
      | ret => exact out .ret W3 hp.1 hp.2
      | exit id => exact out (.exit id) W3 hp.1 hp.2
      | goto t => exact out (.goto t) W3 hp.1 hp.2
      | panic ch => exact hp.elim
      | outgrown => exact hp.elim
    · rintro e W2 ⟨⟨v, rfl⟩, (⟨xs, hS, hi, hh⟩ | ⟨pre, hSp, c, hi, hh⟩)⟩
      · have he := run_endLoop (P := P) hh.2 (by rw [hmk]; simp)
        have hp : (mk .ready none).pending = none := by rw [hmk]
        rw [hp] at he
        refine ⟨none, _, he, hdone _ xs _ (Nat.le_refl _) hS (hI.putObj _ hi (by omega) hh.2 rfl) ((World.putObj_heap_other (by omega)).trans hh.1)⟩
      · have he := run_endLoop (P := P) hh.2 (by rw [hmk]; simp)
        have hp : (mk .done (some c)).pending = some c := by rw [hmk]
        rw [hp] at he
        refine ⟨some c, _, he, hstop _ c pre _ (Nat.le_refl _) hSp ((hIx c).putObj _ hi (by omega) hh.2 rfl) ((World.putObj_heap_other (by omega)).trans hh.1)⟩

set_option maxRecDepth 100000 in
set_option maxHeartbeats 1000000 in
theorem each1_P (F : Fence) (n : Nat) (h83 : F.fn 58) (hf79 : F.fn 48) (h79 : ∀ (x : Nat) (W : World), x < 18446744073709551616 → x ≠ 0 → TabAt W → CallsIn F (n - 1) Tryd.prog 48 #[.int .u64 x] W fun e w' => e = .returned (.int .i64 (Lib.ctz 64 x : Nat)) ∧ w' = W)
    (hro : F.round = none) (hn : 1 ≤ n) (l Bn s : Nat) (hs : s < 18446744073709551616) (J Jx : List (Fin 64) → World → Prop)
    (hY : ∀ pre x W, J pre W → valsF (pre ++ [x]) <+: lst s → YieldAt F (n - 1) Tryd.prog l #[.int .i64 ((x : Fin 64).val : Nat)] W fun e W' =>
      (e = .returned (.bool true) ∧ J (pre ++ [x]) W' ∧ Same [0] W W') ∨ (e = .returned (.bool false) ∧ Jx (pre ++ [x]) W'))
    (W : World) (hBn : W.cell? ⟨Bn, 0, none⟩ = some (.int .u64 s)) (hT : TabAt W) (h0 : J [] W) :
    CallsIn F n Tryd.prog 58 #[.func (.yield l) #[] #[], .pointer (some ⟨Bn, 0, none⟩)] W fun e W' => (∃ v, e = .returned v) ∧
      ((∃ ys, valsF ys = lst s ∧ J ys W') ∨ (∃ pre, valsF pre <+: lst s ∧ Jx pre W')) := by
  refine callsIn_of_wp Tryd.func58 rfl h83 ?_ hro
  simp only [Tryd.ntmps58, List.size_toArray, List.length_cons, List.length_nil, Nat.reduceAdd, Nat.reduceSub, Array.replicate_succ, Array.replicate_zero, List.push_toArray, List.append_toArray, List.nil_append, List.cons_append]
  gi_wp2
  gi_loopw [3] (fun p wr => ∃ (pre : List (Fin 64)) (t : Nat), p = .int .u64 t ∧ t < 18446744073709551616 ∧ lst s = valsF pre ++ lst t ∧ TabAt wr ∧ J pre wr) (fun p wr => (lst (intOf p).toNat).length)
  case atStart => exact ⟨[], s, rfl, hs, rfl, hT, h0⟩
  case round =>
    obtain ⟨pre, t, rfl, ht, hx, hTr, hJs⟩ := hrel
    by_cases hz : t = 0
    · subst hz
      rw [lst_zero, List.append_nil] at hx
      gi_wp2
      go_end0
      exact ⟨⟨_, rfl⟩, .inl ⟨pre, hx.symm, hJs⟩⟩
    · obtain ⟨hk, hl⟩ := lst_low hz ht
      have hlt := lst_low_and ht
      have c := h79 t wr ht hz hTr
      have hzz : ((t : Int) == 0) = false := by simp; omega
      have key : bits BinOp.and IntKind.u64 (t : Int) ((t : Int) - 1) = ((t &&& (t - 1) : Nat) : Int) := by
        have := u64_and_nat t (t - 1) ht (by omega)
        rw [← this, Int.ofNat_sub (by omega)]; rfl
      have HL : Hid (lst t = Lib.ctz 64 t :: lst (t &&& (t - 1))) := hl
      have hpl : valsF (pre ++ [⟨Lib.ctz 64 t, hk⟩]) <+: lst s := by rw [hx, hl, valsF_snoc]; simp
      have HX : Hid (lst s = valsF pre ++ lst t) := hx
      clear hx hl
      generalize Lib.ctz 64 t = k at *
      generalize t &&& (t - 1) = t' at *
      obtain ⟨fn, tmps, assign, body, hy, hR⟩ := hY pre ⟨k, hk⟩ wr hJs hpl
      dsimp only at hy
      gi_wp2_with (gi_at_call 48; refine c.mono ?_; rintro e w' ⟨rfl, hw'⟩; replace hw' := hw'.symm; subst hw')
      refine hR.mono ?_
      rintro e W3 (⟨rfl, hJ3, hk3⟩ | ⟨rfl, hJx3⟩)
      · gi_wp2
        go_roundw
        case rel => exact ⟨pre ++ [⟨k, hk⟩], t', rfl, hlt, by rw [HX.out, HL.out, valsF_snoc]; simp, hTr.same hk3 (by simp), hJ3⟩
        case measure => simp [intOf]; rw [HL.out]; simp
      · gi_wp2
        refine bodyPost_ret (results_none rfl _ _ _) rfl ?_
        exact ⟨⟨_, rfl⟩, .inr ⟨pre ++ [⟨k, hk⟩], ⟨lst t', by rw [HX.out, HL.out, valsF_snoc]; simp⟩, hJx3⟩⟩

theorem each_P (n : Nat) (hn : 1 ≤ n) (Bn s : Nat) (hs : s < 18446744073709551616) (w : World) (hBn : Bn < w.heap.size) (hc : w.cell? ⟨Bn, 0, none⟩ = some (.int .u64 s)) (hT : TabAt w) :
    SeqP Fence.wide n Tryd.prog 58 #[.pointer (some ⟨Bn, 0, none⟩)] (fun x : Fin 64 => #[Value.int .i64 (x.val : Nat)]) (fun pre => valsF pre <+: lst s) (fun ys => valsF ys = lst s) w := fun l J Jx W hW hY h0 =>
  each1_P Fence.wide n trivial trivial (fun x W' hx h0' hT' => callsIn_wide.2 (lowest_any x W' hx h0' hT')) rfl hn l Bn s hs J Jx hY W ((hW.cell (p := ⟨Bn, 0, none⟩) hBn).trans hc) (hT.below hW) h0
end Go.Proofs.YtkccckjiemijeabDoor

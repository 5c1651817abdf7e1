/- What a lexer goes through; struct laws inside a fence. -/
import Derived.Test.YtopnbemodlcknaaDoorLxR1
import Derived.Shelf.Abstract
import Derived.OwnWalkIn
import Derived.TacticsInMore
import Derived.LoopNIn
import Derived.LoopIn
import Derived.Shelf.RegionOpen
namespace Go.Proofs.YtopnbemodlcknaaDoor.Lx
open Go.RowKit Go.Shelf M
set_option linter.unusedSimpArgs false
set_option linter.unusedVariables false

/-- A round: a token, an error at a place, or the text is too long. -/
inductive Rd where
  | tok (t : Tok)
  | pos (x y e : Nat)
  | long
/-- The rounds from a place on. -/
def goF : Nat → List UInt8 → Nat → Nat × Nat → List Rd
  | 0, _, _, _ => []
  | f + 1, l, p, q =>
    if (blkF (l.drop p)).2 = false then [.pos (spotF q ((l.drop p).take (blkF (l.drop p)).1)).1 (spotF q ((l.drop p).take (blkF (l.drop p)).1)).2 51]
    else if l.length ≤ p + (blkF (l.drop p)).1 then []
    else if (cutF (l.drop (p + (blkF (l.drop p)).1))).wrong = 0 then
      .tok ⟨(cutF (l.drop (p + (blkF (l.drop p)).1))).kind, (cutF (l.drop (p + (blkF (l.drop p)).1))).text, (cutF (l.drop (p + (blkF (l.drop p)).1))).value, (spotF q ((l.drop p).take (blkF (l.drop p)).1)).1, (spotF q ((l.drop p).take (blkF (l.drop p)).1)).2, p + (blkF (l.drop p)).1, p + (blkF (l.drop p)).1 + (cutF (l.drop (p + (blkF (l.drop p)).1))).length⟩
        :: goF f l (p + (blkF (l.drop p)).1 + (cutF (l.drop (p + (blkF (l.drop p)).1))).length) (spotF (spotF q ((l.drop p).take (blkF (l.drop p)).1)) ((l.drop (p + (blkF (l.drop p)).1)).take (cutF (l.drop (p + (blkF (l.drop p)).1))).length))
    else [.pos (spotF (spotF q ((l.drop p).take (blkF (l.drop p)).1)) ((l.drop (p + (blkF (l.drop p)).1)).take (cutF (l.drop (p + (blkF (l.drop p)).1))).length)).1 (spotF (spotF q ((l.drop p).take (blkF (l.drop p)).1)) ((l.drop (p + (blkF (l.drop p)).1)).take (cutF (l.drop (p + (blkF (l.drop p)).1))).length)).2 (cutF (l.drop (p + (blkF (l.drop p)).1))).wrong]
def rounds (l : List UInt8) : List Rd := if 1048576 < l.length then [.long] else goF (l.length + 1) l 0 (1, 1)

theorem go_com {f : Nat} {l : List UInt8} {p n : Nat} {q z : Nat × Nat} (hn : (blkF (l.drop p)).1 = n) (hc : (blkF (l.drop p)).2 = false) (hz : spotF q ((l.drop p).take n) = z) : goF (f + 1) l p q = [.pos z.1 z.2 51] := by
  rw [goF, if_pos hc, hn, hz]
theorem go_end {f : Nat} {l : List UInt8} {p n : Nat} {q : Nat × Nat} (hn : (blkF (l.drop p)).1 = n) (hc : (blkF (l.drop p)).2 = true) (he : l.length ≤ p + n) : goF (f + 1) l p q = [] := by
  rw [goF, if_neg (by rw [hc]; decide), hn, if_pos he]
theorem go_tok {f : Nat} {l : List UInt8} {p n m : Nat} {q z u : Nat × Nat} {C : Piece} (hn : (blkF (l.drop p)).1 = n) (hc : (blkF (l.drop p)).2 = true) (hm : p + n = m) (he : m < l.length) (hz : spotF q ((l.drop p).take n) = z) (hC : cutF (l.drop m) = C) (hu : spotF z ((l.drop m).take C.length) = u) (hw : C.wrong = 0) :
    goF (f + 1) l p q = .tok ⟨C.kind, C.text, C.value, z.1, z.2, m, m + C.length⟩ :: goF f l (m + C.length) u := by
  rw [goF, if_neg (by rw [hc]; decide), hn, hm, if_neg (by omega), hC, if_pos hw, hz, hu]
theorem go_wrong {f : Nat} {l : List UInt8} {p n m : Nat} {q z u : Nat × Nat} {C : Piece} (hn : (blkF (l.drop p)).1 = n) (hc : (blkF (l.drop p)).2 = true) (hm : p + n = m) (he : m < l.length) (hz : spotF q ((l.drop p).take n) = z) (hC : cutF (l.drop m) = C) (hu : spotF z ((l.drop m).take C.length) = u) (hw : C.wrong ≠ 0) :
    goF (f + 1) l p q = [.pos u.1 u.2 C.wrong] := by
  rw [goF, if_neg (by rw [hc]; decide), hn, hm, if_neg (by omega), hC, if_neg hw, hz, hu]
theorem cut_pos {l : List UInt8} (h : (cutF l).wrong = 0) : 1 ≤ (cutF l).length ∧ 1 ≤ (cutF l).kind := by
  cases l with
  | nil => cases h
  | cons c r =>
    unfold cutF at h ⊢
    dsimp only at h ⊢
    split
    · rename_i hl
      rw [if_pos hl] at h
      unfold namePiece at h ⊢
      split
      · rename_i h1; rw [if_pos h1] at h; cases h
      · refine ⟨?_, Nat.le_refl _⟩
        show 1 ≤ nameLen (c :: r)
        rw [nameLen, if_pos hl]; omega
    · rename_i hl
      rw [if_neg hl] at h
      split
      · rename_i h1
        rw [if_pos h1] at h
        unfold numPiece at h ⊢
        split
        · exact ⟨by show 1 ≤ numLen _; unfold numLen; omega, by show 1 ≤ 2; omega⟩
        · rename_i h2; rw [if_neg h2] at h; exact absurd h h2
      · rename_i h1
        rw [if_neg h1] at h
        split
        · rename_i h2
          rw [if_pos h2] at h
          unfold quotPiece at h ⊢
          split
          · exact ⟨by show 1 ≤ quotLen _ + 1; omega, by show 1 ≤ 3; omega⟩
          · rename_i h3; rw [if_neg h3] at h; cases h
        · rename_i h2
          rw [if_neg h2] at h
          unfold signPiece at h ⊢
          split
          · rename_i h3; rw [if_pos h3] at h; cases h
          · rename_i h3
            exact ⟨by show 1 ≤ signLen _; omega, by show 1 ≤ 4; omega⟩

/-- How a round is handed over. -/
def RdEnc : Rd → World → Array Value → (Nat → Prop) → Prop
  | .tok t, _, args, A => args = #[tokV t, .nilIface] ∧ A = fun _ => False
  | .pos x y e, W, args, A => ∃ g, args = #[tokV noTok, .iface 47 (.pointer (some ⟨g, 0, none⟩))] ∧ IsS W g 50 (faultL x y e) ∧ A = fun k => k = g
  | .long, _, args, A => args = #[tokV noTok, .iface 48 (.int .i64 1)] ∧ A = fun _ => False
theorem enc_size (x : Rd) (W : World) (args : Array Value) (A : Nat → Prop) (h : RdEnc x W args A) : args.size = 2 := by
  cases x with
  | tok t => rw [h.1]; rfl
  | pos x y e => obtain ⟨g, h1, _⟩ := h; rw [h1]; rfl
  | long => rw [h.1]; rfl

section
variable {F : Fence} {N : Nat} {w : World} {b t o : Nat} {cs : List Value} {ops : Array Oper} {rest : List Oper} {op : Oper} {a : Act} {Q : Exit → Act → World → Prop}
theorem plainIn (hgd : op.guard = none) (hnc : ∀ c, op.op ≠ .call c) (hnd : ∀ c, op.op ≠ .defer c) {v : Value} {W : World} (hr : (execOp a.eval op).run Tryd.prog w = .ok (.value v) W)
    (h : wpListIn F N Tryd.prog ops Q rest (a.put op.dst v) W) : wpListIn F N Tryd.prog ops Q (op :: rest) a w := by
  refine wpListIn_plain hgd fun K hK => ⟨fun f hf => ?_, ?_⟩
  · exfalso
    unfold Oper.about at hf
    cases ho : op.op <;> simp_all
  · rw [Oper.semAt_plain F _ _ hnd, hr]
    exact hK _ _ h
theorem skipIn (hgd : op.guard = none) (hnc : ∀ c, op.op ≠ .call c) (hnd : ∀ c, op.op ≠ .defer c) {W : World} (hr : (execOp a.eval op).run Tryd.prog w = .ok .skip W)
    (h : wpListIn F N Tryd.prog ops Q rest (a.put op.dst undef) W) : wpListIn F N Tryd.prog ops Q (op :: rest) a w := by
  refine wpListIn_plain hgd fun K hK => ⟨fun f hf => ?_, ?_⟩
  · exfalso
    unfold Oper.about at hf
    cases ho : op.op <;> simp_all
  · rw [Oper.semAt_plain F _ _ hnd, hr]
    exact hK _ _ h
theorem inLoadP (hgd : op.guard = none) (ty : TypeId) (x : Operand) (ho : op.op = .load ty x) (hx : a.eval x = .pointer (some ⟨b, o, none⟩)) (hc : IsS w b t cs) (k : Nat) (sub : List Value) (hsub : (cs.drop o).take k = sub) (d : TypeDesc)
    (hu : Tryd.prog.underlying ty = some d) (hd : d.isRow = true) (hi : (Tryd.prog.info? ty).map (·.size) = some sub.length)
    (h : wpListIn F N Tryd.prog ops Q rest (a.put op.dst (.agg sub.toArray)) w) : wpListIn F N Tryd.prog ops Q (op :: rest) a w := by
  subst hsub
  refine plainIn hgd (by rw [ho]; intro c e; cases e) (by rw [ho]; intro c e; cases e) ?_ h
  unfold execOp
  simp only [ho, hx, Sem.run_bind, run_loadAt_mid w b o ty _ d (hc.range o k) hu hd hi, Result.andThen_ok, Sem.run_pure]
theorem inLoad1 (hgd : op.guard = none) (ty : TypeId) (x : Operand) (ho : op.op = .load ty x) (hx : a.eval x = .pointer (some ⟨b, o, none⟩)) (hc : IsS w b t cs) {v : Value} (hv : cs[o]? = some v)
    (hl : ∀ w, w.cell? ⟨b, o, none⟩ = some v → (Instr.loadAt ty (.pointer (some ⟨b, o, none⟩))).run Tryd.prog w = .ok v w)
    (h : wpListIn F N Tryd.prog ops Q rest (a.put op.dst v) w) : wpListIn F N Tryd.prog ops Q (op :: rest) a w := by
  refine plainIn hgd (by rw [ho]; intro c e; cases e) (by rw [ho]; intro c e; cases e) ?_ h
  unfold execOp
  simp only [ho, hx, Sem.run_bind, hl w ((hc.cell o).trans hv), Result.andThen_ok, Sem.run_pure]
theorem inStoreS (hgd : op.guard = none) (ty : TypeId) (x y : Operand) (ho : op.op = .store ty x y) (hx : a.eval x = .pointer (some ⟨b, o, none⟩)) (vs : List Value) (hy : a.eval y = .agg vs.toArray) (hc : IsS w b t cs)
    (hk : o + vs.length ≤ cs.length) (hi : (Tryd.prog.info? ty).map (·.size) = some vs.length) (h1 : ∀ v ∈ vs, v.oneCell' = true)
    (h : ∀ W, Upd w W b → IsS W b t (putL cs o vs) → wpListIn F N Tryd.prog ops Q rest (a.put op.dst undef) W) : wpListIn F N Tryd.prog ops Q (op :: rest) a w := by
  refine skipIn hgd (by rw [ho]; intro c e; cases e) (by rw [ho]; intro c e; cases e) ?_ (h _ (Upd.setCells b vs o w) (IsS.setL vs o cs w hc))
  unfold execOp
  have := run_storeVar_mid (P := Tryd.prog) w b o ty vs.toArray (hc.there o _ (by simpa using hk)) (by simpa using hi) (all_oneCell_toArray h1)
  simp only [ho, hx, hy, Instr.storeAt, Instr.sureAddr, Sem.run_bind, Sem.run_pure, Result.andThen_ok, this]
theorem inStore1 (hgd : op.guard = none) (ty : TypeId) (x y : Operand) (ho : op.op = .store ty x y) (hx : a.eval x = .pointer (some ⟨b, o, none⟩)) (v : Value) (hy : a.eval y = v) (hc : IsS w b t cs)
    (hk : o < cs.length) (hi : (Tryd.prog.info? ty).map (·.size) = some 1) (h1 : v.oneCell' = true)
    (h : ∀ W, Upd w W b → IsS W b t (cs.set o v) → wpListIn F N Tryd.prog ops Q rest (a.put op.dst undef) W) : wpListIn F N Tryd.prog ops Q (op :: rest) a w := by
  refine skipIn hgd (by rw [ho]; intro c e; cases e) (by rw [ho]; intro c e; cases e) ?_ (h _ (Upd.setCell w b o v) (hc.set1 o v))
  unfold execOp
  simp only [ho, hx, hy, Instr.storeAt, Instr.sureAddr, Sem.run_bind, Sem.run_pure, Result.andThen_ok, run_store1 w b o ty v (hc.there o 1 (by omega)) hi h1]
theorem inAllocS (hgd : op.guard = none) (ty : TypeId) (ho : op.op = .alloc ty) (vs : List Value) (hz : ∀ w, (zeroValue ty).run Tryd.prog w = .ok (.agg vs.toArray) w)
    (h : ∀ W b, Fresh w W b → IsS W b ty vs → wpListIn F N Tryd.prog ops Q rest (a.put op.dst (.pointer (some ⟨b, 0, none⟩))) W) : wpListIn F N Tryd.prog ops Q (op :: rest) a w :=
  plainIn hgd (by rw [ho]; intro c e; cases e) (by rw [ho]; intro c e; cases e) (run_allocS ty vs hz ho a w) (h _ _ (Fresh.alloc w _) (IsS.new w ty vs))
theorem run_alloc1 (ty : TypeId) (v : Value) (h1 : v.oneCell' = true) (hz : ∀ w, (zeroValue ty).run Tryd.prog w = .ok v w) (ho : op.op = .alloc ty) (a : Act) (w : World) :
    (execOp a.eval op).run Tryd.prog w = .ok (.value (.pointer (some ⟨w.heap.size, 0, none⟩))) (w.alloc (.cells [v].toArray ty)) := by
  unfold execOp
  simp [ho, go_sem, hz]
  cases v <;> first | rfl | (simp [Value.oneCell'] at h1)
theorem inAlloc1 (hgd : op.guard = none) (ty : TypeId) (ho : op.op = .alloc ty) (v : Value) (h1 : v.oneCell' = true) (hz : ∀ w, (zeroValue ty).run Tryd.prog w = .ok v w)
    (h : ∀ W b, Fresh w W b → IsS W b ty [v] → wpListIn F N Tryd.prog ops Q rest (a.put op.dst (.pointer (some ⟨b, 0, none⟩))) W) : wpListIn F N Tryd.prog ops Q (op :: rest) a w :=
  plainIn hgd (by rw [ho]; intro c e; cases e) (by rw [ho]; intro c e; cases e) (run_alloc1 ty v h1 hz ho a w) (h _ _ (Fresh.alloc w _) (IsS.new w ty [v]))
end
end Go.Proofs.YtopnbemodlcknaaDoor.Lx

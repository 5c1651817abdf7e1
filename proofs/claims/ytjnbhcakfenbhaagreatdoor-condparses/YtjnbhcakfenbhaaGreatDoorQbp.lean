/- Several texts in one: LxX18, RA. -/
import Derived.Test.YtjnbhcakfenbhaaGreatDoorQbo
import Derived.Shelf.Abstract
import Derived.OwnWalkIn
import Derived.TacticsInMore
import Derived.LoopNIn
import Derived.LoopIn
import Derived.Shelf.RegionOpen
import Derived.Test.YtjnbhcakfenbhaaGreatDoorQbh
/- What a lexer goes through; struct laws inside a fence. -/
namespace Go.Proofs.YtjnbhcakfenbhaaGreatDoor.Lx
open Go.RowKit Go.Shelf M
set_option linter.unusedSimpArgs false
set_option linter.unusedVariables false

/-- A round: a token, an error at a place, or the text is too long. -/
inductive Rd where
  | tok (t : Tok)
  | pos (x y e : Nat)
  | long
/-- The rounds from a place on. -/
def goF : Nat → List UInt8 → Nat → Nat × Nat → List Rd
  | 0, _, _, _ => []
  | f + 1, l, p, q =>
    if (blkF (l.drop p)).2 = false then [.pos (spotF q ((l.drop p).take (blkF (l.drop p)).1)).1 (spotF q ((l.drop p).take (blkF (l.drop p)).1)).2 51]
    else if l.length ≤ p + (blkF (l.drop p)).1 then []
    else if (cutF (l.drop (p + (blkF (l.drop p)).1))).wrong = 0 then
      .tok ⟨(cutF (l.drop (p + (blkF (l.drop p)).1))).kind, (cutF (l.drop (p + (blkF (l.drop p)).1))).text, (cutF (l.drop (p + (blkF (l.drop p)).1))).value, (spotF q ((l.drop p).take (blkF (l.drop p)).1)).1, (spotF q ((l.drop p).take (blkF (l.drop p)).1)).2, p + (blkF (l.drop p)).1, p + (blkF (l.drop p)).1 + (cutF (l.drop (p + (blkF (l.drop p)).1))).length⟩
        :: goF f l (p + (blkF (l.drop p)).1 + (cutF (l.drop (p + (blkF (l.drop p)).1))).length) (spotF (spotF q ((l.drop p).take (blkF (l.drop p)).1)) ((l.drop (p + (blkF (l.drop p)).1)).take (cutF (l.drop (p + (blkF (l.drop p)).1))).length))
    else [.pos (spotF (spotF q ((l.drop p).take (blkF (l.drop p)).1)) ((l.drop (p + (blkF (l.drop p)).1)).take (cutF (l.drop (p + (blkF (l.drop p)).1))).length)).1 (spotF (spotF q ((l.drop p).take (blkF (l.drop p)).1)) ((l.drop (p + (blkF (l.drop p)).1)).take (cutF (l.drop (p + (blkF (l.drop p)).1))).length)).2 (cutF (l.drop (p + (blkF (l.drop p)).1))).wrong]
def rounds (l : List UInt8) : List Rd := if 1048576 < l.length then [.long] else goF (l.length + 1) l 0 (1, 1)

theorem go_com {f : Nat} {l : List UInt8} {p n : Nat} {q z : Nat × Nat} (hn : (blkF (l.drop p)).1 = n) (hc : (blkF (l.drop p)).2 = false) (hz : spotF q ((l.drop p).take n) = z) : goF (f + 1) l p q = [.pos z.1 z.2 51] := by
  rw [goF, if_pos hc, hn, hz]
theorem go_end {f : Nat} {l : List UInt8} {p n : Nat} {q : Nat × Nat} (hn : (blkF (l.drop p)).1 = n) (hc : (blkF (l.drop p)).2 = true) (he : l.length ≤ p + n) : goF (f + 1) l p q = [] := by
  rw [goF, if_neg (by rw [hc]; decide), hn, if_pos he]
theorem go_tok {f : Nat} {l : List UInt8} {p n m : Nat} {q z u : Nat × Nat} {C : Piece} (hn : (blkF (l.drop p)).1 = n) (hc : (blkF (l.drop p)).2 = true) (hm : p + n = m) (he : m < l.length) (hz : spotF q ((l.drop p).take n) = z) (hC : cutF (l.drop m) = C) (hu : spotF z ((l.drop m).take C.length) = u) (hw : C.wrong = 0) :
    goF (f + 1) l p q = .tok ⟨C.kind, C.text, C.value, z.1, z.2, m, m + C.length⟩ :: goF f l (m + C.length) u := by
  rw [goF, if_neg (by rw [hc]; decide), hn, hm, if_neg (by omega), hC, if_pos hw, hz, hu]
theorem go_wrong {f : Nat} {l : List UInt8} {p n m : Nat} {q z u : Nat × Nat} {C : Piece} (hn : (blkF (l.drop p)).1 = n) (hc : (blkF (l.drop p)).2 = true) (hm : p + n = m) (he : m < l.length) (hz : spotF q ((l.drop p).take n) = z) (hC : cutF (l.drop m) = C) (hu : spotF z ((l.drop m).take C.length) = u) (hw : C.wrong ≠ 0) :
    goF (f + 1) l p q = [.pos u.1 u.2 C.wrong] := by
  rw [goF, if_neg (by rw [hc]; decide), hn, hm, if_neg (by omega), hC, if_neg hw, hz, hu]
theorem cut_pos {l : List UInt8} (h : (cutF l).wrong = 0) : 1 ≤ (cutF l).length ∧ 1 ≤ (cutF l).kind := by
  cases l with
  | nil => cases h
  | cons c r =>
    unfold cutF at h ⊢
    dsimp only at h ⊢
    split
    · rename_i hl
      rw [if_pos hl] at h
      unfold namePiece at h ⊢
      split
      · rename_i h1; rw [if_pos h1] at h; cases h
      · refine ⟨?_, Nat.le_refl _⟩
        show 1 ≤ nameLen (c :: r)
        rw [nameLen, if_pos hl]; omega
    · rename_i hl
      rw [if_neg hl] at h
      split
      · rename_i h1
        rw [if_pos h1] at h
        unfold numPiece at h ⊢
        split
        · exact ⟨by show 1 ≤ numLen _; unfold numLen; omega, by show 1 ≤ 2; omega⟩
        · rename_i h2; rw [if_neg h2] at h; exact absurd h h2
      · rename_i h1
        rw [if_neg h1] at h
        split
        · rename_i h2
          rw [if_pos h2] at h
          unfold quotPiece at h ⊢
          split
          · exact ⟨by show 1 ≤ quotLen _ + 1; omega, by show 1 ≤ 3; omega⟩
          · rename_i h3; rw [if_neg h3] at h; cases h
        · rename_i h2
          rw [if_neg h2] at h
          unfold signPiece at h ⊢
          split
          · rename_i h3; rw [if_pos h3] at h; cases h
          · rename_i h3
            exact ⟨by show 1 ≤ signLen _; omega, by show 1 ≤ 4; omega⟩

/-- How a round is handed over. -/
def RdEnc : Rd → World → Array Value → (Nat → Prop) → Prop
  | .tok t, _, args, A => args = #[tokV t, .nilIface] ∧ A = fun _ => False
  | .pos x y e, W, args, A => ∃ g, args = #[tokV noTok, .iface 52 (.pointer (some ⟨g, 0, none⟩))] ∧ IsS W g 54 (faultL x y e) ∧ A = fun k => k = g
  | .long, _, args, A => args = #[tokV noTok, .iface 37 (.int .i64 1)] ∧ A = fun _ => False
theorem enc_size (x : Rd) (W : World) (args : Array Value) (A : Nat → Prop) (h : RdEnc x W args A) : args.size = 2 := by
  cases x with
  | tok t => rw [h.1]; rfl
  | pos x y e => obtain ⟨g, h1, _⟩ := h; rw [h1]; rfl
  | long => rw [h.1]; rfl

section
variable {F : Fence} {N : Nat} {w : World} {b t o : Nat} {cs : List Value} {ops : Array Oper} {rest : List Oper} {op : Oper} {a : Act} {Q : Exit → Act → World → Prop}
theorem plainIn (hgd : op.guard = none) (hnc : ∀ c, op.op ≠ .call c) (hnd : ∀ c, op.op ≠ .defer c) {v : Value} {W : World} (hr : (execOp a.eval op).run Tryz.prog w = .ok (.value v) W)
    (h : wpListIn F N Tryz.prog ops Q rest (a.put op.dst v) W) : wpListIn F N Tryz.prog ops Q (op :: rest) a w := by
  refine wpListIn_plain hgd fun K hK => ⟨fun f hf => ?_, ?_⟩
  · exfalso
    unfold Oper.about at hf
    cases ho : op.op <;> simp_all
  · rw [Oper.semAt_plain F _ _ hnd, hr]
    exact hK _ _ h
theorem skipIn (hgd : op.guard = none) (hnc : ∀ c, op.op ≠ .call c) (hnd : ∀ c, op.op ≠ .defer c) {W : World} (hr : (execOp a.eval op).run Tryz.prog w = .ok .skip W)
    (h : wpListIn F N Tryz.prog ops Q rest (a.put op.dst undef) W) : wpListIn F N Tryz.prog ops Q (op :: rest) a w := by
  refine wpListIn_plain hgd fun K hK => ⟨fun f hf => ?_, ?_⟩
  · exfalso
    unfold Oper.about at hf
    cases ho : op.op <;> simp_all
  · rw [Oper.semAt_plain F _ _ hnd, hr]
    exact hK _ _ h
theorem inLoadP (hgd : op.guard = none) (ty : TypeId) (x : Operand) (ho : op.op = .load ty x) (hx : a.eval x = .pointer (some ⟨b, o, none⟩)) (hc : IsS w b t cs) (k : Nat) (sub : List Value) (hsub : (cs.drop o).take k = sub) (d : TypeDesc)
    (hu : Tryz.prog.underlying ty = some d) (hd : d.isRow = true) (hi : (Tryz.prog.info? ty).map (·.size) = some sub.length)
    (h : wpListIn F N Tryz.prog ops Q rest (a.put op.dst (.agg sub.toArray)) w) : wpListIn F N Tryz.prog ops Q (op :: rest) a w := by
  subst hsub
  refine plainIn hgd (by rw [ho]; intro c e; cases e) (by rw [ho]; intro c e; cases e) ?_ h
  unfold execOp
  simp only [ho, hx, Sem.run_bind, run_loadAt_mid w b o ty _ d (hc.range o k) hu hd hi, Result.andThen_ok, Sem.run_pure]
theorem inLoad1 (hgd : op.guard = none) (ty : TypeId) (x : Operand) (ho : op.op = .load ty x) (hx : a.eval x = .pointer (some ⟨b, o, none⟩)) (hc : IsS w b t cs) {v : Value} (hv : cs[o]? = some v)
    (hl : ∀ w, w.cell? ⟨b, o, none⟩ = some v → (Instr.loadAt ty (.pointer (some ⟨b, o, none⟩))).run Tryz.prog w = .ok v w)
    (h : wpListIn F N Tryz.prog ops Q rest (a.put op.dst v) w) : wpListIn F N Tryz.prog ops Q (op :: rest) a w := by
  refine plainIn hgd (by rw [ho]; intro c e; cases e) (by rw [ho]; intro c e; cases e) ?_ h
  unfold execOp
  simp only [ho, hx, Sem.run_bind, hl w ((hc.cell o).trans hv), Result.andThen_ok, Sem.run_pure]
theorem inStoreS (hgd : op.guard = none) (ty : TypeId) (x y : Operand) (ho : op.op = .store ty x y) (hx : a.eval x = .pointer (some ⟨b, o, none⟩)) (vs : List Value) (hy : a.eval y = .agg vs.toArray) (hc : IsS w b t cs)
    (hk : o + vs.length ≤ cs.length) (hi : (Tryz.prog.info? ty).map (·.size) = some vs.length) (h1 : ∀ v ∈ vs, v.oneCell' = true)
    (h : ∀ W, Upd w W b → IsS W b t (putL cs o vs) → wpListIn F N Tryz.prog ops Q rest (a.put op.dst undef) W) : wpListIn F N Tryz.prog ops Q (op :: rest) a w := by
  refine skipIn hgd (by rw [ho]; intro c e; cases e) (by rw [ho]; intro c e; cases e) ?_ (h _ (Upd.setCells b vs o w) (IsS.setL vs o cs w hc))
  unfold execOp
  have := run_storeVar_mid (P := Tryz.prog) w b o ty vs.toArray (hc.there o _ (by simpa using hk)) (by simpa using hi) (all_oneCell_toArray h1)
  simp only [ho, hx, hy, Instr.storeAt, Instr.sureAddr, Sem.run_bind, Sem.run_pure, Result.andThen_ok, this]
theorem inStore1 (hgd : op.guard = none) (ty : TypeId) (x y : Operand) (ho : op.op = .store ty x y) (hx : a.eval x = .pointer (some ⟨b, o, none⟩)) (v : Value) (hy : a.eval y = v) (hc : IsS w b t cs)
    (hk : o < cs.length) (hi : (Tryz.prog.info? ty).map (·.size) = some 1) (h1 : v.oneCell' = true)
    (h : ∀ W, Upd w W b → IsS W b t (cs.set o v) → wpListIn F N Tryz.prog ops Q rest (a.put op.dst undef) W) : wpListIn F N Tryz.prog ops Q (op :: rest) a w := by
  refine skipIn hgd (by rw [ho]; intro c e; cases e) (by rw [ho]; intro c e; cases e) ?_ (h _ (Upd.setCell w b o v) (hc.set1 o v))
  unfold execOp
  simp only [ho, hx, hy, Instr.storeAt, Instr.sureAddr, Sem.run_bind, Sem.run_pure, Result.andThen_ok, run_store1 w b o ty v (hc.there o 1 (by omega)) hi h1]
theorem inAllocS (hgd : op.guard = none) (ty : TypeId) (ho : op.op = .alloc ty) (vs : List Value) (hz : ∀ w, (zeroValue ty).run Tryz.prog w = .ok (.agg vs.toArray) w)
    (h : ∀ W b, Fresh w W b → IsS W b ty vs → wpListIn F N Tryz.prog ops Q rest (a.put op.dst (.pointer (some ⟨b, 0, none⟩))) W) : wpListIn F N Tryz.prog ops Q (op :: rest) a w :=
  plainIn hgd (by rw [ho]; intro c e; cases e) (by rw [ho]; intro c e; cases e) (run_allocS ty vs hz ho a w) (h _ _ (Fresh.alloc w _) (IsS.new w ty vs))
theorem run_alloc1 (ty : TypeId) (v : Value) (h1 : v.oneCell' = true) (hz : ∀ w, (zeroValue ty).run Tryz.prog w = .ok v w) (ho : op.op = .alloc ty) (a : Act) (w : World) :
    (execOp a.eval op).run Tryz.prog w = .ok (.value (.pointer (some ⟨w.heap.size, 0, none⟩))) (w.alloc (.cells [v].toArray ty)) := by
  unfold execOp
  simp [ho, go_sem, hz]
  cases v <;> first | rfl | (simp [Value.oneCell'] at h1)
theorem inAlloc1 (hgd : op.guard = none) (ty : TypeId) (ho : op.op = .alloc ty) (v : Value) (h1 : v.oneCell' = true) (hz : ∀ w, (zeroValue ty).run Tryz.prog w = .ok v w)
    (h : ∀ W b, Fresh w W b → IsS W b ty [v] → wpListIn F N Tryz.prog ops Q rest (a.put op.dst (.pointer (some ⟨b, 0, none⟩))) W) : wpListIn F N Tryz.prog ops Q (op :: rest) a w :=
  plainIn hgd (by rw [ho]; intro c e; cases e) (by rw [ho]; intro c e; cases e) (run_alloc1 ty v h1 hz ho a w) (h _ _ (Fresh.alloc w _) (IsS.new w ty [v]))
end
end Go.Proofs.YtjnbhcakfenbhaaGreatDoor.Lx
/- The reference's Parse. -/
namespace Go.Proofs.YtjnbhcakfenbhaaGreatDoor
open Go.RowKit M
set_option linter.unusedSimpArgs false
set_option linter.unusedVariables false

theorem toks_upd {W W' : World} {g b : Nat} {gs : List GT} (h : Toks W (some ⟨g, 0, none⟩) gs) (U : Upd W W' b) (hne : g ≠ b) : Toks W' (some ⟨g, 0, none⟩) gs := fun j x hx => by
  obtain ⟨b', o, e, hb, hr⟩ := h j x hx
  cases e
  exact ⟨g, 0, rfl, by rw [U.size]; exact hb, fun i v hv => by rw [World.cell?_of_block (a := ⟨g, 0 + j * 7 + i, none⟩) (U.block g hne)]; exact hr i v hv⟩
theorem isS_grownBy {W W' : World} {b t : Nat} {cs : List Value} {row : Option Nat} (h : IsS W b t cs) (G : W.grownBy W' row) (hne : row ≠ some b) : IsS W' b t cs := (G.block b h.lt (fun e => hne e.symm)).trans h
theorem fltL_some (F : Int × Int × Int) : fltL (some F) = [.int .i64 F.1, .int .i64 F.2.1, .int .i64 F.2.2] := rfl
set_option maxRecDepth 100000 in
set_option maxHeartbeats 8000000 in
theorem rparse_lex (s : ByteArray) (F : Int × Int × Int) (hF : F.2.2 ≠ 0) (w : World)
    (cA : ∀ W, Below w.heap.size w W → Calls Tryz.prog 17 #[.string s] W fun en w' => (∃ v, en = .returned (.tuple #[v, .agg (fltL (some F)).toArray])) ∧ Below W.heap.size W w') :
    Calls Tryz.prog 6 #[.string s] w fun en w' => en = .returned (.tuple #[.slice none 0 0, .agg (fltL (some F)).toArray]) ∧ Below w.heap.size w w' := by
  have t1 : True := trivial
  have t2 : True := trivial
  have t3 : True := trivial
  have t4 : True := trivial
  have t5 : True := trivial
  have t6 : True := trivial
  have t7 : True := trivial
  have t8 : True := trivial
  have t9 : True := trivial
  have t10 : True := trivial
  have t11 : True := trivial
  have hFb : (F.2.2 == 0) = false := by simpa using hF
  go_enter Tryz.func6, Tryz.ntmps6
  go_wp2_with (first
    | (clear t1; refine wpList_allocS rfl 29 rfl (fltL none) Tryz.zeroValue29 ?_; intro W1 b1 F1 C1; have B1 := F1.trans (Below.refl _ w) (Nat.le_refl _); have h1 : w.heap.size ≤ b1 := Nat.le_of_eq F1.at'.symm; have hE1 : Below w.heap.size w W1 := B1; clear F1)
    | (clear t2; go_at_call 17; refine (cA _ B1).mono ?_; rintro en W2 ⟨⟨v2, rfl⟩, B2x⟩; have C2 := C1.grown B2x; have B2 := Below.then B1 B2x; clear cA C1)
    | (clear t3; refine wpList_allocS rfl 29 rfl (fltL none) Tryz.zeroValue29 ?_; intro W3 b5 F3 D3; have C3 := C2.fresh F3; have B3 := F3.trans B2 B2.size; have h5 : w.heap.size ≤ b5 := Nat.le_trans B2.size (Nat.le_of_eq F3.at'.symm); have n15 : b1 ≠ b5 := (by have := C2.lt; have := F3.at'; omega); clear F3 C2)
    | (clear t4; refine wpList_storeS rfl 29 _ _ rfl rfl (fltL (some F)) rfl D3 (by simp [fltL]) (by rw [fltL_len]; exact infoFl) (fltL_one _) ?_; intro W4 U4 D4x; have D4 : IsS W4 b5 29 (fltL (some F)) := (by rw [putFlt] at D4x; exact D4x); have C4 := C3.upd U4 n15; have B4 := U4.trans B3 h5; have d4 : W4.cell? ⟨b5, 2, none⟩ = some (.int .i64 F.2.2) := D4.cell 2; clear U4 D3 D4x C3))
  refine (wpIn_wide (n := 0)).1 ?_
  refine region_headC (fun w => IsS w b5 29 (fltL (some F))) 2 (by kernel_rfl) (by decide) ?_
  refine atC_take (fun _ => trivial) (headed_of (by kernel_rfl)) 1 rfl (by kernel_rfl) (fun c a w h => h) (v := .slice none 0 0) (.inl ⟨rfl, fun w hc => ?y1⟩) D4 ?_
  case y1 => (first | rfl | (simp [execOp, go_sem]; done))
  simp only [Act.put, List.getElem_toArray, List.getElem_cons_zero, List.getElem_cons_succ, List.setIfInBounds_toArray, List.set_cons_succ, List.set_cons_zero]
  refine atC_take (fun _ => trivial) (headed_of (by kernel_rfl)) 0 rfl (by kernel_rfl) (fun c a w h => h) (v := .agg (fltL (some F)).toArray) (.inl ⟨rfl, fun w hc => ?y0⟩) D4 ?_
  case y0 => exact run_loadP 29 _ rfl rfl hc 3 (fltL (some F)) rfl _ Tryz.underlying29 rfl (by rw [fltL_len]; exact infoFl)
  simp only [Act.put, List.getElem_toArray, List.getElem_cons_zero, List.getElem_cons_succ, List.setIfInBounds_toArray, List.set_cons_succ, List.set_cons_zero]
  refine atC_end (by kernel_rfl) ?_
  simp only [List.drop_succ_cons, List.drop_zero]
  gi_wp2_with (clear t5; refine Lx.inStoreS rfl 29 _ _ rfl rfl (fltL (some F)) rfl C4 (by simp [fltL]) (by rw [fltL_len]; exact infoFl) (fltL_one _) ?_; intro W6 U6 C6x; have C6 : IsS W6 b1 29 (fltL (some F)) := (by rw [putFlt] at C6x; exact C6x); have B6 := U6.trans (below_drew B4) h1; clear U6 C6x)
  go_wp2_with fail
  have c0 := C6.cell 0
  have c1 := C6.cell 1
  have c2 := C6.cell 2
  simp [fltL] at c0 c1 c2
  refine ⟨rfl, .tuple #[.slice none 0 0, .agg (fltL (some F)).toArray], ?_, rfl, B6⟩
  simp [results, Tryz.results6, go_sem, c0, c1, c2, fltL]
set_option maxRecDepth 100000 in
set_option maxHeartbeats 8000000 in
theorem rparse_any (s : ByteArray) (us : List GT) (hus : us.length ≤ 1048576) (htx : ∀ g ∈ us, g.text.size ≤ maxLen) (hsz : s.size < 4611686018427387904) (L C : Int) (w : World)
    (cA : ∀ W, Below w.heap.size w W → Calls Tryz.prog 17 #[.string s] W fun en w' => (∃ v, en = .returned (.tuple #[v, .agg (fltL none).toArray]) ∧ w'.ownsRow W.heap.size 49 7 v us.length (cellsG us)) ∧ Below W.heap.size W w')
    (cL : ∀ W, Calls Tryz.prog 18 #[.string s, .int .i64 (s.size : Int)] W fun en w' => en = .returned (.tuple #[.int .i64 L, .int .i64 C, .bool true]) ∧ w' = W) :
    Calls Tryz.prog 6 #[.string s] w fun en w' => (∃ v, en = .returned (.tuple #[v, .agg (fltL (parseF (us ++ [endT L C s.size]))).toArray]) ∧ w'.ownsRow w.heap.size 62 6 v (parseN (us ++ [endT L C s.size])).length (cellsL (parseN (us ++ [endT L C s.size])))) ∧ Below w.heap.size w w' := by
  obtain ⟨x, hx⟩ : ∃ x, endT L C s.size = x := ⟨_, rfl⟩
  have HX : Hid (gtL x = [.int .i64 0, .string ⟨#[]⟩, .int .i64 0, .int .i64 L, .int .i64 C, .int .i64 (s.size : Int), .int .i64 (s.size : Int)]) := (by show gtL x = _; rw [← hx]; rfl)
  have hxk : x.kind = 0 := by rw [← hx]; rfl
  have hxt : x.text.size ≤ maxLen := by rw [← hx]; exact Nat.zero_le _
  rw [hx]
  clear hx
  obtain ⟨n, hn⟩ : ∃ n, us.length = n := ⟨_, rfl⟩
  have HN : Hid (us.length = n) := hn
  obtain ⟨gs, hgs⟩ : ∃ gs, us ++ [x] = gs := ⟨_, rfl⟩
  have HG : Hid (us ++ [x] = gs) := hgs
  have HGL : Hid (gs.length = n + 1) := (by show gs.length = _; rw [← hgs, List.length_append, hn]; rfl)
  have hf : Few gs := ⟨by rw [HGL.out]; omega, fun g hg => by
    rw [← hgs] at hg
    rcases List.mem_append.1 hg with h | h
    · exact htx g h
    · rw [List.mem_singleton.1 h]; exact hxt⟩
  have hk : (takeR gs 0).k ≤ n := takeR_un (by rw [← hgs, ← hn, gAt_last]; exact hxk) (Nat.zero_le _)
  have cT : ∀ W g c, Toks W (some ⟨g, 0, none⟩) gs → g < W.heap.size → Calls Tryz.prog 19 #[.slice (some ⟨g, 0, none⟩) (n + 1) c, .int .i64 0] W fun en W' => TakeQ gs 0 W en W' := fun W g c h1 h2 => by
    have := rTake_any (cap := c) hf 0 (Nat.zero_le _) W h1 (fun b o e => by cases e; exact h2)
    rw [HGL.out] at this
    exact this
  rw [hn] at cA
  rw [hgs]
  have hn' : n ≤ 1048576 := by omega
  clear hn hgs hus htx hf hxt hxk
  have hsI : ((s.size : Nat) : Int) < 4611686018427387904 := by omega
  have t1 : True := trivial
  have t2 : True := trivial
  have t3 : True := trivial
  have t4 : True := trivial
  have t5 : True := trivial
  have t6 : True := trivial
  have t7 : True := trivial
  have t8 : True := trivial
  have t9 : True := trivial
  have t10 : True := trivial
  have t11 : True := trivial
  cases hF : (takeR gs 0).F with
  | some f =>
    have HN2 : Hid (parseN gs = []) := (by show parseN gs = _; unfold parseN; rw [hF]; rfl)
    have HF2 : Hid (parseF gs = some f) := (by show parseF gs = _; unfold parseF; rw [hF]; rfl)
    go_enter Tryz.func6, Tryz.ntmps6
    go_wp2_with (first
      | (clear t1; refine wpList_allocS rfl 29 rfl (fltL none) Tryz.zeroValue29 ?_; intro W1 b1 F1 C1; have B1 := F1.trans (Below.refl _ w) (Nat.le_refl _); have h1 : w.heap.size ≤ b1 := Nat.le_of_eq F1.at'.symm; have hE1 : Below w.heap.size w W1 := B1; clear F1)
      | (clear t2; go_at_call 17; refine (cA _ B1).mono ?_; rintro en W2 ⟨⟨v2, rfl, O2x⟩, B2x⟩; have C2 := C1.grown B2x; have B2 := Below.then B1 B2x; have O2 := own_raise O2x B1.size; obtain ⟨a2, c2, rfl⟩ := own_formN O2; clear cA C1 O2x)
      | (clear t3; refine wpList_allocS rfl 29 rfl (fltL none) Tryz.zeroValue29 ?_; intro W3 b5 F3 D3; have C3 := C2.fresh F3; have B3 := F3.trans B2 B2.size; have h5 : w.heap.size ≤ b5 := Nat.le_trans B2.size (Nat.le_of_eq F3.at'.symm); have n15 : b1 ≠ b5 := (by have := C2.lt; have := F3.at'; omega); have O3 := own_grN O2 (F3.trans (Below.refl _ W2) (Nat.le_refl _)); clear F3 C2)
      | (clear t4; refine wpList_storeS rfl 29 _ _ rfl rfl (fltL (none)) rfl D3 (by simp [fltL]) (by rw [fltL_len]; exact infoFl) (fltL_one _) ?_; intro W4 U4 D4x; have D4 : IsS W4 b5 29 (fltL (none)) := (by rw [putFlt] at D4x; exact D4x); have C4 := C3.upd U4 n15; have B4 := U4.trans B3 h5; have O4 := own_updF O3 U4 (own_neN O3 D3 (by decide)); have d4 : W4.cell? ⟨b5, 2, none⟩ = some (.int .i64 0) := D4.cell 2; clear U4 D3 D4x C3)
      | (clear t5; go_at_call 18; refine (cL _).mono ?_; rintro en W' ⟨rfl, hw'⟩; replace hw' := hw'.symm; subst hw'; clear cL)
      | (clear t6; refine wpList_buildG rfl _ rfl x (by rw [HX.out]; rfl) ?_; intro W6 b6 F6 I6; have B6 := F6.trans B4 B4.size; have Q6 : Below W4.heap.size W4 W6 := F6.trans (Below.refl _ W4) (Nat.le_refl _); have O6 := own_grN O4 Q6; have C6 := C4.grown Q6; have D6 := D4.grown Q6; clear F6 O4 C4 D4 d4 Q6)
      | (clear t7; at_builtin; refine wpList_appTs rfl _ _ rfl w.heap.size _ n (cellsG us) rfl O6 (some ⟨b6, 0, none⟩) 1 [x] rfl (toks_one I6) (fun e => by cases e) (by simp only [List.length_cons, List.length_nil]; omega) B6.size ?_; intro v7 W7 O7x G7; have B7 := grown_below B6 B6.size O6 G7; have O7 := own_snocG O7x; obtain ⟨g, c7, rfl, hc7⟩ := own_some O7; have TA7 : Toks W7 (some ⟨g, 0, none⟩) gs := (by rw [← HG.out]; exact toks_snocG O7 HN.out); have hg7 : g < W7.heap.size := own_lt O7; have C7 := isS_grownBy C6 G7 (own_neN O6 C6 (by decide)); have D7 := isS_grownBy D6 G7 (own_neN O6 D6 (by decide)); have hgb : g ≠ b5 := (fun e => own_neN O7 D7 (by decide) (by rw [e]; rfl)); clear G7 O6 I6 O7 O7x C6 D6)
      | (clear t8; go_at_call 19; refine (cT _ g c7 TA7 hg7).mono ?_; rintro en W8 P8; obtain ⟨rfl, hfc⟩ := P8.bad f hF; have B8 := Below.then B7 P8.bel; have C8 := C7.grown P8.bel; have D8 := D7.grown P8.bel; clear cT C7 D7)
      | (clear t9; refine wpList_storeS rfl 29 _ _ rfl rfl (fltL (some f)) rfl D8 (by simp [fltL]) (by rw [fltL_len]; exact infoFl) (fltL_one _) ?_; intro W9 U9 D9x; have D9 : IsS W9 b5 29 (fltL (some f)) := (by rw [putFlt] at D9x; exact D9x); have C9 := C8.upd U9 n15; have B9 := U9.trans B8 h5; have hfb : (f.2.2 == 0) = false := (by simpa using hfc); have d9 : W9.cell? ⟨b5, 2, none⟩ = some (.int .i64 f.2.2) := D9.cell 2; clear U9 D8 D9x C8 P8 TA7 hk HX HN HG HGL hsI hn' hg7 hc7 hF hsz))
    refine (wpIn_wide (n := 0)).1 ?_
    refine region_headC (fun w => IsS w b5 29 (fltL (some f))) 2 (by kernel_rfl) (by decide) ?_
    refine atC_take (fun _ => trivial) (headed_of (by kernel_rfl)) 1 rfl (by kernel_rfl) (fun c a w h => h) (v := .slice none 0 0) (.inl ⟨rfl, fun w hc => ?y1⟩) D9 ?_
    case y1 => (first | rfl | (simp [execOp, go_sem]; done))
    simp only [Act.put, List.getElem_toArray, List.getElem_cons_zero, List.getElem_cons_succ, List.setIfInBounds_toArray, List.set_cons_succ, List.set_cons_zero]
    refine atC_take (fun _ => trivial) (headed_of (by kernel_rfl)) 0 rfl (by kernel_rfl) (fun c a w h => h) (v := .agg (fltL (some f)).toArray) (.inl ⟨rfl, fun w hc => ?y0⟩) D9 ?_
    case y0 => exact run_loadP 29 _ rfl rfl hc 3 (fltL (some f)) rfl _ Tryz.underlying29 rfl (by rw [fltL_len]; exact infoFl)
    simp only [Act.put, List.getElem_toArray, List.getElem_cons_zero, List.getElem_cons_succ, List.setIfInBounds_toArray, List.set_cons_succ, List.set_cons_zero]
    refine atC_end (by kernel_rfl) ?_
    simp only [List.drop_succ_cons, List.drop_zero]
    gi_wp2_with (clear t10; refine Lx.inStoreS rfl 29 _ _ rfl rfl (fltL (some f)) rfl C9 (by simp [fltL]) (by rw [fltL_len]; exact infoFl) (fltL_one _) ?_; intro W11 U6 C6x; have C11 : IsS W11 b1 29 (fltL (some f)) := (by rw [putFlt] at C6x; exact C6x); have B11 := U6.trans (below_drew B9) h1; clear U6 C6x)
    go_wp2_with fail
    have c0 := C11.cell 0
    have c1 := C11.cell 1
    have c2 := C11.cell 2
    simp [fltL] at c0 c1 c2
    refine ⟨rfl, .tuple #[.slice none 0 0, .agg (fltL (some f)).toArray], ?_, ⟨_, by rw [HF2.out], by rw [HN2.out]; exact ownN_nil _ _⟩, B11⟩
    simp [results, Tryz.results6, go_sem, c0, c1, c2, fltL]
  | none =>
    obtain ⟨k, hkk⟩ : ∃ k, (takeR gs 0).k = k := ⟨_, rfl⟩
    have HK : Hid ((takeR gs 0).k = k) := hkk
    rw [hkk] at hk
    have hkI : (k : Int) < (n : Int) + 1 := by omega
    obtain ⟨tk, htk⟩ : ∃ tk, gs[k]? = some tk := ⟨_, List.getElem?_eq_getElem (by rw [HGL.out]; omega)⟩
    have htg : gAt gs k = tk := by unfold gAt; rw [htk]; rfl
    by_cases hz : tk.kind = 0
    · have HN2 : Hid (parseN gs = (takeR gs 0).nodes) := (by show parseN gs = _; unfold parseN; rw [hF, hkk, htg, if_neg (by simp), if_pos hz])
      have HF2 : Hid (parseF gs = none) := (by show parseF gs = _; unfold parseF; rw [hF, hkk, htg, if_neg (by simp), if_pos hz])
      have hzb : (tk.kind == 0) = true := by simpa using hz
      clear hkk htg
      go_enter Tryz.func6, Tryz.ntmps6
      go_wp2_with (first
        | (clear t1; refine wpList_allocS rfl 29 rfl (fltL none) Tryz.zeroValue29 ?_; intro W1 b1 F1 C1; have B1 := F1.trans (Below.refl _ w) (Nat.le_refl _); have h1 : w.heap.size ≤ b1 := Nat.le_of_eq F1.at'.symm; have hE1 : Below w.heap.size w W1 := B1; clear F1)
        | (clear t2; go_at_call 17; refine (cA _ B1).mono ?_; rintro en W2 ⟨⟨v2, rfl, O2x⟩, B2x⟩; have C2 := C1.grown B2x; have B2 := Below.then B1 B2x; have O2 := own_raise O2x B1.size; obtain ⟨a2, c2, rfl⟩ := own_formN O2; clear cA C1 O2x)
        | (clear t3; refine wpList_allocS rfl 29 rfl (fltL none) Tryz.zeroValue29 ?_; intro W3 b5 F3 D3; have C3 := C2.fresh F3; have B3 := F3.trans B2 B2.size; have h5 : w.heap.size ≤ b5 := Nat.le_trans B2.size (Nat.le_of_eq F3.at'.symm); have n15 : b1 ≠ b5 := (by have := C2.lt; have := F3.at'; omega); have O3 := own_grN O2 (F3.trans (Below.refl _ W2) (Nat.le_refl _)); clear F3 C2)
        | (clear t4; refine wpList_storeS rfl 29 _ _ rfl rfl (fltL (none)) rfl D3 (by simp [fltL]) (by rw [fltL_len]; exact infoFl) (fltL_one _) ?_; intro W4 U4 D4x; have D4 : IsS W4 b5 29 (fltL (none)) := (by rw [putFlt] at D4x; exact D4x); have C4 := C3.upd U4 n15; have B4 := U4.trans B3 h5; have O4 := own_updF O3 U4 (own_neN O3 D3 (by decide)); have d4 : W4.cell? ⟨b5, 2, none⟩ = some (.int .i64 0) := D4.cell 2; clear U4 D3 D4x C3)
        | (clear t5; go_at_call 18; refine (cL _).mono ?_; rintro en W' ⟨rfl, hw'⟩; replace hw' := hw'.symm; subst hw'; clear cL)
        | (clear t6; refine wpList_buildG rfl _ rfl x (by rw [HX.out]; rfl) ?_; intro W6 b6 F6 I6; have B6 := F6.trans B4 B4.size; have Q6 : Below W4.heap.size W4 W6 := F6.trans (Below.refl _ W4) (Nat.le_refl _); have O6 := own_grN O4 Q6; have C6 := C4.grown Q6; have D6 := D4.grown Q6; clear F6 O4 C4 D4 d4 Q6)
        | (clear t7; at_builtin; refine wpList_appTs rfl _ _ rfl w.heap.size _ n (cellsG us) rfl O6 (some ⟨b6, 0, none⟩) 1 [x] rfl (toks_one I6) (fun e => by cases e) (by simp only [List.length_cons, List.length_nil]; omega) B6.size ?_; intro v7 W7 O7x G7; have B7 := grown_below B6 B6.size O6 G7; have O7 := own_snocG O7x; obtain ⟨g, c7, rfl, hc7⟩ := own_some O7; have TA7 : Toks W7 (some ⟨g, 0, none⟩) gs := (by rw [← HG.out]; exact toks_snocG O7 HN.out); have hg7 : g < W7.heap.size := own_lt O7; have C7 := isS_grownBy C6 G7 (own_neN O6 C6 (by decide)); have D7 := isS_grownBy D6 G7 (own_neN O6 D6 (by decide)); have hgb : g ≠ b5 := (fun e => own_neN O7 D7 (by decide) (by rw [e]; rfl)); clear G7 O6 I6 O7 O7x C6 D6)
        | (clear t8; go_at_call 19; refine (cT _ g c7 TA7 hg7).mono ?_; rintro en W8 P8; obtain ⟨v8, rfl, O8x, h1024⟩ := P8.good hF; have O8 := own_raise O8x B7.size; obtain ⟨a8, c8, rfl⟩ := own_formN O8; rw [HK.out]; have TA8 := TA7.below P8.bel; have B8 := Below.then B7 P8.bel; have C8 := C7.grown P8.bel; have D8 := D7.grown P8.bel; clear cT C7 D7)
        | (clear t9; refine wpList_storeS rfl 29 _ _ rfl rfl (fltL (none)) rfl D8 (by simp [fltL]) (by rw [fltL_len]; exact infoFl) (fltL_one _) ?_; intro W9 U9 D9x; have D9 : IsS W9 b5 29 (fltL (none)) := (by rw [putFlt] at D9x; exact D9x); have C9 := C8.upd U9 n15; have B9 := U9.trans B8 h5; have d9 : W9.cell? ⟨b5, 2, none⟩ = some (.int .i64 0) := D9.cell 2; have O9 := own_updF O8 U9 (own_neN O8 D8 (by decide)); have TA9 := toks_upd TA8 U9 hgb; obtain ⟨b', o', e', hb9, r9x⟩ := TA9 k tk htk; cases e'; have k9 : W9.cell? ⟨g, k * 7, none⟩ = some (.int .i64 tk.kind) := (by have := r9x 0 _ rfl; rw [Nat.zero_add, Nat.add_zero] at this; exact this); have k93 : W9.cell? ⟨g, k * 7 + 3, none⟩ = some (.int .i64 tk.line) := (by have := r9x 3 _ rfl; rw [Nat.zero_add] at this; exact this); have k94 : W9.cell? ⟨g, k * 7 + 4, none⟩ = some (.int .i64 tk.col) := (by have := r9x 4 _ rfl; rw [Nat.zero_add] at this; exact this); clear U9 D8 D9x C8 P8 TA7 O8 O8x TA8 TA9 r9x hk htk HX HN HG HGL hsI hn' hc7 hF hsz HK hg7)
        | (clear t10; refine wpList_storeS rfl 29 _ _ rfl rfl (fltL none) rfl C9 (by simp [fltL]) (by rw [fltL_len]; exact infoFl) (fltL_one _) ?_; intro W11 U11 C11x; have C11 : IsS W11 b1 29 (fltL none) := (by rw [putFlt] at C11x; exact C11x); have B11 := U11.trans B9 h1; have O11 := own_updF O9 U11 (own_neN O9 C9 (by decide)); clear U11 C11x))
      have c0 := C11.cell 0
      have c1 := C11.cell 1
      have c2 := C11.cell 2
      simp [fltL] at c0 c1 c2
      refine ⟨rfl, .tuple #[.slice a8 (takeR gs 0).nodes.length c8, .agg (fltL none).toArray], ?_, ⟨_, by rw [HF2.out], by rw [HN2.out]; exact O11⟩, B11⟩
      simp [results, Tryz.results6, go_sem, c0, c1, c2, fltL]
    · have HN2 : Hid (parseN gs = []) := (by show parseN gs = _; unfold parseN; rw [hF, hkk, htg, if_neg (by simp), if_neg hz])
      have HF2 : Hid (parseF gs = some (tk.line, tk.col, 70)) := (by show parseF gs = _; unfold parseF; rw [hF, hkk, htg, if_neg (by simp), if_neg hz])
      have hzb : (tk.kind == 0) = false := by simpa using hz
      clear hkk htg hz
      go_enter Tryz.func6, Tryz.ntmps6
      go_wp2_with (first
        | (clear t1; refine wpList_allocS rfl 29 rfl (fltL none) Tryz.zeroValue29 ?_; intro W1 b1 F1 C1; have B1 := F1.trans (Below.refl _ w) (Nat.le_refl _); have h1 : w.heap.size ≤ b1 := Nat.le_of_eq F1.at'.symm; have hE1 : Below w.heap.size w W1 := B1; clear F1)
        | (clear t2; go_at_call 17; refine (cA _ B1).mono ?_; rintro en W2 ⟨⟨v2, rfl, O2x⟩, B2x⟩; have C2 := C1.grown B2x; have B2 := Below.then B1 B2x; have O2 := own_raise O2x B1.size; obtain ⟨a2, c2, rfl⟩ := own_formN O2; clear cA C1 O2x)
        | (clear t3; refine wpList_allocS rfl 29 rfl (fltL none) Tryz.zeroValue29 ?_; intro W3 b5 F3 D3; have C3 := C2.fresh F3; have B3 := F3.trans B2 B2.size; have h5 : w.heap.size ≤ b5 := Nat.le_trans B2.size (Nat.le_of_eq F3.at'.symm); have n15 : b1 ≠ b5 := (by have := C2.lt; have := F3.at'; omega); have O3 := own_grN O2 (F3.trans (Below.refl _ W2) (Nat.le_refl _)); clear F3 C2)
        | (clear t4; refine wpList_storeS rfl 29 _ _ rfl rfl (fltL (none)) rfl D3 (by simp [fltL]) (by rw [fltL_len]; exact infoFl) (fltL_one _) ?_; intro W4 U4 D4x; have D4 : IsS W4 b5 29 (fltL (none)) := (by rw [putFlt] at D4x; exact D4x); have C4 := C3.upd U4 n15; have B4 := U4.trans B3 h5; have O4 := own_updF O3 U4 (own_neN O3 D3 (by decide)); have d4 : W4.cell? ⟨b5, 2, none⟩ = some (.int .i64 0) := D4.cell 2; clear U4 D3 D4x C3)
        | (clear t5; go_at_call 18; refine (cL _).mono ?_; rintro en W' ⟨rfl, hw'⟩; replace hw' := hw'.symm; subst hw'; clear cL)
        | (clear t6; refine wpList_buildG rfl _ rfl x (by rw [HX.out]; rfl) ?_; intro W6 b6 F6 I6; have B6 := F6.trans B4 B4.size; have Q6 : Below W4.heap.size W4 W6 := F6.trans (Below.refl _ W4) (Nat.le_refl _); have O6 := own_grN O4 Q6; have C6 := C4.grown Q6; have D6 := D4.grown Q6; clear F6 O4 C4 D4 d4 Q6)
        | (clear t7; at_builtin; refine wpList_appTs rfl _ _ rfl w.heap.size _ n (cellsG us) rfl O6 (some ⟨b6, 0, none⟩) 1 [x] rfl (toks_one I6) (fun e => by cases e) (by simp only [List.length_cons, List.length_nil]; omega) B6.size ?_; intro v7 W7 O7x G7; have B7 := grown_below B6 B6.size O6 G7; have O7 := own_snocG O7x; obtain ⟨g, c7, rfl, hc7⟩ := own_some O7; have TA7 : Toks W7 (some ⟨g, 0, none⟩) gs := (by rw [← HG.out]; exact toks_snocG O7 HN.out); have hg7 : g < W7.heap.size := own_lt O7; have C7 := isS_grownBy C6 G7 (own_neN O6 C6 (by decide)); have D7 := isS_grownBy D6 G7 (own_neN O6 D6 (by decide)); have hgb : g ≠ b5 := (fun e => own_neN O7 D7 (by decide) (by rw [e]; rfl)); clear G7 O6 I6 O7 O7x C6 D6)
        | (clear t8; go_at_call 19; refine (cT _ g c7 TA7 hg7).mono ?_; rintro en W8 P8; obtain ⟨v8, rfl, O8x, h1024⟩ := P8.good hF; have O8 := own_raise O8x B7.size; obtain ⟨a8, c8, rfl⟩ := own_formN O8; rw [HK.out]; have TA8 := TA7.below P8.bel; have B8 := Below.then B7 P8.bel; have C8 := C7.grown P8.bel; have D8 := D7.grown P8.bel; clear cT C7 D7)
        | (clear t9; refine wpList_storeS rfl 29 _ _ rfl rfl (fltL (none)) rfl D8 (by simp [fltL]) (by rw [fltL_len]; exact infoFl) (fltL_one _) ?_; intro W9 U9 D9x; have D9 : IsS W9 b5 29 (fltL (none)) := (by rw [putFlt] at D9x; exact D9x); have C9 := C8.upd U9 n15; have B9 := U9.trans B8 h5; have d9 : W9.cell? ⟨b5, 2, none⟩ = some (.int .i64 0) := D9.cell 2; have O9 := own_updF O8 U9 (own_neN O8 D8 (by decide)); have TA9 := toks_upd TA8 U9 hgb; obtain ⟨b', o', e', hb9, r9x⟩ := TA9 k tk htk; cases e'; have k9 : W9.cell? ⟨g, k * 7, none⟩ = some (.int .i64 tk.kind) := (by have := r9x 0 _ rfl; rw [Nat.zero_add, Nat.add_zero] at this; exact this); have k93 : W9.cell? ⟨g, k * 7 + 3, none⟩ = some (.int .i64 tk.line) := (by have := r9x 3 _ rfl; rw [Nat.zero_add] at this; exact this); have k94 : W9.cell? ⟨g, k * 7 + 4, none⟩ = some (.int .i64 tk.col) := (by have := r9x 4 _ rfl; rw [Nat.zero_add] at this; exact this); clear U9 D8 D9x C8 P8 TA7 O8 O8x TA8 TA9 r9x hk htk HX HN HG HGL hsI hn' hc7 hF hsz HK hg7))
      have HC9 : W9.cell? ⟨g, k * 7 + 3, none⟩ = some (.int .i64 tk.line) ∧ W9.cell? ⟨g, k * 7 + 4, none⟩ = some (.int .i64 tk.col) := ⟨k93, k94⟩
      clear k9 k93 k94 d9 D9 O9
      refine (wpIn_wide (n := 0)).1 ?_
      refine region_headC (fun w => w.cell? ⟨g, k * 7 + 3, none⟩ = some (.int .i64 tk.line) ∧ w.cell? ⟨g, k * 7 + 4, none⟩ = some (.int .i64 tk.col)) 12 (by kernel_rfl) (by decide) ?_
      refine atC_take (fun _ => trivial) (headed_of (by kernel_rfl)) 11 rfl (by kernel_rfl) (fun c a w h => h) (v := .slice none 0 0) (.inl ⟨rfl, fun w hc => ?y11⟩) HC9 ?_
      case y11 => (first | rfl | (simp [execOp, go_sem]; done) | (simp [execOp, go_sem]; intro h; exact absurd h (by omega)))
      simp only [Act.put, List.getElem_toArray, List.getElem_cons_zero, List.getElem_cons_succ, List.setIfInBounds_toArray, List.set_cons_succ, List.set_cons_zero]
      refine atC_take (fun _ => trivial) (headed_of (by kernel_rfl)) 0 rfl (by kernel_rfl) (fun c a w h => h) (v := .slice (some ⟨g, 0, none⟩) (n + 1) c7) (.inl ⟨rfl, fun w hc => ?y0⟩) HC9 ?_
      case y0 => (first | rfl | (simp [execOp, go_sem]; done) | (simp [execOp, go_sem]; intro h; exact absurd h (by omega)))
      simp only [Act.put, List.getElem_toArray, List.getElem_cons_zero, List.getElem_cons_succ, List.setIfInBounds_toArray, List.set_cons_succ, List.set_cons_zero]
      refine atC_take (fun _ => trivial) (headed_of (by kernel_rfl)) 1 rfl (by kernel_rfl) (fun c a w h => h) (v := .int .i64 (k : Int)) (.inl ⟨rfl, fun w hc => ?y1⟩) HC9 ?_
      case y1 => (first | rfl | (simp [execOp, go_sem]; done) | (simp [execOp, go_sem]; intro h; exact absurd h (by omega)))
      simp only [Act.put, List.getElem_toArray, List.getElem_cons_zero, List.getElem_cons_succ, List.setIfInBounds_toArray, List.set_cons_succ, List.set_cons_zero]
      refine atC_take (fun _ => trivial) (headed_of (by kernel_rfl)) 2 rfl (by kernel_rfl) (fun c a w h => h) (v := .pointer (some ⟨g, k * 7, none⟩)) (.inl ⟨rfl, fun w hc => ?y2⟩) HC9 ?_
      case y2 => (first | rfl | (simp [execOp, go_sem]; done) | (simp [execOp, go_sem]; intro h; exact absurd h (by omega)))
      simp only [Act.put, List.getElem_toArray, List.getElem_cons_zero, List.getElem_cons_succ, List.setIfInBounds_toArray, List.set_cons_succ, List.set_cons_zero]
      refine atC_take (fun _ => trivial) (headed_of (by kernel_rfl)) 3 rfl (by kernel_rfl) (fun c a w h => h) (v := .pointer (some ⟨g, k * 7 + 3, none⟩)) (.inl ⟨rfl, fun w hc => ?y3⟩) HC9 ?_
      case y3 => (first | rfl | (simp [execOp, go_sem]; done) | (simp [execOp, go_sem]; intro h; exact absurd h (by omega)))
      simp only [Act.put, List.getElem_toArray, List.getElem_cons_zero, List.getElem_cons_succ, List.setIfInBounds_toArray, List.set_cons_succ, List.set_cons_zero]
      refine atC_take (fun _ => trivial) (headed_of (by kernel_rfl)) 4 rfl (by kernel_rfl) (fun c a w h => h) (v := .int .i64 tk.line) (.inl ⟨rfl, fun w hc => ?y4⟩) HC9 ?_
      case y4 => (simp [execOp, go_sem, hc.1])
      simp only [Act.put, List.getElem_toArray, List.getElem_cons_zero, List.getElem_cons_succ, List.setIfInBounds_toArray, List.set_cons_succ, List.set_cons_zero]
      refine atC_take (fun _ => trivial) (headed_of (by kernel_rfl)) 5 rfl (by kernel_rfl) (fun c a w h => h) (v := .slice (some ⟨g, 0, none⟩) (n + 1) c7) (.inl ⟨rfl, fun w hc => ?y5⟩) HC9 ?_
      case y5 => (first | rfl | (simp [execOp, go_sem]; done) | (simp [execOp, go_sem]; intro h; exact absurd h (by omega)))
      simp only [Act.put, List.getElem_toArray, List.getElem_cons_zero, List.getElem_cons_succ, List.setIfInBounds_toArray, List.set_cons_succ, List.set_cons_zero]
      refine atC_take (fun _ => trivial) (headed_of (by kernel_rfl)) 6 rfl (by kernel_rfl) (fun c a w h => h) (v := .int .i64 (k : Int)) (.inl ⟨rfl, fun w hc => ?y6⟩) HC9 ?_
      case y6 => (first | rfl | (simp [execOp, go_sem]; done) | (simp [execOp, go_sem]; intro h; exact absurd h (by omega)))
      simp only [Act.put, List.getElem_toArray, List.getElem_cons_zero, List.getElem_cons_succ, List.setIfInBounds_toArray, List.set_cons_succ, List.set_cons_zero]
      refine atC_take (fun _ => trivial) (headed_of (by kernel_rfl)) 7 rfl (by kernel_rfl) (fun c a w h => h) (v := .pointer (some ⟨g, k * 7, none⟩)) (.inl ⟨rfl, fun w hc => ?y7⟩) HC9 ?_
      case y7 => (first | rfl | (simp [execOp, go_sem]; done) | (simp [execOp, go_sem]; intro h; exact absurd h (by omega)))
      simp only [Act.put, List.getElem_toArray, List.getElem_cons_zero, List.getElem_cons_succ, List.setIfInBounds_toArray, List.set_cons_succ, List.set_cons_zero]
      refine atC_take (fun _ => trivial) (headed_of (by kernel_rfl)) 8 rfl (by kernel_rfl) (fun c a w h => h) (v := .pointer (some ⟨g, k * 7 + 4, none⟩)) (.inl ⟨rfl, fun w hc => ?y8⟩) HC9 ?_
      case y8 => (first | rfl | (simp [execOp, go_sem]; done) | (simp [execOp, go_sem]; intro h; exact absurd h (by omega)))
      simp only [Act.put, List.getElem_toArray, List.getElem_cons_zero, List.getElem_cons_succ, List.setIfInBounds_toArray, List.set_cons_succ, List.set_cons_zero]
      refine atC_take (fun _ => trivial) (headed_of (by kernel_rfl)) 9 rfl (by kernel_rfl) (fun c a w h => h) (v := .int .i64 tk.col) (.inl ⟨rfl, fun w hc => ?y9⟩) HC9 ?_
      case y9 => (simp [execOp, go_sem, hc.2])
      simp only [Act.put, List.getElem_toArray, List.getElem_cons_zero, List.getElem_cons_succ, List.setIfInBounds_toArray, List.set_cons_succ, List.set_cons_zero]
      refine atC_take (fun _ => trivial) (headed_of (by kernel_rfl)) 10 rfl (by kernel_rfl) (fun c a w h => h) (v := .agg (fltL (some (tk.line, tk.col, 70))).toArray) (.inl ⟨rfl, fun w hc => ?y10⟩) HC9 ?_
      case y10 => (first | rfl | (simp [execOp, go_sem, fltL]; done))
      simp only [Act.put, List.getElem_toArray, List.getElem_cons_zero, List.getElem_cons_succ, List.setIfInBounds_toArray, List.set_cons_succ, List.set_cons_zero]
      refine atC_end (by kernel_rfl) ?_
      simp only [List.drop_succ_cons, List.drop_zero]
      clear HC9
      gi_wp2_with (clear t10; refine Lx.inStoreS rfl 29 _ _ rfl rfl (fltL (some (tk.line, tk.col, 70))) rfl C9 (by simp [fltL]) (by rw [fltL_len]; exact infoFl) (fltL_one _) ?_; intro W11 U6 C6x; have C11 : IsS W11 b1 29 (fltL (some (tk.line, tk.col, 70))) := (by rw [putFlt] at C6x; exact C6x); have B11 := U6.trans (below_drew B9) h1; clear U6 C6x)
      go_wp2_with fail
      have c0 := C11.cell 0
      have c1 := C11.cell 1
      have c2 := C11.cell 2
      simp [fltL] at c0 c1 c2
      refine ⟨rfl, .tuple #[.slice none 0 0, .agg (fltL (some (tk.line, tk.col, 70))).toArray], ?_, ⟨_, by rw [HF2.out], by rw [HN2.out]; exact ownN_nil _ _⟩, B11⟩
      simp [results, Tryz.results6, go_sem, c0, c1, c2, fltL]
end Go.Proofs.YtjnbhcakfenbhaaGreatDoor
